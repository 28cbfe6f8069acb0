/- SameSpans: alike or not. No condition. -/
import Derived.Test.YtpjfgkjhhmfhkaaSpnQ
namespace Go.Proofs.Ytpjfgkjhhmfhkaa
open Go.RowKit

set_option maxHeartbeats 4000000 in
theorem sameSpans_to (w : World) (v u : Value) (a b : List Sp) (hv : SSeen w v a) (hu : SSeen w u b) (hl : a.length ≤ 1000000000) :
    Calls Try.prog 21 #[v, u] w fun e w' => (∃ r, e = .returned (.bool r) ∧ (r = true ↔ a = b)) ∧ Below w.heap.size w w' := by
  obtain ⟨p, cap, rfl⟩ := hv.form
  obtain ⟨p', cap', rfl⟩ := hu.form
  by_cases hne : a.length = b.length
  · have HV := Lib.hid hv
    have HU := Lib.hid hu
    obtain ⟨n, hn⟩ : ∃ n, n = a.length := ⟨_, rfl⟩
    rw [← hne, ← hn] at HU ⊢
    rw [← hn] at HV hl
    have HN := Lib.hid hn
    have HNE := Lib.hid hne
    have de : ((n : Int) != (n : Int)) = false := by simp
    clear hv hu hn hne
    go_enter Try.func21, Try.ntmps21
    go_wp2_with fail
    go_loopw [5] (fun i wr => ∃ k : Nat, k ≤ n ∧ i = .int .i64 k ∧ Hid (a.take k = b.take k) ∧ Hid (Below w.heap.size w wr)) (fun i _ => n - (intOf i).toNat)
    case atStart => exact ⟨0, Nat.zero_le _, rfl, Lib.hid (by simp), Lib.hid (Below.refl _ w)⟩
    case round =>
      obtain ⟨k, hk, rfl, E, B⟩ := hrel
      by_cases hlt : k < n
      · have hka : k < a.length := by rw [← HN.out]; exact hlt
        have hkb : k < b.length := by rw [← HNE.out]; exact hka
        obtain ⟨x, ox, rfl, h1, h3⟩ := (HV.out.kb B.out).at hka
        obtain ⟨y, oy, rfl, h2, h4⟩ := (HU.out.kb B.out).at hkb
        have hk' : (k : Int) < n := by omega
        have HNEXT := Lib.hid (List.take_add_one (l := a) (i := k))
        have HNEXB := Lib.hid (List.take_add_one (l := b) (i := k))
        rw [List.getElem?_eq_getElem hka] at HNEXT
        rw [List.getElem?_eq_getElem hkb] at HNEXB
        have HGA := Lib.hid (List.getElem?_eq_getElem hka)
        have HGB := Lib.hid (List.getElem?_eq_getElem hkb)
        generalize a[k] = xa at *
        generalize b[k] = xb at *
        by_cases c : xa = xb
        · have dc1 : (xa.1 == xb.1) = true := by simp [c]
          have dc2 : (xa.2 == xb.2) = true := by simp [c]
          have C := Lib.hid c
          clear c
          go_wp2_with fail
          go_quiet (fail)
          go_wp2_with fail
          exact ⟨⟨k + 1, by omega, by go_num, Lib.hid (by rw [HNEXT.out, HNEXB.out, E.out, C.out]), Lib.hid (below_drn10 B.out _)⟩, by simp [intOf]; omega⟩
        · by_cases h1 : xa.1 = xb.1
          · have h2 : xa.2 ≠ xb.2 := fun h => c (Prod.ext h1 h)
            have d1 : (xa.1 == xb.1) = true := by simp [h1]
            have d2 : (xa.2 == xb.2) = false := by simp [h2]
            clear h1 h2
            have C := Lib.hid c
            clear c
            go_wp2_with fail
            go_quiet (fail)
            go_wp2_with fail
            go_ret
            refine ⟨⟨false, rfl, ⟨fun h => (by simp at h), fun h => ?_⟩⟩, below_drn10 B.out _⟩
            have h1 := HGA.out
            rw [h, HGB.out] at h1
            exact absurd (Option.some.inj h1).symm C.out
          · have d1 : (xa.1 == xb.1) = false := by simp [h1]
            clear h1
            have C := Lib.hid c
            clear c
            go_wp2_with fail
            go_quiet (fail)
            go_wp2_with fail
            go_ret
            refine ⟨⟨false, rfl, ⟨fun h => (by simp at h), fun h => ?_⟩⟩, below_drn10 B.out _⟩
            have h1 := HGA.out
            rw [h, HGB.out] at h1
            exact absurd (Option.some.inj h1).symm C.out
      · obtain rfl : k = n := by omega
        go_wp2_with fail
        go_ret
        refine ⟨⟨true, rfl, ⟨fun _ => ?_, fun _ => rfl⟩⟩, B.out⟩
        have h := E.out
        rw [HN.out, List.take_length, HNE.out, List.take_length] at h
        exact h
  · have de : ((a.length : Int) != (b.length : Int)) = true := by simp; omega
    have HNE := Lib.hid hne
    clear hne hv hu
    go_enter Try.func21, Try.ntmps21
    go_wp2_with fail
    go_ret
    exact ⟨⟨false, rfl, ⟨fun h => (by simp at h), fun h => absurd (congrArg List.length h) HNE.out⟩⟩, Below.refl _ w⟩

end Go.Proofs.Ytpjfgkjhhmfhkaa
