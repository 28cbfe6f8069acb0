/- SameSpans, SameInts: alike or not. How numbers lie in memory. Conditions: none. -/
import Derived.Test.YtpjfgkjhhmfhkaaSpnT
import Derived.Test.YtpjfgkjhhmfhkaaSpnA
namespace Go.Proofs.Ytpjfgkjhhmfhkaa
open Go.RowKit

/-- The slice v holds the numbers l. -/
def NSeen (w : World) (v : Value) (l : List Int) : Prop :=
  ∃ p cap, v = .slice p l.length cap ∧ l.length ≤ cap ∧ ∀ (j : Nat) (x : Int), l[j]? = some x → ∃ a, p = some a ∧ w.cell? (a.add j) = some (.int .i64 x)
theorem NSeen.form {w : World} {v : Value} {l : List Int} (h : NSeen w v l) : ∃ p cap, v = .slice p l.length cap := by
  obtain ⟨p, cap, e, _⟩ := h
  exact ⟨p, cap, e⟩
theorem NSeen.kb {w w' : World} {v : Value} {l : List Int} (h : NSeen w v l) (hb : Below w.heap.size w w') : NSeen w' v l := by
  obtain ⟨p, cap, e, hl, hs⟩ := h
  refine ⟨p, cap, e, hl, fun j x hj => ?_⟩
  obtain ⟨a, ep, h1⟩ := hs j x hj
  exact ⟨a, ep, (hb.cell (World.block_lt_of_cell? _ _ h1)).trans h1⟩
theorem NSeen.at {w : World} {p : Option Addr} {n cap : Nat} {l : List Int} (h : NSeen w (.slice p n cap) l) {j : Nat} (hj : j < l.length) : ∃ a, p = some a ∧ w.cell? (a.add j) = some (.int .i64 l[j]) := by
  obtain ⟨p', cap', e, _, hs⟩ := h
  injection e with e1 e2 e3
  subst e1
  exact hs j _ (List.getElem?_eq_getElem hj)
/-- The first n of it. -/
theorem NSeen.take {w : World} {p : Option Addr} {n cap m : Nat} {l : List Int} (h : NSeen w (.slice p n cap) l) (hm : m ≤ l.length) : NSeen w (.slice p m cap) (l.take m) := by
  obtain ⟨p', cap', e, hc, hs⟩ := h
  injection e with e1 e2 e3
  subst e1 e3
  have hlt : (l.take m).length = m := by rw [List.length_take]; omega
  refine ⟨p, cap, by rw [hlt], by omega, fun j x hj => hs j x ?_⟩
  rw [List.getElem?_take] at hj
  split at hj
  · exact hj
  · simp at hj
set_option maxHeartbeats 4000000 in
theorem sameInts_to (w : World) (v u : Value) (a b : List Int) (hv : NSeen w v a) (hu : NSeen w u b) (hl : a.length ≤ 1000000000) :
    Calls Try.prog 17 #[v, u] w fun e w' => (∃ r, e = .returned (.bool r) ∧ (r = true ↔ a = b)) ∧ Below w.heap.size w w' := by
  obtain ⟨p, cap, rfl⟩ := hv.form
  obtain ⟨p', cap', rfl⟩ := hu.form
  by_cases hne : a.length = b.length
  · have HV := Lib.hid hv
    have HU := Lib.hid hu
    obtain ⟨n, hn⟩ : ∃ n, n = a.length := ⟨_, rfl⟩
    rw [← hne, ← hn] at HU ⊢
    rw [← hn] at HV hl
    have HN := Lib.hid hn
    have HNE := Lib.hid hne
    have de : ((n : Int) != (n : Int)) = false := by simp
    clear hv hu hn hne
    go_enter Try.func17, Try.ntmps17
    go_wp2_with fail
    go_loopw [5] (fun i wr => ∃ k : Nat, k ≤ n ∧ i = .int .i64 k ∧ Hid (a.take k = b.take k) ∧ Hid (Below w.heap.size w wr)) (fun i _ => n - (intOf i).toNat)
    case atStart => exact ⟨0, Nat.zero_le _, rfl, Lib.hid (by simp), Lib.hid (Below.refl _ w)⟩
    case round =>
      obtain ⟨k, hk, rfl, E, B⟩ := hrel
      by_cases hlt : k < n
      · have hka : k < a.length := by rw [← HN.out]; exact hlt
        have hkb : k < b.length := by rw [← HNE.out]; exact hka
        obtain ⟨x, rfl, h1⟩ := (HV.out.kb B.out).at hka
        obtain ⟨y, rfl, h2⟩ := (HU.out.kb B.out).at hkb
        have hk' : (k : Int) < n := by omega
        have HNEXT := Lib.hid (List.take_add_one (l := a) (i := k))
        have HNEXB := Lib.hid (List.take_add_one (l := b) (i := k))
        rw [List.getElem?_eq_getElem hka] at HNEXT
        rw [List.getElem?_eq_getElem hkb] at HNEXB
        have HGA := Lib.hid (List.getElem?_eq_getElem hka)
        have HGB := Lib.hid (List.getElem?_eq_getElem hkb)
        generalize a[k] = xa at *
        generalize b[k] = xb at *
        by_cases c : xa = xb
        · have dc : (xa != xb) = false := by simpa using c
          have C := Lib.hid c
          clear c
          go_wp2_with fail
          go_quiet (fail)
          go_wp2_with fail
          exact ⟨⟨k + 1, by omega, by go_num, Lib.hid (by rw [HNEXT.out, HNEXB.out, E.out, C.out]), Lib.hid (below_drn10 B.out _)⟩, by simp [intOf]; omega⟩
        · have dc : (xa != xb) = true := by simpa using c
          have C := Lib.hid c
          clear c
          go_wp2_with fail
          go_quiet (fail)
          go_wp2_with fail
          go_ret
          refine ⟨⟨false, rfl, ⟨fun h => (by simp at h), fun h => ?_⟩⟩, below_drn10 B.out _⟩
          have h1 := HGA.out
          rw [h, HGB.out] at h1
          exact absurd (Option.some.inj h1).symm C.out
      · obtain rfl : k = n := by omega
        go_wp2_with fail
        go_ret
        refine ⟨⟨true, rfl, ⟨fun _ => ?_, fun _ => rfl⟩⟩, B.out⟩
        have h := E.out
        rw [HN.out, List.take_length, HNE.out, List.take_length] at h
        exact h
  · have de : ((a.length : Int) != (b.length : Int)) = true := by simp; omega
    have HNE := Lib.hid hne
    clear hne hv hu
    go_enter Try.func17, Try.ntmps17
    go_wp2_with fail
    go_ret
    exact ⟨⟨false, rfl, ⟨fun h => (by simp at h), fun h => absurd (congrArg List.length h) HNE.out⟩⟩, Below.refl _ w⟩
end Go.Proofs.Ytpjfgkjhhmfhkaa
