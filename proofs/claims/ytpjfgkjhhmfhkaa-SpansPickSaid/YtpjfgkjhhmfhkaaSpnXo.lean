/- The reference's Has, Of, Skip. Conditions: no more than some hundred thousand spans; no end above the largest number. -/
import Derived.Test.YtpjfgkjhhmfhkaaSpnXi
import Derived.Test.YtpjfgkjhhmfhkaaSpnXn
import Derived.Test.YtpjfgkjhhmfhkaaSpnO
import Derived.Test.YtpjfgkjhhmfhkaaSpnZ
namespace Go.Proofs.Ytpjfgkjhhmfhkaa
open Go.RowKit

theorem hasV_next {l : List Sp} {k : Nat} {s : Sp} {x : Int} (hs : l[k]? = some s) (h : (decide (0 ≤ x) && hasB (l.take k) x) = false) (c : ¬ (x ≥ max 0 s.1 ∧ x ≤ s.2)) : (decide (0 ≤ x) && hasB (l.take (k + 1)) x) = false := by
  by_cases h0 : 0 ≤ x
  · have d : decide (0 ≤ x) = true := by simpa using h0
    rw [d, Bool.true_and] at h ⊢
    rw [List.take_add_one, hs]
    exact hasB_snoc h (by simp; omega)
  · have d : decide (0 ≤ x) = false := by simpa using h0
    rw [d]; rfl
theorem hasV_yes {l : List Sp} {k : Nat} {s : Sp} {x : Int} (hs : l[k]? = some s) (c : x ≥ max 0 s.1 ∧ x ≤ s.2) : (decide (0 ≤ x) && hasB l x) = true := by
  rw [hasB_iff]
  exact ⟨by omega, s, List.mem_of_getElem? hs, by omega, by omega⟩
set_option maxHeartbeats 4000000 in
theorem xhas_to (w : World) (v : Value) (l : List Sp) (x : Int) (hs : SSeen w v l) (hl : l.length ≤ 1000000) :
    Calls Try.prog 33 #[v, .int .i64 x] w fun e w' => e = .returned (.bool (decide (0 ≤ x) && hasB l x)) ∧ Below w.heap.size w w' := by
  obtain ⟨p, cap, rfl⟩ := hs.form
  have HS := Lib.hid hs
  obtain ⟨n, hn⟩ : ∃ n, n = l.length := ⟨_, rfl⟩
  have HN := Lib.hid hn
  rw [← hn] at HS hl ⊢
  clear hs hn
  go_enter Try.func33, Try.ntmps33
  go_wp2_with fail
  go_loopw [5] (fun i wr => ∃ k : Nat, k ≤ n ∧ i = .int .i64 k ∧ Hid ((decide (0 ≤ x) && hasB (l.take k) x) = false) ∧ Hid (Below w.heap.size w wr)) (fun i _ => n - (intOf i).toNat)
  case atStart => exact ⟨0, Nat.zero_le _, rfl, Lib.hid (by simp [hasB]), Lib.hid (Below.refl _ w)⟩
  case round =>
    obtain ⟨k, hk, rfl, H, B⟩ := hrel
    by_cases hlt : k < n
    · have hkl : k < l.length := by rw [← HN.out]; exact hlt
      have hk' : (k : Int) < n := by omega
      obtain ⟨b, o, rfl, a1, a2⟩ := (HS.out.kb B.out).at hkl
      obtain ⟨s, hs⟩ : ∃ s, s = l[k] := ⟨_, rfl⟩
      have hsk : l[k]? = some s := by rw [hs]; exact List.getElem?_eq_getElem hkl
      rw [← hs] at a1 a2
      have HY := Lib.hid (hasV_yes (x := x) hsk)
      have HX := Lib.hid (hasV_next (x := x) hsk H.out)
      clear hs hsk
      by_cases c1 : x ≥ max 0 s.1
      · have d1 : decide (x ≥ max 0 s.1) = true := by simpa using c1
        have d1' : decide (max 0 s.1 ≤ x) = true := by simpa using c1
        by_cases c2 : x ≤ s.2
        · have d2 : decide (x ≤ s.2) = true := by simpa using c2
          have HE := Lib.hid (HY.out ⟨c1, c2⟩)
          clear c1 c2 HY HX
          go_wp2_with fail
          try go_quiet (fail)
          try go_wp2_with fail
          go_ret
          rw [HE.out]
          first
            | exact ⟨rfl, B.out⟩
            | exact ⟨rfl, below_drn10 B.out _⟩
        · have d2 : decide (x ≤ s.2) = false := by simpa using c2
          have HE := Lib.hid (HX.out (fun h => c2 h.2))
          clear c1 c2 HY HX
          go_wp2_with fail
          try go_quiet (fail)
          try go_wp2_with fail
          first
            | exact ⟨⟨k + 1, by omega, by go_num, HE, B⟩, by simp [intOf]; omega⟩
            | exact ⟨⟨k + 1, by omega, by go_num, HE, Lib.hid (below_drn10 B.out _)⟩, by simp [intOf]; omega⟩
      · have d1 : decide (x ≥ max 0 s.1) = false := by simpa using c1
        have d1' : decide (max 0 s.1 ≤ x) = false := by simpa using c1
        have HE := Lib.hid (HX.out (fun h => c1 h.1))
        clear c1 HY HX
        go_wp2_with fail
        try go_quiet (fail)
        try go_wp2_with fail
        first
          | exact ⟨⟨k + 1, by omega, by go_num, HE, B⟩, by simp [intOf]; omega⟩
          | exact ⟨⟨k + 1, by omega, by go_num, HE, Lib.hid (below_drn10 B.out _)⟩, by simp [intOf]; omega⟩
    · obtain rfl : k = n := by omega
      have HE : Hid ((decide (0 ≤ x) && hasB l x) = false) := Lib.hid (by have h := H.out; rw [HN.out, List.take_length] at h; exact h)
      go_wp2_with fail
      go_ret
      rw [HE.out]
      exact ⟨rfl, B.out⟩
theorem ski_mi {l : List Sp} (ht : Top topN l) (n : Nat) : mi topN l (fir l n) = ski l n := by
  refine uniq (mi_nrm _ _ _) (ski_nrm l n) fun x => ?_
  rw [mi_has ht (fir_top ht n), ← mem_els (ski_nrm l n), ski_els, ← mem_els (fir_nrm l n), fir_els, ← mk_has l x, ← mem_els (mk_nrm l)]
  have hp := els_asc (mk_nrm l)
  generalize els (mk l) = E at *
  generalize cnt (mk l) - min (cnt (mk l)) n = k at *
  rw [← List.take_append_drop k E] at hp
  have hd := (List.pairwise_append.1 hp).2.2
  constructor
  · rintro ⟨h1, h2⟩
    rw [← List.take_append_drop k E] at h1
    rcases List.mem_append.1 h1 with h | h
    · exact h
    · exact absurd h h2
  · intro h
    exact ⟨List.mem_of_mem_take h, fun h2 => absurd (hd x h x h2) (by omega)⟩
set_option maxHeartbeats 4000000 in
theorem xskip_to (w : World) (v : Value) (l : List Sp) (n : Int) (hs : SSeen w v l) (hl : l.length ≤ 300000) (ht : Top topN l) (hn : n < 9223372036854775808) :
    Calls Try.prog 36 #[v, .int .i64 n] w fun e w' => ∃ v', e = .returned v' ∧ SOwn w' w.heap.size v' (ski l n.toNat) ∧ Below w.heap.size w w' := by
  have HF := Lib.hid (xfirst_to w v l n hs (by omega) ht hn)
  have HM := Lib.hid (fun W u (h : SSeen W v l) (g : SSeen W u (fir l n.toNat)) => xminus_to W v u l (fir l n.toNat) h g (by have := fir_len l n.toNat; omega) ht (fir_top ht _))
  have HE := Lib.hid (ski_mi ht n.toNat)
  have HS := Lib.hid hs
  obtain ⟨p, cap, rfl⟩ := hs.form
  generalize fir l n.toNat = F at *
  generalize ski l n.toNat = r at *
  clear hs hl ht hn
  go_enter Try.func36, Try.ntmps36
  go_wp2_with fail
  refine HF.out.mono ?_
  rintro e w1 ⟨v1, rfl, o1, b1⟩
  have B1 := Lib.hid b1
  have O1 := Lib.hid o1
  obtain ⟨p1, c1, rfl⟩ := o1.shape
  clear o1 b1
  go_wp2_with fail
  refine (HM.out w1 _ (HS.out.kb B1.out) O1.out.seen).mono ?_
  rintro e w2 ⟨v2, rfl, o2, b2⟩
  have O2 := Lib.hid (o2.mono B1.out.size)
  have B2 := Lib.hid (B1.out.trans (b2.mono B1.out.size))
  clear o2 b2
  go_wp2_with fail
  go_ret
  exact ⟨_, rfl, by rw [← HE.out]; exact O2.out, B2.out⟩
end Go.Proofs.Ytpjfgkjhhmfhkaa
