/- The reference's Make. Conditions: no more than some hundred thousand spans; no end above the largest number. -/
import Derived.Test.YtpjfgkjhhmfhkaaSpnX
import Derived.Test.YtpjfgkjhhmfhkaaSpnC
namespace Go.Proofs.Ytpjfgkjhhmfhkaa
open Go.RowKit

theorem mk_next {l : List Sp} {k : Nat} {s : Sp} (hk : l[k]? = some s) : mk (l.take (k + 1)) = if max s.1 0 ≤ s.2 then jn (mk (l.take k)) (max s.1 0, s.2) else mk (l.take k) := by
  obtain ⟨h, e⟩ := List.getElem?_eq_some_iff.1 hk
  unfold mk
  rw [clip_snoc h, e, List.foldl_append]
  split <;> rfl
theorem cells2 {w W : World} {x y : Addr} {a b : Value} (h : Below w.heap.size w W) (h1 : w.cell? x = some a) (h2 : w.cell? y = some b) : W.cell? x = some a ∧ W.cell? y = some b :=
  ⟨(h.cell (World.block_lt_of_cell? _ _ h1)).trans h1, (h.cell (World.block_lt_of_cell? _ _ h2)).trans h2⟩
theorem top_take {l : List Sp} (h : Top topN l) (k : Nat) : Top topN (mk (l.take k)) := mk_top (h.take k)
set_option maxHeartbeats 8000000 in
theorem xmake_to (w : World) (v : Value) (l : List Sp) (hs : SSeen w v l) (hl : l.length ≤ 900000) (ht : Top topN l) :
    Calls Try.prog 23 #[v] w fun e w' => ∃ v', e = .returned v' ∧ SOwn w' w.heap.size v' (mk l) ∧ Below w.heap.size w w' := by
  obtain ⟨p, cap, rfl⟩ := hs.form
  have HS := Lib.hid hs
  have HT := Lib.hid ht
  obtain ⟨n, hn'⟩ : ∃ n, n = l.length := ⟨_, rfl⟩
  rw [← hn'] at hl HS ⊢
  have HL := Lib.hid hn'
  have HJ := Lib.hid (fun (k : Nat) (W : World) (x : Value) (s : Sp) (h : SSeen W x (mk (l.take k))) (h0 : 0 ≤ s.1 ∧ s.1 ≤ s.2 ∧ s.2 ≤ topN) => xjoin_to W x (mk (l.take k)) s h (mk_nrm _) (top_take ht k) (by have := mk_len (l.take k); have := List.length_take_le k l; rw [List.length_take] at *; omega) h0)
  clear hs ht hn'
  go_enter Try.func23, Try.ntmps23
  go_wp2_with fail
  go_loopw [3, 4] (fun z i wr => ∃ k : Nat, k ≤ n ∧ i = .int .i64 k ∧ Hid (SOwn wr w.heap.size z (mk (l.take k))) ∧ Hid (Below w.heap.size w wr)) (fun _ i _ => n - (intOf i).toNat)
  case atStart => exact ⟨0, Nat.zero_le _, rfl, Lib.hid (SOwn.nil w _), Lib.hid (Below.refl _ w)⟩
  case round =>
    obtain ⟨k, hk, rfl, O, B⟩ := hrel
    by_cases hlt : k < n
    · have hkl : k < l.length := by rw [← HL.out]; exact hlt
      obtain ⟨b, o, rfl, c1, c2⟩ := (HS.out.kb B.out).at hkl
      have hk' : (k : Int) < n := by omega
      obtain ⟨s, hs⟩ : ∃ s, s = l[k] := ⟨_, rfl⟩
      have hsk : l[k]? = some s := by rw [hs]; exact List.getElem?_eq_getElem hkl
      rw [← hs] at c1 c2
      have HNX := Lib.hid (mk_next hsk)
      have HTS : Hid (s.2 ≤ topN) := Lib.hid (HT.out s (List.mem_of_getElem? hsk))
      clear hs hsk
      obtain ⟨pz, cz, rfl⟩ := O.out.shape
      have HJK := Lib.hid (HJ.out k)
      generalize mk (l.take k) = L at *
      have C1 := Lib.hid c1
      have C2 := Lib.hid c2
      go_wp2_with fail
      try simp only [List.append]
      refine wp_region_noPanic ?_
      refine wp_region_held_drew (S := (fun W => W.cell? ⟨b, o + k * 2, none⟩ = some (.int .i64 s.1) ∧ W.cell? ⟨b, o + k * 2 + 1, none⟩ = some (.int .i64 s.2))) (by kernel_rfl) ⟨c1, c2⟩ (fun hHeld => ?_)
      refine wpAnyH_take (i := 0) (v := ?_) (by simp only [List.getElem?_toArray, List.getElem?_cons_zero]; rfl) (by kernel_rfl) (by kernel_rfl) (by kernel_rfl) (fun _ _ _ h => h) (Or.inl ⟨by rfl, ?_⟩) (by assumption) ?_
      rotate_left
      · intro w hSw
        try dsimp only at hSw
        go_simp
        try with_reducible rfl
      try simp only [Act.put, List.setIfInBounds_toArray, List.set_cons_zero, List.set_cons_succ]
      refine wpAnyH_take (i := 1) (v := ?_) (by simp only [List.getElem?_toArray, List.getElem?_cons_succ, List.getElem?_cons_zero]; rfl) (by kernel_rfl) (by kernel_rfl) (by kernel_rfl) (fun _ _ _ h => h) (Or.inl ⟨by rfl, ?_⟩) (by assumption) ?_
      rotate_left
      · intro w hSw
        try dsimp only at hSw
        go_simp
        try with_reducible rfl
      try simp only [Act.put, List.setIfInBounds_toArray, List.set_cons_zero, List.set_cons_succ]
      refine wpAnyH_take (i := 2) (v := ?_) (by simp only [List.getElem?_toArray, List.getElem?_cons_succ, List.getElem?_cons_zero]; rfl) (by kernel_rfl) (by kernel_rfl) (by kernel_rfl) (fun _ _ _ h => h) (Or.inl ⟨by rfl, ?_⟩) (by assumption) ?_
      rotate_left
      · intro w hSw
        try dsimp only at hSw
        go_simp
        try with_reducible rfl
      try simp only [Act.put, List.setIfInBounds_toArray, List.set_cons_zero, List.set_cons_succ]
      refine wpAnyH_take (i := 3) (v := ?_) (by simp only [List.getElem?_toArray, List.getElem?_cons_succ, List.getElem?_cons_zero]; rfl) (by kernel_rfl) (by kernel_rfl) (by kernel_rfl) (fun _ _ _ h => h) (Or.inl ⟨by rfl, ?_⟩) (by assumption) ?_
      rotate_left
      · intro w hSw
        try dsimp only at hSw
        go_simp
        try with_reducible rfl
      try simp only [Act.put, List.setIfInBounds_toArray, List.set_cons_zero, List.set_cons_succ]
      refine wpAnyH_take (i := 4) (v := ?_) (by simp only [List.getElem?_toArray, List.getElem?_cons_succ, List.getElem?_cons_zero]; rfl) (by kernel_rfl) (by kernel_rfl) (by kernel_rfl) (fun _ _ _ h => h) (Or.inl ⟨by rfl, ?_⟩) (by assumption) ?_
      rotate_left
      · intro w hSw
        try dsimp only at hSw
        go_simp
        try with_reducible rfl
      try simp only [Act.put, List.setIfInBounds_toArray, List.set_cons_zero, List.set_cons_succ]
      refine wpAnyH_take (i := 5) (v := (.int .i64 (max 0 s.1))) (by simp only [List.getElem?_toArray, List.getElem?_cons_succ, List.getElem?_cons_zero]; rfl) (by kernel_rfl) (by kernel_rfl) (by kernel_rfl) (fun _ _ _ h => h) (Or.inl ⟨by rfl, ?_⟩) (by assumption) ?_
      · intro w hSw
        try dsimp only at hSw
        go_simp
      try simp only [Act.put, List.setIfInBounds_toArray, List.set_cons_zero, List.set_cons_succ]
      refine wpAnyH_take (i := 6) (v := ?_) (by simp only [List.getElem?_toArray, List.getElem?_cons_succ, List.getElem?_cons_zero]; rfl) (by kernel_rfl) (by kernel_rfl) (by kernel_rfl) (fun _ _ _ h => h) (Or.inl ⟨by rfl, ?_⟩) (by assumption) ?_
      rotate_left
      · intro w hSw
        try dsimp only at hSw
        go_simp
        try with_reducible rfl
      try simp only [Act.put, List.setIfInBounds_toArray, List.set_cons_zero, List.set_cons_succ]
      refine wpAnyH_take (i := 7) (v := ?_) (by simp only [List.getElem?_toArray, List.getElem?_cons_succ, List.getElem?_cons_zero]; rfl) (by kernel_rfl) (by kernel_rfl) (by kernel_rfl) (fun _ _ _ h => h) (Or.inl ⟨by rfl, ?_⟩) (by assumption) ?_
      rotate_left
      · intro w hSw
        try dsimp only at hSw
        go_simp
        try with_reducible rfl
      try simp only [Act.put, List.setIfInBounds_toArray, List.set_cons_zero, List.set_cons_succ]
      refine wpAnyH_take (i := 8) (v := ?_) (by simp only [List.getElem?_toArray, List.getElem?_cons_succ, List.getElem?_cons_zero]; rfl) (by kernel_rfl) (by kernel_rfl) (by kernel_rfl) (fun _ _ _ h => h) (Or.inl ⟨by rfl, ?_⟩) (by assumption) ?_
      rotate_left
      · intro w hSw
        try dsimp only at hSw
        go_simp
        try with_reducible rfl
      try simp only [Act.put, List.setIfInBounds_toArray, List.set_cons_zero, List.set_cons_succ]
      refine wpAnyH_take (i := 9) (v := ?_) (by simp only [List.getElem?_toArray, List.getElem?_cons_succ, List.getElem?_cons_zero]; rfl) (by kernel_rfl) (by kernel_rfl) (by kernel_rfl) (fun _ _ _ h => h) (Or.inl ⟨by rfl, ?_⟩) (by assumption) ?_
      rotate_left
      · intro w hSw
        try dsimp only at hSw
        go_simp
        try with_reducible rfl
      try simp only [Act.put, List.setIfInBounds_toArray, List.set_cons_zero, List.set_cons_succ]
      refine wpAnyH_take (i := 10) (v := ?_) (by simp only [List.getElem?_toArray, List.getElem?_cons_succ, List.getElem?_cons_zero]; rfl) (by kernel_rfl) (by kernel_rfl) (by kernel_rfl) (fun _ _ _ h => h) (Or.inl ⟨by rfl, ?_⟩) (by assumption) ?_
      rotate_left
      · intro w hSw
        try dsimp only at hSw
        go_simp
        try with_reducible rfl
      try simp only [Act.put, List.setIfInBounds_toArray, List.set_cons_zero, List.set_cons_succ]
      refine wpAnyH_take (i := 11) (v := (.agg #[.int .i64 (max 0 s.1), .int .i64 s.2])) (by simp only [List.getElem?_toArray, List.getElem?_cons_succ, List.getElem?_cons_zero]; rfl) (by kernel_rfl) (by kernel_rfl) (by kernel_rfl) (fun _ _ _ h => h) (Or.inl ⟨by rfl, ?_⟩) (by assumption) ?_
      · intro w hSw
        try dsimp only at hSw
        go_simp
      try simp only [Act.put, List.setIfInBounds_toArray, List.set_cons_zero, List.set_cons_succ]
      refine wpAnyH_ready (rs := [12]) (by kernel_rfl) (by simp) ?_
      refine AllReadyH.cons (by simp only [List.getElem?_toArray, List.getElem?_cons_succ, List.getElem?_cons_zero]; rfl) (fun K hK => ?_) AllReadyH.nil
      go_simp
      go_wp2_with fail
      refine hK.out _ _ (cells2 ((Below.refl _ wr).alloc (Nat.le_refl _) _).drew c1 c2) (fun hHeld => ?_)
      clear hK K
      try simp only [Act.put, List.setIfInBounds_toArray, List.set_cons_zero, List.set_cons_succ]
      refine wpAnyH_ready (rs := [13]) (by kernel_rfl) (by simp) ?_
      refine AllReadyH.cons (by simp only [List.getElem?_toArray, List.getElem?_cons_succ, List.getElem?_cons_zero]; rfl) (fun K hK => ?_) AllReadyH.nil
      go_simp
      go_wp2_with fail
      refine hK.out _ _ (cells2 ((Below.refl _ wr).alloc (Nat.le_refl _) _).drew c1 c2) (fun hHeld => ?_)
      clear hK K
      try simp only [Act.put, List.setIfInBounds_toArray, List.set_cons_zero, List.set_cons_succ]
      refine wpAnyH_done (by kernel_rfl) ?_ _
      refine NoPanic.normal ?_
      have e0 : max 0 s.1 = max s.1 0 := Int.max_comm ..
      obtain ⟨lo, hlo⟩ : ∃ lo, lo = max s.1 0 := ⟨_, rfl⟩
      have HLO : Hid (0 ≤ lo) := Lib.hid (by omega)
      rw [e0, ← hlo]
      rw [← hlo] at HNX
      clear e0 hlo c1 c2
      have BW : Hid (Below w.heap.size w (wr.alloc (.cells #[.int .i64 lo, .int .i64 s.2] 23)).drew) := Lib.hid (B.out.alloc B.out.size _).drew
      have OW : Hid (SOwn (wr.alloc (.cells #[.int .i64 lo, .int .i64 s.2] 23)).drew w.heap.size (.slice pz L.length cz) L) := Lib.hid (SOwn.drn (O.out.alloc _) 1)
      have n0 : (wr.alloc (.cells #[.int .i64 lo, .int .i64 s.2] 23)).drew.heap[wr.heap.size]? = some (.cells #[.int .i64 lo, .int .i64 s.2] 23 (0, 0)) := heap_alloc_last wr _
      obtain ⟨B0, hB0⟩ : ∃ B0, B0 = wr.heap.size := ⟨_, rfl⟩
      rw [← hB0] at n0 ⊢
      clear hB0
      generalize (wr.alloc (.cells #[.int .i64 lo, .int .i64 s.2] 23)).drew = W1 at *
      obtain ⟨z1, z2⟩ := sp_cells n0
      by_cases c : lo ≤ s.2
      · rw [if_pos c] at HNX
        have d1 : decide (lo > s.2) = false := by simp; omega
        have d2 : decide (s.2 < lo) = false := by simp; omega
        have HC := Lib.hid (HJK.out W1 _ (lo, s.2) OW.out.seen ⟨HLO.out, c, HTS.out⟩)
        clear c
        go_wp2_with (go_at_call 47; refine HC.out.mono ?_; rintro e w2 ⟨v2, rfl, o2, b2⟩; have O2 := Lib.hid (o2.mono BW.out.size); have B2 := Lib.hid (BW.out.trans (b2.mono BW.out.size)); clear o2 b2)
        exact ⟨⟨k + 1, by omega, by go_num, Lib.hid (by rw [HNX.out]; exact O2.out), B2⟩, by simp [intOf]; omega⟩
      · rw [if_neg c] at HNX
        have d1 : decide (lo > s.2) = true := by simp; omega
        have d2 : decide (s.2 < lo) = true := by simp; omega
        clear c
        go_wp2_with fail
        exact ⟨⟨k + 1, by omega, by go_num, Lib.hid (by rw [HNX.out]; exact OW.out), BW⟩, by simp [intOf]; omega⟩
    · obtain rfl : k = n := by omega
      rw [List.take_of_length_le (Nat.le_of_eq HL.out.symm)] at O
      go_wp2_with fail
      go_ret
      exact ⟨_, rfl, O.out, B.out⟩
theorem cnt_mono {l : List Sp} {k : Nat} : cnt (l.take k) ≤ cnt l := by
  have h : cnt (l.take k ++ l.drop k) = cnt (l.take k) + cnt (l.drop k) := cnt_app _ _
  rw [List.take_append_drop] at h
  omega
theorem cnt_facts {l : List Sp} (h : Nrm l) (ht : Top topN l) {k : Nat} {s : Sp} (hs : l[k]? = some s) (hc : (cnt (l.take k) : Int) ≤ 9223372036854775807) :
    wrap64 (s.2 - s.1) = s.2 - s.1 ∧ wrap64 (9223372036854775807 - (cnt (l.take k) : Int)) = 9223372036854775807 - (cnt (l.take k) : Int) ∧
    (¬ s.2 - s.1 ≥ 9223372036854775807 - (cnt (l.take k) : Int) → wrap64 ((cnt (l.take k) : Int) + (s.2 - s.1)) = (cnt (l.take k) : Int) + (s.2 - s.1) ∧ wrap64 ((cnt (l.take k) : Int) + (s.2 - s.1) + 1) = (cnt (l.take (k + 1)) : Int) ∧ (cnt (l.take (k + 1)) : Int) ≤ 9223372036854775807) ∧
    (s.2 - s.1 ≥ 9223372036854775807 - (cnt (l.take k) : Int) → min (cnt l : Int) 9223372036854775807 = 9223372036854775807) := by
  obtain ⟨hk, e⟩ := List.getElem?_eq_some_iff.1 hs
  have h1 := nrm_at h ht hk
  have h2 := cnt_take hk
  have h3 := cnt_mono (l := l) (k := k + 1)
  rw [e] at h1 h2
  unfold wrap64
  omega
set_option maxHeartbeats 4000000 in
theorem xcount_to (w : World) (v : Value) (l : List Sp) (hs : SSeen w v l) (hl : l.length ≤ 900000) (ht : Top topN l) :
    Calls Try.prog 30 #[v] w fun e w' => e = .returned (.int .i64 (min (cnt (mk l) : Int) 9223372036854775807)) ∧ Below w.heap.size w w' := by
  have HM := Lib.hid (xmake_to w v l hs hl ht)
  have hml := Nat.le_trans (mk_len l) hl
  have HN := Lib.hid (mk_nrm l)
  have HT := Lib.hid (mk_top ht)
  obtain ⟨p, cap, rfl⟩ := hs.form
  generalize mk l = m at *
  clear hs ht hl
  go_enter Try.func30, Try.ntmps30
  go_wp2_with fail
  refine HM.out.mono ?_
  rintro e w1 ⟨v1, rfl, o1, b1⟩
  obtain ⟨p1, c1, rfl⟩ := o1.shape
  have S1 := Lib.hid o1.seen
  have B1 := Lib.hid b1
  obtain ⟨n, hn⟩ : ∃ n, n = m.length := ⟨_, rfl⟩
  have HNL := Lib.hid hn
  rw [← hn] at S1 hml ⊢
  clear o1 b1 hn HM
  go_wp2_with fail
  go_loopw [3, 4, 5] (fun z i _ wr => ∃ k : Nat, k ≤ n ∧ i = .int .i64 k ∧ z = .int .i64 (cnt (m.take k)) ∧ Hid ((cnt (m.take k) : Int) ≤ 9223372036854775807) ∧ Hid (Below w1.heap.size w1 wr)) (fun _ i _ _ => n - (intOf i).toNat)
  case atStart => exact ⟨0, Nat.zero_le _, rfl, rfl, Lib.hid (by simp [cnt, els]), Lib.hid (Below.refl _ w1)⟩
  case round =>
    obtain ⟨k, hk, rfl, rfl, HC, B⟩ := hrel
    by_cases hlt : k < n
    · have hkl : k < m.length := by rw [← HNL.out]; exact hlt
      obtain ⟨b, o, rfl, c1, c2⟩ := (S1.out.kb B.out).at hkl
      have hk' : (k : Int) < n := by omega
      obtain ⟨s, hs⟩ : ∃ s, s = m[k] := ⟨_, rfl⟩
      have hsk : m[k]? = some s := by rw [hs]; exact List.getElem?_eq_getElem hkl
      rw [← hs] at c1 c2
      obtain ⟨f1, f2, f3, f4⟩ := cnt_facts HN.out HT.out hsk HC.out
      clear hs hsk
      by_cases c : s.2 - s.1 ≥ 9223372036854775807 - (cnt (m.take k) : Int)
      · have d1 : decide (s.2 - s.1 ≥ 9223372036854775807 - (cnt (m.take k) : Int)) = true := by simpa using c
        have d2 : decide (9223372036854775807 - (cnt (m.take k) : Int) ≤ s.2 - s.1) = true := by simpa using c
        have HF := Lib.hid (f4 c)
        clear f3 f4 c
        go_wp2_with fail
        go_quiet (fail)
        go_wp2_with fail
        go_ret
        rw [HF.out]
        exact ⟨rfl, B1.out.trans (below_drn10 (B.out.mono B1.out.size) _)⟩
      · have d1 : decide (s.2 - s.1 ≥ 9223372036854775807 - (cnt (m.take k) : Int)) = false := by simpa using c
        have d2 : decide (9223372036854775807 - (cnt (m.take k) : Int) ≤ s.2 - s.1) = false := by simpa using c
        obtain ⟨g1, g2, g3⟩ := f3 c
        have G3 := Lib.hid g3
        have G2 := Lib.hid g2
        clear f3 f4 c g3 g2
        go_wp2_with fail
        go_quiet (fail)
        go_wp2_with fail
        exact ⟨⟨k + 1, by omega, by go_num, by rw [G2.out], G3, Lib.hid (below_drn10 B.out _)⟩, by simp [intOf]; omega⟩
    · obtain rfl : k = n := by omega
      have HF : Hid (min (cnt m : Int) 9223372036854775807 = (cnt (m.take k) : Int)) := Lib.hid (by have h := HC.out; rw [List.take_of_length_le (Nat.le_of_eq HNL.out.symm)] at h ⊢; omega)
      go_wp2_with fail
      go_ret
      rw [HF.out]
      exact ⟨rfl, B1.out.trans (B.out.mono B1.out.size)⟩
/-- The reference's Right: whether it is its own normal form. -/
theorem same_mk {l : List Sp} : l = mk l ↔ Nrm l := ⟨fun h => by rw [h]; exact mk_nrm l, fun h => (mk_self h).symm⟩
end Go.Proofs.Ytpjfgkjhhmfhkaa
