/- Make: the normal form. Conditions: no more than a million spans; no end above the largest number. -/
import Derived.Test.YtpjfgkjhhmfhkaaSpnC
import Derived.Test.YtpjfgkjhhmfhkaaSpnG
namespace Go.Proofs.Ytpjfgkjhhmfhkaa
open Go.RowKit

/-- The last span of a slice of the call's own has a new end. -/
theorem SOwn.setLast {w : World} {B g c n : Nat} {L : List Sp} {t : Sp} (h : SOwn w B (.slice (some ⟨g, 0, none⟩) n c) (L ++ [t])) (hn : n = (L ++ [t]).length) (m : Int) : SOwn (w.setCell ⟨g, L.length * 2 + 1, none⟩ (.int .i64 m)) B (.slice (some ⟨g, 0, none⟩) n c) (L ++ [(t.1, m)]) := by
  subst hn
  obtain ⟨g', c', R, e, hb, hg, hc, hm, hR⟩ := h.row (by simp)
  injection e with e1 e2 e3
  injection e1 with e1
  injection e1 with e1
  subst e1 e3
  refine sown_mk (R := R) (by simp) hb ?_ (by simpa using hc) hm (by rw [hR]; simp)
  have := cells_set (j := L.length * 2 + 1) hg (.int .i64 m)
  rw [this]
  congr 2
  rw [sps_app, sps_one, sps_app, sps_one, List.append_assoc, List.append_assoc, List.set_append_right _ _ (by rw [sps_length]; omega), sps_length, show L.length * 2 + 1 - L.length * 2 = 1 from by omega]
  rfl
/-- A span of the sorted ones. -/
theorem kept_at {E l : List Sp} (hm : ∀ a, a ∈ E ↔ a ∈ clip l) (ht : Top topN l) {k : Nat} {s : Sp} (hk : E[k]? = some s) : 0 ≤ s.1 ∧ s.1 ≤ s.2 ∧ s.2 < 9223372036854775808 ∧ s.1 < 9223372036854775808 := by
  have h1 := (hm s).1 (List.mem_of_getElem? hk)
  have h2 := clip_mem h1
  unfold clip at h1
  obtain ⟨t, ht', e⟩ := List.mem_map.1 (List.mem_filter.1 h1).1
  have h3 := ht t ht'
  have h4 : t.2 = s.2 := by rw [← e]
  unfold topN at h3
  omega
set_option maxHeartbeats 4000000 in
theorem make_to (w : World) (v : Value) (l : List Sp) (hs : SSeen w v l) (hl : l.length ≤ 1000000) (ht : Top topN l) : Calls Try.prog 22 #[v] w fun e w' => ∃ v', e = .returned v' ∧ SOwn w' w.heap.size v' (mk l) ∧ Below w.heap.size w w' := by
  obtain ⟨p, cap, rfl⟩ := hs.form
  have HA := Lib.hid (ascending_to w _ l hs hl)
  have HT := Lib.hid ht
  clear hs ht
  go_enter Try.func22, Try.ntmps22
  go_wp2_with fail
  refine HA.out.mono ?_
  rintro e w1 ⟨v1, E, rfl, o1, hm, hel, hp, b1⟩
  have S1 := Lib.hid o1.seen
  obtain ⟨p1, c1, rfl⟩ := o1.shape
  have O1 := Lib.hid o1
  have HM := Lib.hid hm
  have HP := Lib.hid hp
  have B1 := Lib.hid b1
  obtain ⟨n, hn⟩ : ∃ n, n = E.length := ⟨_, rfl⟩
  have hn1 : n ≤ 1000000 := by omega
  have HN := Lib.hid hn
  rw [← hn] at S1 ⊢
  clear o1 hm hp b1 hn hel O1
  go_wp2_with fail
  go_loopw [3, 10] (fun z i wr => ∃ (k : Nat) (L : List Sp), k ≤ n ∧ i = .int .i64 k ∧ Hid (MgI E k L) ∧ Hid (SOwn wr w1.heap.size z L) ∧ Hid (Below w1.heap.size w1 wr)) (fun _ i _ => n - (intOf i).toNat)
  case atStart => exact ⟨0, [], Nat.zero_le _, rfl, Lib.hid (MgI.start E), Lib.hid (SOwn.nil w1 _), Lib.hid (Below.refl _ w1)⟩
  case round =>
    obtain ⟨k, L, hk, rfl, M, O, B⟩ := hrel
    obtain ⟨pz, cz, rfl⟩ := O.out.shape
    by_cases hlt : k < n
    · have hkl : k < E.length := by rw [← HN.out]; exact hlt
      obtain ⟨b, o, rfl, c1, c2⟩ := (S1.out.kb B.out).at hkl
      have hk' : (k : Int) < n := by omega
      have hr := two_range c1 c2
      obtain ⟨s, hs⟩ : ∃ s, s = E[k] := ⟨_, rfl⟩
      have hsk : E[k]? = some s := by rw [hs]; exact List.getElem?_eq_getElem hkl
      rw [← hs] at hr c1 c2
      have HSK := Lib.hid hsk
      have hka := kept_at HM.out HT.out hsk
      have HKA := Lib.hid hka
      have HLL : Hid (L.length ≤ 1000000) := Lib.hid (Nat.le_trans M.out.len (by omega))
      clear hs hsk
      have HBS := Lib.hid (B.out.alloc B.out.size (.cells #[.int .i64 s.1, .int .i64 s.2] 23))
      rcases List.eq_nil_or_concat L with rfl | ⟨L', t, rfl⟩
      · go_wp2_with (first
          | (refine load_to (cs := [.int .i64 s.1, .int .i64 s.2]) hr Try.underlying23 rfl spsize ?hx ?_; (case hx => rfl)))
        go_quiet (fail)
        have OW : Hid (SOwn ((wr.alloc (.cells #[.int .i64 s.1, .int .i64 s.2] 23)).drewN nq) w1.heap.size (.slice pz 0 cz) []) := Lib.hid (SOwn.drn (O.out.alloc _) _)
        have BW := Lib.hid (below_drn10 HBS.out nq)
        have n0 : ((wr.alloc (.cells #[.int .i64 s.1, .int .i64 s.2] 23)).drewN nq).heap[wr.heap.size]? = some (.cells #[.int .i64 s.1, .int .i64 s.2] 23 (0, 0)) := heap_alloc_last wr _
        clear c1 c2 hr HBS
        generalize (wr.alloc (.cells #[.int .i64 s.1, .int .i64 s.2] 23)).drewN nq = W at *
        obtain ⟨z1, z2⟩ := sp_cells n0
        clear n0
        go_wp2_with (first
          | (at_builtin; refine push_span (by rfl) (.tmp 40) (.tmp 42) (by rfl) s w1.heap.size _ [] (by rfl) OW.out W.heap.size rfl (by rfl) HLL.out BW.out.size ?_; intro p2 c2' w2 own2 _ _ b2; have O2 := Lib.hid own2; have B2 := Lib.hid (BW.out.trans b2); clear own2 b2))
        exact ⟨⟨k + 1, [s], by omega, by go_num, Lib.hid (M.out.first HSK.out ⟨HKA.out.1, HKA.out.2.1⟩), O2, B2⟩, by simp [intOf]; omega⟩
      · have hlen : (L'.concat t).length = L'.length + 1 := by simp
        rw [List.concat_eq_append] at hlen M O HLL ⊢
        rw [hlen] at O ⊢
        obtain ⟨n1, hn1'⟩ : ∃ n1, n1 = L'.length := ⟨_, rfl⟩
        have hn2 : n1 ≤ 1000000 := by have := HLL.out; omega
        have HN1 := Lib.hid hn1'
        rw [← hn1'] at O ⊢
        clear hlen hn1'
        obtain ⟨bg, og, hpz, d1, d2⟩ := O.out.seen.at (j := n1) (by rw [HN1.out]; simp)
        have hog : og = 0 := by
          obtain ⟨g', cc', RR, e, _⟩ := O.out.row (by simp)
          injection e with e
          rw [hpz] at e
          injection e with e
          injection e with _ e
        subst hpz hog
        have htl : (L' ++ [t])[n1]'(by rw [HN1.out]; simp) = t := by
          have : (L' ++ [t])[n1]? = some t := by rw [HN1.out]; simp
          rw [List.getElem?_eq_getElem (by rw [HN1.out]; simp)] at this
          simpa using this
        rw [htl, Nat.zero_add] at d1 d2
        clear htl
        have hw : wrap64 ((n1 : Int) + 1 - 1) = n1 := by unfold wrap64; omega
        have hw2 : IntKind.i64.wrap (n1 : Int) = n1 := by rw [wrap64_eq]; unfold wrap64; omega
        have hq1 : 0 ≤ (n1 : Int) := by omega
        have hq2 : (n1 : Int) < (n1 : Int) + 1 := by omega
        obtain ⟨g3, hg3⟩ : ∃ g3, g3 = decide (t.2 < s.1 - 1) := ⟨_, rfl⟩
        have HAP := Lib.hid (fun W => apart_to W t s HKA.out.1 HKA.out.2.2.2)
        rw [← hg3] at HAP
        have G3 := Lib.hid hg3
        clear hg3
        go_wp2_with (first
          | (refine load_to (cs := [.int .i64 s.1, .int .i64 s.2]) hr Try.underlying23 rfl spsize ?hx ?_; (case hx => rfl)))
        have OW : Hid (SOwn (wr.alloc (.cells #[.int .i64 s.1, .int .i64 s.2] 23)) w1.heap.size (.slice (some ⟨bg, 0, none⟩) (n1 + 1) cz) (L' ++ [t])) := Lib.hid (O.out.alloc _)
        obtain ⟨B0, hB0⟩ : ∃ B0, B0 = wr.heap.size := ⟨_, rfl⟩
        have n0 := heap_alloc_last wr (.cells #[.int .i64 s.1, .int .i64 s.2] 23)
        have b0 := (Below.refl wr.heap.size wr).alloc (Nat.le_refl _) (.cells #[.int .i64 s.1, .int .i64 s.2] 23)
        have z1 := (b0.cell (p := ⟨bg, n1 * 2, none⟩) (World.block_lt_of_cell? _ _ d1)).trans d1
        have z2 := (b0.cell (p := ⟨bg, n1 * 2 + 1, none⟩) (World.block_lt_of_cell? _ _ d2)).trans d2
        have HNE : Hid (bg ≠ B0) := Lib.hid (by have := World.block_lt_of_cell? _ _ d1; simp only at this; omega)
        rw [← hB0] at n0 ⊢
        clear b0 c1 c2 hr d1 d2
        generalize wr.alloc (.cells #[.int .i64 s.1, .int .i64 s.2] 23) = W1 at *
        have N0 := Lib.hid n0
        have Z1 := Lib.hid z1
        have Z2 := Lib.hid z2
        obtain ⟨z3, z4⟩ := sp_cells n0
        clear n0 hB0
        try simp only [List.append]
        refine wp_region_noPanic ?_
        refine wp_region_held_drew (S := (fun W => (W.cell? ⟨B0, 0, none⟩ = some (.int .i64 s.1) ∧ W.cell? ⟨B0, 1, none⟩ = some (.int .i64 s.2)) ∧ W.cell? ⟨bg, n1 * 2, none⟩ = some (.int .i64 t.1) ∧ W.cell? ⟨bg, n1 * 2 + 1, none⟩ = some (.int .i64 t.2))) (by kernel_rfl) ⟨⟨z3, z4⟩, z1, z2⟩ (fun hHeld => ?_)
        refine wpAnyH_take (i := 0) (v := ?_) (by simp only [List.getElem?_toArray, List.getElem?_cons_zero]; rfl) (by kernel_rfl) (by kernel_rfl) (by kernel_rfl) (fun _ _ _ h => h) (Or.inl ⟨by rfl, ?_⟩) (by assumption) ?_
        rotate_left
        · intro w hSw
          try dsimp only at hSw
          go_simp
          try with_reducible rfl
        try simp only [Act.put, List.setIfInBounds_toArray, List.set_cons_zero, List.set_cons_succ]
        refine wpAnyH_take (i := 1) (v := ?_) (by simp only [List.getElem?_toArray, List.getElem?_cons_succ, List.getElem?_cons_zero]; rfl) (by kernel_rfl) (by kernel_rfl) (by kernel_rfl) (fun _ _ _ h => h) (Or.inl ⟨by rfl, ?_⟩) (by assumption) ?_
        rotate_left
        · intro w hSw
          try dsimp only at hSw
          go_simp
          try with_reducible rfl
        try simp only [Act.put, List.setIfInBounds_toArray, List.set_cons_zero, List.set_cons_succ]
        refine wpAnyH_take (i := 2) (v := ?_) (by simp only [List.getElem?_toArray, List.getElem?_cons_succ, List.getElem?_cons_zero]; rfl) (by kernel_rfl) (by kernel_rfl) (by kernel_rfl) (fun _ _ _ h => h) (Or.inl ⟨by rfl, ?_⟩) (by assumption) ?_
        rotate_left
        · intro w hSw
          try dsimp only at hSw
          go_simp
          try with_reducible rfl
        try simp only [Act.put, List.setIfInBounds_toArray, List.set_cons_zero, List.set_cons_succ]
        refine wpAnyH_take (i := 3) (v := ?_) (by simp only [List.getElem?_toArray, List.getElem?_cons_succ, List.getElem?_cons_zero]; rfl) (by kernel_rfl) (by kernel_rfl) (by kernel_rfl) (fun _ _ _ h => h) (Or.inl ⟨by rfl, ?_⟩) (by assumption) ?_
        rotate_left
        · intro w hSw
          try dsimp only at hSw
          go_simp
          try with_reducible rfl
        try simp only [Act.put, List.setIfInBounds_toArray, List.set_cons_zero, List.set_cons_succ]
        refine wpAnyH_take (i := 4) (v := ?_) (by simp only [List.getElem?_toArray, List.getElem?_cons_succ, List.getElem?_cons_zero]; rfl) (by kernel_rfl) (by kernel_rfl) (by kernel_rfl) (fun _ _ _ h => h) (Or.inl ⟨by rfl, ?_⟩) (by assumption) ?_
        rotate_left
        · intro w hSw
          try dsimp only at hSw
          go_simp
          try with_reducible rfl
        try simp only [Act.put, List.setIfInBounds_toArray, List.set_cons_zero, List.set_cons_succ]
        refine wpAnyH_take (i := 5) (v := ?_) (by simp only [List.getElem?_toArray, List.getElem?_cons_succ, List.getElem?_cons_zero]; rfl) (by kernel_rfl) (by kernel_rfl) (by kernel_rfl) (fun _ _ _ h => h) (Or.inl ⟨by rfl, ?_⟩) (by assumption) ?_
        rotate_left
        · intro w hSw
          try dsimp only at hSw
          go_simp
          try with_reducible rfl
        try simp only [Act.put, List.setIfInBounds_toArray, List.set_cons_zero, List.set_cons_succ]
        refine wpAnyH_take (i := 6) (v := (.agg #[.int .i64 t.1, .int .i64 t.2])) (by simp only [List.getElem?_toArray, List.getElem?_cons_succ, List.getElem?_cons_zero]; rfl) (by kernel_rfl) (by kernel_rfl) (by kernel_rfl) (fun _ _ _ h => h) (Or.inl ⟨by rfl, ?_⟩) (by assumption) ?_
        · intro w hSw
          try dsimp only at hSw
          go_simp
        try simp only [Act.put, List.setIfInBounds_toArray, List.set_cons_zero, List.set_cons_succ]
        refine wpAnyH_take (i := 7) (v := (.agg #[.int .i64 s.1, .int .i64 s.2])) (by simp only [List.getElem?_toArray, List.getElem?_cons_succ, List.getElem?_cons_zero]; rfl) (by kernel_rfl) (by kernel_rfl) (by kernel_rfl) (fun _ _ _ h => h) (Or.inl ⟨by rfl, ?_⟩) (by assumption) ?_
        · intro w hSw
          try dsimp only at hSw
          go_simp
        try simp only [Act.put, List.setIfInBounds_toArray, List.set_cons_zero, List.set_cons_succ]
        refine wpAnyH_ready (rs := [8]) (by kernel_rfl) (by simp) ?_
        refine AllReadyH.cons (by simp only [List.getElem?_toArray, List.getElem?_cons_succ, List.getElem?_cons_zero]; rfl) (fun K hK => ?_) AllReadyH.nil
        go_simp
        refine (HAP.out W1.drew).mono ?_
        rintro e w2 ⟨rfl, b2⟩
        have BW := Lib.hid (below_drew_then HBS.out b2)
        have O2 : Hid (SOwn w2 w1.heap.size (.slice (some ⟨bg, 0, none⟩) (n1 + 1) cz) (L' ++ [t])) := Lib.hid ((OW.out.drn 1).kb b2)
        have n2 := (b2.block B0 (Array.getElem?_eq_some_iff.1 N0.out).1).trans N0.out
        obtain ⟨y3, y4⟩ := sp_cells n2
        have y1 := (b2.cell (p := ⟨bg, n1 * 2, none⟩) (World.block_lt_of_cell? W1 _ Z1.out)).trans Z1.out
        have y2 := (b2.cell (p := ⟨bg, n1 * 2 + 1, none⟩) (World.block_lt_of_cell? W1 _ Z2.out)).trans Z2.out
        clear b2 n2
        go_wp2_with fail
        refine hK.out _ _ ⟨⟨y3, y4⟩, y1, y2⟩ (fun hHeld => ?_)
        clear hK K
        try simp only [Act.put, List.setIfInBounds_toArray, List.set_cons_zero, List.set_cons_succ]
        cases g3 with
        | true =>
          refine wpAnyH_take (i := 9) (v := ?_) (by simp only [List.getElem?_toArray, List.getElem?_cons_succ, List.getElem?_cons_zero]; rfl) (by kernel_rfl) (by kernel_rfl) (by kernel_rfl) (fun _ _ _ h => h) (Or.inl ⟨by rfl, ?_⟩) (by assumption) ?_
          rotate_left
          · intro w hSw
            try dsimp only at hSw
            go_simp
            try with_reducible rfl
          try simp only [Act.put, List.setIfInBounds_toArray, List.set_cons_zero, List.set_cons_succ]
          refine wpAnyH_take (i := 10) (v := ?_) (by simp only [List.getElem?_toArray, List.getElem?_cons_succ, List.getElem?_cons_zero]; rfl) (by kernel_rfl) (by kernel_rfl) (by kernel_rfl) (fun _ _ _ h => h) (Or.inl ⟨by rfl, ?_⟩) (by assumption) ?_
          rotate_left
          · intro w hSw
            try dsimp only at hSw
            go_simp
            try with_reducible rfl
          try simp only [Act.put, List.setIfInBounds_toArray, List.set_cons_zero, List.set_cons_succ]
          refine wpAnyH_done (by kernel_rfl) ?_ _
          refine NoPanic.normal ?_
          go_wp2_with (first
            | (at_builtin; refine push_span (by rfl) (.tmp 40) (.tmp 42) (by rfl) s w1.heap.size _ (L' ++ [t]) (by rfl) O2.out w2.heap.size rfl (by rfl) HLL.out BW.out.size ?_; intro p2 c2' w3 own2 _ _ b3; have O3 := Lib.hid own2; have B3 := Lib.hid (BW.out.trans b3); clear own2 b3))
          exact ⟨⟨k + 1, L' ++ [t] ++ [s], by omega, by go_num, Lib.hid (M.out.snoc HSK.out ⟨HKA.out.1, HKA.out.2.1⟩ (by simpa using G3.out.symm)), Lib.hid (by have h := O3.out; rw [List.length_append] at h; exact h), B3⟩, by simp [intOf]; omega⟩
        | false =>
          refine wpAnyH_take (i := 9) (v := ?_) (by simp only [List.getElem?_toArray, List.getElem?_cons_succ, List.getElem?_cons_zero]; rfl) (by kernel_rfl) (by kernel_rfl) (by kernel_rfl) (fun _ _ _ h => h) (Or.inl ⟨by rfl, ?_⟩) (by assumption) ?_
          rotate_left
          · intro w hSw
            try dsimp only at hSw
            go_simp
            try with_reducible rfl
          try simp only [Act.put, List.setIfInBounds_toArray, List.set_cons_zero, List.set_cons_succ]
          refine wpAnyH_take (i := 10) (v := ?_) (by simp only [List.getElem?_toArray, List.getElem?_cons_succ, List.getElem?_cons_zero]; rfl) (by kernel_rfl) (by kernel_rfl) (by kernel_rfl) (fun _ _ _ h => h) (Or.inl ⟨by rfl, ?_⟩) (by assumption) ?_
          rotate_left
          · intro w hSw
            try dsimp only at hSw
            go_simp
            try with_reducible rfl
          try simp only [Act.put, List.setIfInBounds_toArray, List.set_cons_zero, List.set_cons_succ]
          refine wpAnyH_done (by kernel_rfl) ?_ _
          refine NoPanic.normal ?_
          go_wp2_with fail
          have hfz2 : w2.frozen? ⟨bg, n1 * 2 + 1, none⟩ = false ∧ w1.heap.size ≤ bg := by
            obtain ⟨g', cc', RR, e, hb', hg', _⟩ := O2.out.row (by simp)
            injection e with e
            injection e with e
            injection e with e
            subst e
            exact ⟨by simp [World.frozen?, hg'], hb'⟩
          have hfz := hfz2.1
          have HBG := Lib.hid hfz2.2
          clear hfz2
          go_region
          go_wp2_with fail
          have O3 := O2.out.setLast (by rw [HN1.out]; simp) (max t.2 s.2)
          rw [← HN1.out] at O3
          refine ⟨⟨k + 1, L' ++ [(t.1, max t.2 s.2)], by omega, by go_num, Lib.hid (MgI.wide HP.out M.out HSK.out (by simpa using G3.out.symm)), Lib.hid (by rw [HN1.out] at O3 ⊢; exact O3.drn 1), Lib.hid (BW.out.setCell (p := ⟨bg, n1 * 2 + 1, none⟩) HBG.out _).drew⟩, by simp [intOf]; omega⟩
    · obtain rfl : k = n := by omega
      go_wp2_with fail
      go_ret
      rw [HN.out] at M
      have e := mgI_done M.out HM.out
      subst e
      exact ⟨_, rfl, O.out.mono B1.out.size, B1.out.trans (B.out.mono B1.out.size)⟩
end Go.Proofs.Ytpjfgkjhhmfhkaa
