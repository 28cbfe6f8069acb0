/- The statements' own put. Condition: a list is no longer than a million. -/
import Derived.Test.YtbpccbhlggcmfaaDoorRadKp
namespace Go.Proofs.YtbpccbhlggcmfaaDoor
open Go.RowKit
attribute [local go_sem ↓] hld_open heq_open hne_open

set_option maxRecDepth 20000 in
set_option maxHeartbeats 4000000 in
theorem kput_to (w : World) (B kb : Nat) (k : En) (h : List UInt8) (n : Int) (vh0 vn0 : Value) (hk : KX w B kb vh0 vn0 (keys k) (nums k)) (hh : h.length = 32) (hB : B ≤ w.heap.size) (hbig : k.length ≤ 1000000) :
    Calls Tryd.prog 9 #[.pointer (some ⟨kb, 0, none⟩), .agg (hv h), .int .i64 n] w fun e w' => e = .returned (.tuple #[]) ∧ KPost w B kb vh0 vn0 (kput k h n) w' := by
  obtain ⟨i0, hi0, hz0, hz1, hz2⟩ := info_parts hzinfo
  obtain ⟨j0, hj0, hy0, hy1, hy2⟩ := info_parts ninfo9
  have hlk := keys_length k
  have hln := nums_length k
  obtain ⟨p, cap, rfl⟩ := own_shape hk.hs
  obtain ⟨q, cq, rfl⟩ := nown_shape hk.ns
  rw [hlk] at hk ⊢
  rw [hln] at hk ⊢
  have b1 := (Below.refl w.heap.size w).alloc (Nat.le_refl _) (.cells (hv h) 33)
  have HB1 := Lib.hid b1
  have HK1 := Lib.hid (hk.below b1)
  have HH1 := Lib.hid (heap_alloc_last w (.cells (hv h) 33))
  have HH := Lib.hid hh
  have HBW := Lib.hid hB
  have HBIG := Lib.hid hbig
  have HLK := Lib.hid hlk
  have HLN := Lib.hid hln
  clear b1 hk hh hB hlk hln
  go_enter Tryd.func9, Tryd.ntmps9
  go_wp2
  generalize w.alloc (.cells (hv h) 33) = w0 at *
  go_loopw [6] (fun v wr => ∃ (i : Nat), i ≤ k.length ∧ v = .int .i64 i ∧ Hid (Below w.heap.size w wr) ∧ Hid (KX wr B kb (.slice p k.length cap) (.slice q k.length cq) (keys k) (nums k)) ∧ Hid (wr.heap[w.heap.size]? = some (.cells (hv h) 33 (0, 0))) ∧ Hid (∀ j, j < i → (keys k)[j]? ≠ some h)) (fun v _ => k.length - (intOf v).toNat)
  case atStart => exact ⟨0, by omega, rfl, HB1, HK1, HH1, Lib.hid (fun j hj => absurd hj (Nat.not_lt_zero j))⟩
  case round =>
    obtain ⟨i, hi, rfl, BW, HK, HR, HJ⟩ := hrel
    have c0 := HK.out.c0
    by_cases hlt : i < k.length
    · have hdc : decide ((i : Int) < k.length) = true := decide_eq_true (by omega)
      have hlk' : i < (keys k).length := by rw [HLK.out]; exact hlt
      obtain ⟨g, cap', R, hsl, hbg, hgr, hc1, hm1, hR1⟩ := HOwn.row HK.out.hs (by omega)
      have hp : p = some ⟨g, 0, none⟩ := by injection hsl
      subst hp
      have l1 := hld_at HK.out.h32 hlk' hgr 1
      have l3 := fun q => hld_at HK.out.h32 hlk' hgr q
      rw [show wr.drewN 1 = wr.drew from rfl] at l1
      have l2 := hld_row (w := wr.drew) HH.out HR.out
      have l4 := fun q => hld_row (w := wr.drewN q) HH.out HR.out
      have heq := heq_hv (HK.out.h32.at hlk') HH.out
      have HAT : Hid ((keys k)[i]? = some (keys k)[i]) := Lib.hid (List.getElem?_eq_getElem hlk')
      clear hsl hgr hR1 hm1 hc1 hbg
      generalize (keys k)[i] = hx at *
      by_cases hsame : hx = h
      · rw [decide_eq_true hsame] at heq
        subst hsame
        obtain ⟨hk1, hk2⟩ := kput_at k i hx n HAT.out HJ.out
        have HK12 := Lib.hid (And.intro hk1 hk2)
        clear hk1 hk2
        go_wp2_with fail
        go_quiet (fail)
        have HKq := Lib.hid (HK.out.below (below_drn (m := nq) (Below.refl wr.heap.size wr)))
        have BWq := Lib.hid (below_drn (m := nq) BW.out)
        clear l1 l2 l3 l4 heq c0 HR HK
        generalize wr.drewN nq = W at *
        obtain ⟨gn, cq', Rn, hsn, hbn, hgn, hcn, hmn, hRn⟩ := nown_row HKq.out.ns (by rw [HLN.out]; omega)
        have hq : q = some ⟨gn, 0, none⟩ := by injection hsn
        subst hq
        have c1 := HKq.out.c1
        have HS := Lib.hid (HKq.out.setn (k' := kput k hx n) (n := n) hlt rfl HK12.out.1 HK12.out.2 (Nat.le_trans HBW.out BWq.out.size))
        have hll : i < (nvl (nums k) ++ Rn).length := by rw [List.length_append, show (nvl (nums k)).length = (nums k).length from List.length_map _, HLN.out]; omega
        have tn : ∃ u, W.cell? ⟨gn, i, none⟩ = some u := by
          rw [cell_of_row W gn i _ _ _ hgn, List.getElem?_toArray, List.getElem?_eq_getElem hll]
          exact ⟨_, rfl⟩
        clear hll
        obtain ⟨u, hu⟩ := tn
        have fz : W.frozen? ⟨gn, i, none⟩ = false := by simp [World.frozen?, hgn]
        clear hsn hgn hRn hmn hcn hbn
        go_wp2_with fail
        refine bodyPost_ret (v := .tuple #[]) (results_none Tryd.results9 _ _ _) rfl ?_
        exact ⟨rfl, HS.out.1, (BWq.out.mono HBW.out).trans HS.out.2.1, (Only.of_below BWq.out).trans HS.out.2.2 (fun _ e => e) (fun _ _ e => e)⟩
      · rw [decide_eq_false hsame] at heq
        have HNE := Lib.hid hsame
        clear hsame
        go_wp2_with fail
        go_quiet (fail)
        have HKq := Lib.hid (HK.out.below (below_drn (m := nq) (Below.refl wr.heap.size wr)))
        have BWq := Lib.hid (below_drn (m := nq) BW.out)
        have HRq : Hid ((wr.drewN nq).heap[w.heap.size]? = some (.cells (hv h) 33 (0, 0))) := Lib.hid HR.out
        clear l1 l2 l3 l4 heq c0 HR HK
        generalize wr.drewN nq = W at *
        go_wp2_with fail
        go_round
        case rel => exact ⟨i + 1, by omega, by go_num, BWq, HKq, HRq, Lib.hid (fun j hj => by
          rcases (show j < i ∨ j = i from by omega) with e | rfl
          · exact HJ.out j e
          · rw [HAT.out]; intro e; exact HNE.out (Option.some.inj e))⟩
        case measure => simp [intOf]; omega
    · obtain rfl : i = k.length := by omega
      have hdc : decide (((k.length : Nat) : Int) < k.length) = false := decide_eq_false (by omega)
      obtain ⟨hk1, hk2⟩ := kput_new k h n HJ.out
      have HK12 := Lib.hid (And.intro hk1 hk2)
      have l2 := hld_row (w := wr.drew) HH.out HR.out
      have hf1 : k.length + 1 ≤ maxLen ∧ (k.length + 1) * 32 ≤ 140737488355328 := by unfold maxLen; omega
      have hf2 : k.length + 1 ≤ maxLen ∧ (k.length + 1) * 8 ≤ 140737488355328 := by unfold maxLen; omega
      have HF1 := Lib.hid hf1
      have HF2 := Lib.hid hf2
      have HKO : Hid (HOwn wr.drew B (.slice p k.length cap) (keys k)) := Lib.hid HK.out.hs
      have hko := HKO.out
      unfold HOwn at hko
      rw [HLK.out] at hko
      have HKO2 := Lib.hid hko
      have hbsz : B ≤ wr.drew.heap.size := Nat.le_trans HBW.out BW.out.size
      have HBS := Lib.hid hbsz
      clear hk1 hk2 hf1 hf2 hko hbsz HKO
      go_wp2_with fail
      have HX : Hid (KX wr.drew B kb (.slice p k.length cap) (.slice q k.length cq) (keys k) (nums k)) := Lib.hid (HK.out.below ⟨rfl, rfl, rfl, Nat.le_refl _, fun _ _ => rfl⟩)
      have c0d := HX.out.c0
      have c0a : (wr.drew.alloc (.cells (fl [h]).toArray 33)).cell? ⟨kb, 0, none⟩ = some (.slice p k.length cap) := (HX.out.below ((Below.refl _ wr.drew).alloc (Nat.le_refl _) _)).c0
      have c0b : (wr.alloc (.cells (fl [h]).toArray 33)).cell? ⟨kb, 0, none⟩ = some (.slice p k.length cap) := (HK.out.below ((Below.refl _ wr).alloc (Nat.le_refl _) _)).c0
      try simp only [List.append]
      refine wp_region_noPanic ?_
      refine wp_region_any_drew (by kernel_rfl) ?_
      refine wpAny_take (i := 0) (v := ?_) (by simp only [List.getElem?_toArray, List.getElem?_cons_zero]; rfl) (by kernel_rfl) (by kernel_rfl) (by kernel_rfl) (fun _ _ _ h => h) (Or.inl ⟨by rfl, ?_⟩) ?_
      rotate_left
      · intro w
        go_simp
        try with_reducible rfl
      try simp only [Act.put, List.setIfInBounds_toArray, List.set_cons_zero, List.set_cons_succ]
      refine wpAny_take (i := 1) (v := ?_) (by simp only [List.getElem?_toArray, List.getElem?_cons_succ, List.getElem?_cons_zero]; rfl) (by kernel_rfl) (by kernel_rfl) (by kernel_rfl) (fun _ _ _ h => h) (Or.inl ⟨by rfl, ?_⟩) ?_
      rotate_left
      · intro w
        go_simp
        try with_reducible rfl
      try simp only [Act.put, List.setIfInBounds_toArray, List.set_cons_zero, List.set_cons_succ]
      refine wpAny_take (i := 2) (v := ?_) (by simp only [List.getElem?_toArray, List.getElem?_cons_succ, List.getElem?_cons_zero]; rfl) (by kernel_rfl) (by kernel_rfl) (by kernel_rfl) (fun _ _ _ h => h) (Or.inl ⟨by rfl, ?_⟩) ?_
      rotate_left
      · intro w
        go_simp
        try with_reducible rfl
      try simp only [Act.put, List.setIfInBounds_toArray, List.set_cons_zero, List.set_cons_succ]
      refine wpAny_take (i := 3) (v := ?_) (by simp only [List.getElem?_toArray, List.getElem?_cons_succ, List.getElem?_cons_zero]; rfl) (by kernel_rfl) (by kernel_rfl) (by kernel_rfl) (fun _ _ _ h => h) (Or.inl ⟨by rfl, ?_⟩) ?_
      rotate_left
      · intro w
        go_simp
        try with_reducible rfl
      try simp only [Act.put, List.setIfInBounds_toArray, List.set_cons_zero, List.set_cons_succ]
      refine wpAny_ready (rs := [4, 5]) (by kernel_rfl) (by simp) ?_
      refine (AllReady.cons (by simp only [List.getElem?_toArray, List.getElem?_cons_succ, List.getElem?_cons_zero]; rfl) (fun K hK => ?_) (AllReady.cons (by simp only [List.getElem?_toArray, List.getElem?_cons_succ, List.getElem?_cons_zero]; rfl) (fun K hK => ?_) AllReady.nil))
      · have HK := Lib.hid hK
        clear hK
        go_simp
        refine HK.out _ _ ?_
        clear HK K
        try simp only [Act.put, List.setIfInBounds_toArray, List.set_cons_zero, List.set_cons_succ]
        refine wpAny_ready (rs := [5]) (by kernel_rfl) (by simp) ?_
        refine (AllReady.cons (by simp only [List.getElem?_toArray, List.getElem?_cons_succ, List.getElem?_cons_zero]; rfl) (fun K hK => ?_) AllReady.nil)
        have HK := Lib.hid hK
        clear hK
        go_simp
        refine HK.out _ _ ?_
        clear HK K
        try simp only [Act.put, List.setIfInBounds_toArray, List.set_cons_zero, List.set_cons_succ]
        refine wpAny_ready (rs := [6]) (by kernel_rfl) (by simp) ?_
        refine (AllReady.cons (by simp only [List.getElem?_toArray, List.getElem?_cons_succ, List.getElem?_cons_zero]; rfl) (fun K hK => ?_) AllReady.nil)
        have HK := Lib.hid hK
        clear hK
        refine step_build_hash (E := [h]) (by rfl) (by rfl) (H32.one HH.out) rfl (by simp) (by simp) ?hv ?_
        case hv => simp [Act.eval, hv]
        refine HK.out _ _ ?_
        clear HK K
        try simp only [Act.put, List.setIfInBounds_toArray, List.set_cons_zero, List.set_cons_succ]
        refine wpAny_ready (rs := [7]) (by kernel_rfl) (by simp) ?_
        refine (AllReady.cons (by simp only [List.getElem?_toArray, List.getElem?_cons_succ, List.getElem?_cons_zero]; rfl) (fun K hK => ?_) AllReady.nil)
        have HK := Lib.hid hK
        clear hK
        refine step_append_lies _ (by rfl) (.tmp 36) (.tmp 38) _ (by rfl) B 33 i0 _ 32 32 Tryd.underlying28 hi0 hz0 hz1 hz2 rfl (by omega) (.slice p k.length cap) k.length _ (by rfl) (HKO2.out.alloc _) ⟨wr.drew.heap.size, 0, none⟩ 1 1 (fl [h]) (by rfl) (by rw [fl_one, usn_length, HH.out]) (news_fl wr.drew [h]) (fl_one' [h]) (by decide) HF1.out.1 HF1.out.2 (Nat.le_trans HBS.out (by simp)) (wr.drew.heap.size + 1) (by simp) ?_
        intro gg cap6 w6 own6 grow6 _ _
        obtain ⟨t1, t2, t3, t4⟩ := KX.seth (W := wr) (W1 := wr.drew) (o := .cells (fl [h]).toArray 33) HX.out ⟨rfl, rfl, rfl, Nat.le_refl _, fun _ _ => rfl⟩ (Nat.le_trans HBW.out BW.out.size) HH.out grow6 (by rw [HLK.out]; exact own6)
        rw [HLK.out] at t3 t4
        have T3 := Lib.hid t3
        have T4 := Lib.hid t4
        clear own6 grow6 t3 t4
        refine HK.out _ _ ?_
        clear HK K
        try simp only [Act.put, List.setIfInBounds_toArray, List.set_cons_zero, List.set_cons_succ]
        refine wpAny_take (i := 8) (v := ?_) (by simp only [List.getElem?_toArray, List.getElem?_cons_succ, List.getElem?_cons_zero]; rfl) (by kernel_rfl) (by kernel_rfl) (by kernel_rfl) (fun _ _ _ h => h) (Or.inl ⟨by rfl, ?_⟩) ?_
        rotate_left
        · intro w
          go_simp
          try with_reducible rfl
        try simp only [Act.put, List.setIfInBounds_toArray, List.set_cons_zero, List.set_cons_succ]
        refine wpAny_take (i := 9) (v := ?_) (by simp only [List.getElem?_toArray, List.getElem?_cons_succ, List.getElem?_cons_zero]; rfl) (by kernel_rfl) (by kernel_rfl) (by kernel_rfl) (fun _ _ _ h => h) (Or.inl ⟨by rfl, ?_⟩) ?_
        rotate_left
        · intro w
          go_simp
          try with_reducible rfl
        try simp only [Act.put, List.setIfInBounds_toArray, List.set_cons_zero, List.set_cons_succ]
        refine wpAny_ready (rs := [10]) (by kernel_rfl) (by simp) ?_
        refine (AllReady.cons (by simp only [List.getElem?_toArray, List.getElem?_cons_succ, List.getElem?_cons_zero]; rfl) (fun K hK => ?_) AllReady.nil)
        have HK := Lib.hid hK
        clear hK
        go_simp
        refine HK.out _ _ ?_
        clear HK K
        try simp only [Act.put, List.setIfInBounds_toArray, List.set_cons_zero, List.set_cons_succ]
        refine wpAny_done (by kernel_rfl) ?_ _
        refine NoPanic.normal ?_
        clear c0 c0d c0a c0b l2 t1 t2
        obtain ⟨W1, hW1⟩ : ∃ W1, W1 = w6.setCell ⟨kb, 0, none⟩ (.slice (some ⟨gg, 0, none⟩) (k.length + 1) cap6) := ⟨_, rfl⟩
        rw [← hW1] at T3 T4 ⊢
        clear hW1
        have HB2 : Hid (Below B w W1) := Lib.hid ((BW.out.mono HBW.out).trans T3.out.1)
        have d0 := T4.out.c1
        have HNO : Hid (NOwn W1 B (.slice q k.length cq) (nums k)) := Lib.hid T4.out.ns
        have hno := HNO.out
        unfold NOwn at hno
        rw [HLN.out] at hno
        have HNO2 := Lib.hid hno
        have HBS2 : Hid (B ≤ W1.heap.size) := Lib.hid (Nat.le_trans HBW.out HB2.out.size)
        clear hno HNO
        go_wp2_with (at_builtin; refine wpList_append_lies _ (by rfl) (.tmp 46) (.tmp 48) _ (by rfl) B 3 j0 _ 1 8 Tryd.underlying23 hj0 hy0 hy1 hy2 rfl (by omega) (.slice q k.length cq) k.length _ (by rfl) (HNO2.out.alloc _) ⟨W1.heap.size, 0, none⟩ 1 1 [.int .i64 n] (by rfl) (by rfl) (World.news_of_block (cs := #[.int .i64 n]) (t := 3) (fr := (0, 0)) (heap_alloc_new W1 _)) (by simp [Value.oneCell']) (by decide) HF2.out.1 HF2.out.2 (Nat.le_trans HBS2.out (by simp)) (W1.heap.size + 1) (by simp) ?_; intro gl cap7 w7 own7 grow7 _ _; obtain ⟨t1, t2, t3, t4⟩ := KX.setl (W := W1) (W1 := W1) (x := n) (o := .cells #[.int .i64 n] 3) T4.out (Below.refl _ _) (Nat.le_trans HBW.out HB2.out.size) grow7 (by rw [HLN.out]; exact own7); rw [HLN.out] at t3 t4; have T5 := Lib.hid t3; have T6 := Lib.hid t4; clear own7 grow7 t3 t4)
        go_end0
        exact ⟨rfl, ⟨_, _, by rw [HK12.out.1, HK12.out.2]; exact T6.out⟩, HB2.out.trans T5.out.1, ((Only.of_below (S := fun _ => False) BW.out).trans T3.out.2 (U := fun j => j = kb ∨ (Value.slice p k.length cap).ownBlock = some j ∨ (Value.slice q k.length cq).ownBlock = some j) (fun _ e => e.elim) (fun _ _ e => e.imp id .inl)).trans T5.out.2 (fun _ e => e) (fun _ _ e => e.imp id .inr)⟩
      · have HK := Lib.hid hK
        clear hK
        go_simp
        refine HK.out _ _ ?_
        clear HK K
        try simp only [Act.put, List.setIfInBounds_toArray, List.set_cons_zero, List.set_cons_succ]
        refine wpAny_ready (rs := [4, 6]) (by kernel_rfl) (by simp) ?_
        refine (AllReady.cons (by simp only [List.getElem?_toArray, List.getElem?_cons_succ, List.getElem?_cons_zero]; rfl) (fun K hK => ?_) (AllReady.cons (by simp only [List.getElem?_toArray, List.getElem?_cons_succ, List.getElem?_cons_zero]; rfl) (fun K hK => ?_) AllReady.nil))
        · have HK := Lib.hid hK
          clear hK
          go_simp
          refine HK.out _ _ ?_
          clear HK K
          try simp only [Act.put, List.setIfInBounds_toArray, List.set_cons_zero, List.set_cons_succ]
          refine wpAny_ready (rs := [6]) (by kernel_rfl) (by simp) ?_
          refine (AllReady.cons (by simp only [List.getElem?_toArray, List.getElem?_cons_succ, List.getElem?_cons_zero]; rfl) (fun K hK => ?_) AllReady.nil)
          have HK := Lib.hid hK
          clear hK
          refine step_build_hash (E := [h]) (by rfl) (by rfl) (H32.one HH.out) rfl (by simp) (by simp) ?hv ?_
          case hv => simp [Act.eval, hv]
          refine HK.out _ _ ?_
          clear HK K
          try simp only [Act.put, List.setIfInBounds_toArray, List.set_cons_zero, List.set_cons_succ]
          refine wpAny_ready (rs := [7]) (by kernel_rfl) (by simp) ?_
          refine (AllReady.cons (by simp only [List.getElem?_toArray, List.getElem?_cons_succ, List.getElem?_cons_zero]; rfl) (fun K hK => ?_) AllReady.nil)
          have HK := Lib.hid hK
          clear hK
          refine step_append_lies _ (by rfl) (.tmp 36) (.tmp 38) _ (by rfl) B 33 i0 _ 32 32 Tryd.underlying28 hi0 hz0 hz1 hz2 rfl (by omega) (.slice p k.length cap) k.length _ (by rfl) (HKO2.out.alloc _) ⟨wr.drew.heap.size, 0, none⟩ 1 1 (fl [h]) (by rfl) (by rw [fl_one, usn_length, HH.out]) (news_fl wr.drew [h]) (fl_one' [h]) (by decide) HF1.out.1 HF1.out.2 (Nat.le_trans HBS.out (by simp)) (wr.drew.heap.size + 1) (by simp) ?_
          intro gg cap6 w6 own6 grow6 _ _
          obtain ⟨t1, t2, t3, t4⟩ := KX.seth (W := wr) (W1 := wr.drew) (o := .cells (fl [h]).toArray 33) HX.out ⟨rfl, rfl, rfl, Nat.le_refl _, fun _ _ => rfl⟩ (Nat.le_trans HBW.out BW.out.size) HH.out grow6 (by rw [HLK.out]; exact own6)
          rw [HLK.out] at t3 t4
          have T3 := Lib.hid t3
          have T4 := Lib.hid t4
          clear own6 grow6 t3 t4
          refine HK.out _ _ ?_
          clear HK K
          try simp only [Act.put, List.setIfInBounds_toArray, List.set_cons_zero, List.set_cons_succ]
          refine wpAny_take (i := 8) (v := ?_) (by simp only [List.getElem?_toArray, List.getElem?_cons_succ, List.getElem?_cons_zero]; rfl) (by kernel_rfl) (by kernel_rfl) (by kernel_rfl) (fun _ _ _ h => h) (Or.inl ⟨by rfl, ?_⟩) ?_
          rotate_left
          · intro w
            go_simp
            try with_reducible rfl
          try simp only [Act.put, List.setIfInBounds_toArray, List.set_cons_zero, List.set_cons_succ]
          refine wpAny_take (i := 9) (v := ?_) (by simp only [List.getElem?_toArray, List.getElem?_cons_succ, List.getElem?_cons_zero]; rfl) (by kernel_rfl) (by kernel_rfl) (by kernel_rfl) (fun _ _ _ h => h) (Or.inl ⟨by rfl, ?_⟩) ?_
          rotate_left
          · intro w
            go_simp
            try with_reducible rfl
          try simp only [Act.put, List.setIfInBounds_toArray, List.set_cons_zero, List.set_cons_succ]
          refine wpAny_ready (rs := [10]) (by kernel_rfl) (by simp) ?_
          refine (AllReady.cons (by simp only [List.getElem?_toArray, List.getElem?_cons_succ, List.getElem?_cons_zero]; rfl) (fun K hK => ?_) AllReady.nil)
          have HK := Lib.hid hK
          clear hK
          go_simp
          refine HK.out _ _ ?_
          clear HK K
          try simp only [Act.put, List.setIfInBounds_toArray, List.set_cons_zero, List.set_cons_succ]
          refine wpAny_done (by kernel_rfl) ?_ _
          refine NoPanic.normal ?_
          clear c0 c0d c0a c0b l2 t1 t2
          obtain ⟨W1, hW1⟩ : ∃ W1, W1 = w6.setCell ⟨kb, 0, none⟩ (.slice (some ⟨gg, 0, none⟩) (k.length + 1) cap6) := ⟨_, rfl⟩
          rw [← hW1] at T3 T4 ⊢
          clear hW1
          have HB2 : Hid (Below B w W1) := Lib.hid ((BW.out.mono HBW.out).trans T3.out.1)
          have d0 := T4.out.c1
          have HNO : Hid (NOwn W1 B (.slice q k.length cq) (nums k)) := Lib.hid T4.out.ns
          have hno := HNO.out
          unfold NOwn at hno
          rw [HLN.out] at hno
          have HNO2 := Lib.hid hno
          have HBS2 : Hid (B ≤ W1.heap.size) := Lib.hid (Nat.le_trans HBW.out HB2.out.size)
          clear hno HNO
          go_wp2_with (at_builtin; refine wpList_append_lies _ (by rfl) (.tmp 46) (.tmp 48) _ (by rfl) B 3 j0 _ 1 8 Tryd.underlying23 hj0 hy0 hy1 hy2 rfl (by omega) (.slice q k.length cq) k.length _ (by rfl) (HNO2.out.alloc _) ⟨W1.heap.size, 0, none⟩ 1 1 [.int .i64 n] (by rfl) (by rfl) (World.news_of_block (cs := #[.int .i64 n]) (t := 3) (fr := (0, 0)) (heap_alloc_new W1 _)) (by simp [Value.oneCell']) (by decide) HF2.out.1 HF2.out.2 (Nat.le_trans HBS2.out (by simp)) (W1.heap.size + 1) (by simp) ?_; intro gl cap7 w7 own7 grow7 _ _; obtain ⟨t1, t2, t3, t4⟩ := KX.setl (W := W1) (W1 := W1) (x := n) (o := .cells #[.int .i64 n] 3) T4.out (Below.refl _ _) (Nat.le_trans HBW.out HB2.out.size) grow7 (by rw [HLN.out]; exact own7); rw [HLN.out] at t3 t4; have T5 := Lib.hid t3; have T6 := Lib.hid t4; clear own7 grow7 t3 t4)
          go_end0
          exact ⟨rfl, ⟨_, _, by rw [HK12.out.1, HK12.out.2]; exact T6.out⟩, HB2.out.trans T5.out.1, ((Only.of_below (S := fun _ => False) BW.out).trans T3.out.2 (U := fun j => j = kb ∨ (Value.slice p k.length cap).ownBlock = some j ∨ (Value.slice q k.length cq).ownBlock = some j) (fun _ e => e.elim) (fun _ _ e => e.imp id .inl)).trans T5.out.2 (fun _ e => e) (fun _ _ e => e.imp id .inr)⟩
        · have HK := Lib.hid hK
          clear hK
          refine step_build_hash (E := [h]) (by rfl) (by rfl) (H32.one HH.out) rfl (by simp) (by simp) ?hv ?_
          case hv => simp [Act.eval, hv]
          refine HK.out _ _ ?_
          clear HK K
          try simp only [Act.put, List.setIfInBounds_toArray, List.set_cons_zero, List.set_cons_succ]
          refine wpAny_ready (rs := [4]) (by kernel_rfl) (by simp) ?_
          refine (AllReady.cons (by simp only [List.getElem?_toArray, List.getElem?_cons_succ, List.getElem?_cons_zero]; rfl) (fun K hK => ?_) AllReady.nil)
          have HK := Lib.hid hK
          clear hK
          go_simp
          refine HK.out _ _ ?_
          clear HK K
          try simp only [Act.put, List.setIfInBounds_toArray, List.set_cons_zero, List.set_cons_succ]
          refine wpAny_ready (rs := [7]) (by kernel_rfl) (by simp) ?_
          refine (AllReady.cons (by simp only [List.getElem?_toArray, List.getElem?_cons_succ, List.getElem?_cons_zero]; rfl) (fun K hK => ?_) AllReady.nil)
          have HK := Lib.hid hK
          clear hK
          refine step_append_lies _ (by rfl) (.tmp 36) (.tmp 38) _ (by rfl) B 33 i0 _ 32 32 Tryd.underlying28 hi0 hz0 hz1 hz2 rfl (by omega) (.slice p k.length cap) k.length _ (by rfl) (HKO2.out.alloc _) ⟨wr.drew.heap.size, 0, none⟩ 1 1 (fl [h]) (by rfl) (by rw [fl_one, usn_length, HH.out]) (news_fl wr.drew [h]) (fl_one' [h]) (by decide) HF1.out.1 HF1.out.2 (Nat.le_trans HBS.out (by simp)) (wr.drew.heap.size + 1) (by simp) ?_
          intro gg cap6 w6 own6 grow6 _ _
          obtain ⟨t1, t2, t3, t4⟩ := KX.seth (W := wr) (W1 := wr.drew) (o := .cells (fl [h]).toArray 33) HX.out ⟨rfl, rfl, rfl, Nat.le_refl _, fun _ _ => rfl⟩ (Nat.le_trans HBW.out BW.out.size) HH.out grow6 (by rw [HLK.out]; exact own6)
          rw [HLK.out] at t3 t4
          have T3 := Lib.hid t3
          have T4 := Lib.hid t4
          clear own6 grow6 t3 t4
          refine HK.out _ _ ?_
          clear HK K
          try simp only [Act.put, List.setIfInBounds_toArray, List.set_cons_zero, List.set_cons_succ]
          refine wpAny_take (i := 8) (v := ?_) (by simp only [List.getElem?_toArray, List.getElem?_cons_succ, List.getElem?_cons_zero]; rfl) (by kernel_rfl) (by kernel_rfl) (by kernel_rfl) (fun _ _ _ h => h) (Or.inl ⟨by rfl, ?_⟩) ?_
          rotate_left
          · intro w
            go_simp
            try with_reducible rfl
          try simp only [Act.put, List.setIfInBounds_toArray, List.set_cons_zero, List.set_cons_succ]
          refine wpAny_take (i := 9) (v := ?_) (by simp only [List.getElem?_toArray, List.getElem?_cons_succ, List.getElem?_cons_zero]; rfl) (by kernel_rfl) (by kernel_rfl) (by kernel_rfl) (fun _ _ _ h => h) (Or.inl ⟨by rfl, ?_⟩) ?_
          rotate_left
          · intro w
            go_simp
            try with_reducible rfl
          try simp only [Act.put, List.setIfInBounds_toArray, List.set_cons_zero, List.set_cons_succ]
          refine wpAny_ready (rs := [10]) (by kernel_rfl) (by simp) ?_
          refine (AllReady.cons (by simp only [List.getElem?_toArray, List.getElem?_cons_succ, List.getElem?_cons_zero]; rfl) (fun K hK => ?_) AllReady.nil)
          have HK := Lib.hid hK
          clear hK
          go_simp
          refine HK.out _ _ ?_
          clear HK K
          try simp only [Act.put, List.setIfInBounds_toArray, List.set_cons_zero, List.set_cons_succ]
          refine wpAny_done (by kernel_rfl) ?_ _
          refine NoPanic.normal ?_
          clear c0 c0d c0a c0b l2 t1 t2
          obtain ⟨W1, hW1⟩ : ∃ W1, W1 = w6.setCell ⟨kb, 0, none⟩ (.slice (some ⟨gg, 0, none⟩) (k.length + 1) cap6) := ⟨_, rfl⟩
          rw [← hW1] at T3 T4 ⊢
          clear hW1
          have HB2 : Hid (Below B w W1) := Lib.hid ((BW.out.mono HBW.out).trans T3.out.1)
          have d0 := T4.out.c1
          have HNO : Hid (NOwn W1 B (.slice q k.length cq) (nums k)) := Lib.hid T4.out.ns
          have hno := HNO.out
          unfold NOwn at hno
          rw [HLN.out] at hno
          have HNO2 := Lib.hid hno
          have HBS2 : Hid (B ≤ W1.heap.size) := Lib.hid (Nat.le_trans HBW.out HB2.out.size)
          clear hno HNO
          go_wp2_with (at_builtin; refine wpList_append_lies _ (by rfl) (.tmp 46) (.tmp 48) _ (by rfl) B 3 j0 _ 1 8 Tryd.underlying23 hj0 hy0 hy1 hy2 rfl (by omega) (.slice q k.length cq) k.length _ (by rfl) (HNO2.out.alloc _) ⟨W1.heap.size, 0, none⟩ 1 1 [.int .i64 n] (by rfl) (by rfl) (World.news_of_block (cs := #[.int .i64 n]) (t := 3) (fr := (0, 0)) (heap_alloc_new W1 _)) (by simp [Value.oneCell']) (by decide) HF2.out.1 HF2.out.2 (Nat.le_trans HBS2.out (by simp)) (W1.heap.size + 1) (by simp) ?_; intro gl cap7 w7 own7 grow7 _ _; obtain ⟨t1, t2, t3, t4⟩ := KX.setl (W := W1) (W1 := W1) (x := n) (o := .cells #[.int .i64 n] 3) T4.out (Below.refl _ _) (Nat.le_trans HBW.out HB2.out.size) grow7 (by rw [HLN.out]; exact own7); rw [HLN.out] at t3 t4; have T5 := Lib.hid t3; have T6 := Lib.hid t4; clear own7 grow7 t3 t4)
          go_end0
          exact ⟨rfl, ⟨_, _, by rw [HK12.out.1, HK12.out.2]; exact T6.out⟩, HB2.out.trans T5.out.1, ((Only.of_below (S := fun _ => False) BW.out).trans T3.out.2 (U := fun j => j = kb ∨ (Value.slice p k.length cap).ownBlock = some j ∨ (Value.slice q k.length cq).ownBlock = some j) (fun _ e => e.elim) (fun _ _ e => e.imp id .inl)).trans T5.out.2 (fun _ e => e) (fun _ _ e => e.imp id .inr)⟩
end Go.Proofs.YtbpccbhlggcmfaaDoor
