/- The hand's Request: some commits, some heads. No condition but of what came in. -/
import Derived.Test.YthfkmfepeafgjaaHndU
import Derived.Deep.CutBlock
import Derived.Deep.CutRange
namespace Go.Proofs.Ythfkmfepeafgjaa
open Go.RowKit Go.Extern.Stop Go.Stop Go.Extern
open Go.Maps

set_option linter.unusedSimpArgs false in
set_option maxRecDepth 20000 in
set_option maxHeartbeats 16000000 in
attribute [local go_sem ↓] hld_open cld_open in
theorem request_to (w : World) (vL vH : Value) (grp how : Int) (R : List Rw) (Hs : List Int) (hL : RwSeen w vL R) (hH : ISeen w vH Hs) :
    Calls Try.prog 34 #[.agg #[vL, vH, .int .i64 grp, .int .i64 how]] w (RqPost w) := by
  obtain ⟨pL, cL, rfl, hLx⟩ := id hL
  obtain ⟨pH, cH, rfl⟩ := hH.shape'
  obtain ⟨nL, hnL⟩ : ∃ n, n = R.length := ⟨_, rfl⟩
  obtain ⟨nH, hnH⟩ : ∃ n, n = Hs.length := ⟨_, rfl⟩
  rw [← hnL] at hL ⊢
  rw [← hnH] at hH ⊢
  have HL := Lib.hid hL
  have HH := Lib.hid hH
  have HNL := Lib.hid hnL
  have HNH := Lib.hid hnH
  clear hL hH hnL hnH hLx
  have HP := Lib.hid (fun W : World => pick_any W grp 2 (by decide) (by decide))
  go_enter Try.func34, Try.ntmps34
  go_upto_block 0 with (go_at_call 24; refine (HP.out _).mono ?_; rintro e w1 ⟨rfl, rfl⟩)
  generalize hg : 1 + grp % 2 = g at *
  have hbel : Below w.heap.size w (((w.alloc (.cells #[.slice pL nL cL, .slice pH nH cH, .int .i64 grp, .int .i64 how] 68)).alloc (.cells #[.slice none 0 0, .slice none 0 0, .int .i64 0] 64)).alloc (.cells #[.slice none 0 0, .slice none 0 0, .int .i64 g] 64)) :=
    (((Below.refl w.heap.size w).alloc (Nat.le_refl _) _).alloc (by rw [al_size]; omega) _).alloc (by rw [al_size, al_size]; omega) _
  have hr3 := heap_alloc_last ((w.alloc (.cells #[.slice pL nL cL, .slice pH nH cH, .int .i64 grp, .int .i64 how] 68)).alloc (.cells #[.slice none 0 0, .slice none 0 0, .int .i64 0] 64)) (.cells #[.slice none 0 0, .slice none 0 0, .int .i64 g] 64)
  have hr2 := (mild_below (below_al11 ((w.alloc (.cells #[.slice pL nL cL, .slice pH nH cH, .int .i64 grp, .int .i64 how] 68)).alloc (.cells #[.slice none 0 0, .slice none 0 0, .int .i64 0] 64)) (.cells #[.slice none 0 0, .slice none 0 0, .int .i64 g] 64))).cells (heap_alloc_last (w.alloc (.cells #[.slice pL nL cL, .slice pH nH cH, .int .i64 grp, .int .i64 how] 68)) (.cells #[.slice none 0 0, .slice none 0 0, .int .i64 0] 64))
  have hr1 := (mild_below (below_al11 ((w.alloc (.cells #[.slice pL nL cL, .slice pH nH cH, .int .i64 grp, .int .i64 how] 68)).alloc (.cells #[.slice none 0 0, .slice none 0 0, .int .i64 0] 64)) (.cells #[.slice none 0 0, .slice none 0 0, .int .i64 g] 64))).cells ((mild_below (below_al11 (w.alloc (.cells #[.slice pL nL cL, .slice pH nH cH, .int .i64 grp, .int .i64 how] 68)) (.cells #[.slice none 0 0, .slice none 0 0, .int .i64 0] 64))).cells (heap_alloc_last w (.cells #[.slice pL nL cL, .slice pH nH cH, .int .i64 grp, .int .i64 how] 68)))
  rw [al_size, al_size] at hr3
  rw [al_size] at hr2
  obtain ⟨B, hB⟩ : ∃ B, B = w.heap.size := ⟨_, rfl⟩
  have HRZ : Hid (B ≤ w.heap.size + 1) := Lib.hid (by omega)
  have X1 : Hid (XS w (((w.alloc (.cells #[.slice pL nL cL, .slice pH nH cH, .int .i64 grp, .int .i64 how] 68)).alloc (.cells #[.slice none 0 0, .slice none 0 0, .int .i64 0] 64)).alloc (.cells #[.slice none 0 0, .slice none 0 0, .int .i64 g] 64)) B w.heap.size (w.heap.size + 1) (w.heap.size + 1 + 1) (.slice pL nL cL) (.slice pH nH cH) grp how) :=
    Lib.hid ⟨hB ▸ hbel, hB, hr1, hr2, by omega⟩
  have R1 : Hid (RI (((w.alloc (.cells #[.slice pL nL cL, .slice pH nH cH, .int .i64 grp, .int .i64 how] 68)).alloc (.cells #[.slice none 0 0, .slice none 0 0, .int .i64 0] 64)).alloc (.cells #[.slice none 0 0, .slice none 0 0, .int .i64 g] 64)) B (w.heap.size + 1 + 1) (.slice none 0 0) (.slice none 0 0) g [] [] []) :=
    Lib.hid (RI.mk hr3 (by omega) (World.ownsRow_nil _ _ _ _) rfl (fun i c d h => by simp at h) (fun c h => by cases h) (World.ownsRow_nil _ _ _ _) H32.nil)
  clear hr1 hr2 hr3 hbel hB hg
  generalize ((w.alloc (.cells #[.slice pL nL cL, .slice pH nH cH, .int .i64 grp, .int .i64 how] 68)).alloc (.cells #[.slice none 0 0, .slice none 0 0, .int .i64 0] 64)).alloc (.cells #[.slice none 0 0, .slice none 0 0, .int .i64 g] 64) = W1 at *
  generalize w.heap.size + 1 + 1 = rb at *
  generalize w.heap.size + 1 = rz at *
  generalize w.heap.size = bx at *
  go_cut [4, 5, 6, 7, 8, 9, 10] from 24 to 118 (fun _ _ _ _ _ _ _ wr => ∃ (pc : Option Addr) (nC cc : Nat) (C : Cv) (cs : List Cm), nC ≤ 12 ∧ Hid (nC = C.length) ∧ Hid (RI wr B rb (.slice pc nC cc) (.slice none 0 0) g C cs []) ∧ Hid (XS w wr B bx rz rb (.slice pL nL cL) (.slice pH nH cH) grp how))
  case first =>
    go_wp2_with fail
    go_loopw [4] (fun s wr => ∃ (i : Nat) (pc : Option Addr) (nC cc : Nat) (C : Cv) (cs : List Cm), s = .int .i64 i ∧ i ≤ nL ∧ i ≤ 12 ∧ nC ≤ i ∧ Hid (nC = C.length) ∧ Hid (RI wr B rb (.slice pc nC cc) (.slice none 0 0) g C cs []) ∧ Hid (XS w wr B bx rz rb (.slice pL nL cL) (.slice pH nH cH) grp how))
      (fun s _ => 12 - (intOf s).toNat)
    case atStart => exact ⟨0, none, 0, 0, [], [], rfl, Nat.zero_le _, Nat.zero_le _, Nat.le_refl _, Lib.hid rfl, R1, X1⟩
    case round =>
      clear R1 X1
      obtain ⟨i, pc, nC, cc, C, cs, rfl, hi, hi2, hcl, HNC, RR, XX⟩ := hrel
      have HNI := Lib.hid hcl
      clear hcl
      obtain ⟨x0, x1, x2, x3⟩ := XX.out.c
      by_cases hlt : i < nL ∧ i < 12
      · obtain ⟨h1, h2⟩ := hlt
        have hl1 : (i : Int) < nL := by omega
        have hl2 : (i : Int) < 12 := by omega
        have hl0 : (0 : Int) ≤ i := by omega
        have hi1 : wrap64 ((i : Int) + 1) = ((i + 1 : Nat) : Int) := by unfold wrap64; omega
        have NCB : Hid (nC ≤ 1000000) := Lib.hid (by have := HNI.out; omega)
        have HI12 := Lib.hid h2
        have HINL := Lib.hid h1
        obtain ⟨p', cap', e1, hx⟩ := HL.out.kb XX.out.of
        injection e1 with e1 e2 e3
        subst e1
        have hiR : i < R.length := by rw [← HNL.out]; exact h1
        obtain ⟨b, o, rfl, hrg, hps⟩ := hx i _ (List.getElem?_eq_getElem hiR)
        generalize R[i] = y at hrg hps
        obtain ⟨yn, yh, yp, yl⟩ := y
        obtain ⟨c0, c1, c2⟩ := ld_rw hrg
        obtain ⟨q, cq, hq0⟩ := hps.shape'
        obtain ⟨ny, hny⟩ : ∃ n, n = yl.length := ⟨_, rfl⟩
        have hq : yp = .slice q ny cq := by rw [hny]; exact hq0
        clear hq0
        subst hq
        dsimp only at c0 c1 c2
        have hps : ISeen wr (.slice q ny cq) yl := hps
        have HNY := Lib.hid hny
        clear hny
        have HPS := Lib.hid hps
        clear hrg hps e2 e3 hx
        have HPY := Lib.hid (fun W : World => pick_any W yn 60 (by decide) (by decide))
        have hn0 : 0 ≤ yn % 60 := Int.emod_nonneg _ (by decide)
        have hn1 : yn % 60 < 60 := Int.emod_lt_of_pos _ (by decide)
        have RW := Lib.hid XX.out.of
        go_wp2_with (go_at_call 24; refine (HPY.out _).mono ?_; rintro e w1 ⟨rfl, rfl⟩)
        generalize hn60 : yn % 60 = n60 at *
        have HN0 := Lib.hid hn0
        have HN1 := Lib.hid hn1
        clear hn60 hn0 hn1
        have b1 := below_al11 wr (.cells #[.int .i64 yn, .int .i64 yh, .slice q ny cq] 96)
        have hy1 := heap_alloc_last wr (.cells #[.int .i64 yn, .int .i64 yh, .slice q ny cq] 96)
        generalize wr.alloc (.cells #[.int .i64 yn, .int .i64 yh, .slice q ny cq] 96) = w1 at *
        refine (hash_to _ n60).mono ?_
        rintro e w2 ⟨rfl, b2⟩
        obtain ⟨h, hh'⟩ : ∃ h, h = hh n60 := ⟨_, rfl⟩
        have hh32 : h.length = 32 := by rw [hh']; exact hh_length _
        rw [← hh']
        have BB2 : Below wr.heap.size wr w2 := b1.trans (b2.mono b1.size)
        have hy2 := (mild_below b2).cells hy1
        have st := cst_cells h (.slice none 0 0) hh32 rfl w2
        have hks : (cmv h (.slice none 0 0)).size = 33 := cmv_size hh32 _
        have HH32 := Lib.hid hh32
        have Y3 : Hid (Below wr.heap.size wr (w2.alloc (.cells (cmv h (.slice none 0 0)) 49)) ∧ (w2.alloc (.cells (cmv h (.slice none 0 0)) 49)).heap[wr.heap.size]? = some (.cells #[.int .i64 yn, .int .i64 yh, .slice q ny cq] 96 (0, 0)) ∧ CI (w2.alloc (.cells (cmv h (.slice none 0 0)) 49)) wr.heap.size w2.heap.size h (.slice none 0 0) []) :=
          Lib.hid ⟨BB2.alloc BB2.size _, (mild_below (below_al11 w2 _)).cells hy2, heap_alloc_last w2 _, World.ownsRow_nil _ _ _ _, BB2.size, H32.nil, hh32⟩
        clear b1 b2 hh' hy1 hy2 BB2 hh32
        go_wp2_with (refine build_w (t := 49) (vals := #[(0, .agg (hv h))]) (built_commit0 h HH32.out) ?hv ?hw ?_; (case hv => first | rfl | simp [Act.put, Act.eval]); (case hw => first | rfl | simp [Region.wanted, yielded]))
        generalize w2.alloc (.cells (cmv h (.slice none 0 0)) 49) = W2 at *
        generalize w2.heap.size = cb at *
        clear st hks
        refine (ahead_to _ n60 HN0.out HN1.out).mono ?_
        rintro e w3 ⟨v8, l8, rfl, hl8, o8, b3⟩
        obtain ⟨p8, c8, hv8⟩ := (IOwns.seen o8).shape'
        subst hv8
        obtain ⟨n8, hn8⟩ : ∃ n, n = l8.length := ⟨_, rfl⟩
        have Y3B : Hid (YB w3 wr wr.heap.size #[.int .i64 yn, .int .i64 yh, .slice q ny cq] 96 W2.heap.size (.slice p8 l8.length c8) l8) := Lib.hid ⟨Y3.out.1.trans (b3.mono Y3.out.1.size), (mild_below b3).cells Y3.out.2.1, by decide, o8⟩
        have C3 : Hid (CI w3 wr.heap.size cb h (.slice none 0 0) []) := Lib.hid (Y3.out.2.2.kb b3)
        rw [← hn8] at Y3B hl8 ⊢
        have HN8 := Lib.hid hn8
        have HL8 := Lib.hid hl8
        clear Y3 o8 b3 hn8 hl8
        generalize W2.heap.size = B8 at *
        go_wp2_with fail
        have RR0 := Lib.hid RR.out
        have XX0 := Lib.hid XX.out
        generalize wr = W0 at *
        go_loopw [9] (fun s wq => ∃ (j : Nat) (p : Option Addr) (c m : Nat) (ps : List Key), s = .int .i64 j ∧ j ≤ n8 ∧ Hid (m = ps.length) ∧ m ≤ j ∧ Hid (CI wq W0.heap.size cb h (.slice p m c) ps) ∧ Hid (YB wq W0 W0.heap.size #[.int .i64 yn, .int .i64 yh, .slice q ny cq] 96 B8 (.slice p8 n8 c8) l8))
          (fun s _ => n8 - (intOf s).toNat)
        case atStart => exact ⟨0, none, 0, 0, [], rfl, Nat.zero_le _, Lib.hid rfl, Nat.le_refl _, C3, Y3B⟩
        case round =>
          clear C3 Y3B
          obtain ⟨j, p, c, m, ps, rfl, hj, HM, hmj, CC, YY⟩ := hrel
          by_cases hlt : j < n8
          · have HJ := Lib.hid hlt
            have hj1 : wrap64 ((j : Int) + 1) = ((j + 1 : Nat) : Int) := by have := HL8.out; unfold wrap64; omega
            have hjl : (j : Int) < n8 := by omega
            have HMJ := Lib.hid hmj
            have HM2 : Hid (m ≤ 2) := Lib.hid (by have := HL8.out; omega)
            obtain ⟨x, hx⟩ : ∃ x, l8[j]? = some x := ⟨l8[j]'(by rw [← HN8.out]; exact hlt), List.getElem?_eq_getElem _⟩
            obtain ⟨a8, rfl, hc0⟩ := (IOwns.seen YY.out.p).at' hx
            have HX := Lib.hid hx
            clear hx hj hmj
            go_wp2_with fail
            have bq : Below wr.heap.size wr wr.drew := blw_qt _ 1 wr
            have CC := Lib.hid (CC.out.kb bq)
            have YY := Lib.hid (YY.out.kb bq)
            clear bq
            try simp only [List.append]
            refine wp_region_noPanic ?_
            refine wp_region_held_drew (S := (fun V => V.cell? (a8.add j) = some (.int .i64 x))) (by kernel_rfl) ((IOwns.seen YY.out.p).cell' HX.out) (fun hHeld => ?_)
            generalize wr.drew = v1 at *
            refine wpAnyH_take (i := 0) (v := ?_) (by simp only [List.getElem?_toArray, List.getElem?_cons_zero]; rfl) (by kernel_rfl) (by kernel_rfl) (by kernel_rfl) (fun _ _ _ h => h) (Or.inl ⟨by rfl, ?_⟩) (by assumption) ?_
            rotate_left
            · intro w hSw
              try dsimp only at hSw
              go_simp
              try with_reducible rfl
            try simp only [Act.put, List.setIfInBounds_toArray, List.set_cons_zero, List.set_cons_succ]
            refine wpAnyH_take (i := 2) (v := ?_) (by simp only [List.getElem?_toArray, List.getElem?_cons_succ, List.getElem?_cons_zero]; rfl) (by kernel_rfl) (by kernel_rfl) (by kernel_rfl) (fun _ _ _ h => h) (Or.inl ⟨by rfl, ?_⟩) (by assumption) ?_
            rotate_left
            · intro w hSw
              try dsimp only at hSw
              go_simp
              try with_reducible rfl
            try simp only [Act.put, List.setIfInBounds_toArray, List.set_cons_zero, List.set_cons_succ]
            refine wpAnyH_take (i := 3) (v := ?_) (by simp only [List.getElem?_toArray, List.getElem?_cons_succ, List.getElem?_cons_zero]; rfl) (by kernel_rfl) (by kernel_rfl) (by kernel_rfl) (fun _ _ _ h => h) (Or.inl ⟨by rfl, ?_⟩) (by assumption) ?_
            rotate_left
            · intro w hSw
              try dsimp only at hSw
              go_simp
              try with_reducible rfl
            try simp only [Act.put, List.setIfInBounds_toArray, List.set_cons_zero, List.set_cons_succ]
            refine wpAnyH_take (i := 4) (v := ?_) (by simp only [List.getElem?_toArray, List.getElem?_cons_succ, List.getElem?_cons_zero]; rfl) (by kernel_rfl) (by kernel_rfl) (by kernel_rfl) (fun _ _ _ h => h) (Or.inl ⟨by rfl, ?_⟩) (by assumption) ?_
            rotate_left
            · intro w hSw
              try dsimp only at hSw
              go_simp
              try with_reducible rfl
            try simp only [Act.put, List.setIfInBounds_toArray, List.set_cons_zero, List.set_cons_succ]
            refine wpAnyH_take (i := 5) (v := ?_) (by simp only [List.getElem?_toArray, List.getElem?_cons_succ, List.getElem?_cons_zero]; rfl) (by kernel_rfl) (by kernel_rfl) (by kernel_rfl) (fun _ _ _ h => h) (Or.inl ⟨by rfl, ?_⟩) (by assumption) ?_
            rotate_left
            · intro w hSw
              try dsimp only at hSw
              go_simp
              try with_reducible rfl
            try simp only [Act.put, List.setIfInBounds_toArray, List.set_cons_zero, List.set_cons_succ]
            refine wpAnyH_ready (rs := [1, 6]) (by kernel_rfl) (by simp) ?_
            refine (AllReadyH.cons (by simp only [List.getElem?_toArray, List.getElem?_cons_succ, List.getElem?_cons_zero]; rfl) (fun K hK => ?_) (AllReadyH.cons (by simp only [List.getElem?_toArray, List.getElem?_cons_succ, List.getElem?_cons_zero]; rfl) (fun K hK => ?_) AllReadyH.nil))
            · have cL := CC.out.par
              go_simp
              clear cL
              refine hK.out _ _ ((IOwns.seen YY.out.p).cell' HX.out) (fun hHeld => ?_)
              clear hK K
              try simp only [Act.put, List.setIfInBounds_toArray, List.set_cons_zero, List.set_cons_succ]
              refine wpAnyH_ready (rs := [6]) (by kernel_rfl) (by simp) ?_
              refine (AllReadyH.cons (by simp only [List.getElem?_toArray, List.getElem?_cons_succ, List.getElem?_cons_zero]; rfl) (fun K hK => ?_) AllReadyH.nil)
              go_simp
              refine (hash_to _ x).mono ?_
              rintro e v2 ⟨rfl, bb⟩
              have CC := Lib.hid (CC.out.kb bb)
              have YY := Lib.hid (YY.out.kb bb)
              clear bb
              go_wp2_with fail
              refine hK.out _ _ ((IOwns.seen YY.out.p).cell' HX.out) (fun hHeld => ?_)
              clear hK K
              try simp only [Act.put, List.setIfInBounds_toArray, List.set_cons_zero, List.set_cons_succ]
              refine wpAnyH_ready (rs := [7]) (by kernel_rfl) (by simp) ?_
              refine (AllReadyH.cons (by simp only [List.getElem?_toArray, List.getElem?_cons_succ, List.getElem?_cons_zero]; rfl) (fun K hK => ?_) AllReadyH.nil)
              refine step_sl1 (hh x) (hh_length x) (by rfl) (by rfl) ?_
              have HB7 := Lib.hid (heap_alloc_last v2 (.cells (hv (hh x)) 28))
              have CC := Lib.hid (CC.out.kb (below_al11 v2 (.cells (hv (hh x)) 28)))
              have YY := Lib.hid (YY.out.kb (below_al11 v2 (.cells (hv (hh x)) 28)))
              generalize v2.alloc (.cells (hv (hh x)) 28) = v3 at *
              generalize v2.heap.size = b7 at *
              refine hK.out _ _ ((IOwns.seen YY.out.p).cell' HX.out) (fun hHeld => ?_)
              clear hK K
              try simp only [Act.put, List.setIfInBounds_toArray, List.set_cons_zero, List.set_cons_succ]
              refine wpAnyH_ready (rs := [8]) (by kernel_rfl) (by simp) ?_
              refine (AllReadyH.cons (by simp only [List.getElem?_toArray, List.getElem?_cons_succ, List.getElem?_cons_zero]; rfl) (fun K hK => ?_) AllReadyH.nil)
              refine step_pushh rfl _ _ rfl W0.heap.size (.slice p m c) ps b7 (hh x) (hh_length x) (by rfl) CC.out.own (by rfl) HB7.out (by rw [← HM.out]; have := HM2.out; omega) YY.out.bel.size (m + 1) (by rw [HM.out]) ?_
              intro p9 c9 v4 o9 oth9 loc9
              have hpush := CC.out.push o9 oth9 (hh_length x)
              have hc9 := cm_cell CC.out.hh (CC.out.mid oth9)
              have hf9 : v4.frozen? ⟨cb, 32, none⟩ = false := frozen_of_row _ _ _ _ _ (CC.out.mid oth9)
              have YH := Lib.hid (YY.out.half CC.out oth9)
              have CN := Lib.hid hpush.1
              have YN := Lib.hid (YY.out.far CC.out hpush.2)
              clear hpush o9 oth9 loc9
              refine hK.out _ _ ((IOwns.seen YH.out.p).cell' HX.out) (fun hHeld => ?_)
              clear hK K
              try simp only [Act.put, List.setIfInBounds_toArray, List.set_cons_zero, List.set_cons_succ]
              refine wpAnyH_take (i := 9) (v := ?_) (by simp only [List.getElem?_toArray, List.getElem?_cons_succ, List.getElem?_cons_zero]; rfl) (by kernel_rfl) (by kernel_rfl) (by kernel_rfl) (fun _ _ _ h => h) (Or.inl ⟨by rfl, ?_⟩) (by assumption) ?_
              rotate_left
              · intro w hSw
                try dsimp only at hSw
                go_simp
                try with_reducible rfl
              try simp only [Act.put, List.setIfInBounds_toArray, List.set_cons_zero, List.set_cons_succ]
              refine wpAnyH_ready (rs := [10]) (by kernel_rfl) (by simp) ?_
              refine (AllReadyH.cons (by simp only [List.getElem?_toArray, List.getElem?_cons_succ, List.getElem?_cons_zero]; rfl) (fun K hK => ?_) AllReadyH.nil)
              go_simp
              generalize v4.setCell ⟨cb, 32, none⟩ (.slice p9 (m + 1) c9) = v5 at *
              refine hK.out _ _ ((IOwns.seen YN.out.p).cell' HX.out) (fun hHeld => ?_)
              clear hK K
              try simp only [Act.put, List.setIfInBounds_toArray, List.set_cons_zero, List.set_cons_succ]
              refine wpAnyH_done (by kernel_rfl) ?_ _
              refine NoPanic.normal ?_
              go_wp2_with fail
              refine ⟨⟨j + 1, p9, c9, m + 1, ps ++ [hh x], by rw [hj1], HJ.out, Lib.hid (by rw [HM.out, List.length_append]; rfl), Nat.succ_le_succ HMJ.out, CN, YN⟩, ?_⟩
              rw [hj1]; simp only [intOf]; have := HJ.out; omega
            · go_simp
              refine (hash_to _ x).mono ?_
              rintro e v2 ⟨rfl, bb⟩
              have CC := Lib.hid (CC.out.kb bb)
              have YY := Lib.hid (YY.out.kb bb)
              clear bb
              go_wp2_with fail
              refine hK.out _ _ ((IOwns.seen YY.out.p).cell' HX.out) (fun hHeld => ?_)
              clear hK K
              try simp only [Act.put, List.setIfInBounds_toArray, List.set_cons_zero, List.set_cons_succ]
              refine wpAnyH_ready (rs := [1, 7]) (by kernel_rfl) (by simp) ?_
              refine (AllReadyH.cons (by simp only [List.getElem?_toArray, List.getElem?_cons_succ, List.getElem?_cons_zero]; rfl) (fun K hK => ?_) (AllReadyH.cons (by simp only [List.getElem?_toArray, List.getElem?_cons_succ, List.getElem?_cons_zero]; rfl) (fun K hK => ?_) AllReadyH.nil))
              · have cL := CC.out.par
                go_simp
                clear cL
                refine hK.out _ _ ((IOwns.seen YY.out.p).cell' HX.out) (fun hHeld => ?_)
                clear hK K
                try simp only [Act.put, List.setIfInBounds_toArray, List.set_cons_zero, List.set_cons_succ]
                refine wpAnyH_ready (rs := [7]) (by kernel_rfl) (by simp) ?_
                refine (AllReadyH.cons (by simp only [List.getElem?_toArray, List.getElem?_cons_succ, List.getElem?_cons_zero]; rfl) (fun K hK => ?_) AllReadyH.nil)
                refine step_sl1 (hh x) (hh_length x) (by rfl) (by rfl) ?_
                have HB7 := Lib.hid (heap_alloc_last v2 (.cells (hv (hh x)) 28))
                have CC := Lib.hid (CC.out.kb (below_al11 v2 (.cells (hv (hh x)) 28)))
                have YY := Lib.hid (YY.out.kb (below_al11 v2 (.cells (hv (hh x)) 28)))
                generalize v2.alloc (.cells (hv (hh x)) 28) = v3 at *
                generalize v2.heap.size = b7 at *
                refine hK.out _ _ ((IOwns.seen YY.out.p).cell' HX.out) (fun hHeld => ?_)
                clear hK K
                try simp only [Act.put, List.setIfInBounds_toArray, List.set_cons_zero, List.set_cons_succ]
                refine wpAnyH_ready (rs := [8]) (by kernel_rfl) (by simp) ?_
                refine (AllReadyH.cons (by simp only [List.getElem?_toArray, List.getElem?_cons_succ, List.getElem?_cons_zero]; rfl) (fun K hK => ?_) AllReadyH.nil)
                refine step_pushh rfl _ _ rfl W0.heap.size (.slice p m c) ps b7 (hh x) (hh_length x) (by rfl) CC.out.own (by rfl) HB7.out (by rw [← HM.out]; have := HM2.out; omega) YY.out.bel.size (m + 1) (by rw [HM.out]) ?_
                intro p9 c9 v4 o9 oth9 loc9
                have hpush := CC.out.push o9 oth9 (hh_length x)
                have hc9 := cm_cell CC.out.hh (CC.out.mid oth9)
                have hf9 : v4.frozen? ⟨cb, 32, none⟩ = false := frozen_of_row _ _ _ _ _ (CC.out.mid oth9)
                have YH := Lib.hid (YY.out.half CC.out oth9)
                have CN := Lib.hid hpush.1
                have YN := Lib.hid (YY.out.far CC.out hpush.2)
                clear hpush o9 oth9 loc9
                refine hK.out _ _ ((IOwns.seen YH.out.p).cell' HX.out) (fun hHeld => ?_)
                clear hK K
                try simp only [Act.put, List.setIfInBounds_toArray, List.set_cons_zero, List.set_cons_succ]
                refine wpAnyH_take (i := 9) (v := ?_) (by simp only [List.getElem?_toArray, List.getElem?_cons_succ, List.getElem?_cons_zero]; rfl) (by kernel_rfl) (by kernel_rfl) (by kernel_rfl) (fun _ _ _ h => h) (Or.inl ⟨by rfl, ?_⟩) (by assumption) ?_
                rotate_left
                · intro w hSw
                  try dsimp only at hSw
                  go_simp
                  try with_reducible rfl
                try simp only [Act.put, List.setIfInBounds_toArray, List.set_cons_zero, List.set_cons_succ]
                refine wpAnyH_ready (rs := [10]) (by kernel_rfl) (by simp) ?_
                refine (AllReadyH.cons (by simp only [List.getElem?_toArray, List.getElem?_cons_succ, List.getElem?_cons_zero]; rfl) (fun K hK => ?_) AllReadyH.nil)
                go_simp
                generalize v4.setCell ⟨cb, 32, none⟩ (.slice p9 (m + 1) c9) = v5 at *
                refine hK.out _ _ ((IOwns.seen YN.out.p).cell' HX.out) (fun hHeld => ?_)
                clear hK K
                try simp only [Act.put, List.setIfInBounds_toArray, List.set_cons_zero, List.set_cons_succ]
                refine wpAnyH_done (by kernel_rfl) ?_ _
                refine NoPanic.normal ?_
                go_wp2_with fail
                refine ⟨⟨j + 1, p9, c9, m + 1, ps ++ [hh x], by rw [hj1], HJ.out, Lib.hid (by rw [HM.out, List.length_append]; rfl), Nat.succ_le_succ HMJ.out, CN, YN⟩, ?_⟩
                rw [hj1]; simp only [intOf]; have := HJ.out; omega
              · refine step_sl1 (hh x) (hh_length x) (by rfl) (by rfl) ?_
                have HB7 := Lib.hid (heap_alloc_last v2 (.cells (hv (hh x)) 28))
                have CC := Lib.hid (CC.out.kb (below_al11 v2 (.cells (hv (hh x)) 28)))
                have YY := Lib.hid (YY.out.kb (below_al11 v2 (.cells (hv (hh x)) 28)))
                generalize v2.alloc (.cells (hv (hh x)) 28) = v3 at *
                generalize v2.heap.size = b7 at *
                refine hK.out _ _ ((IOwns.seen YY.out.p).cell' HX.out) (fun hHeld => ?_)
                clear hK K
                try simp only [Act.put, List.setIfInBounds_toArray, List.set_cons_zero, List.set_cons_succ]
                refine wpAnyH_ready (rs := [1]) (by kernel_rfl) (by simp) ?_
                refine (AllReadyH.cons (by simp only [List.getElem?_toArray, List.getElem?_cons_succ, List.getElem?_cons_zero]; rfl) (fun K hK => ?_) AllReadyH.nil)
                have cL := CC.out.par
                go_simp
                clear cL
                refine hK.out _ _ ((IOwns.seen YY.out.p).cell' HX.out) (fun hHeld => ?_)
                clear hK K
                try simp only [Act.put, List.setIfInBounds_toArray, List.set_cons_zero, List.set_cons_succ]
                refine wpAnyH_ready (rs := [8]) (by kernel_rfl) (by simp) ?_
                refine (AllReadyH.cons (by simp only [List.getElem?_toArray, List.getElem?_cons_succ, List.getElem?_cons_zero]; rfl) (fun K hK => ?_) AllReadyH.nil)
                refine step_pushh rfl _ _ rfl W0.heap.size (.slice p m c) ps b7 (hh x) (hh_length x) (by rfl) CC.out.own (by rfl) HB7.out (by rw [← HM.out]; have := HM2.out; omega) YY.out.bel.size (m + 1) (by rw [HM.out]) ?_
                intro p9 c9 v4 o9 oth9 loc9
                have hpush := CC.out.push o9 oth9 (hh_length x)
                have hc9 := cm_cell CC.out.hh (CC.out.mid oth9)
                have hf9 : v4.frozen? ⟨cb, 32, none⟩ = false := frozen_of_row _ _ _ _ _ (CC.out.mid oth9)
                have YH := Lib.hid (YY.out.half CC.out oth9)
                have CN := Lib.hid hpush.1
                have YN := Lib.hid (YY.out.far CC.out hpush.2)
                clear hpush o9 oth9 loc9
                refine hK.out _ _ ((IOwns.seen YH.out.p).cell' HX.out) (fun hHeld => ?_)
                clear hK K
                try simp only [Act.put, List.setIfInBounds_toArray, List.set_cons_zero, List.set_cons_succ]
                refine wpAnyH_take (i := 9) (v := ?_) (by simp only [List.getElem?_toArray, List.getElem?_cons_succ, List.getElem?_cons_zero]; rfl) (by kernel_rfl) (by kernel_rfl) (by kernel_rfl) (fun _ _ _ h => h) (Or.inl ⟨by rfl, ?_⟩) (by assumption) ?_
                rotate_left
                · intro w hSw
                  try dsimp only at hSw
                  go_simp
                  try with_reducible rfl
                try simp only [Act.put, List.setIfInBounds_toArray, List.set_cons_zero, List.set_cons_succ]
                refine wpAnyH_ready (rs := [10]) (by kernel_rfl) (by simp) ?_
                refine (AllReadyH.cons (by simp only [List.getElem?_toArray, List.getElem?_cons_succ, List.getElem?_cons_zero]; rfl) (fun K hK => ?_) AllReadyH.nil)
                go_simp
                generalize v4.setCell ⟨cb, 32, none⟩ (.slice p9 (m + 1) c9) = v5 at *
                refine hK.out _ _ ((IOwns.seen YN.out.p).cell' HX.out) (fun hHeld => ?_)
                clear hK K
                try simp only [Act.put, List.setIfInBounds_toArray, List.set_cons_zero, List.set_cons_succ]
                refine wpAnyH_done (by kernel_rfl) ?_ _
                refine NoPanic.normal ?_
                go_wp2_with fail
                refine ⟨⟨j + 1, p9, c9, m + 1, ps ++ [hh x], by rw [hj1], HJ.out, Lib.hid (by rw [HM.out, List.length_append]; rfl), Nat.succ_le_succ HMJ.out, CN, YN⟩, ?_⟩
                rw [hj1]; simp only [intOf]; have := HJ.out; omega
          · have hjl : ¬ (j : Int) < n8 := by omega
            have HM2 : Hid (m ≤ 2) := Lib.hid (by have := HL8.out; omega)
            have HPL : Hid (ps.length ≤ 10) := Lib.hid (by rw [← HM.out]; have := HM2.out; omega)
            obtain ⟨y0, y1, y2⟩ := YY.out.y2
            have hcs : yh % 60 = 0 ∨ yh % 60 = 1 ∨ yh % 60 = 2 ∨ (¬ yh % 60 = 0 ∧ ¬ yh % 60 = 1 ∧ ¬ yh % 60 = 2) := by omega
            clear hmj hlt
            rcases hcs with hc | hc | hc | hc
            · have HPH := Lib.hid (fun W : World => pick_to W yh 60 0 (by decide) (by decide) hc)
              clear hc
              go_wp2_with (go_at_call 24; refine (HPH.out _).mono ?_; rintro e wz ⟨rfl, rfl⟩)
              generalize wr = W3 at *
              clear y0 y1 y2 HPL
              go_loopw [10] (fun s wt => ∃ (j : Nat) (p : Option Addr) (c m : Nat) (ps : List Key), s = .int .i64 j ∧ j ≤ ny ∧ j ≤ 6 ∧ Hid (m = ps.length) ∧ m ≤ 2 + j ∧ Hid (CI wt W0.heap.size cb h (.slice p m c) ps) ∧ Hid (YB wt W0 W0.heap.size #[.int .i64 yn, .int .i64 yh, .slice q ny cq] 96 B8 (.slice p8 n8 c8) l8))
                (fun s _ => 6 - (intOf s).toNat)
              case atStart => exact ⟨0, p, c, m, ps, rfl, Nat.zero_le _, Nat.zero_le _, HM, by have := HM2.out; omega, CC, YY⟩
              case round =>
                clear HM CC YY HM2
                obtain ⟨j, p, c, m, ps, rfl, hjn, hj6, HM, hmj, CC, YY⟩ := hrel
                obtain ⟨y0, y1, y2⟩ := YY.out.y2
                by_cases hlt : j < ny ∧ j < 6
                · obtain ⟨hl1, hl2⟩ := hlt
                  have HJ := Lib.hid hl1
                  have HJ6 := Lib.hid hl2
                  have hj1 : wrap64 ((j : Int) + 1) = ((j + 1 : Nat) : Int) := by unfold wrap64; omega
                  have hjl : (j : Int) < ny := by omega
                  have hjl6 : (j : Int) < 6 := by omega
                  have HMJ := Lib.hid hmj
                  have HM2 : Hid (m ≤ 8) := Lib.hid (by omega)
                  obtain ⟨x, hx⟩ : ∃ x, yl[j]? = some x := ⟨yl[j]'(by rw [← HNY.out]; exact hl1), List.getElem?_eq_getElem _⟩
                  obtain ⟨a8, rfl, hc0⟩ := HPS.out.at' hx
                  have HX := Lib.hid hx
                  clear hx hjn hj6 hmj hc0
                  go_wp2_with fail
                  clear y0 y1 y2
                  have bq : Below wr.heap.size wr wr.drew := blw_qt _ 1 wr
                  have CC := Lib.hid (CC.out.kb bq)
                  have YY := Lib.hid (YY.out.kb bq)
                  clear bq
                  try simp only [List.append]
                  refine wp_region_noPanic ?_
                  refine wp_region_held_drew (S := (fun V => V.cell? ⟨W0.heap.size, 2, none⟩ = some (.slice (some a8) ny cq) ∧ V.cell? (a8.add j) = some (.int .i64 x))) (by kernel_rfl) ⟨YY.out.y2.2.2, (HPS.out.kb' YY.out.bel).cell' HX.out⟩ (fun hHeld => ?_)
                  generalize wr.drew = v1 at *
                  refine wpAnyH_take (i := 0) (v := ?_) (by simp only [List.getElem?_toArray, List.getElem?_cons_zero]; rfl) (by kernel_rfl) (by kernel_rfl) (by kernel_rfl) (fun _ _ _ h => h) (Or.inl ⟨by rfl, ?_⟩) (by assumption) ?_
                  rotate_left
                  · intro w hSw
                    try dsimp only at hSw
                    go_simp
                    try with_reducible rfl
                  try simp only [Act.put, List.setIfInBounds_toArray, List.set_cons_zero, List.set_cons_succ]
                  refine wpAnyH_take (i := 2) (v := ?_) (by simp only [List.getElem?_toArray, List.getElem?_cons_succ, List.getElem?_cons_zero]; rfl) (by kernel_rfl) (by kernel_rfl) (by kernel_rfl) (fun _ _ _ h => h) (Or.inl ⟨by rfl, ?_⟩) (by assumption) ?_
                  rotate_left
                  · intro w hSw
                    try dsimp only at hSw
                    go_simp
                    try with_reducible rfl
                  try simp only [Act.put, List.setIfInBounds_toArray, List.set_cons_zero, List.set_cons_succ]
                  refine wpAnyH_take (i := 3) (v := ?_) (by simp only [List.getElem?_toArray, List.getElem?_cons_succ, List.getElem?_cons_zero]; rfl) (by kernel_rfl) (by kernel_rfl) (by kernel_rfl) (fun _ _ _ h => h) (Or.inl ⟨by rfl, ?_⟩) (by assumption) ?_
                  rotate_left
                  · intro w hSw
                    try dsimp only at hSw
                    go_simp
                    try with_reducible rfl
                  try simp only [Act.put, List.setIfInBounds_toArray, List.set_cons_zero, List.set_cons_succ]
                  refine wpAnyH_take (i := 4) (v := ?_) (by simp only [List.getElem?_toArray, List.getElem?_cons_succ, List.getElem?_cons_zero]; rfl) (by kernel_rfl) (by kernel_rfl) (by kernel_rfl) (fun _ _ _ h => h) (Or.inl ⟨by rfl, ?_⟩) (by assumption) ?_
                  rotate_left
                  · intro w hSw
                    try dsimp only at hSw
                    go_simp
                    try with_reducible rfl
                  try simp only [Act.put, List.setIfInBounds_toArray, List.set_cons_zero, List.set_cons_succ]
                  refine wpAnyH_take (i := 5) (v := ?_) (by simp only [List.getElem?_toArray, List.getElem?_cons_succ, List.getElem?_cons_zero]; rfl) (by kernel_rfl) (by kernel_rfl) (by kernel_rfl) (fun _ _ _ h => h) (Or.inl ⟨by rfl, ?_⟩) (by assumption) ?_
                  rotate_left
                  · intro w hSw
                    try dsimp only at hSw
                    go_simp
                    try with_reducible rfl
                  try simp only [Act.put, List.setIfInBounds_toArray, List.set_cons_zero, List.set_cons_succ]
                  refine wpAnyH_take (i := 6) (v := ?_) (by simp only [List.getElem?_toArray, List.getElem?_cons_succ, List.getElem?_cons_zero]; rfl) (by kernel_rfl) (by kernel_rfl) (by kernel_rfl) (fun _ _ _ h => h) (Or.inl ⟨by rfl, ?_⟩) (by assumption) ?_
                  rotate_left
                  · intro w hSw
                    try dsimp only at hSw
                    go_simp
                    try with_reducible rfl
                  try simp only [Act.put, List.setIfInBounds_toArray, List.set_cons_zero, List.set_cons_succ]
                  refine wpAnyH_ready (rs := [1, 7]) (by kernel_rfl) (by simp) ?_
                  refine (AllReadyH.cons (by simp only [List.getElem?_toArray, List.getElem?_cons_succ, List.getElem?_cons_zero]; rfl) (fun K hK => ?_) (AllReadyH.cons (by simp only [List.getElem?_toArray, List.getElem?_cons_succ, List.getElem?_cons_zero]; rfl) (fun K hK => ?_) AllReadyH.nil))
                  · have cL := CC.out.par
                    go_simp
                    clear cL
                    refine hK.out _ _ ⟨YY.out.y2.2.2, (HPS.out.kb' YY.out.bel).cell' HX.out⟩ (fun hHeld => ?_)
                    clear hK K
                    try simp only [Act.put, List.setIfInBounds_toArray, List.set_cons_zero, List.set_cons_succ]
                    refine wpAnyH_ready (rs := [7]) (by kernel_rfl) (by simp) ?_
                    refine (AllReadyH.cons (by simp only [List.getElem?_toArray, List.getElem?_cons_succ, List.getElem?_cons_zero]; rfl) (fun K hK => ?_) AllReadyH.nil)
                    go_simp
                    refine (hash_to _ x).mono ?_
                    rintro e v2 ⟨rfl, bb⟩
                    have CC := Lib.hid (CC.out.kb bb)
                    have YY := Lib.hid (YY.out.kb bb)
                    clear bb
                    go_wp2_with fail
                    refine hK.out _ _ ⟨YY.out.y2.2.2, (HPS.out.kb' YY.out.bel).cell' HX.out⟩ (fun hHeld => ?_)
                    clear hK K
                    try simp only [Act.put, List.setIfInBounds_toArray, List.set_cons_zero, List.set_cons_succ]
                    refine wpAnyH_ready (rs := [8]) (by kernel_rfl) (by simp) ?_
                    refine (AllReadyH.cons (by simp only [List.getElem?_toArray, List.getElem?_cons_succ, List.getElem?_cons_zero]; rfl) (fun K hK => ?_) AllReadyH.nil)
                    refine step_sl1 (hh x) (hh_length x) (by rfl) (by rfl) ?_
                    have HB7 := Lib.hid (heap_alloc_last v2 (.cells (hv (hh x)) 28))
                    have CC := Lib.hid (CC.out.kb (below_al11 v2 (.cells (hv (hh x)) 28)))
                    have YY := Lib.hid (YY.out.kb (below_al11 v2 (.cells (hv (hh x)) 28)))
                    generalize v2.alloc (.cells (hv (hh x)) 28) = v3 at *
                    generalize v2.heap.size = b7 at *
                    refine hK.out _ _ ⟨YY.out.y2.2.2, (HPS.out.kb' YY.out.bel).cell' HX.out⟩ (fun hHeld => ?_)
                    clear hK K
                    try simp only [Act.put, List.setIfInBounds_toArray, List.set_cons_zero, List.set_cons_succ]
                    refine wpAnyH_ready (rs := [9]) (by kernel_rfl) (by simp) ?_
                    refine (AllReadyH.cons (by simp only [List.getElem?_toArray, List.getElem?_cons_succ, List.getElem?_cons_zero]; rfl) (fun K hK => ?_) AllReadyH.nil)
                    refine step_pushh rfl _ _ rfl W0.heap.size (.slice p m c) ps b7 (hh x) (hh_length x) (by rfl) CC.out.own (by rfl) HB7.out (by rw [← HM.out]; have := HM2.out; omega) YY.out.bel.size (m + 1) (by rw [HM.out]) ?_
                    intro p9 c9 v4 o9 oth9 loc9
                    have hpush := CC.out.push o9 oth9 (hh_length x)
                    have hc9 := cm_cell CC.out.hh (CC.out.mid oth9)
                    have hf9 : v4.frozen? ⟨cb, 32, none⟩ = false := frozen_of_row _ _ _ _ _ (CC.out.mid oth9)
                    have YH := Lib.hid (YY.out.half CC.out oth9)
                    have CN := Lib.hid hpush.1
                    have YN := Lib.hid (YY.out.far CC.out hpush.2)
                    clear hpush o9 oth9 loc9
                    refine hK.out _ _ ⟨YH.out.y2.2.2, (HPS.out.kb' YH.out.bel).cell' HX.out⟩ (fun hHeld => ?_)
                    clear hK K
                    try simp only [Act.put, List.setIfInBounds_toArray, List.set_cons_zero, List.set_cons_succ]
                    refine wpAnyH_take (i := 10) (v := ?_) (by simp only [List.getElem?_toArray, List.getElem?_cons_succ, List.getElem?_cons_zero]; rfl) (by kernel_rfl) (by kernel_rfl) (by kernel_rfl) (fun _ _ _ h => h) (Or.inl ⟨by rfl, ?_⟩) (by assumption) ?_
                    rotate_left
                    · intro w hSw
                      try dsimp only at hSw
                      go_simp
                      try with_reducible rfl
                    try simp only [Act.put, List.setIfInBounds_toArray, List.set_cons_zero, List.set_cons_succ]
                    refine wpAnyH_ready (rs := [11]) (by kernel_rfl) (by simp) ?_
                    refine (AllReadyH.cons (by simp only [List.getElem?_toArray, List.getElem?_cons_succ, List.getElem?_cons_zero]; rfl) (fun K hK => ?_) AllReadyH.nil)
                    go_simp
                    generalize v4.setCell ⟨cb, 32, none⟩ (.slice p9 (m + 1) c9) = v5 at *
                    refine hK.out _ _ ⟨YN.out.y2.2.2, (HPS.out.kb' YN.out.bel).cell' HX.out⟩ (fun hHeld => ?_)
                    clear hK K
                    try simp only [Act.put, List.setIfInBounds_toArray, List.set_cons_zero, List.set_cons_succ]
                    refine wpAnyH_done (by kernel_rfl) ?_ _
                    refine NoPanic.normal ?_
                    go_wp2_with fail
                    refine ⟨⟨j + 1, p9, c9, m + 1, ps ++ [hh x], congrArg _ (by omega), HJ.out, HJ6.out, Lib.hid (by rw [HM.out, List.length_append]; rfl), Nat.succ_le_succ HMJ.out, CN, YN⟩, ?_⟩
                    simp only [intOf]; have := HJ6.out; omega
                  · go_simp
                    refine (hash_to _ x).mono ?_
                    rintro e v2 ⟨rfl, bb⟩
                    have CC := Lib.hid (CC.out.kb bb)
                    have YY := Lib.hid (YY.out.kb bb)
                    clear bb
                    go_wp2_with fail
                    refine hK.out _ _ ⟨YY.out.y2.2.2, (HPS.out.kb' YY.out.bel).cell' HX.out⟩ (fun hHeld => ?_)
                    clear hK K
                    try simp only [Act.put, List.setIfInBounds_toArray, List.set_cons_zero, List.set_cons_succ]
                    refine wpAnyH_ready (rs := [1, 8]) (by kernel_rfl) (by simp) ?_
                    refine (AllReadyH.cons (by simp only [List.getElem?_toArray, List.getElem?_cons_succ, List.getElem?_cons_zero]; rfl) (fun K hK => ?_) (AllReadyH.cons (by simp only [List.getElem?_toArray, List.getElem?_cons_succ, List.getElem?_cons_zero]; rfl) (fun K hK => ?_) AllReadyH.nil))
                    · have cL := CC.out.par
                      go_simp
                      clear cL
                      refine hK.out _ _ ⟨YY.out.y2.2.2, (HPS.out.kb' YY.out.bel).cell' HX.out⟩ (fun hHeld => ?_)
                      clear hK K
                      try simp only [Act.put, List.setIfInBounds_toArray, List.set_cons_zero, List.set_cons_succ]
                      refine wpAnyH_ready (rs := [8]) (by kernel_rfl) (by simp) ?_
                      refine (AllReadyH.cons (by simp only [List.getElem?_toArray, List.getElem?_cons_succ, List.getElem?_cons_zero]; rfl) (fun K hK => ?_) AllReadyH.nil)
                      refine step_sl1 (hh x) (hh_length x) (by rfl) (by rfl) ?_
                      have HB7 := Lib.hid (heap_alloc_last v2 (.cells (hv (hh x)) 28))
                      have CC := Lib.hid (CC.out.kb (below_al11 v2 (.cells (hv (hh x)) 28)))
                      have YY := Lib.hid (YY.out.kb (below_al11 v2 (.cells (hv (hh x)) 28)))
                      generalize v2.alloc (.cells (hv (hh x)) 28) = v3 at *
                      generalize v2.heap.size = b7 at *
                      refine hK.out _ _ ⟨YY.out.y2.2.2, (HPS.out.kb' YY.out.bel).cell' HX.out⟩ (fun hHeld => ?_)
                      clear hK K
                      try simp only [Act.put, List.setIfInBounds_toArray, List.set_cons_zero, List.set_cons_succ]
                      refine wpAnyH_ready (rs := [9]) (by kernel_rfl) (by simp) ?_
                      refine (AllReadyH.cons (by simp only [List.getElem?_toArray, List.getElem?_cons_succ, List.getElem?_cons_zero]; rfl) (fun K hK => ?_) AllReadyH.nil)
                      refine step_pushh rfl _ _ rfl W0.heap.size (.slice p m c) ps b7 (hh x) (hh_length x) (by rfl) CC.out.own (by rfl) HB7.out (by rw [← HM.out]; have := HM2.out; omega) YY.out.bel.size (m + 1) (by rw [HM.out]) ?_
                      intro p9 c9 v4 o9 oth9 loc9
                      have hpush := CC.out.push o9 oth9 (hh_length x)
                      have hc9 := cm_cell CC.out.hh (CC.out.mid oth9)
                      have hf9 : v4.frozen? ⟨cb, 32, none⟩ = false := frozen_of_row _ _ _ _ _ (CC.out.mid oth9)
                      have YH := Lib.hid (YY.out.half CC.out oth9)
                      have CN := Lib.hid hpush.1
                      have YN := Lib.hid (YY.out.far CC.out hpush.2)
                      clear hpush o9 oth9 loc9
                      refine hK.out _ _ ⟨YH.out.y2.2.2, (HPS.out.kb' YH.out.bel).cell' HX.out⟩ (fun hHeld => ?_)
                      clear hK K
                      try simp only [Act.put, List.setIfInBounds_toArray, List.set_cons_zero, List.set_cons_succ]
                      refine wpAnyH_take (i := 10) (v := ?_) (by simp only [List.getElem?_toArray, List.getElem?_cons_succ, List.getElem?_cons_zero]; rfl) (by kernel_rfl) (by kernel_rfl) (by kernel_rfl) (fun _ _ _ h => h) (Or.inl ⟨by rfl, ?_⟩) (by assumption) ?_
                      rotate_left
                      · intro w hSw
                        try dsimp only at hSw
                        go_simp
                        try with_reducible rfl
                      try simp only [Act.put, List.setIfInBounds_toArray, List.set_cons_zero, List.set_cons_succ]
                      refine wpAnyH_ready (rs := [11]) (by kernel_rfl) (by simp) ?_
                      refine (AllReadyH.cons (by simp only [List.getElem?_toArray, List.getElem?_cons_succ, List.getElem?_cons_zero]; rfl) (fun K hK => ?_) AllReadyH.nil)
                      go_simp
                      generalize v4.setCell ⟨cb, 32, none⟩ (.slice p9 (m + 1) c9) = v5 at *
                      refine hK.out _ _ ⟨YN.out.y2.2.2, (HPS.out.kb' YN.out.bel).cell' HX.out⟩ (fun hHeld => ?_)
                      clear hK K
                      try simp only [Act.put, List.setIfInBounds_toArray, List.set_cons_zero, List.set_cons_succ]
                      refine wpAnyH_done (by kernel_rfl) ?_ _
                      refine NoPanic.normal ?_
                      go_wp2_with fail
                      refine ⟨⟨j + 1, p9, c9, m + 1, ps ++ [hh x], congrArg _ (by omega), HJ.out, HJ6.out, Lib.hid (by rw [HM.out, List.length_append]; rfl), Nat.succ_le_succ HMJ.out, CN, YN⟩, ?_⟩
                      simp only [intOf]; have := HJ6.out; omega
                    · refine step_sl1 (hh x) (hh_length x) (by rfl) (by rfl) ?_
                      have HB7 := Lib.hid (heap_alloc_last v2 (.cells (hv (hh x)) 28))
                      have CC := Lib.hid (CC.out.kb (below_al11 v2 (.cells (hv (hh x)) 28)))
                      have YY := Lib.hid (YY.out.kb (below_al11 v2 (.cells (hv (hh x)) 28)))
                      generalize v2.alloc (.cells (hv (hh x)) 28) = v3 at *
                      generalize v2.heap.size = b7 at *
                      refine hK.out _ _ ⟨YY.out.y2.2.2, (HPS.out.kb' YY.out.bel).cell' HX.out⟩ (fun hHeld => ?_)
                      clear hK K
                      try simp only [Act.put, List.setIfInBounds_toArray, List.set_cons_zero, List.set_cons_succ]
                      refine wpAnyH_ready (rs := [1]) (by kernel_rfl) (by simp) ?_
                      refine (AllReadyH.cons (by simp only [List.getElem?_toArray, List.getElem?_cons_succ, List.getElem?_cons_zero]; rfl) (fun K hK => ?_) AllReadyH.nil)
                      have cL := CC.out.par
                      go_simp
                      clear cL
                      refine hK.out _ _ ⟨YY.out.y2.2.2, (HPS.out.kb' YY.out.bel).cell' HX.out⟩ (fun hHeld => ?_)
                      clear hK K
                      try simp only [Act.put, List.setIfInBounds_toArray, List.set_cons_zero, List.set_cons_succ]
                      refine wpAnyH_ready (rs := [9]) (by kernel_rfl) (by simp) ?_
                      refine (AllReadyH.cons (by simp only [List.getElem?_toArray, List.getElem?_cons_succ, List.getElem?_cons_zero]; rfl) (fun K hK => ?_) AllReadyH.nil)
                      refine step_pushh rfl _ _ rfl W0.heap.size (.slice p m c) ps b7 (hh x) (hh_length x) (by rfl) CC.out.own (by rfl) HB7.out (by rw [← HM.out]; have := HM2.out; omega) YY.out.bel.size (m + 1) (by rw [HM.out]) ?_
                      intro p9 c9 v4 o9 oth9 loc9
                      have hpush := CC.out.push o9 oth9 (hh_length x)
                      have hc9 := cm_cell CC.out.hh (CC.out.mid oth9)
                      have hf9 : v4.frozen? ⟨cb, 32, none⟩ = false := frozen_of_row _ _ _ _ _ (CC.out.mid oth9)
                      have YH := Lib.hid (YY.out.half CC.out oth9)
                      have CN := Lib.hid hpush.1
                      have YN := Lib.hid (YY.out.far CC.out hpush.2)
                      clear hpush o9 oth9 loc9
                      refine hK.out _ _ ⟨YH.out.y2.2.2, (HPS.out.kb' YH.out.bel).cell' HX.out⟩ (fun hHeld => ?_)
                      clear hK K
                      try simp only [Act.put, List.setIfInBounds_toArray, List.set_cons_zero, List.set_cons_succ]
                      refine wpAnyH_take (i := 10) (v := ?_) (by simp only [List.getElem?_toArray, List.getElem?_cons_succ, List.getElem?_cons_zero]; rfl) (by kernel_rfl) (by kernel_rfl) (by kernel_rfl) (fun _ _ _ h => h) (Or.inl ⟨by rfl, ?_⟩) (by assumption) ?_
                      rotate_left
                      · intro w hSw
                        try dsimp only at hSw
                        go_simp
                        try with_reducible rfl
                      try simp only [Act.put, List.setIfInBounds_toArray, List.set_cons_zero, List.set_cons_succ]
                      refine wpAnyH_ready (rs := [11]) (by kernel_rfl) (by simp) ?_
                      refine (AllReadyH.cons (by simp only [List.getElem?_toArray, List.getElem?_cons_succ, List.getElem?_cons_zero]; rfl) (fun K hK => ?_) AllReadyH.nil)
                      go_simp
                      generalize v4.setCell ⟨cb, 32, none⟩ (.slice p9 (m + 1) c9) = v5 at *
                      refine hK.out _ _ ⟨YN.out.y2.2.2, (HPS.out.kb' YN.out.bel).cell' HX.out⟩ (fun hHeld => ?_)
                      clear hK K
                      try simp only [Act.put, List.setIfInBounds_toArray, List.set_cons_zero, List.set_cons_succ]
                      refine wpAnyH_done (by kernel_rfl) ?_ _
                      refine NoPanic.normal ?_
                      go_wp2_with fail
                      refine ⟨⟨j + 1, p9, c9, m + 1, ps ++ [hh x], congrArg _ (by omega), HJ.out, HJ6.out, Lib.hid (by rw [HM.out, List.length_append]; rfl), Nat.succ_le_succ HMJ.out, CN, YN⟩, ?_⟩
                      simp only [intOf]; have := HJ6.out; omega
                · have HPL : Hid (ps.length ≤ 10) := Lib.hid (by rw [← HM.out]; omega)
                  rcases (by omega : ¬ j < ny ∨ (j < ny ∧ ¬ j < 6)) with hq1 | ⟨hq1, hq2⟩
                  · have hjl : ¬ (j : Int) < ny := by omega
                    clear hlt hjn hj6 hmj
                    have RT := Lib.hid (RR0.out.kb YY.out.bel)
                    have XT := Lib.hid (XX0.out.kb YY.out.bel)
                    have t0 := RT.out.c0.1
                    have hcl := cld_range (w := wr) (p := cb) (o := 0) (h := h) (u := .slice p m c) CC.out.hh (by have := range_row CC.out.cell; rwa [cmv_list] at this)
                    have BA := Lib.hid (below_al11 wr (.cells (cf [(h, .slice p m c)]).toArray 49))
                    go_wp2_with (first
                      | (go_at_call 24; refine (HPH.out _).mono ?_; rintro e wz ⟨rfl, rfl⟩)
                      | (refine slicec_w (C := [(h, .slice p m c)]) (by simpa using HH32.out) rfl (by simp) (by simp) ?hv ?hw ?_; (case hv => first | rfl | simp [Act.put, Act.eval]); (case hw => first | rfl | simp [Region.wanted, yielded]))
                      | (at_builtin; refine push_comm rfl (.tmp 114) (.tmp 116) rfl (b := wr.heap.size) (h := h) (u := .slice p m c) (ps := ps) (w0 := w) rfl rfl (heap_alloc_last wr _) (RT.out.kb BA.out) HNC.out (XT.out.kb BA.out) HH32.out CC.out.p32 HPL.out (own_mono (own_below CC.out.own BA.out) (XX0.out.hB ▸ XX0.out.bel.size)) (fun j _ h => nomatch h) NCB.out ?_; intro g5 c5 w5 hc5 hf5 R5 X5 o5; have R5 := Lib.hid R5; have X5 := Lib.hid X5; have O5 := Lib.hid o5; clear o5))
                    refine ⟨⟨i + 1, some ⟨g5, 0, none⟩, nC + 1, c5, C ++ [(h, _)], cs ++ [(h, _)], congrArg _ (by omega), HINL.out, HI12.out, Nat.succ_le_succ HNI.out, Lib.hid (by rw [HNC.out, List.length_append]; rfl), R5, X5⟩, ?_⟩
                    simp only [intOf]; have := HI12.out; omega
                  · have hjl : (j : Int) < ny := by omega
                    have hjl6 : ¬ (j : Int) < 6 := by omega
                    clear hlt hjn hj6 hmj
                    have RT := Lib.hid (RR0.out.kb YY.out.bel)
                    have XT := Lib.hid (XX0.out.kb YY.out.bel)
                    have t0 := RT.out.c0.1
                    have hcl := cld_range (w := wr) (p := cb) (o := 0) (h := h) (u := .slice p m c) CC.out.hh (by have := range_row CC.out.cell; rwa [cmv_list] at this)
                    have BA := Lib.hid (below_al11 wr (.cells (cf [(h, .slice p m c)]).toArray 49))
                    go_wp2_with (first
                      | (go_at_call 24; refine (HPH.out _).mono ?_; rintro e wz ⟨rfl, rfl⟩)
                      | (refine slicec_w (C := [(h, .slice p m c)]) (by simpa using HH32.out) rfl (by simp) (by simp) ?hv ?hw ?_; (case hv => first | rfl | simp [Act.put, Act.eval]); (case hw => first | rfl | simp [Region.wanted, yielded]))
                      | (at_builtin; refine push_comm rfl (.tmp 114) (.tmp 116) rfl (b := wr.heap.size) (h := h) (u := .slice p m c) (ps := ps) (w0 := w) rfl rfl (heap_alloc_last wr _) (RT.out.kb BA.out) HNC.out (XT.out.kb BA.out) HH32.out CC.out.p32 HPL.out (own_mono (own_below CC.out.own BA.out) (XX0.out.hB ▸ XX0.out.bel.size)) (fun j _ h => nomatch h) NCB.out ?_; intro g5 c5 w5 hc5 hf5 R5 X5 o5; have R5 := Lib.hid R5; have X5 := Lib.hid X5; have O5 := Lib.hid o5; clear o5))
                    refine ⟨⟨i + 1, some ⟨g5, 0, none⟩, nC + 1, c5, C ++ [(h, _)], cs ++ [(h, _)], congrArg _ (by omega), HINL.out, HI12.out, Nat.succ_le_succ HNI.out, Lib.hid (by rw [HNC.out, List.length_append]; rfl), R5, X5⟩, ?_⟩
                    simp only [intOf]; have := HI12.out; omega
            · have HPH := Lib.hid (fun W : World => pick_to W yh 60 1 (by decide) (by decide) hc)
              have hpar := CC.out.par
              clear hc
              rcases Nat.eq_zero_or_pos m with h0 | h0
              · subst h0
                have RT := Lib.hid (RR0.out.kb YY.out.bel)
                have XT := Lib.hid (XX0.out.kb YY.out.bel)
                have t0 := RT.out.c0.1
                have hcl := cld_range (w := wr) (p := cb) (o := 0) (h := h) (u := .slice p 0 c) CC.out.hh (by have := range_row CC.out.cell; rwa [cmv_list] at this)
                have BA := Lib.hid (below_al11 wr (.cells (cf [(h, .slice p 0 c)]).toArray 49))
                go_wp2_with (first
                  | (go_at_call 24; refine (HPH.out _).mono ?_; rintro e wz ⟨rfl, rfl⟩)
                  | (refine slicec_w (C := [(h, .slice p 0 c)]) (by simpa using HH32.out) rfl (by simp) (by simp) ?hv ?hw ?_; (case hv => first | rfl | simp [Act.put, Act.eval]); (case hw => first | rfl | simp [Region.wanted, yielded]))
                  | (at_builtin; refine push_comm rfl (.tmp 114) (.tmp 116) rfl (b := wr.heap.size) (h := h) (u := .slice p 0 c) (ps := ps) (w0 := w) rfl rfl (heap_alloc_last wr _) (RT.out.kb BA.out) HNC.out (XT.out.kb BA.out) HH32.out CC.out.p32 HPL.out (own_mono (own_below CC.out.own BA.out) (XX0.out.hB ▸ XX0.out.bel.size)) (fun j _ h => nomatch h) NCB.out ?_; intro g5 c5 w5 hc5 hf5 R5 X5 o5; have R5 := Lib.hid R5; have X5 := Lib.hid X5; have O5 := Lib.hid o5; clear o5))
                refine ⟨⟨i + 1, some ⟨g5, 0, none⟩, nC + 1, c5, C ++ [(h, _)], cs ++ [(h, _)], congrArg _ (by omega), HINL.out, HI12.out, Nat.succ_le_succ HNI.out, Lib.hid (by rw [HNC.out, List.length_append]; rfl), R5, X5⟩, ?_⟩
                simp only [intOf]; have := HI12.out; omega
              · have h1 : (0 : Int) < m := by omega
                obtain ⟨x, tl, hps⟩ : ∃ x tl, ps = x :: tl := by
                  cases ps with
                  | nil => have := HM.out; simp at this; omega
                  | cons x tl => exact ⟨x, tl, rfl⟩
                obtain ⟨gp, hgp⟩ := own_first CC.out.own hps
                subst hgp
                have HPX := Lib.hid hps
                have HX32 : Hid (x.length = 32) := Lib.hid (CC.out.p32 x (by rw [hps]; exact List.mem_cons_self))
                clear hps
                go_wp2_with (go_at_call 24; refine (HPH.out _).mono ?_; rintro e wz ⟨rfl, rfl⟩)
                clear hpar y0 y1 y2
                have bq : Below wr.heap.size wr wr.drew := blw_qt _ 1 wr
                have CC := Lib.hid (CC.out.kb bq)
                have YY := Lib.hid (YY.out.kb bq)
                clear bq
                try simp only [List.append]
                refine wp_region_noPanic ?_
                refine wp_region_held_drew (S := (fun _ => True)) (by kernel_rfl) trivial (fun hHeld => ?_)
                generalize wr.drew = v1 at *
                refine wpAnyH_take (i := 0) (v := ?_) (by simp only [List.getElem?_toArray, List.getElem?_cons_zero]; rfl) (by kernel_rfl) (by kernel_rfl) (by kernel_rfl) (fun _ _ _ h => h) (Or.inl ⟨by rfl, ?_⟩) (by assumption) ?_
                rotate_left
                · intro w hSw
                  try dsimp only at hSw
                  go_simp
                  try with_reducible rfl
                try simp only [Act.put, List.setIfInBounds_toArray, List.set_cons_zero, List.set_cons_succ]
                refine wpAnyH_take (i := 2) (v := ?_) (by simp only [List.getElem?_toArray, List.getElem?_cons_succ, List.getElem?_cons_zero]; rfl) (by kernel_rfl) (by kernel_rfl) (by kernel_rfl) (fun _ _ _ h => h) (Or.inl ⟨by rfl, ?_⟩) (by assumption) ?_
                rotate_left
                · intro w hSw
                  try dsimp only at hSw
                  go_simp
                  try with_reducible rfl
                try simp only [Act.put, List.setIfInBounds_toArray, List.set_cons_zero, List.set_cons_succ]
                refine wpAnyH_ready (rs := [1, 3]) (by kernel_rfl) (by simp) ?_
                refine (AllReadyH.cons (by simp only [List.getElem?_toArray, List.getElem?_cons_succ, List.getElem?_cons_zero]; rfl) (fun K hK => ?_) (AllReadyH.cons (by simp only [List.getElem?_toArray, List.getElem?_cons_succ, List.getElem?_cons_zero]; rfl) (fun K hK => ?_) AllReadyH.nil))
                · have cL := CC.out.par
                  go_simp
                  clear cL
                  refine hK.out _ _ trivial (fun hHeld => ?_)
                  clear hK K
                  try simp only [Act.put, List.setIfInBounds_toArray, List.set_cons_zero, List.set_cons_succ]
                  refine wpAnyH_ready (rs := [3]) (by kernel_rfl) (by simp) ?_
                  refine (AllReadyH.cons (by simp only [List.getElem?_toArray, List.getElem?_cons_succ, List.getElem?_cons_zero]; rfl) (fun K hK => ?_) AllReadyH.nil)
                  have cL := CC.out.par
                  go_simp
                  clear cL
                  refine hK.out _ _ trivial (fun hHeld => ?_)
                  clear hK K
                  try simp only [Act.put, List.setIfInBounds_toArray, List.set_cons_zero, List.set_cons_succ]
                  refine wpAnyH_take (i := 4) (v := ?_) (by simp only [List.getElem?_toArray, List.getElem?_cons_succ, List.getElem?_cons_zero]; rfl) (by kernel_rfl) (by kernel_rfl) (by kernel_rfl) (fun _ _ _ h => h) (Or.inl ⟨by rfl, ?_⟩) (by assumption) ?_
                  rotate_left
                  · intro w hSw
                    try dsimp only at hSw
                    go_simp
                    try with_reducible rfl
                  try simp only [Act.put, List.setIfInBounds_toArray, List.set_cons_zero, List.set_cons_succ]
                  refine wpAnyH_ready (rs := [5]) (by kernel_rfl) (by simp) ?_
                  refine (AllReadyH.cons (by simp only [List.getElem?_toArray, List.getElem?_cons_succ, List.getElem?_cons_zero]; rfl) (fun K hK => ?_) AllReadyH.nil)
                  have l5 := hld_range HX32.out (own_first' CC.out.own HPX.out)
                  go_simp
                  clear l5
                  refine hK.out _ _ trivial (fun hHeld => ?_)
                  clear hK K
                  try simp only [Act.put, List.setIfInBounds_toArray, List.set_cons_zero, List.set_cons_succ]
                  refine wpAnyH_ready (rs := [6]) (by kernel_rfl) (by simp) ?_
                  refine (AllReadyH.cons (by simp only [List.getElem?_toArray, List.getElem?_cons_succ, List.getElem?_cons_zero]; rfl) (fun K hK => ?_) AllReadyH.nil)
                  refine step_sl1 x HX32.out (by rfl) (by rfl) ?_
                  have HB7 := Lib.hid (heap_alloc_last v1 (.cells (hv x) 28))
                  have CC := Lib.hid (CC.out.kb (below_al11 v1 (.cells (hv x) 28)))
                  have YY := Lib.hid (YY.out.kb (below_al11 v1 (.cells (hv x) 28)))
                  generalize v1.alloc (.cells (hv x) 28) = v3 at *
                  generalize v1.heap.size = b7 at *
                  refine hK.out _ _ trivial (fun hHeld => ?_)
                  clear hK K
                  try simp only [Act.put, List.setIfInBounds_toArray, List.set_cons_zero, List.set_cons_succ]
                  refine wpAnyH_ready (rs := [7]) (by kernel_rfl) (by simp) ?_
                  refine (AllReadyH.cons (by simp only [List.getElem?_toArray, List.getElem?_cons_succ, List.getElem?_cons_zero]; rfl) (fun K hK => ?_) AllReadyH.nil)
                  refine step_pushh rfl _ _ rfl W0.heap.size (.slice (some ⟨gp, 0, none⟩) m c) ps b7 x HX32.out (by rfl) CC.out.own (by rfl) HB7.out (by rw [← HM.out]; have := HM2.out; omega) YY.out.bel.size (m + 1) (by rw [HM.out]) ?_
                  intro p9 c9 v4 o9 oth9 loc9
                  have hpush := CC.out.push o9 oth9 HX32.out
                  have hc9 := cm_cell CC.out.hh (CC.out.mid oth9)
                  have hf9 : v4.frozen? ⟨cb, 32, none⟩ = false := frozen_of_row _ _ _ _ _ (CC.out.mid oth9)
                  have CN := Lib.hid hpush.1
                  have YN := Lib.hid (YY.out.far CC.out hpush.2)
                  clear hpush o9 oth9 loc9
                  refine hK.out _ _ trivial (fun hHeld => ?_)
                  clear hK K
                  try simp only [Act.put, List.setIfInBounds_toArray, List.set_cons_zero, List.set_cons_succ]
                  refine wpAnyH_take (i := 8) (v := ?_) (by simp only [List.getElem?_toArray, List.getElem?_cons_succ, List.getElem?_cons_zero]; rfl) (by kernel_rfl) (by kernel_rfl) (by kernel_rfl) (fun _ _ _ h => h) (Or.inl ⟨by rfl, ?_⟩) (by assumption) ?_
                  rotate_left
                  · intro w hSw
                    try dsimp only at hSw
                    go_simp
                    try with_reducible rfl
                  try simp only [Act.put, List.setIfInBounds_toArray, List.set_cons_zero, List.set_cons_succ]
                  refine wpAnyH_ready (rs := [9]) (by kernel_rfl) (by simp) ?_
                  refine (AllReadyH.cons (by simp only [List.getElem?_toArray, List.getElem?_cons_succ, List.getElem?_cons_zero]; rfl) (fun K hK => ?_) AllReadyH.nil)
                  go_simp
                  generalize v4.setCell ⟨cb, 32, none⟩ (.slice p9 (m + 1) c9) = v5 at *
                  refine hK.out _ _ trivial (fun hHeld => ?_)
                  clear hK K
                  try simp only [Act.put, List.setIfInBounds_toArray, List.set_cons_zero, List.set_cons_succ]
                  refine wpAnyH_done (by kernel_rfl) ?_ _
                  refine NoPanic.normal ?_
                  have HPL : Hid ((ps ++ [x]).length ≤ 10) := Lib.hid (by rw [List.length_append, ← HM.out]; have := HM2.out; simp; omega)
                  have RT := Lib.hid (RR0.out.kb YN.out.bel)
                  have XT := Lib.hid (XX0.out.kb YN.out.bel)
                  have t0 := RT.out.c0.1
                  have hcl := cld_range (w := v5) (p := cb) (o := 0) (h := h) (u := .slice p9 (m + 1) c9) CN.out.hh (by have := range_row CN.out.cell; rwa [cmv_list] at this)
                  have BA := Lib.hid (below_al11 v5 (.cells (cf [(h, .slice p9 (m + 1) c9)]).toArray 49))
                  go_wp2_with (first
                    | (go_at_call 24; refine (HPH.out _).mono ?_; rintro e wz ⟨rfl, rfl⟩)
                    | (refine slicec_w (C := [(h, .slice p9 (m + 1) c9)]) (by simpa using HH32.out) rfl (by simp) (by simp) ?hv ?hw ?_; (case hv => first | rfl | simp [Act.put, Act.eval]); (case hw => first | rfl | simp [Region.wanted, yielded]))
                    | (at_builtin; refine push_comm rfl (.tmp 114) (.tmp 116) rfl (b := v5.heap.size) (h := h) (u := .slice p9 (m + 1) c9) (ps := (ps ++ [x])) (w0 := w) rfl rfl (heap_alloc_last v5 _) (RT.out.kb BA.out) HNC.out (XT.out.kb BA.out) HH32.out CN.out.p32 HPL.out (own_mono (own_below CN.out.own BA.out) (XX0.out.hB ▸ XX0.out.bel.size)) (fun j _ h => nomatch h) NCB.out ?_; intro g5 c5 w5 hc5 hf5 R5 X5 o5; have R5 := Lib.hid R5; have X5 := Lib.hid X5; have O5 := Lib.hid o5; clear o5))
                  refine ⟨⟨i + 1, some ⟨g5, 0, none⟩, nC + 1, c5, C ++ [(h, _)], cs ++ [(h, _)], congrArg _ (by omega), HINL.out, HI12.out, Nat.succ_le_succ HNI.out, Lib.hid (by rw [HNC.out, List.length_append]; rfl), R5, X5⟩, ?_⟩
                  simp only [intOf]; have := HI12.out; omega
                · have cL := CC.out.par
                  go_simp
                  clear cL
                  refine hK.out _ _ trivial (fun hHeld => ?_)
                  clear hK K
                  try simp only [Act.put, List.setIfInBounds_toArray, List.set_cons_zero, List.set_cons_succ]
                  refine wpAnyH_take (i := 4) (v := ?_) (by simp only [List.getElem?_toArray, List.getElem?_cons_succ, List.getElem?_cons_zero]; rfl) (by kernel_rfl) (by kernel_rfl) (by kernel_rfl) (fun _ _ _ h => h) (Or.inl ⟨by rfl, ?_⟩) (by assumption) ?_
                  rotate_left
                  · intro w hSw
                    try dsimp only at hSw
                    go_simp
                    try with_reducible rfl
                  try simp only [Act.put, List.setIfInBounds_toArray, List.set_cons_zero, List.set_cons_succ]
                  refine wpAnyH_ready (rs := [1, 5]) (by kernel_rfl) (by simp) ?_
                  refine (AllReadyH.cons (by simp only [List.getElem?_toArray, List.getElem?_cons_succ, List.getElem?_cons_zero]; rfl) (fun K hK => ?_) (AllReadyH.cons (by simp only [List.getElem?_toArray, List.getElem?_cons_succ, List.getElem?_cons_zero]; rfl) (fun K hK => ?_) AllReadyH.nil))
                  · have cL := CC.out.par
                    go_simp
                    clear cL
                    refine hK.out _ _ trivial (fun hHeld => ?_)
                    clear hK K
                    try simp only [Act.put, List.setIfInBounds_toArray, List.set_cons_zero, List.set_cons_succ]
                    refine wpAnyH_ready (rs := [5]) (by kernel_rfl) (by simp) ?_
                    refine (AllReadyH.cons (by simp only [List.getElem?_toArray, List.getElem?_cons_succ, List.getElem?_cons_zero]; rfl) (fun K hK => ?_) AllReadyH.nil)
                    have l5 := hld_range HX32.out (own_first' CC.out.own HPX.out)
                    go_simp
                    clear l5
                    refine hK.out _ _ trivial (fun hHeld => ?_)
                    clear hK K
                    try simp only [Act.put, List.setIfInBounds_toArray, List.set_cons_zero, List.set_cons_succ]
                    refine wpAnyH_ready (rs := [6]) (by kernel_rfl) (by simp) ?_
                    refine (AllReadyH.cons (by simp only [List.getElem?_toArray, List.getElem?_cons_succ, List.getElem?_cons_zero]; rfl) (fun K hK => ?_) AllReadyH.nil)
                    refine step_sl1 x HX32.out (by rfl) (by rfl) ?_
                    have HB7 := Lib.hid (heap_alloc_last v1 (.cells (hv x) 28))
                    have CC := Lib.hid (CC.out.kb (below_al11 v1 (.cells (hv x) 28)))
                    have YY := Lib.hid (YY.out.kb (below_al11 v1 (.cells (hv x) 28)))
                    generalize v1.alloc (.cells (hv x) 28) = v3 at *
                    generalize v1.heap.size = b7 at *
                    refine hK.out _ _ trivial (fun hHeld => ?_)
                    clear hK K
                    try simp only [Act.put, List.setIfInBounds_toArray, List.set_cons_zero, List.set_cons_succ]
                    refine wpAnyH_ready (rs := [7]) (by kernel_rfl) (by simp) ?_
                    refine (AllReadyH.cons (by simp only [List.getElem?_toArray, List.getElem?_cons_succ, List.getElem?_cons_zero]; rfl) (fun K hK => ?_) AllReadyH.nil)
                    refine step_pushh rfl _ _ rfl W0.heap.size (.slice (some ⟨gp, 0, none⟩) m c) ps b7 x HX32.out (by rfl) CC.out.own (by rfl) HB7.out (by rw [← HM.out]; have := HM2.out; omega) YY.out.bel.size (m + 1) (by rw [HM.out]) ?_
                    intro p9 c9 v4 o9 oth9 loc9
                    have hpush := CC.out.push o9 oth9 HX32.out
                    have hc9 := cm_cell CC.out.hh (CC.out.mid oth9)
                    have hf9 : v4.frozen? ⟨cb, 32, none⟩ = false := frozen_of_row _ _ _ _ _ (CC.out.mid oth9)
                    have CN := Lib.hid hpush.1
                    have YN := Lib.hid (YY.out.far CC.out hpush.2)
                    clear hpush o9 oth9 loc9
                    refine hK.out _ _ trivial (fun hHeld => ?_)
                    clear hK K
                    try simp only [Act.put, List.setIfInBounds_toArray, List.set_cons_zero, List.set_cons_succ]
                    refine wpAnyH_take (i := 8) (v := ?_) (by simp only [List.getElem?_toArray, List.getElem?_cons_succ, List.getElem?_cons_zero]; rfl) (by kernel_rfl) (by kernel_rfl) (by kernel_rfl) (fun _ _ _ h => h) (Or.inl ⟨by rfl, ?_⟩) (by assumption) ?_
                    rotate_left
                    · intro w hSw
                      try dsimp only at hSw
                      go_simp
                      try with_reducible rfl
                    try simp only [Act.put, List.setIfInBounds_toArray, List.set_cons_zero, List.set_cons_succ]
                    refine wpAnyH_ready (rs := [9]) (by kernel_rfl) (by simp) ?_
                    refine (AllReadyH.cons (by simp only [List.getElem?_toArray, List.getElem?_cons_succ, List.getElem?_cons_zero]; rfl) (fun K hK => ?_) AllReadyH.nil)
                    go_simp
                    generalize v4.setCell ⟨cb, 32, none⟩ (.slice p9 (m + 1) c9) = v5 at *
                    refine hK.out _ _ trivial (fun hHeld => ?_)
                    clear hK K
                    try simp only [Act.put, List.setIfInBounds_toArray, List.set_cons_zero, List.set_cons_succ]
                    refine wpAnyH_done (by kernel_rfl) ?_ _
                    refine NoPanic.normal ?_
                    have HPL : Hid ((ps ++ [x]).length ≤ 10) := Lib.hid (by rw [List.length_append, ← HM.out]; have := HM2.out; simp; omega)
                    have RT := Lib.hid (RR0.out.kb YN.out.bel)
                    have XT := Lib.hid (XX0.out.kb YN.out.bel)
                    have t0 := RT.out.c0.1
                    have hcl := cld_range (w := v5) (p := cb) (o := 0) (h := h) (u := .slice p9 (m + 1) c9) CN.out.hh (by have := range_row CN.out.cell; rwa [cmv_list] at this)
                    have BA := Lib.hid (below_al11 v5 (.cells (cf [(h, .slice p9 (m + 1) c9)]).toArray 49))
                    go_wp2_with (first
                      | (go_at_call 24; refine (HPH.out _).mono ?_; rintro e wz ⟨rfl, rfl⟩)
                      | (refine slicec_w (C := [(h, .slice p9 (m + 1) c9)]) (by simpa using HH32.out) rfl (by simp) (by simp) ?hv ?hw ?_; (case hv => first | rfl | simp [Act.put, Act.eval]); (case hw => first | rfl | simp [Region.wanted, yielded]))
                      | (at_builtin; refine push_comm rfl (.tmp 114) (.tmp 116) rfl (b := v5.heap.size) (h := h) (u := .slice p9 (m + 1) c9) (ps := (ps ++ [x])) (w0 := w) rfl rfl (heap_alloc_last v5 _) (RT.out.kb BA.out) HNC.out (XT.out.kb BA.out) HH32.out CN.out.p32 HPL.out (own_mono (own_below CN.out.own BA.out) (XX0.out.hB ▸ XX0.out.bel.size)) (fun j _ h => nomatch h) NCB.out ?_; intro g5 c5 w5 hc5 hf5 R5 X5 o5; have R5 := Lib.hid R5; have X5 := Lib.hid X5; have O5 := Lib.hid o5; clear o5))
                    refine ⟨⟨i + 1, some ⟨g5, 0, none⟩, nC + 1, c5, C ++ [(h, _)], cs ++ [(h, _)], congrArg _ (by omega), HINL.out, HI12.out, Nat.succ_le_succ HNI.out, Lib.hid (by rw [HNC.out, List.length_append]; rfl), R5, X5⟩, ?_⟩
                    simp only [intOf]; have := HI12.out; omega
                  · have l5 := hld_range HX32.out (own_first' CC.out.own HPX.out)
                    go_simp
                    clear l5
                    refine hK.out _ _ trivial (fun hHeld => ?_)
                    clear hK K
                    try simp only [Act.put, List.setIfInBounds_toArray, List.set_cons_zero, List.set_cons_succ]
                    refine wpAnyH_ready (rs := [1, 6]) (by kernel_rfl) (by simp) ?_
                    refine (AllReadyH.cons (by simp only [List.getElem?_toArray, List.getElem?_cons_succ, List.getElem?_cons_zero]; rfl) (fun K hK => ?_) (AllReadyH.cons (by simp only [List.getElem?_toArray, List.getElem?_cons_succ, List.getElem?_cons_zero]; rfl) (fun K hK => ?_) AllReadyH.nil))
                    · have cL := CC.out.par
                      go_simp
                      clear cL
                      refine hK.out _ _ trivial (fun hHeld => ?_)
                      clear hK K
                      try simp only [Act.put, List.setIfInBounds_toArray, List.set_cons_zero, List.set_cons_succ]
                      refine wpAnyH_ready (rs := [6]) (by kernel_rfl) (by simp) ?_
                      refine (AllReadyH.cons (by simp only [List.getElem?_toArray, List.getElem?_cons_succ, List.getElem?_cons_zero]; rfl) (fun K hK => ?_) AllReadyH.nil)
                      refine step_sl1 x HX32.out (by rfl) (by rfl) ?_
                      have HB7 := Lib.hid (heap_alloc_last v1 (.cells (hv x) 28))
                      have CC := Lib.hid (CC.out.kb (below_al11 v1 (.cells (hv x) 28)))
                      have YY := Lib.hid (YY.out.kb (below_al11 v1 (.cells (hv x) 28)))
                      generalize v1.alloc (.cells (hv x) 28) = v3 at *
                      generalize v1.heap.size = b7 at *
                      refine hK.out _ _ trivial (fun hHeld => ?_)
                      clear hK K
                      try simp only [Act.put, List.setIfInBounds_toArray, List.set_cons_zero, List.set_cons_succ]
                      refine wpAnyH_ready (rs := [7]) (by kernel_rfl) (by simp) ?_
                      refine (AllReadyH.cons (by simp only [List.getElem?_toArray, List.getElem?_cons_succ, List.getElem?_cons_zero]; rfl) (fun K hK => ?_) AllReadyH.nil)
                      refine step_pushh rfl _ _ rfl W0.heap.size (.slice (some ⟨gp, 0, none⟩) m c) ps b7 x HX32.out (by rfl) CC.out.own (by rfl) HB7.out (by rw [← HM.out]; have := HM2.out; omega) YY.out.bel.size (m + 1) (by rw [HM.out]) ?_
                      intro p9 c9 v4 o9 oth9 loc9
                      have hpush := CC.out.push o9 oth9 HX32.out
                      have hc9 := cm_cell CC.out.hh (CC.out.mid oth9)
                      have hf9 : v4.frozen? ⟨cb, 32, none⟩ = false := frozen_of_row _ _ _ _ _ (CC.out.mid oth9)
                      have CN := Lib.hid hpush.1
                      have YN := Lib.hid (YY.out.far CC.out hpush.2)
                      clear hpush o9 oth9 loc9
                      refine hK.out _ _ trivial (fun hHeld => ?_)
                      clear hK K
                      try simp only [Act.put, List.setIfInBounds_toArray, List.set_cons_zero, List.set_cons_succ]
                      refine wpAnyH_take (i := 8) (v := ?_) (by simp only [List.getElem?_toArray, List.getElem?_cons_succ, List.getElem?_cons_zero]; rfl) (by kernel_rfl) (by kernel_rfl) (by kernel_rfl) (fun _ _ _ h => h) (Or.inl ⟨by rfl, ?_⟩) (by assumption) ?_
                      rotate_left
                      · intro w hSw
                        try dsimp only at hSw
                        go_simp
                        try with_reducible rfl
                      try simp only [Act.put, List.setIfInBounds_toArray, List.set_cons_zero, List.set_cons_succ]
                      refine wpAnyH_ready (rs := [9]) (by kernel_rfl) (by simp) ?_
                      refine (AllReadyH.cons (by simp only [List.getElem?_toArray, List.getElem?_cons_succ, List.getElem?_cons_zero]; rfl) (fun K hK => ?_) AllReadyH.nil)
                      go_simp
                      generalize v4.setCell ⟨cb, 32, none⟩ (.slice p9 (m + 1) c9) = v5 at *
                      refine hK.out _ _ trivial (fun hHeld => ?_)
                      clear hK K
                      try simp only [Act.put, List.setIfInBounds_toArray, List.set_cons_zero, List.set_cons_succ]
                      refine wpAnyH_done (by kernel_rfl) ?_ _
                      refine NoPanic.normal ?_
                      have HPL : Hid ((ps ++ [x]).length ≤ 10) := Lib.hid (by rw [List.length_append, ← HM.out]; have := HM2.out; simp; omega)
                      have RT := Lib.hid (RR0.out.kb YN.out.bel)
                      have XT := Lib.hid (XX0.out.kb YN.out.bel)
                      have t0 := RT.out.c0.1
                      have hcl := cld_range (w := v5) (p := cb) (o := 0) (h := h) (u := .slice p9 (m + 1) c9) CN.out.hh (by have := range_row CN.out.cell; rwa [cmv_list] at this)
                      have BA := Lib.hid (below_al11 v5 (.cells (cf [(h, .slice p9 (m + 1) c9)]).toArray 49))
                      go_wp2_with (first
                        | (go_at_call 24; refine (HPH.out _).mono ?_; rintro e wz ⟨rfl, rfl⟩)
                        | (refine slicec_w (C := [(h, .slice p9 (m + 1) c9)]) (by simpa using HH32.out) rfl (by simp) (by simp) ?hv ?hw ?_; (case hv => first | rfl | simp [Act.put, Act.eval]); (case hw => first | rfl | simp [Region.wanted, yielded]))
                        | (at_builtin; refine push_comm rfl (.tmp 114) (.tmp 116) rfl (b := v5.heap.size) (h := h) (u := .slice p9 (m + 1) c9) (ps := (ps ++ [x])) (w0 := w) rfl rfl (heap_alloc_last v5 _) (RT.out.kb BA.out) HNC.out (XT.out.kb BA.out) HH32.out CN.out.p32 HPL.out (own_mono (own_below CN.out.own BA.out) (XX0.out.hB ▸ XX0.out.bel.size)) (fun j _ h => nomatch h) NCB.out ?_; intro g5 c5 w5 hc5 hf5 R5 X5 o5; have R5 := Lib.hid R5; have X5 := Lib.hid X5; have O5 := Lib.hid o5; clear o5))
                      refine ⟨⟨i + 1, some ⟨g5, 0, none⟩, nC + 1, c5, C ++ [(h, _)], cs ++ [(h, _)], congrArg _ (by omega), HINL.out, HI12.out, Nat.succ_le_succ HNI.out, Lib.hid (by rw [HNC.out, List.length_append]; rfl), R5, X5⟩, ?_⟩
                      simp only [intOf]; have := HI12.out; omega
                    · refine step_sl1 x HX32.out (by rfl) (by rfl) ?_
                      have HB7 := Lib.hid (heap_alloc_last v1 (.cells (hv x) 28))
                      have CC := Lib.hid (CC.out.kb (below_al11 v1 (.cells (hv x) 28)))
                      have YY := Lib.hid (YY.out.kb (below_al11 v1 (.cells (hv x) 28)))
                      generalize v1.alloc (.cells (hv x) 28) = v3 at *
                      generalize v1.heap.size = b7 at *
                      refine hK.out _ _ trivial (fun hHeld => ?_)
                      clear hK K
                      try simp only [Act.put, List.setIfInBounds_toArray, List.set_cons_zero, List.set_cons_succ]
                      refine wpAnyH_ready (rs := [1]) (by kernel_rfl) (by simp) ?_
                      refine (AllReadyH.cons (by simp only [List.getElem?_toArray, List.getElem?_cons_succ, List.getElem?_cons_zero]; rfl) (fun K hK => ?_) AllReadyH.nil)
                      have cL := CC.out.par
                      go_simp
                      clear cL
                      refine hK.out _ _ trivial (fun hHeld => ?_)
                      clear hK K
                      try simp only [Act.put, List.setIfInBounds_toArray, List.set_cons_zero, List.set_cons_succ]
                      refine wpAnyH_ready (rs := [7]) (by kernel_rfl) (by simp) ?_
                      refine (AllReadyH.cons (by simp only [List.getElem?_toArray, List.getElem?_cons_succ, List.getElem?_cons_zero]; rfl) (fun K hK => ?_) AllReadyH.nil)
                      refine step_pushh rfl _ _ rfl W0.heap.size (.slice (some ⟨gp, 0, none⟩) m c) ps b7 x HX32.out (by rfl) CC.out.own (by rfl) HB7.out (by rw [← HM.out]; have := HM2.out; omega) YY.out.bel.size (m + 1) (by rw [HM.out]) ?_
                      intro p9 c9 v4 o9 oth9 loc9
                      have hpush := CC.out.push o9 oth9 HX32.out
                      have hc9 := cm_cell CC.out.hh (CC.out.mid oth9)
                      have hf9 : v4.frozen? ⟨cb, 32, none⟩ = false := frozen_of_row _ _ _ _ _ (CC.out.mid oth9)
                      have CN := Lib.hid hpush.1
                      have YN := Lib.hid (YY.out.far CC.out hpush.2)
                      clear hpush o9 oth9 loc9
                      refine hK.out _ _ trivial (fun hHeld => ?_)
                      clear hK K
                      try simp only [Act.put, List.setIfInBounds_toArray, List.set_cons_zero, List.set_cons_succ]
                      refine wpAnyH_take (i := 8) (v := ?_) (by simp only [List.getElem?_toArray, List.getElem?_cons_succ, List.getElem?_cons_zero]; rfl) (by kernel_rfl) (by kernel_rfl) (by kernel_rfl) (fun _ _ _ h => h) (Or.inl ⟨by rfl, ?_⟩) (by assumption) ?_
                      rotate_left
                      · intro w hSw
                        try dsimp only at hSw
                        go_simp
                        try with_reducible rfl
                      try simp only [Act.put, List.setIfInBounds_toArray, List.set_cons_zero, List.set_cons_succ]
                      refine wpAnyH_ready (rs := [9]) (by kernel_rfl) (by simp) ?_
                      refine (AllReadyH.cons (by simp only [List.getElem?_toArray, List.getElem?_cons_succ, List.getElem?_cons_zero]; rfl) (fun K hK => ?_) AllReadyH.nil)
                      go_simp
                      generalize v4.setCell ⟨cb, 32, none⟩ (.slice p9 (m + 1) c9) = v5 at *
                      refine hK.out _ _ trivial (fun hHeld => ?_)
                      clear hK K
                      try simp only [Act.put, List.setIfInBounds_toArray, List.set_cons_zero, List.set_cons_succ]
                      refine wpAnyH_done (by kernel_rfl) ?_ _
                      refine NoPanic.normal ?_
                      have HPL : Hid ((ps ++ [x]).length ≤ 10) := Lib.hid (by rw [List.length_append, ← HM.out]; have := HM2.out; simp; omega)
                      have RT := Lib.hid (RR0.out.kb YN.out.bel)
                      have XT := Lib.hid (XX0.out.kb YN.out.bel)
                      have t0 := RT.out.c0.1
                      have hcl := cld_range (w := v5) (p := cb) (o := 0) (h := h) (u := .slice p9 (m + 1) c9) CN.out.hh (by have := range_row CN.out.cell; rwa [cmv_list] at this)
                      have BA := Lib.hid (below_al11 v5 (.cells (cf [(h, .slice p9 (m + 1) c9)]).toArray 49))
                      go_wp2_with (first
                        | (go_at_call 24; refine (HPH.out _).mono ?_; rintro e wz ⟨rfl, rfl⟩)
                        | (refine slicec_w (C := [(h, .slice p9 (m + 1) c9)]) (by simpa using HH32.out) rfl (by simp) (by simp) ?hv ?hw ?_; (case hv => first | rfl | simp [Act.put, Act.eval]); (case hw => first | rfl | simp [Region.wanted, yielded]))
                        | (at_builtin; refine push_comm rfl (.tmp 114) (.tmp 116) rfl (b := v5.heap.size) (h := h) (u := .slice p9 (m + 1) c9) (ps := (ps ++ [x])) (w0 := w) rfl rfl (heap_alloc_last v5 _) (RT.out.kb BA.out) HNC.out (XT.out.kb BA.out) HH32.out CN.out.p32 HPL.out (own_mono (own_below CN.out.own BA.out) (XX0.out.hB ▸ XX0.out.bel.size)) (fun j _ h => nomatch h) NCB.out ?_; intro g5 c5 w5 hc5 hf5 R5 X5 o5; have R5 := Lib.hid R5; have X5 := Lib.hid X5; have O5 := Lib.hid o5; clear o5))
                      refine ⟨⟨i + 1, some ⟨g5, 0, none⟩, nC + 1, c5, C ++ [(h, _)], cs ++ [(h, _)], congrArg _ (by omega), HINL.out, HI12.out, Nat.succ_le_succ HNI.out, Lib.hid (by rw [HNC.out, List.length_append]; rfl), R5, X5⟩, ?_⟩
                      simp only [intOf]; have := HI12.out; omega
            · have HPH := Lib.hid (fun W : World => pick_to W yh 60 2 (by decide) (by decide) hc)
              clear hc
              go_wp2_with (go_at_call 24; refine (HPH.out _).mono ?_; rintro e wz ⟨rfl, rfl⟩)
              refine (hash_to _ _).mono ?_
              rintro e v2 ⟨rfl, bb⟩
              obtain ⟨x, hx⟩ : ∃ x, x = hh (wrap64 (n60 + 1)) := ⟨_, rfl⟩
              have hx32 : x.length = 32 := by rw [hx]; exact hh_length _
              rw [← hx]
              have CC := Lib.hid (CC.out.kb bb)
              have YY := Lib.hid (YY.out.kb bb)
              have CA := CC.out.kb (below_al11 v2 (.cells (hv x) 28))
              have YA := YY.out.kb (below_al11 v2 (.cells (hv x) 28))
              have hc2 := CA.par
              have hf2 := CA.free
              have CN := Lib.hid (CA.set (own_hash hx32 (heap_alloc_last v2 _) YY.out.bel.size) (H32.one hx32))
              have YN := Lib.hid (YA.far CA ((Only.refl (fun j => j = cb ∨ (Value.slice p m c).ownBlock = some j) (v2.alloc (.cells (hv x) 28))).setCell (p := ⟨cb, 32, none⟩) (.inl rfl) (.slice (some ⟨v2.heap.size, 0, none⟩) 1 1)))
              have HX32 := Lib.hid hx32
              clear hx hx32 CA YA bb
              go_upto_region 24 with (refine build_one x HX32.out rfl ?_)
              generalize (v2.alloc (.cells (hv x) 28)).setCell ⟨cb, 32, none⟩ (.slice (some ⟨v2.heap.size, 0, none⟩) 1 1) = v5 at *
              generalize v2.heap.size = b5 at *
              clear hc2 hf2 y0 y1 y2
              have HPL : Hid ([x].length ≤ 10) := Lib.hid (by simp)
              have RT := Lib.hid (RR0.out.kb YN.out.bel)
              have XT := Lib.hid (XX0.out.kb YN.out.bel)
              have t0 := RT.out.c0.1
              have hcl := cld_range (w := v5) (p := cb) (o := 0) (h := h) (u := .slice (some ⟨b5, 0, none⟩) 1 1) CN.out.hh (by have := range_row CN.out.cell; rwa [cmv_list] at this)
              have BA := Lib.hid (below_al11 v5 (.cells (cf [(h, .slice (some ⟨b5, 0, none⟩) 1 1)]).toArray 49))
              go_wp2_with (first
                | (go_at_call 24; refine (HPH.out _).mono ?_; rintro e wz ⟨rfl, rfl⟩)
                | (refine slicec_w (C := [(h, .slice (some ⟨b5, 0, none⟩) 1 1)]) (by simpa using HH32.out) rfl (by simp) (by simp) ?hv ?hw ?_; (case hv => first | rfl | simp [Act.put, Act.eval]); (case hw => first | rfl | simp [Region.wanted, yielded]))
                | (at_builtin; refine push_comm rfl (.tmp 114) (.tmp 116) rfl (b := v5.heap.size) (h := h) (u := .slice (some ⟨b5, 0, none⟩) 1 1) (ps := [x]) (w0 := w) rfl rfl (heap_alloc_last v5 _) (RT.out.kb BA.out) HNC.out (XT.out.kb BA.out) HH32.out CN.out.p32 HPL.out (own_mono (own_below CN.out.own BA.out) (XX0.out.hB ▸ XX0.out.bel.size)) (fun j _ h => nomatch h) NCB.out ?_; intro g5 c5 w5 hc5 hf5 R5 X5 o5; have R5 := Lib.hid R5; have X5 := Lib.hid X5; have O5 := Lib.hid o5; clear o5))
              refine ⟨⟨i + 1, some ⟨g5, 0, none⟩, nC + 1, c5, C ++ [(h, _)], cs ++ [(h, _)], congrArg _ (by omega), HINL.out, HI12.out, Nat.succ_le_succ HNI.out, Lib.hid (by rw [HNC.out, List.length_append]; rfl), R5, X5⟩, ?_⟩
              simp only [intOf]; have := HI12.out; omega
            · have HPH := Lib.hid (fun W : World => pick_any W yh 60 (by decide) (by decide))
              generalize yh % 60 = r at *
              obtain ⟨hr0, hr1, hr2⟩ := hc
              have RT := Lib.hid (RR0.out.kb YY.out.bel)
              have XT := Lib.hid (XX0.out.kb YY.out.bel)
              have t0 := RT.out.c0.1
              have hcl := cld_range (w := wr) (p := cb) (o := 0) (h := h) (u := .slice p m c) CC.out.hh (by have := range_row CC.out.cell; rwa [cmv_list] at this)
              have BA := Lib.hid (below_al11 wr (.cells (cf [(h, .slice p m c)]).toArray 49))
              go_wp2_with (first
                | (go_at_call 24; refine (HPH.out _).mono ?_; rintro e wz ⟨rfl, rfl⟩)
                | (refine slicec_w (C := [(h, .slice p m c)]) (by simpa using HH32.out) rfl (by simp) (by simp) ?hv ?hw ?_; (case hv => first | rfl | simp [Act.put, Act.eval]); (case hw => first | rfl | simp [Region.wanted, yielded]))
                | (at_builtin; refine push_comm rfl (.tmp 114) (.tmp 116) rfl (b := wr.heap.size) (h := h) (u := .slice p m c) (ps := ps) (w0 := w) rfl rfl (heap_alloc_last wr _) (RT.out.kb BA.out) HNC.out (XT.out.kb BA.out) HH32.out CC.out.p32 HPL.out (own_mono (own_below CC.out.own BA.out) (XX0.out.hB ▸ XX0.out.bel.size)) (fun j _ h => nomatch h) NCB.out ?_; intro g5 c5 w5 hc5 hf5 R5 X5 o5; have R5 := Lib.hid R5; have X5 := Lib.hid X5; have O5 := Lib.hid o5; clear o5))
              refine ⟨⟨i + 1, some ⟨g5, 0, none⟩, nC + 1, c5, C ++ [(h, _)], cs ++ [(h, _)], congrArg _ (by omega), HINL.out, HI12.out, Nat.succ_le_succ HNI.out, Lib.hid (by rw [HNC.out, List.length_append]; rfl), R5, X5⟩, ?_⟩
              simp only [intOf]; have := HI12.out; omega
      · rcases (by omega : ¬ i < nL ∨ (i < nL ∧ ¬ i < 12)) with hq1 | ⟨hq1, hq2⟩
        · have hjl : ¬ (i : Int) < nL := by omega
          clear hlt hq1 hi
          go_wp2_with fail
          go_meet
          case rel => exact ⟨pc, nC, cc, C, cs, Nat.le_trans HNI.out hi2, HNC, RR, XX⟩
        · have hjl : (i : Int) < nL := by omega
          have hjl6 : ¬ (i : Int) < 12 := by omega
          clear hlt hq1 hq2 hi
          go_wp2_with fail
          go_meet
          case rel => exact ⟨pc, nC, cc, C, cs, Nat.le_trans HNI.out hi2, HNC, RR, XX⟩
  case rest =>
    clear R1 X1
    obtain ⟨pc, nC, cc, C, cs, hn12, HNC, RR, XX⟩ := hcut
    have HN12 := Lib.hid hn12
    clear hn12
    go_upto_block 7 with fail
    go_cut [11] from 119 to 140 (fun _ wr => ∃ (ph : Option Addr) (mh ch : Nat) (hs : List Key), mh ≤ 4 ∧ Hid (mh = hs.length) ∧ Hid (RI wr B rb (.slice pc nC cc) (.slice ph mh ch) g C cs hs) ∧ Hid (XS w wr B bx rz rb (.slice pL nL cL) (.slice pH nH cH) grp how))
    case first =>
      go_wp2_with fail
      go_loopw [11] (fun s wq => ∃ (i : Nat) (ph : Option Addr) (ch : Nat) (hs : List Key), s = .int .i64 i ∧ i ≤ nH ∧ i ≤ 4 ∧ Hid (i = hs.length) ∧ Hid (RI wq B rb (.slice pc nC cc) (.slice ph i ch) g C cs hs) ∧ Hid (XS w wq B bx rz rb (.slice pL nL cL) (.slice pH nH cH) grp how))
        (fun s _ => 4 - (intOf s).toNat)
      case atStart => exact ⟨0, none, 0, [], rfl, Nat.zero_le _, Nat.zero_le _, Lib.hid rfl, RR, XX⟩
      case round =>
        clear RR XX
        obtain ⟨i, ph, ch, hs, rfl, hi, hi4, HMH, RR, XX⟩ := hrel
        obtain ⟨x0, x1, x2, x3⟩ := XX.out.c
        by_cases hlt : i < nH ∧ i < 4
        · obtain ⟨h1, h2⟩ := hlt
          have hl1 : (i : Int) < nH := by omega
          have hl2 : (i : Int) < 4 := by omega
          have hl0 : (0 : Int) ≤ i := by omega
          have HI4 := Lib.hid h2
          have HINH := Lib.hid h1
          obtain ⟨x, hx⟩ : ∃ x, Hs[i]? = some x := ⟨Hs[i]'(by rw [← HNH.out]; exact h1), List.getElem?_eq_getElem _⟩
          obtain ⟨aH, rfl, hc0⟩ := (HH.out.kb' XX.out.of).at' hx
          have HX := Lib.hid hx
          clear hx hc0 h1 h2 hi hi4
          go_wp2_with fail
          have bq : Below wr.heap.size wr wr.drew := blw_qt _ 1 wr
          have RR := Lib.hid (RR.out.kb bq)
          have XX := Lib.hid (XX.out.kb bq)
          clear bq x0 x1 x2 x3
          try simp only [List.append]
          refine wp_region_noPanic ?_
          refine wp_region_held_drew (S := (fun V => V.cell? ⟨bx, 1, none⟩ = some (.slice (some aH) nH cH) ∧ V.cell? (aH.add i) = some (.int .i64 x))) (by kernel_rfl) ⟨XX.out.c.2.1, (HH.out.kb' XX.out.of).cell' HX.out⟩ (fun hHeld => ?_)
          generalize wr.drew = v1 at *
          refine wpAnyH_take (i := 0) (v := ?_) (by simp only [List.getElem?_toArray, List.getElem?_cons_zero]; rfl) (by kernel_rfl) (by kernel_rfl) (by kernel_rfl) (fun _ _ _ h => h) (Or.inl ⟨by rfl, ?_⟩) (by assumption) ?_
          rotate_left
          · intro w hSw
            try dsimp only at hSw
            go_simp
            try with_reducible rfl
          try simp only [Act.put, List.setIfInBounds_toArray, List.set_cons_zero, List.set_cons_succ]
          refine wpAnyH_take (i := 2) (v := ?_) (by simp only [List.getElem?_toArray, List.getElem?_cons_succ, List.getElem?_cons_zero]; rfl) (by kernel_rfl) (by kernel_rfl) (by kernel_rfl) (fun _ _ _ h => h) (Or.inl ⟨by rfl, ?_⟩) (by assumption) ?_
          rotate_left
          · intro w hSw
            try dsimp only at hSw
            go_simp
            try with_reducible rfl
          try simp only [Act.put, List.setIfInBounds_toArray, List.set_cons_zero, List.set_cons_succ]
          refine wpAnyH_take (i := 3) (v := ?_) (by simp only [List.getElem?_toArray, List.getElem?_cons_succ, List.getElem?_cons_zero]; rfl) (by kernel_rfl) (by kernel_rfl) (by kernel_rfl) (fun _ _ _ h => h) (Or.inl ⟨by rfl, ?_⟩) (by assumption) ?_
          rotate_left
          · intro w hSw
            try dsimp only at hSw
            go_simp
            try with_reducible rfl
          try simp only [Act.put, List.setIfInBounds_toArray, List.set_cons_zero, List.set_cons_succ]
          refine wpAnyH_take (i := 4) (v := ?_) (by simp only [List.getElem?_toArray, List.getElem?_cons_succ, List.getElem?_cons_zero]; rfl) (by kernel_rfl) (by kernel_rfl) (by kernel_rfl) (fun _ _ _ h => h) (Or.inl ⟨by rfl, ?_⟩) (by assumption) ?_
          rotate_left
          · intro w hSw
            try dsimp only at hSw
            go_simp
            try with_reducible rfl
          try simp only [Act.put, List.setIfInBounds_toArray, List.set_cons_zero, List.set_cons_succ]
          refine wpAnyH_take (i := 5) (v := ?_) (by simp only [List.getElem?_toArray, List.getElem?_cons_succ, List.getElem?_cons_zero]; rfl) (by kernel_rfl) (by kernel_rfl) (by kernel_rfl) (fun _ _ _ h => h) (Or.inl ⟨by rfl, ?_⟩) (by assumption) ?_
          rotate_left
          · intro w hSw
            try dsimp only at hSw
            go_simp
            try with_reducible rfl
          try simp only [Act.put, List.setIfInBounds_toArray, List.set_cons_zero, List.set_cons_succ]
          refine wpAnyH_take (i := 6) (v := ?_) (by simp only [List.getElem?_toArray, List.getElem?_cons_succ, List.getElem?_cons_zero]; rfl) (by kernel_rfl) (by kernel_rfl) (by kernel_rfl) (fun _ _ _ h => h) (Or.inl ⟨by rfl, ?_⟩) (by assumption) ?_
          rotate_left
          · intro w hSw
            try dsimp only at hSw
            go_simp
            try with_reducible rfl
          try simp only [Act.put, List.setIfInBounds_toArray, List.set_cons_zero, List.set_cons_succ]
          refine wpAnyH_ready (rs := [1, 7]) (by kernel_rfl) (by simp) ?_
          refine (AllReadyH.cons (by simp only [List.getElem?_toArray, List.getElem?_cons_succ, List.getElem?_cons_zero]; rfl) (fun K hK => ?_) (AllReadyH.cons (by simp only [List.getElem?_toArray, List.getElem?_cons_succ, List.getElem?_cons_zero]; rfl) (fun K hK => ?_) AllReadyH.nil))
          · have cL := RR.out.c0.2.1
            go_simp
            clear cL
            refine hK.out _ _ ⟨XX.out.c.2.1, (HH.out.kb' XX.out.of).cell' HX.out⟩ (fun hHeld => ?_)
            clear hK K
            try simp only [Act.put, List.setIfInBounds_toArray, List.set_cons_zero, List.set_cons_succ]
            refine wpAnyH_ready (rs := [7]) (by kernel_rfl) (by simp) ?_
            refine (AllReadyH.cons (by simp only [List.getElem?_toArray, List.getElem?_cons_succ, List.getElem?_cons_zero]; rfl) (fun K hK => ?_) AllReadyH.nil)
            go_simp
            refine (hash_to _ x).mono ?_
            rintro e v2 ⟨rfl, bb⟩
            have RR := Lib.hid (RR.out.kb bb)
            have XX := Lib.hid (XX.out.kb bb)
            clear bb
            go_wp2_with fail
            refine hK.out _ _ ⟨XX.out.c.2.1, (HH.out.kb' XX.out.of).cell' HX.out⟩ (fun hHeld => ?_)
            clear hK K
            try simp only [Act.put, List.setIfInBounds_toArray, List.set_cons_zero, List.set_cons_succ]
            refine wpAnyH_ready (rs := [8]) (by kernel_rfl) (by simp) ?_
            refine (AllReadyH.cons (by simp only [List.getElem?_toArray, List.getElem?_cons_succ, List.getElem?_cons_zero]; rfl) (fun K hK => ?_) AllReadyH.nil)
            refine step_sl1 (hh x) (hh_length x) (by rfl) (by rfl) ?_
            have HB7 := Lib.hid (heap_alloc_last v2 (.cells (hv (hh x)) 28))
            have RR := Lib.hid (RR.out.kb (below_al11 v2 (.cells (hv (hh x)) 28)))
            have XX := Lib.hid (XX.out.kb (below_al11 v2 (.cells (hv (hh x)) 28)))
            generalize v2.alloc (.cells (hv (hh x)) 28) = v3 at *
            generalize v2.heap.size = b7 at *
            refine hK.out _ _ ⟨XX.out.c.2.1, (HH.out.kb' XX.out.of).cell' HX.out⟩ (fun hHeld => ?_)
            clear hK K
            try simp only [Act.put, List.setIfInBounds_toArray, List.set_cons_zero, List.set_cons_succ]
            refine wpAnyH_ready (rs := [9]) (by kernel_rfl) (by simp) ?_
            refine (AllReadyH.cons (by simp only [List.getElem?_toArray, List.getElem?_cons_succ, List.getElem?_cons_zero]; rfl) (fun K hK => ?_) AllReadyH.nil)
            refine step_pushh rfl _ _ rfl B (.slice ph i ch) hs b7 (hh x) (hh_length x) (by rfl) RR.out.heads (by rfl) HB7.out (by rw [← HMH.out]; have := HI4.out; omega) (by rw [XX.out.hB]; exact XX.out.bel.size) (i + 1) (by rw [HMH.out]) ?_
            intro p9 c9 v4 o9 oth9 loc9
            have hpush := RR.out.head (hh_length x) o9 oth9 loc9
            have hc9 : v4.cell? ⟨rb, 1, none⟩ = some (.slice ph i ch) := by rw [cell_of_row v4 rb 1 _ _ _ (RR.out.hmid oth9)]; rfl
            have hf9 : v4.frozen? ⟨rb, 1, none⟩ = false := frozen_of_row _ _ _ _ _ (RR.out.hmid oth9)
            have XH := Lib.hid (XX.out.far (oth9.mono (T := fun j => j = rb ∨ (Value.slice ph i ch).ownBlock = some j) fun j _ hj => .inr hj) RR.out.heads (by decide) RR.out.lo RR.out.cell)
            have XN := Lib.hid (XX.out.far hpush.2 RR.out.heads (by decide) RR.out.lo RR.out.cell)
            have RN := Lib.hid hpush.1
            clear hpush o9 oth9 loc9
            refine hK.out _ _ ⟨XH.out.c.2.1, (HH.out.kb' XH.out.of).cell' HX.out⟩ (fun hHeld => ?_)
            clear hK K
            try simp only [Act.put, List.setIfInBounds_toArray, List.set_cons_zero, List.set_cons_succ]
            refine wpAnyH_take (i := 10) (v := ?_) (by simp only [List.getElem?_toArray, List.getElem?_cons_succ, List.getElem?_cons_zero]; rfl) (by kernel_rfl) (by kernel_rfl) (by kernel_rfl) (fun _ _ _ h => h) (Or.inl ⟨by rfl, ?_⟩) (by assumption) ?_
            rotate_left
            · intro w hSw
              try dsimp only at hSw
              go_simp
              try with_reducible rfl
            try simp only [Act.put, List.setIfInBounds_toArray, List.set_cons_zero, List.set_cons_succ]
            refine wpAnyH_ready (rs := [11]) (by kernel_rfl) (by simp) ?_
            refine (AllReadyH.cons (by simp only [List.getElem?_toArray, List.getElem?_cons_succ, List.getElem?_cons_zero]; rfl) (fun K hK => ?_) AllReadyH.nil)
            go_simp
            generalize v4.setCell ⟨rb, 1, none⟩ (.slice p9 (i + 1) c9) = v5 at *
            refine hK.out _ _ ⟨XN.out.c.2.1, (HH.out.kb' XN.out.of).cell' HX.out⟩ (fun hHeld => ?_)
            clear hK K
            try simp only [Act.put, List.setIfInBounds_toArray, List.set_cons_zero, List.set_cons_succ]
            refine wpAnyH_done (by kernel_rfl) ?_ _
            refine NoPanic.normal ?_
            go_wp2_with fail
            refine ⟨⟨i + 1, p9, c9, hs ++ [hh x], congrArg _ (by omega), HINH.out, HI4.out, Lib.hid (by rw [HMH.out, List.length_append]; rfl), RN, XN⟩, ?_⟩
            simp only [intOf]; have := HI4.out; omega
          · go_simp
            refine (hash_to _ x).mono ?_
            rintro e v2 ⟨rfl, bb⟩
            have RR := Lib.hid (RR.out.kb bb)
            have XX := Lib.hid (XX.out.kb bb)
            clear bb
            go_wp2_with fail
            refine hK.out _ _ ⟨XX.out.c.2.1, (HH.out.kb' XX.out.of).cell' HX.out⟩ (fun hHeld => ?_)
            clear hK K
            try simp only [Act.put, List.setIfInBounds_toArray, List.set_cons_zero, List.set_cons_succ]
            refine wpAnyH_ready (rs := [1, 8]) (by kernel_rfl) (by simp) ?_
            refine (AllReadyH.cons (by simp only [List.getElem?_toArray, List.getElem?_cons_succ, List.getElem?_cons_zero]; rfl) (fun K hK => ?_) (AllReadyH.cons (by simp only [List.getElem?_toArray, List.getElem?_cons_succ, List.getElem?_cons_zero]; rfl) (fun K hK => ?_) AllReadyH.nil))
            · have cL := RR.out.c0.2.1
              go_simp
              clear cL
              refine hK.out _ _ ⟨XX.out.c.2.1, (HH.out.kb' XX.out.of).cell' HX.out⟩ (fun hHeld => ?_)
              clear hK K
              try simp only [Act.put, List.setIfInBounds_toArray, List.set_cons_zero, List.set_cons_succ]
              refine wpAnyH_ready (rs := [8]) (by kernel_rfl) (by simp) ?_
              refine (AllReadyH.cons (by simp only [List.getElem?_toArray, List.getElem?_cons_succ, List.getElem?_cons_zero]; rfl) (fun K hK => ?_) AllReadyH.nil)
              refine step_sl1 (hh x) (hh_length x) (by rfl) (by rfl) ?_
              have HB7 := Lib.hid (heap_alloc_last v2 (.cells (hv (hh x)) 28))
              have RR := Lib.hid (RR.out.kb (below_al11 v2 (.cells (hv (hh x)) 28)))
              have XX := Lib.hid (XX.out.kb (below_al11 v2 (.cells (hv (hh x)) 28)))
              generalize v2.alloc (.cells (hv (hh x)) 28) = v3 at *
              generalize v2.heap.size = b7 at *
              refine hK.out _ _ ⟨XX.out.c.2.1, (HH.out.kb' XX.out.of).cell' HX.out⟩ (fun hHeld => ?_)
              clear hK K
              try simp only [Act.put, List.setIfInBounds_toArray, List.set_cons_zero, List.set_cons_succ]
              refine wpAnyH_ready (rs := [9]) (by kernel_rfl) (by simp) ?_
              refine (AllReadyH.cons (by simp only [List.getElem?_toArray, List.getElem?_cons_succ, List.getElem?_cons_zero]; rfl) (fun K hK => ?_) AllReadyH.nil)
              refine step_pushh rfl _ _ rfl B (.slice ph i ch) hs b7 (hh x) (hh_length x) (by rfl) RR.out.heads (by rfl) HB7.out (by rw [← HMH.out]; have := HI4.out; omega) (by rw [XX.out.hB]; exact XX.out.bel.size) (i + 1) (by rw [HMH.out]) ?_
              intro p9 c9 v4 o9 oth9 loc9
              have hpush := RR.out.head (hh_length x) o9 oth9 loc9
              have hc9 : v4.cell? ⟨rb, 1, none⟩ = some (.slice ph i ch) := by rw [cell_of_row v4 rb 1 _ _ _ (RR.out.hmid oth9)]; rfl
              have hf9 : v4.frozen? ⟨rb, 1, none⟩ = false := frozen_of_row _ _ _ _ _ (RR.out.hmid oth9)
              have XH := Lib.hid (XX.out.far (oth9.mono (T := fun j => j = rb ∨ (Value.slice ph i ch).ownBlock = some j) fun j _ hj => .inr hj) RR.out.heads (by decide) RR.out.lo RR.out.cell)
              have XN := Lib.hid (XX.out.far hpush.2 RR.out.heads (by decide) RR.out.lo RR.out.cell)
              have RN := Lib.hid hpush.1
              clear hpush o9 oth9 loc9
              refine hK.out _ _ ⟨XH.out.c.2.1, (HH.out.kb' XH.out.of).cell' HX.out⟩ (fun hHeld => ?_)
              clear hK K
              try simp only [Act.put, List.setIfInBounds_toArray, List.set_cons_zero, List.set_cons_succ]
              refine wpAnyH_take (i := 10) (v := ?_) (by simp only [List.getElem?_toArray, List.getElem?_cons_succ, List.getElem?_cons_zero]; rfl) (by kernel_rfl) (by kernel_rfl) (by kernel_rfl) (fun _ _ _ h => h) (Or.inl ⟨by rfl, ?_⟩) (by assumption) ?_
              rotate_left
              · intro w hSw
                try dsimp only at hSw
                go_simp
                try with_reducible rfl
              try simp only [Act.put, List.setIfInBounds_toArray, List.set_cons_zero, List.set_cons_succ]
              refine wpAnyH_ready (rs := [11]) (by kernel_rfl) (by simp) ?_
              refine (AllReadyH.cons (by simp only [List.getElem?_toArray, List.getElem?_cons_succ, List.getElem?_cons_zero]; rfl) (fun K hK => ?_) AllReadyH.nil)
              go_simp
              generalize v4.setCell ⟨rb, 1, none⟩ (.slice p9 (i + 1) c9) = v5 at *
              refine hK.out _ _ ⟨XN.out.c.2.1, (HH.out.kb' XN.out.of).cell' HX.out⟩ (fun hHeld => ?_)
              clear hK K
              try simp only [Act.put, List.setIfInBounds_toArray, List.set_cons_zero, List.set_cons_succ]
              refine wpAnyH_done (by kernel_rfl) ?_ _
              refine NoPanic.normal ?_
              go_wp2_with fail
              refine ⟨⟨i + 1, p9, c9, hs ++ [hh x], congrArg _ (by omega), HINH.out, HI4.out, Lib.hid (by rw [HMH.out, List.length_append]; rfl), RN, XN⟩, ?_⟩
              simp only [intOf]; have := HI4.out; omega
            · refine step_sl1 (hh x) (hh_length x) (by rfl) (by rfl) ?_
              have HB7 := Lib.hid (heap_alloc_last v2 (.cells (hv (hh x)) 28))
              have RR := Lib.hid (RR.out.kb (below_al11 v2 (.cells (hv (hh x)) 28)))
              have XX := Lib.hid (XX.out.kb (below_al11 v2 (.cells (hv (hh x)) 28)))
              generalize v2.alloc (.cells (hv (hh x)) 28) = v3 at *
              generalize v2.heap.size = b7 at *
              refine hK.out _ _ ⟨XX.out.c.2.1, (HH.out.kb' XX.out.of).cell' HX.out⟩ (fun hHeld => ?_)
              clear hK K
              try simp only [Act.put, List.setIfInBounds_toArray, List.set_cons_zero, List.set_cons_succ]
              refine wpAnyH_ready (rs := [1]) (by kernel_rfl) (by simp) ?_
              refine (AllReadyH.cons (by simp only [List.getElem?_toArray, List.getElem?_cons_succ, List.getElem?_cons_zero]; rfl) (fun K hK => ?_) AllReadyH.nil)
              have cL := RR.out.c0.2.1
              go_simp
              clear cL
              refine hK.out _ _ ⟨XX.out.c.2.1, (HH.out.kb' XX.out.of).cell' HX.out⟩ (fun hHeld => ?_)
              clear hK K
              try simp only [Act.put, List.setIfInBounds_toArray, List.set_cons_zero, List.set_cons_succ]
              refine wpAnyH_ready (rs := [9]) (by kernel_rfl) (by simp) ?_
              refine (AllReadyH.cons (by simp only [List.getElem?_toArray, List.getElem?_cons_succ, List.getElem?_cons_zero]; rfl) (fun K hK => ?_) AllReadyH.nil)
              refine step_pushh rfl _ _ rfl B (.slice ph i ch) hs b7 (hh x) (hh_length x) (by rfl) RR.out.heads (by rfl) HB7.out (by rw [← HMH.out]; have := HI4.out; omega) (by rw [XX.out.hB]; exact XX.out.bel.size) (i + 1) (by rw [HMH.out]) ?_
              intro p9 c9 v4 o9 oth9 loc9
              have hpush := RR.out.head (hh_length x) o9 oth9 loc9
              have hc9 : v4.cell? ⟨rb, 1, none⟩ = some (.slice ph i ch) := by rw [cell_of_row v4 rb 1 _ _ _ (RR.out.hmid oth9)]; rfl
              have hf9 : v4.frozen? ⟨rb, 1, none⟩ = false := frozen_of_row _ _ _ _ _ (RR.out.hmid oth9)
              have XH := Lib.hid (XX.out.far (oth9.mono (T := fun j => j = rb ∨ (Value.slice ph i ch).ownBlock = some j) fun j _ hj => .inr hj) RR.out.heads (by decide) RR.out.lo RR.out.cell)
              have XN := Lib.hid (XX.out.far hpush.2 RR.out.heads (by decide) RR.out.lo RR.out.cell)
              have RN := Lib.hid hpush.1
              clear hpush o9 oth9 loc9
              refine hK.out _ _ ⟨XH.out.c.2.1, (HH.out.kb' XH.out.of).cell' HX.out⟩ (fun hHeld => ?_)
              clear hK K
              try simp only [Act.put, List.setIfInBounds_toArray, List.set_cons_zero, List.set_cons_succ]
              refine wpAnyH_take (i := 10) (v := ?_) (by simp only [List.getElem?_toArray, List.getElem?_cons_succ, List.getElem?_cons_zero]; rfl) (by kernel_rfl) (by kernel_rfl) (by kernel_rfl) (fun _ _ _ h => h) (Or.inl ⟨by rfl, ?_⟩) (by assumption) ?_
              rotate_left
              · intro w hSw
                try dsimp only at hSw
                go_simp
                try with_reducible rfl
              try simp only [Act.put, List.setIfInBounds_toArray, List.set_cons_zero, List.set_cons_succ]
              refine wpAnyH_ready (rs := [11]) (by kernel_rfl) (by simp) ?_
              refine (AllReadyH.cons (by simp only [List.getElem?_toArray, List.getElem?_cons_succ, List.getElem?_cons_zero]; rfl) (fun K hK => ?_) AllReadyH.nil)
              go_simp
              generalize v4.setCell ⟨rb, 1, none⟩ (.slice p9 (i + 1) c9) = v5 at *
              refine hK.out _ _ ⟨XN.out.c.2.1, (HH.out.kb' XN.out.of).cell' HX.out⟩ (fun hHeld => ?_)
              clear hK K
              try simp only [Act.put, List.setIfInBounds_toArray, List.set_cons_zero, List.set_cons_succ]
              refine wpAnyH_done (by kernel_rfl) ?_ _
              refine NoPanic.normal ?_
              go_wp2_with fail
              refine ⟨⟨i + 1, p9, c9, hs ++ [hh x], congrArg _ (by omega), HINH.out, HI4.out, Lib.hid (by rw [HMH.out, List.length_append]; rfl), RN, XN⟩, ?_⟩
              simp only [intOf]; have := HI4.out; omega
        · rcases (by omega : ¬ i < nH ∨ (i < nH ∧ ¬ i < 4)) with hq1 | ⟨hq1, hq2⟩
          · have hjl : ¬ (i : Int) < nH := by omega
            clear hlt hq1 hi
            go_wp2_with fail
            go_meet
            case rel => exact ⟨ph, i, ch, hs, hi4, HMH, RR, XX⟩
          · have hjl : (i : Int) < nH := by omega
            have hjl6 : ¬ (i : Int) < 4 := by omega
            clear hlt hq1 hq2 hi
            go_wp2_with fail
            go_meet
            case rel => exact ⟨ph, i, ch, hs, hi4, HMH, RR, XX⟩
    case rest =>
      clear RR XX
      obtain ⟨ph, mh, ch, hs, hm4, HMH, RR, XX⟩ := hcut
      have HM4 := Lib.hid hm4
      clear hm4
      have HPQ := Lib.hid (fun W : World => pick_any W (wrap64 (how.tdiv 50)) 4 (by decide) (by decide))
      obtain ⟨x0, x1, x2, x3⟩ := XX.out.c
      go_upto_if 145 with (go_at_call 24; refine (HPQ.out _).mono ?_; rintro e wz ⟨rfl, rfl⟩)
      generalize wrap64 (how.tdiv 50) % 4 = k at *
      go_cut [12, 13, 14, 15, 16, 17, 18] from 145 to 229 (fun _ _ _ _ _ _ _ wr => ∃ (pc : Option Addr) (nC cc : Nat) (C : Cv) (cs : List Cm), nC ≤ 72 ∧ Hid (nC = C.length) ∧ Hid (RI wr B rb (.slice pc nC cc) (.slice ph mh ch) g C cs hs) ∧ Hid (XS w wr B bx rz rb (.slice pL nL cL) (.slice pH nH cH) grp how))
      case first =>
        by_cases hk : 0 < k
        · skip
          rename_i J0 K0 hJ0 hK0
          have HJ0 := Lib.hid hJ0
          have HK0 := Lib.hid hK0
          clear hJ0 hK0
          have HIB : Hid (B ≤ wc.heap.size) := Lib.hid (by rw [XX.out.hB]; exact XX.out.bel.size)
          have hk0 : (0 : Int) < k := hk
          clear x0 x1 x2 x3
          go_upto_region 31 with fail
          have HI0 : Hid (InB (wc.alloc (.cells #[.bool false, .bool false, .bool false, .bool false, .bool false, .bool false, .bool false, .bool false, .bool false, .bool false, .bool false, .bool false, .bool false, .bool false, .bool false, .bool false, .bool false, .bool false, .bool false, .bool false, .bool false, .bool false, .bool false, .bool false, .bool false, .bool false, .bool false, .bool false, .bool false, .bool false, .bool false, .bool false, .bool false, .bool false, .bool false, .bool false, .bool false, .bool false, .bool false, .bool false, .bool false, .bool false, .bool false, .bool false, .bool false, .bool false, .bool false, .bool false, .bool false, .bool false, .bool false, .bool false, .bool false, .bool false, .bool false, .bool false, .bool false, .bool false, .bool false, .bool false] 98)) wc.heap.size (List.replicate 60 false)) := Lib.hid ⟨heap_alloc_last wc _, rfl⟩
          have RR := Lib.hid (RR.out.kb (below_al11 wc (.cells #[.bool false, .bool false, .bool false, .bool false, .bool false, .bool false, .bool false, .bool false, .bool false, .bool false, .bool false, .bool false, .bool false, .bool false, .bool false, .bool false, .bool false, .bool false, .bool false, .bool false, .bool false, .bool false, .bool false, .bool false, .bool false, .bool false, .bool false, .bool false, .bool false, .bool false, .bool false, .bool false, .bool false, .bool false, .bool false, .bool false, .bool false, .bool false, .bool false, .bool false, .bool false, .bool false, .bool false, .bool false, .bool false, .bool false, .bool false, .bool false, .bool false, .bool false, .bool false, .bool false, .bool false, .bool false, .bool false, .bool false, .bool false, .bool false, .bool false, .bool false] 98)))
          have XX := Lib.hid (XX.out.kb (below_al11 wc (.cells #[.bool false, .bool false, .bool false, .bool false, .bool false, .bool false, .bool false, .bool false, .bool false, .bool false, .bool false, .bool false, .bool false, .bool false, .bool false, .bool false, .bool false, .bool false, .bool false, .bool false, .bool false, .bool false, .bool false, .bool false, .bool false, .bool false, .bool false, .bool false, .bool false, .bool false, .bool false, .bool false, .bool false, .bool false, .bool false, .bool false, .bool false, .bool false, .bool false, .bool false, .bool false, .bool false, .bool false, .bool false, .bool false, .bool false, .bool false, .bool false, .bool false, .bool false, .bool false, .bool false, .bool false, .bool false, .bool false, .bool false, .bool false, .bool false, .bool false, .bool false] 98)))
          generalize wc.alloc (.cells #[.bool false, .bool false, .bool false, .bool false, .bool false, .bool false, .bool false, .bool false, .bool false, .bool false, .bool false, .bool false, .bool false, .bool false, .bool false, .bool false, .bool false, .bool false, .bool false, .bool false, .bool false, .bool false, .bool false, .bool false, .bool false, .bool false, .bool false, .bool false, .bool false, .bool false, .bool false, .bool false, .bool false, .bool false, .bool false, .bool false, .bool false, .bool false, .bool false, .bool false, .bool false, .bool false, .bool false, .bool false, .bool false, .bool false, .bool false, .bool false, .bool false, .bool false, .bool false, .bool false, .bool false, .bool false, .bool false, .bool false, .bool false, .bool false, .bool false, .bool false] 98) = W4 at *
          generalize wc.heap.size = ib at *
          generalize decide ((0 : Int) < k) = dk at *
          clear hk hk0
          obtain ⟨x0, x1, x2, x3⟩ := XX.out.c
          obtain ⟨m0, hm0⟩ : ∃ m0 : Nat, min (nH : Int) 4 = m0 := ⟨min nH 4, by omega⟩
          have hcH : nH ≤ cH := by
            rcases HH.out with ⟨h1, h2⟩ | ⟨a, cap, h1, h2, _⟩
            · injection h1 with _ h1 _; omega
            · injection h1 with _ h1 h3; omega
          have hb1 : ¬ (cH : Int) < m0 := by omega
          have hb2 : ¬ (m0 : Int) < 0 := by omega
          have hb3 : (m0 : Int) ≤ cH := by omega
          have hb4 : (0 : Int) ≤ m0 := by omega
          have HM0 : Hid (m0 = min nH 4) := Lib.hid (by omega)
          have HM1 : Hid (m0 ≤ nH) := Lib.hid (by omega)
          have HTD0 : Hid (Td W4 B (.slice pH m0 cH) (Hs.take m0)) := Lib.hid (by rw [XX.out.hB]; exact Td.came (HH.out.pre HM1.out) XX.out.of)
          have HTD0 : Hid (Td W4 B (.slice pH m0 cH) (Hs.take m0)) := Lib.hid (by rw [XX.out.hB]; exact Td.came (HH.out.pre HM1.out) XX.out.of)
          go_upto_block 9 with fail
          clear hm0 hcH hb1 hb2 hb3 hb4 x0 x1 x2 x3
          go_cut [13, 14] from 153 to 183 (fun vt _ wr => ∃ (p : Option Addr) (m c : Nat) (td : List Int) (bs : List Bool), vt = .slice p m c ∧ m ≤ 28 ∧ Hid (m = td.length) ∧ Hid (Td wr B (.slice p m c) td) ∧ Hid (InB wr ib bs) ∧ Hid (RI wr B rb (.slice pc nC cc) (.slice ph mh ch) g C cs hs) ∧ Hid (XS w wr B bx rz rb (.slice pL nL cL) (.slice pH nH cH) grp how))
          case first =>
            go_wp2_with fail
            go_loopw [13, 14] (fun vt vi wq => ∃ (i : Nat) (p : Option Addr) (m c : Nat) (td : List Int) (bs : List Bool), vt = .slice p m c ∧ vi = .int .i64 i ∧ i ≤ nL ∧ i ≤ 12 ∧ m ≤ 4 + 2 * i ∧ Hid (m = td.length) ∧ Hid (Td wq B (.slice p m c) td) ∧ Hid (InB wq ib bs) ∧ Hid (RI wq B rb (.slice pc nC cc) (.slice ph mh ch) g C cs hs) ∧ Hid (XS w wq B bx rz rb (.slice pL nL cL) (.slice pH nH cH) grp how)) (fun _ vi _ => 12 - (intOf vi).toNat)
            case atStart => exact ⟨0, pH, m0, cH, Hs.take m0, List.replicate 60 false, rfl, rfl, Nat.zero_le _, Nat.zero_le _, by have := HM0.out; omega, Lib.hid (by rw [List.length_take, ← HNH.out]; have := HM1.out; omega), HTD0, HI0, RR, XX⟩
            case round =>
              clear RR XX HTD0 HI0 HM0 HM1
              obtain ⟨i, p, m, c, td, bs, rfl, rfl, hi, hi12, hm28, HM, HTD, HIN, RR, XX⟩ := hrel
              obtain ⟨x0, x1, x2, x3⟩ := XX.out.c
              by_cases hlt : i < nL ∧ i < 12
              · obtain ⟨h1, h2⟩ := hlt
                have hl1 : (i : Int) < nL := by omega
                have hl2 : (i : Int) < 12 := by omega
                have hl0 : (0 : Int) ≤ i := by omega
                have HI12 := Lib.hid h2
                have HINL := Lib.hid h1
                have HM28 := Lib.hid hm28
                have HMB : Hid (m ≤ 30) := Lib.hid (by omega)
                obtain ⟨p', cap', e1, hx⟩ := id HL.out
                injection e1 with e1 e2 e3
                subst e1
                have hiR : i < R.length := by rw [← HNL.out]; exact h1
                obtain ⟨b, o, rfl, hrg, hps⟩ := hx i _ (List.getElem?_eq_getElem hiR)
                clear hps
                generalize R[i] = y at hrg
                have HRG := Lib.hid hrg
                obtain ⟨c0, _, _⟩ := ld_rw (rng_kb HRG.out XX.out.of)
                have HPY := Lib.hid (fun W : World => pick_any W y.n 60 (by decide) (by decide))
                obtain ⟨n, hn⟩ : ∃ n : Nat, y.n % 60 = n := ⟨(y.n % 60).toNat, by omega⟩
                have hn60 : n < 60 := by omega
                rw [hn] at HPY
                have hnl : (n : Int) < 60 := by omega
                have hn0 : (0 : Int) ≤ n := by omega
                have HN60 := Lib.hid hn60
                obtain ⟨bn, hbn⟩ : ∃ bn, bs[n]? = some bn := ⟨bs[n]'(by rw [HIN.out.2]; exact hn60), List.getElem?_eq_getElem _⟩
                have hcI := HIN.out.cell hbn
                have hfI := HIN.out.free n
                clear hx e2 e3 hn hi hi12 hm28 hrg h1 h2 hiR hn60 hbn
                go_upto_region 36 with (go_at_call 24; refine (HPY.out _).mono ?_; rintro e wz ⟨rfl, rfl⟩)
                have hset := HIN.out.set HN60.out
                have RR := Lib.hid (RR.out.inb HIN.out hset.2)
                have XX := Lib.hid (XX.out.inb HIN.out HIB.out hset.2)
                have HTD := Lib.hid (HTD.out.only hset.2 (fun j hj => by rw [hj]; exact ⟨HIB.out, fun cs e => by rw [HIN.out.1] at e; injection e with e; injection e with _ e _; exact absurd e (by decide)⟩))
                have HIN := Lib.hid hset.1
                clear hset hcI hfI
                generalize wr.setCell ⟨ib, n, none⟩ (.bool true) = W5 at *
                generalize bs.set n true = bs5 at *
                clear c0 x0 x1 x2 x3
                go_wp2_with fail
                have bq : Below W5.heap.size W5 W5.drew := blw_qt _ 1 W5
                have RR := Lib.hid (RR.out.kb bq)
                have XX := Lib.hid (XX.out.kb bq)
                have HTD := Lib.hid (HTD.out.kb bq)
                have HIN := Lib.hid (HIN.out.kb bq)
                clear bq
                try simp only [List.append]
                refine wp_region_noPanic ?_
                refine wp_region_held_drew (S := (fun V => V.cell? ⟨bx, 0, none⟩ = some (.slice (some ⟨b, o, none⟩) nL cL) ∧ V.cell? ⟨b, o + i * 3, none⟩ = some (.int .i64 y.n))) (by kernel_rfl) ⟨XX.out.c.1, (ld_rw (rng_kb HRG.out XX.out.of)).1⟩ (fun hHeld => ?_)
                generalize W5.drew = cw at *
                obtain ⟨v1, hv1⟩ : ∃ V, V = cw := ⟨_, rfl⟩
                have V1 := Lib.hid hv1
                clear hv1
                have RR : Hid (RI v1 B rb (.slice pc nC cc) (.slice ph mh ch) g C cs hs) := Lib.hid (by rw [V1.out]; exact RR.out)
                have XX : Hid (XS w v1 B bx rz rb (.slice (some ⟨b, o, none⟩) nL cL) (.slice pH nH cH) grp how) := Lib.hid (by rw [V1.out]; exact XX.out)
                have HTD : Hid (Td v1 B (.slice p m c) td) := Lib.hid (by rw [V1.out]; exact HTD.out)
                have HIN : Hid (InB v1 ib bs5) := Lib.hid (by rw [V1.out]; exact HIN.out)
                have BV : Hid (Below v1.heap.size v1 cw) := Lib.hid (by rw [V1.out]; exact Below.refl _ _)
                clear V1
                refine wpAnyH_take (i := 1) (v := ?_) (by simp only [List.getElem?_toArray, List.getElem?_cons_succ, List.getElem?_cons_zero]; rfl) (by kernel_rfl) (by kernel_rfl) (by kernel_rfl) (fun _ _ _ h => h) (Or.inl ⟨by rfl, ?_⟩) (by assumption) ?_
                rotate_left
                · intro w hSw
                  try dsimp only at hSw
                  go_simp
                  try with_reducible rfl
                try simp only [Act.put, List.setIfInBounds_toArray, List.set_cons_zero, List.set_cons_succ]
                refine wpAnyH_take (i := 3) (v := ?_) (by simp only [List.getElem?_toArray, List.getElem?_cons_succ, List.getElem?_cons_zero]; rfl) (by kernel_rfl) (by kernel_rfl) (by kernel_rfl) (fun _ _ _ h => h) (Or.inl ⟨by rfl, ?_⟩) (by assumption) ?_
                rotate_left
                · intro w hSw
                  try dsimp only at hSw
                  go_simp
                  try with_reducible rfl
                try simp only [Act.put, List.setIfInBounds_toArray, List.set_cons_zero, List.set_cons_succ]
                refine wpAnyH_take (i := 4) (v := ?_) (by simp only [List.getElem?_toArray, List.getElem?_cons_succ, List.getElem?_cons_zero]; rfl) (by kernel_rfl) (by kernel_rfl) (by kernel_rfl) (fun _ _ _ h => h) (Or.inl ⟨by rfl, ?_⟩) (by assumption) ?_
                rotate_left
                · intro w hSw
                  try dsimp only at hSw
                  go_simp
                  try with_reducible rfl
                try simp only [Act.put, List.setIfInBounds_toArray, List.set_cons_zero, List.set_cons_succ]
                refine wpAnyH_take (i := 5) (v := ?_) (by simp only [List.getElem?_toArray, List.getElem?_cons_succ, List.getElem?_cons_zero]; rfl) (by kernel_rfl) (by kernel_rfl) (by kernel_rfl) (fun _ _ _ h => h) (Or.inl ⟨by rfl, ?_⟩) (by assumption) ?_
                rotate_left
                · intro w hSw
                  try dsimp only at hSw
                  go_simp
                  try with_reducible rfl
                try simp only [Act.put, List.setIfInBounds_toArray, List.set_cons_zero, List.set_cons_succ]
                refine wpAnyH_take (i := 6) (v := ?_) (by simp only [List.getElem?_toArray, List.getElem?_cons_succ, List.getElem?_cons_zero]; rfl) (by kernel_rfl) (by kernel_rfl) (by kernel_rfl) (fun _ _ _ h => h) (Or.inl ⟨by rfl, ?_⟩) (by assumption) ?_
                rotate_left
                · intro w hSw
                  try dsimp only at hSw
                  go_simp
                  try with_reducible rfl
                try simp only [Act.put, List.setIfInBounds_toArray, List.set_cons_zero, List.set_cons_succ]
                refine wpAnyH_take (i := 7) (v := ?_) (by simp only [List.getElem?_toArray, List.getElem?_cons_succ, List.getElem?_cons_zero]; rfl) (by kernel_rfl) (by kernel_rfl) (by kernel_rfl) (fun _ _ _ h => h) (Or.inl ⟨by rfl, ?_⟩) (by assumption) ?_
                rotate_left
                · intro w hSw
                  try dsimp only at hSw
                  go_simp
                  try with_reducible rfl
                try simp only [Act.put, List.setIfInBounds_toArray, List.set_cons_zero, List.set_cons_succ]
                refine wpAnyH_take (i := 8) (v := ?_) (by simp only [List.getElem?_toArray, List.getElem?_cons_succ, List.getElem?_cons_zero]; rfl) (by kernel_rfl) (by kernel_rfl) (by kernel_rfl) (fun _ _ _ h => h) (Or.inl ⟨by rfl, ?_⟩) (by assumption) ?_
                rotate_left
                · intro w hSw
                  try dsimp only at hSw
                  go_simp
                  try with_reducible rfl
                try simp only [Act.put, List.setIfInBounds_toArray, List.set_cons_zero, List.set_cons_succ]
                refine wpAnyH_ready (rs := [0]) (by kernel_rfl) (by simp) ?_
                refine (AllReadyH.cons (by simp only [List.getElem?_toArray, List.getElem?_cons_zero]; rfl) (fun K hK => ?_) AllReadyH.nil)
                refine step_empty_ints rfl rfl ?_
                have E0 : Hid ((cw.alloc (.cells #[] 3)).ownsRow v1.heap.size 3 1 (.slice (some ⟨cw.heap.size, 0, none⟩) 0 0) 0 []) := Lib.hid (own_empty cw _ _ BV.out.size)
                try have N8 : Hid ((Value.slice p8 n8 c8).ownBlock ≠ some cw.heap.size) := Lib.hid (fun hj => by obtain ⟨_, h1, _⟩ := own_type O8.out hj; have := (Array.getElem?_eq_some_iff.1 h1).1; omega)
                try have O8 := Lib.hid (own_below O8.out (below_al11 cw (.cells #[] 3)))
                have BV := Lib.hid (BV.out.alloc BV.out.size (.cells #[] 3))
                generalize cw.alloc (.cells #[] 3) = cx at *
                generalize cw.heap.size = b0 at *
                rename World => cw
                refine hK.out _ _ ⟨(XX.out.kb BV.out).c.1, (ld_rw (rng_kb HRG.out (XX.out.kb BV.out).of)).1⟩ (fun hHeld => ?_)
                clear hK K
                try simp only [Act.put, List.setIfInBounds_toArray, List.set_cons_zero, List.set_cons_succ]
                refine wpAnyH_ready (rs := [2]) (by kernel_rfl) (by simp) ?_
                refine (AllReadyH.cons (by simp only [List.getElem?_toArray, List.getElem?_cons_succ, List.getElem?_cons_zero]; rfl) (fun K hK => ?_) AllReadyH.nil)
                refine step_app_ints rfl _ _ rfl v1.heap.size (.slice (some ⟨b0, 0, none⟩) 0 0) (.slice p m c) 0 m [] td (by simp) (by rfl) E0.out rfl (by rfl) (HTD.out.kb BV.out).seen (by rw [HM.out, Nat.zero_add]) (by have := HMB.out; omega) BV.out.size ?_
                intro g2 c2 cx o2 oth2 loc2
                have O2 : Hid (cx.ownsRow v1.heap.size 3 1 (.slice (some ⟨g2, 0, none⟩) m c2) m (td.map (Value.int .i64))) := Lib.hid o2
                have BV := Lib.hid (BV.out.trans (oth2.below BV.out.size (fun k hk => own_from E0.out k hk)))
                try have O8 := Lib.hid (own_keep O8.out oth2 (fun j hj e => N8.out (hj.trans e.symm)))
                clear o2 oth2 loc2
                rename World => cw
                refine hK.out _ _ ⟨(XX.out.kb BV.out).c.1, (ld_rw (rng_kb HRG.out (XX.out.kb BV.out).of)).1⟩ (fun hHeld => ?_)
                clear hK K
                try simp only [Act.put, List.setIfInBounds_toArray, List.set_cons_zero, List.set_cons_succ]
                refine wpAnyH_ready (rs := [9]) (by kernel_rfl) (by simp) ?_
                refine (AllReadyH.cons (by simp only [List.getElem?_toArray, List.getElem?_cons_succ, List.getElem?_cons_zero]; rfl) (fun K hK => ?_) AllReadyH.nil)
                go_simp
                refine (HPY.out _).mono ?_
                rintro e wz ⟨rfl, rfl⟩
                go_wp2_with fail
                refine hK.out _ _ ⟨(XX.out.kb BV.out).c.1, (ld_rw (rng_kb HRG.out (XX.out.kb BV.out).of)).1⟩ (fun hHeld => ?_)
                clear hK K
                try simp only [Act.put, List.setIfInBounds_toArray, List.set_cons_zero, List.set_cons_succ]
                refine wpAnyH_ready (rs := [10]) (by kernel_rfl) (by simp) ?_
                refine (AllReadyH.cons (by simp only [List.getElem?_toArray, List.getElem?_cons_succ, List.getElem?_cons_zero]; rfl) (fun K hK => ?_) AllReadyH.nil)
                go_simp
                refine (ahead_to cw n hn0 hnl).mono ?_
                rintro e cx ⟨v8, l8, rfl, hl8, o8, b8⟩
                obtain ⟨n8, hn8⟩ : ∃ n, n = l8.length := ⟨_, rfl⟩
                obtain ⟨p8, c8, hv8⟩ := (IOwns.seen o8).shape'
                unfold IOwns at o8
                rw [← hn8] at o8 hl8 hv8
                subst hv8
                have HL8 := Lib.hid hl8
                have HN8 := Lib.hid hn8
                try have N8 : Hid ((Value.slice p8 n8 c8).ownBlock ≠ some b0) := Lib.hid (fun hj => by have h1 := own_from o8 b0 hj; obtain ⟨_, h2, _⟩ := own_type E0.out (j := b0) rfl; have := (Array.getElem?_eq_some_iff.1 h2).1; omega)
                try have E0 := Lib.hid (own_below E0.out b8)
                try have O2 := Lib.hid (own_below O2.out b8)
                have O8 : Hid (cx.ownsRow v1.heap.size 3 1 (.slice p8 n8 c8) n8 (l8.map (Value.int .i64))) := Lib.hid (own_mono o8 BV.out.size)
                have BV := Lib.hid (BV.out.trans (b8.mono BV.out.size))
                clear o8 b8 hl8 hn8
                rename World => cw
                go_wp2_with fail
                refine hK.out _ _ ⟨(XX.out.kb BV.out).c.1, (ld_rw (rng_kb HRG.out (XX.out.kb BV.out).of)).1⟩ (fun hHeld => ?_)
                clear hK K
                try simp only [Act.put, List.setIfInBounds_toArray, List.set_cons_zero, List.set_cons_succ]
                refine wpAnyH_ready (rs := [11]) (by kernel_rfl) (by simp) ?_
                refine (AllReadyH.cons (by simp only [List.getElem?_toArray, List.getElem?_cons_succ, List.getElem?_cons_zero]; rfl) (fun K hK => ?_) AllReadyH.nil)
                refine step_app_ints rfl _ _ rfl v1.heap.size (.slice (some ⟨g2, 0, none⟩) m c2) (.slice p8 n8 c8) m (m + n8) td l8 (by simp) (by rfl) O2.out HM.out (by rfl) (IOwns.seen (show IOwns cw v1.heap.size (.slice p8 n8 c8) l8 by unfold IOwns; rw [← HN8.out]; exact O8.out)) (by rw [HN8.out]) (by have := HMB.out; have := HL8.out; omega) BV.out.size ?_
                intro g3 c3 cx o3 oth3 loc3
                have BV := Lib.hid (BV.out.trans (oth3.below BV.out.size (fun k hk => own_from O2.out k hk)))
                have HTN : Hid (Td cx B (.slice (some ⟨g3, 0, none⟩) (m + n8) c3) (td ++ l8)) := Lib.hid (Td.own (A := v1.heap.size) (by unfold IOwns; rw [List.length_append, ← HM.out, ← HN8.out]; exact o3))
                clear o3 oth3 loc3
                rename World => cw
                refine hK.out _ _ ⟨(XX.out.kb BV.out).c.1, (ld_rw (rng_kb HRG.out (XX.out.kb BV.out).of)).1⟩ (fun hHeld => ?_)
                clear hK K
                try simp only [Act.put, List.setIfInBounds_toArray, List.set_cons_zero, List.set_cons_succ]
                refine wpAnyH_take (i := 12) (v := ?_) (by simp only [List.getElem?_toArray, List.getElem?_cons_succ, List.getElem?_cons_zero]; rfl) (by kernel_rfl) (by kernel_rfl) (by kernel_rfl) (fun _ _ _ h => h) (Or.inl ⟨by rfl, ?_⟩) (by assumption) ?_
                rotate_left
                · intro w hSw
                  try dsimp only at hSw
                  go_simp
                  try with_reducible rfl
                try simp only [Act.put, List.setIfInBounds_toArray, List.set_cons_zero, List.set_cons_succ]
                refine wpAnyH_done (by kernel_rfl) ?_ _
                refine NoPanic.normal ?_
                go_wp2_with fail
                refine ⟨⟨i + 1, some ⟨g3, 0, none⟩, m + n8, c3, td ++ l8, bs5, rfl, congrArg _ (by omega), HINL.out, HI12.out, by have := HM28.out; have := HL8.out; omega, Lib.hid (by rw [List.length_append, ← HM.out, ← HN8.out]), HTN, Lib.hid (HIN.out.kb BV.out), Lib.hid (RR.out.kb BV.out), Lib.hid (XX.out.kb BV.out)⟩, ?_⟩
                simp only [intOf]; have := HI12.out; omega
              · rcases (by omega : ¬ i < nL ∨ (i < nL ∧ ¬ i < 12)) with hq1 | ⟨hq1, hq2⟩
                · have hjl : ¬ (i : Int) < nL := by omega
                  have HM28 : Hid (m ≤ 28) := Lib.hid (by omega)
                  clear hlt hq1 hi hm28
                  go_wp2_with fail
                  go_meet
                  case rel => exact ⟨p, m, c, td, bs, rfl, HM28.out, HM, HTD, HIN, RR, XX⟩
                · have hjl : (i : Int) < nL := by omega
                  have hjl6 : ¬ (i : Int) < 12 := by omega
                  have HM28 : Hid (m ≤ 28) := Lib.hid (by omega)
                  clear hlt hq1 hq2 hi hm28
                  go_wp2_with fail
                  go_meet
                  case rel => exact ⟨p, m, c, td, bs, rfl, HM28.out, HM, HTD, HIN, RR, XX⟩
          case rest =>
            obtain ⟨p, m, c, td, bs, rfl, hm28, HM, HTD, HIN, RR, XX⟩ := hcut
            clear HTD0 HI0 HM0 HM1
            have HM28 := Lib.hid hm28
            clear hm28
            go_wp2_with fail
            go_loopw [13] (fun vt wq => ∃ (p : Option Addr) (m c : Nat) (td : List Int) (bs : List Bool) (pc : Option Addr) (nC cc : Nat) (C : Cv) (cs : List Cm), vt = .slice p m c ∧ Hid (m = td.length) ∧ Hid (m ≤ 28 + 2 * (60 - lft bs)) ∧ Hid (nC + lft bs ≤ 72) ∧ Hid (nC = C.length) ∧ Hid (Td wq B (.slice p m c) td) ∧ Hid (InB wq ib bs) ∧ Hid (RI wq B rb (.slice pc nC cc) (.slice ph mh ch) g C cs hs) ∧ Hid (XS w wq B bx rz rb (.slice pL nL cL) (.slice pH nH cH) grp how))
              (fun vt wq => 3 * lfw wq ib + slen vt)
            case atStart =>
              have h60 := lft_le (bs := bs)
              rw [HIN.out.2] at h60
              exact ⟨p, m, c, td, bs, pc, nC, cc, C, cs, rfl, HM, Lib.hid (by have := HM28.out; omega), Lib.hid (by have := HN12.out; omega), HNC, HTD, HIN, RR, XX⟩
            case round =>
              clear RR XX HTD HIN HM HM28 HNC HN12
              obtain ⟨p, m, c, td, bs, pc, nC, cc, C, cs, rfl, HM, HMB, HN72, HNC, HTD, HIN, RR, XX⟩ := hrel
              rcases Nat.eq_zero_or_pos m with h0 | h0
              · subst h0
                have hJ0 := HJ0.out
                have hK0 := HK0.out
                go_wp2_with fail
                go_meet
                case rel => exact ⟨pc, nC, cc, C, cs, by have := HN72.out; omega, HNC, RR, XX⟩
              · have hm0 : (0 : Int) < m := by omega
                obtain ⟨y, tl, htd⟩ : ∃ y tl, td = y :: tl := by
                  cases td with
                  | nil => have := HM.out; simp at this; omega
                  | cons x tl => exact ⟨x, tl, rfl⟩
                subst htd
                obtain ⟨a, rfl, hc0, hml, hmc⟩ := HTD.out.first
                obtain ⟨m1, hm1⟩ : ∃ m1, m1 = tl.length := ⟨_, rfl⟩
                rw [← hm1] at hml
                subst hml
                have HTR : Hid (Td wr B (.slice (if c = 1 then some a else some ⟨a.block, a.off + 1, none⟩) m1 (c - 1)) tl) := Lib.hid (by have := HTD.out.rest hm1; rwa [show a.add 1 = ⟨a.block, a.off + 1, none⟩ from by simp [Addr.add]] at this)
                have hw1 : ((m1 + 1 : Nat) : Int) - 1 = m1 := by omega
                have hb1 : (1 : Int) ≤ ((m1 + 1 : Nat) : Int) := by omega
                have hb2 : ((m1 + 1 : Nat) : Int) ≤ c := by omega
                have HM1 := Lib.hid hm1
                have HPY := Lib.hid (fun W : World => pick_any W y 60 (by decide) (by decide))
                obtain ⟨n, hn⟩ : ∃ n : Nat, y % 60 = n := ⟨(y % 60).toNat, by omega⟩
                have hn60 : n < 60 := by omega
                rw [hn] at HPY
                have hnl : (n : Int) < 60 := by omega
                have hn0 : (0 : Int) ≤ n := by omega
                have HN60 := Lib.hid hn60
                obtain ⟨bn, hbn⟩ : ∃ bn, bs[n]? = some bn := ⟨bs[n]'(by rw [HIN.out.2]; exact hn60), List.getElem?_eq_getElem _⟩
                have hcI := HIN.out.cell hbn
                have HBN := Lib.hid hbn
                have HLF := Lib.hid HIN.out.lfw
                clear hn hn60 hbn hm1 h0 hmc
                cases bn with
                | true =>
                  go_wp2_with (go_at_call 24; refine (HPY.out _).mono ?_; rintro e wz ⟨rfl, rfl⟩)
                  generalize (if c = 1 then some a else some ⟨a.block, a.off + 1, none⟩) = q at *
                  generalize c - 1 = c1 at *
                  refine ⟨⟨q, m1, c1, tl, bs, pc, nC, cc, C, cs, rfl, HM1, Lib.hid (by have := HMB.out; omega), HN72, HNC, HTR, HIN, RR, XX⟩, ?_⟩
                  simp only [slen]; omega
                | false =>
                  have hfI := HIN.out.free n
                  go_upto_region 42 with (go_at_call 24; refine (HPY.out _).mono ?_; rintro e wz ⟨rfl, rfl⟩)
                  have HLB : Hid (lft bs ≤ 60) := Lib.hid (by have := lft_le (bs := bs); rw [HIN.out.2] at this; exact this)
                  have hset := HIN.out.set HN60.out
                  have RR0 := Lib.hid (RR.out.inb HIN.out hset.2)
                  have XX0 := Lib.hid (XX.out.inb HIN.out HIB.out hset.2)
                  have HTR := Lib.hid (HTR.out.only hset.2 (fun j hj => by rw [hj]; exact ⟨HIB.out, fun cs e => by rw [HIN.out.1] at e; injection e with e; injection e with _ e _; exact absurd e (by decide)⟩))
                  have HLS : Hid (lft (bs.set n true) + 1 = lft bs) := Lib.hid (lft_set HBN.out)
                  have HIN := Lib.hid hset.1
                  clear hset hcI hfI hc0 HBN RR XX HTD hb1 hb2 hw1 hm0
                  generalize wr.setCell ⟨ib, n, none⟩ (.bool true) = W0 at *
                  generalize bs.set n true = bs5 at *
                  generalize (if c = 1 then some a else some ⟨a.block, a.off + 1, none⟩) = q at *
                  generalize c - 1 = c1 at *
                  go_wp2_with fail
                  refine (hash_to _ n).mono ?_
                  rintro e w2 ⟨rfl, b2⟩
                  obtain ⟨h, hh'⟩ : ∃ h, h = hh (n : Int) := ⟨_, rfl⟩
                  have hh32 : h.length = 32 := by rw [hh']; exact hh_length _
                  rw [← hh']
                  have st := cst_cells h (.slice none 0 0) hh32 rfl w2
                  have hks : (cmv h (.slice none 0 0)).size = 33 := cmv_size hh32 _
                  have HH32 := Lib.hid hh32
                  have Y3 : Hid (Below W0.heap.size W0 (w2.alloc (.cells (cmv h (.slice none 0 0)) 49)) ∧ CI (w2.alloc (.cells (cmv h (.slice none 0 0)) 49)) W0.heap.size w2.heap.size h (.slice none 0 0) []) :=
                    Lib.hid ⟨b2.alloc b2.size _, heap_alloc_last w2 _, World.ownsRow_nil _ _ _ _, b2.size, H32.nil, hh32⟩
                  clear b2 hh' hh32
                  go_wp2_with (refine build_w (t := 49) (vals := #[(0, .agg (hv h))]) (built_commit0 h HH32.out) ?hv ?hw ?_; (case hv => first | rfl | simp [Act.put, Act.eval]); (case hw => first | rfl | simp [Region.wanted, yielded]))
                  generalize w2.alloc (.cells (cmv h (.slice none 0 0)) 49) = W2 at *
                  generalize w2.heap.size = cb at *
                  clear st hks
                  refine (ahead_to _ n hn0 hnl).mono ?_
                  rintro e w3 ⟨v8, l8, rfl, hl8, o8, b3⟩
                  obtain ⟨p8, c8, hv8⟩ := (IOwns.seen o8).shape'
                  subst hv8
                  obtain ⟨n8, hn8⟩ : ∃ n, n = l8.length := ⟨_, rfl⟩
                  have Y3B : Hid (YB w3 W0 ib (bs5.map Value.bool).toArray 98 W2.heap.size (.slice p8 l8.length c8) l8) := Lib.hid ⟨Y3.out.1.trans (b3.mono Y3.out.1.size), (HIN.out.kb (Y3.out.1.trans (b3.mono Y3.out.1.size))).1, by decide, o8⟩
                  have C3 : Hid (CI w3 W0.heap.size cb h (.slice none 0 0) []) := Lib.hid (Y3.out.2.kb b3)
                  rw [← hn8] at Y3B hl8 ⊢
                  have HN8 := Lib.hid hn8
                  have HL8 := Lib.hid hl8
                  have NCB : Hid (nC ≤ 1000000) := Lib.hid (by have := HN72.out; omega)
                  have HMB2 : Hid (m1 ≤ 200) := Lib.hid (by have := HMB.out; omega)
                  clear Y3 o8 b3 hn8 hl8
                  generalize W2.heap.size = B8 at *
                  generalize hyc : (bs5.map Value.bool).toArray = yc at *
                  clear hyc
                  go_wp2_with fail
                  go_loopw [18] (fun s wq => ∃ (j : Nat) (p : Option Addr) (c m : Nat) (ps : List Key), s = .int .i64 j ∧ j ≤ n8 ∧ Hid (m = ps.length) ∧ m ≤ j ∧ Hid (CI wq W0.heap.size cb h (.slice p m c) ps) ∧ Hid (YB wq W0 ib yc 98 B8 (.slice p8 n8 c8) l8))
                    (fun s _ => n8 - (intOf s).toNat)
                  case atStart => exact ⟨0, none, 0, 0, [], rfl, Nat.zero_le _, Lib.hid rfl, Nat.le_refl _, C3, Y3B⟩
                  case round =>
                    clear C3 Y3B
                    obtain ⟨j, p, c, m, ps, rfl, hj, HM, hmj, CC, YY⟩ := hrel
                    by_cases hlt : j < n8
                    · have HJ := Lib.hid hlt
                      have hj1 : wrap64 ((j : Int) + 1) = ((j + 1 : Nat) : Int) := by have := HL8.out; unfold wrap64; omega
                      have hjl : (j : Int) < n8 := by omega
                      have HMJ := Lib.hid hmj
                      have HM2 : Hid (m ≤ 2) := Lib.hid (by have := HL8.out; omega)
                      obtain ⟨x, hx⟩ : ∃ x, l8[j]? = some x := ⟨l8[j]'(by rw [← HN8.out]; exact hlt), List.getElem?_eq_getElem _⟩
                      obtain ⟨a8, rfl, hc0⟩ := (IOwns.seen YY.out.p).at' hx
                      have HX := Lib.hid hx
                      clear hx hj hmj
                      go_wp2_with fail
                      have bq : Below wr.heap.size wr wr.drew := blw_qt _ 1 wr
                      have CC := Lib.hid (CC.out.kb bq)
                      have YY := Lib.hid (YY.out.kb bq)
                      clear bq
                      try simp only [List.append]
                      refine wp_region_noPanic ?_
                      refine wp_region_held_drew (S := (fun V => V.cell? (a8.add j) = some (.int .i64 x))) (by kernel_rfl) ((IOwns.seen YY.out.p).cell' HX.out) (fun hHeld => ?_)
                      generalize wr.drew = v1 at *
                      refine wpAnyH_take (i := 0) (v := ?_) (by simp only [List.getElem?_toArray, List.getElem?_cons_zero]; rfl) (by kernel_rfl) (by kernel_rfl) (by kernel_rfl) (fun _ _ _ h => h) (Or.inl ⟨by rfl, ?_⟩) (by assumption) ?_
                      rotate_left
                      · intro w hSw
                        try dsimp only at hSw
                        go_simp
                        try with_reducible rfl
                      try simp only [Act.put, List.setIfInBounds_toArray, List.set_cons_zero, List.set_cons_succ]
                      refine wpAnyH_take (i := 2) (v := ?_) (by simp only [List.getElem?_toArray, List.getElem?_cons_succ, List.getElem?_cons_zero]; rfl) (by kernel_rfl) (by kernel_rfl) (by kernel_rfl) (fun _ _ _ h => h) (Or.inl ⟨by rfl, ?_⟩) (by assumption) ?_
                      rotate_left
                      · intro w hSw
                        try dsimp only at hSw
                        go_simp
                        try with_reducible rfl
                      try simp only [Act.put, List.setIfInBounds_toArray, List.set_cons_zero, List.set_cons_succ]
                      refine wpAnyH_take (i := 3) (v := ?_) (by simp only [List.getElem?_toArray, List.getElem?_cons_succ, List.getElem?_cons_zero]; rfl) (by kernel_rfl) (by kernel_rfl) (by kernel_rfl) (fun _ _ _ h => h) (Or.inl ⟨by rfl, ?_⟩) (by assumption) ?_
                      rotate_left
                      · intro w hSw
                        try dsimp only at hSw
                        go_simp
                        try with_reducible rfl
                      try simp only [Act.put, List.setIfInBounds_toArray, List.set_cons_zero, List.set_cons_succ]
                      refine wpAnyH_take (i := 4) (v := ?_) (by simp only [List.getElem?_toArray, List.getElem?_cons_succ, List.getElem?_cons_zero]; rfl) (by kernel_rfl) (by kernel_rfl) (by kernel_rfl) (fun _ _ _ h => h) (Or.inl ⟨by rfl, ?_⟩) (by assumption) ?_
                      rotate_left
                      · intro w hSw
                        try dsimp only at hSw
                        go_simp
                        try with_reducible rfl
                      try simp only [Act.put, List.setIfInBounds_toArray, List.set_cons_zero, List.set_cons_succ]
                      refine wpAnyH_take (i := 5) (v := ?_) (by simp only [List.getElem?_toArray, List.getElem?_cons_succ, List.getElem?_cons_zero]; rfl) (by kernel_rfl) (by kernel_rfl) (by kernel_rfl) (fun _ _ _ h => h) (Or.inl ⟨by rfl, ?_⟩) (by assumption) ?_
                      rotate_left
                      · intro w hSw
                        try dsimp only at hSw
                        go_simp
                        try with_reducible rfl
                      try simp only [Act.put, List.setIfInBounds_toArray, List.set_cons_zero, List.set_cons_succ]
                      refine wpAnyH_ready (rs := [1, 6]) (by kernel_rfl) (by simp) ?_
                      refine (AllReadyH.cons (by simp only [List.getElem?_toArray, List.getElem?_cons_succ, List.getElem?_cons_zero]; rfl) (fun K hK => ?_) (AllReadyH.cons (by simp only [List.getElem?_toArray, List.getElem?_cons_succ, List.getElem?_cons_zero]; rfl) (fun K hK => ?_) AllReadyH.nil))
                      · have cL := CC.out.par
                        go_simp
                        clear cL
                        refine hK.out _ _ ((IOwns.seen YY.out.p).cell' HX.out) (fun hHeld => ?_)
                        clear hK K
                        try simp only [Act.put, List.setIfInBounds_toArray, List.set_cons_zero, List.set_cons_succ]
                        refine wpAnyH_ready (rs := [6]) (by kernel_rfl) (by simp) ?_
                        refine (AllReadyH.cons (by simp only [List.getElem?_toArray, List.getElem?_cons_succ, List.getElem?_cons_zero]; rfl) (fun K hK => ?_) AllReadyH.nil)
                        go_simp
                        refine (hash_to _ x).mono ?_
                        rintro e v2 ⟨rfl, bb⟩
                        have CC := Lib.hid (CC.out.kb bb)
                        have YY := Lib.hid (YY.out.kb bb)
                        clear bb
                        go_wp2_with fail
                        refine hK.out _ _ ((IOwns.seen YY.out.p).cell' HX.out) (fun hHeld => ?_)
                        clear hK K
                        try simp only [Act.put, List.setIfInBounds_toArray, List.set_cons_zero, List.set_cons_succ]
                        refine wpAnyH_ready (rs := [7]) (by kernel_rfl) (by simp) ?_
                        refine (AllReadyH.cons (by simp only [List.getElem?_toArray, List.getElem?_cons_succ, List.getElem?_cons_zero]; rfl) (fun K hK => ?_) AllReadyH.nil)
                        refine step_sl1 (hh x) (hh_length x) (by rfl) (by rfl) ?_
                        have HB7 := Lib.hid (heap_alloc_last v2 (.cells (hv (hh x)) 28))
                        have CC := Lib.hid (CC.out.kb (below_al11 v2 (.cells (hv (hh x)) 28)))
                        have YY := Lib.hid (YY.out.kb (below_al11 v2 (.cells (hv (hh x)) 28)))
                        generalize v2.alloc (.cells (hv (hh x)) 28) = v3 at *
                        generalize v2.heap.size = b7 at *
                        refine hK.out _ _ ((IOwns.seen YY.out.p).cell' HX.out) (fun hHeld => ?_)
                        clear hK K
                        try simp only [Act.put, List.setIfInBounds_toArray, List.set_cons_zero, List.set_cons_succ]
                        refine wpAnyH_ready (rs := [8]) (by kernel_rfl) (by simp) ?_
                        refine (AllReadyH.cons (by simp only [List.getElem?_toArray, List.getElem?_cons_succ, List.getElem?_cons_zero]; rfl) (fun K hK => ?_) AllReadyH.nil)
                        refine step_pushh rfl _ _ rfl W0.heap.size (.slice p m c) ps b7 (hh x) (hh_length x) (by rfl) CC.out.own (by rfl) HB7.out (by rw [← HM.out]; have := HM2.out; omega) YY.out.bel.size (m + 1) (by rw [HM.out]) ?_
                        intro p9 c9 v4 o9 oth9 loc9
                        have hpush := CC.out.push o9 oth9 (hh_length x)
                        have hc9 := cm_cell CC.out.hh (CC.out.mid oth9)
                        have hf9 : v4.frozen? ⟨cb, 32, none⟩ = false := frozen_of_row _ _ _ _ _ (CC.out.mid oth9)
                        have YH := Lib.hid (YY.out.half CC.out oth9)
                        have CN := Lib.hid hpush.1
                        have YN := Lib.hid (YY.out.far CC.out hpush.2)
                        clear hpush o9 oth9 loc9
                        refine hK.out _ _ ((IOwns.seen YH.out.p).cell' HX.out) (fun hHeld => ?_)
                        clear hK K
                        try simp only [Act.put, List.setIfInBounds_toArray, List.set_cons_zero, List.set_cons_succ]
                        refine wpAnyH_take (i := 9) (v := ?_) (by simp only [List.getElem?_toArray, List.getElem?_cons_succ, List.getElem?_cons_zero]; rfl) (by kernel_rfl) (by kernel_rfl) (by kernel_rfl) (fun _ _ _ h => h) (Or.inl ⟨by rfl, ?_⟩) (by assumption) ?_
                        rotate_left
                        · intro w hSw
                          try dsimp only at hSw
                          go_simp
                          try with_reducible rfl
                        try simp only [Act.put, List.setIfInBounds_toArray, List.set_cons_zero, List.set_cons_succ]
                        refine wpAnyH_ready (rs := [10]) (by kernel_rfl) (by simp) ?_
                        refine (AllReadyH.cons (by simp only [List.getElem?_toArray, List.getElem?_cons_succ, List.getElem?_cons_zero]; rfl) (fun K hK => ?_) AllReadyH.nil)
                        go_simp
                        generalize v4.setCell ⟨cb, 32, none⟩ (.slice p9 (m + 1) c9) = v5 at *
                        refine hK.out _ _ ((IOwns.seen YN.out.p).cell' HX.out) (fun hHeld => ?_)
                        clear hK K
                        try simp only [Act.put, List.setIfInBounds_toArray, List.set_cons_zero, List.set_cons_succ]
                        refine wpAnyH_done (by kernel_rfl) ?_ _
                        refine NoPanic.normal ?_
                        go_wp2_with fail
                        refine ⟨⟨j + 1, p9, c9, m + 1, ps ++ [hh x], by rw [hj1], HJ.out, Lib.hid (by rw [HM.out, List.length_append]; rfl), Nat.succ_le_succ HMJ.out, CN, YN⟩, ?_⟩
                        rw [hj1]; simp only [intOf]; have := HJ.out; omega
                      · go_simp
                        refine (hash_to _ x).mono ?_
                        rintro e v2 ⟨rfl, bb⟩
                        have CC := Lib.hid (CC.out.kb bb)
                        have YY := Lib.hid (YY.out.kb bb)
                        clear bb
                        go_wp2_with fail
                        refine hK.out _ _ ((IOwns.seen YY.out.p).cell' HX.out) (fun hHeld => ?_)
                        clear hK K
                        try simp only [Act.put, List.setIfInBounds_toArray, List.set_cons_zero, List.set_cons_succ]
                        refine wpAnyH_ready (rs := [1, 7]) (by kernel_rfl) (by simp) ?_
                        refine (AllReadyH.cons (by simp only [List.getElem?_toArray, List.getElem?_cons_succ, List.getElem?_cons_zero]; rfl) (fun K hK => ?_) (AllReadyH.cons (by simp only [List.getElem?_toArray, List.getElem?_cons_succ, List.getElem?_cons_zero]; rfl) (fun K hK => ?_) AllReadyH.nil))
                        · have cL := CC.out.par
                          go_simp
                          clear cL
                          refine hK.out _ _ ((IOwns.seen YY.out.p).cell' HX.out) (fun hHeld => ?_)
                          clear hK K
                          try simp only [Act.put, List.setIfInBounds_toArray, List.set_cons_zero, List.set_cons_succ]
                          refine wpAnyH_ready (rs := [7]) (by kernel_rfl) (by simp) ?_
                          refine (AllReadyH.cons (by simp only [List.getElem?_toArray, List.getElem?_cons_succ, List.getElem?_cons_zero]; rfl) (fun K hK => ?_) AllReadyH.nil)
                          refine step_sl1 (hh x) (hh_length x) (by rfl) (by rfl) ?_
                          have HB7 := Lib.hid (heap_alloc_last v2 (.cells (hv (hh x)) 28))
                          have CC := Lib.hid (CC.out.kb (below_al11 v2 (.cells (hv (hh x)) 28)))
                          have YY := Lib.hid (YY.out.kb (below_al11 v2 (.cells (hv (hh x)) 28)))
                          generalize v2.alloc (.cells (hv (hh x)) 28) = v3 at *
                          generalize v2.heap.size = b7 at *
                          refine hK.out _ _ ((IOwns.seen YY.out.p).cell' HX.out) (fun hHeld => ?_)
                          clear hK K
                          try simp only [Act.put, List.setIfInBounds_toArray, List.set_cons_zero, List.set_cons_succ]
                          refine wpAnyH_ready (rs := [8]) (by kernel_rfl) (by simp) ?_
                          refine (AllReadyH.cons (by simp only [List.getElem?_toArray, List.getElem?_cons_succ, List.getElem?_cons_zero]; rfl) (fun K hK => ?_) AllReadyH.nil)
                          refine step_pushh rfl _ _ rfl W0.heap.size (.slice p m c) ps b7 (hh x) (hh_length x) (by rfl) CC.out.own (by rfl) HB7.out (by rw [← HM.out]; have := HM2.out; omega) YY.out.bel.size (m + 1) (by rw [HM.out]) ?_
                          intro p9 c9 v4 o9 oth9 loc9
                          have hpush := CC.out.push o9 oth9 (hh_length x)
                          have hc9 := cm_cell CC.out.hh (CC.out.mid oth9)
                          have hf9 : v4.frozen? ⟨cb, 32, none⟩ = false := frozen_of_row _ _ _ _ _ (CC.out.mid oth9)
                          have YH := Lib.hid (YY.out.half CC.out oth9)
                          have CN := Lib.hid hpush.1
                          have YN := Lib.hid (YY.out.far CC.out hpush.2)
                          clear hpush o9 oth9 loc9
                          refine hK.out _ _ ((IOwns.seen YH.out.p).cell' HX.out) (fun hHeld => ?_)
                          clear hK K
                          try simp only [Act.put, List.setIfInBounds_toArray, List.set_cons_zero, List.set_cons_succ]
                          refine wpAnyH_take (i := 9) (v := ?_) (by simp only [List.getElem?_toArray, List.getElem?_cons_succ, List.getElem?_cons_zero]; rfl) (by kernel_rfl) (by kernel_rfl) (by kernel_rfl) (fun _ _ _ h => h) (Or.inl ⟨by rfl, ?_⟩) (by assumption) ?_
                          rotate_left
                          · intro w hSw
                            try dsimp only at hSw
                            go_simp
                            try with_reducible rfl
                          try simp only [Act.put, List.setIfInBounds_toArray, List.set_cons_zero, List.set_cons_succ]
                          refine wpAnyH_ready (rs := [10]) (by kernel_rfl) (by simp) ?_
                          refine (AllReadyH.cons (by simp only [List.getElem?_toArray, List.getElem?_cons_succ, List.getElem?_cons_zero]; rfl) (fun K hK => ?_) AllReadyH.nil)
                          go_simp
                          generalize v4.setCell ⟨cb, 32, none⟩ (.slice p9 (m + 1) c9) = v5 at *
                          refine hK.out _ _ ((IOwns.seen YN.out.p).cell' HX.out) (fun hHeld => ?_)
                          clear hK K
                          try simp only [Act.put, List.setIfInBounds_toArray, List.set_cons_zero, List.set_cons_succ]
                          refine wpAnyH_done (by kernel_rfl) ?_ _
                          refine NoPanic.normal ?_
                          go_wp2_with fail
                          refine ⟨⟨j + 1, p9, c9, m + 1, ps ++ [hh x], by rw [hj1], HJ.out, Lib.hid (by rw [HM.out, List.length_append]; rfl), Nat.succ_le_succ HMJ.out, CN, YN⟩, ?_⟩
                          rw [hj1]; simp only [intOf]; have := HJ.out; omega
                        · refine step_sl1 (hh x) (hh_length x) (by rfl) (by rfl) ?_
                          have HB7 := Lib.hid (heap_alloc_last v2 (.cells (hv (hh x)) 28))
                          have CC := Lib.hid (CC.out.kb (below_al11 v2 (.cells (hv (hh x)) 28)))
                          have YY := Lib.hid (YY.out.kb (below_al11 v2 (.cells (hv (hh x)) 28)))
                          generalize v2.alloc (.cells (hv (hh x)) 28) = v3 at *
                          generalize v2.heap.size = b7 at *
                          refine hK.out _ _ ((IOwns.seen YY.out.p).cell' HX.out) (fun hHeld => ?_)
                          clear hK K
                          try simp only [Act.put, List.setIfInBounds_toArray, List.set_cons_zero, List.set_cons_succ]
                          refine wpAnyH_ready (rs := [1]) (by kernel_rfl) (by simp) ?_
                          refine (AllReadyH.cons (by simp only [List.getElem?_toArray, List.getElem?_cons_succ, List.getElem?_cons_zero]; rfl) (fun K hK => ?_) AllReadyH.nil)
                          have cL := CC.out.par
                          go_simp
                          clear cL
                          refine hK.out _ _ ((IOwns.seen YY.out.p).cell' HX.out) (fun hHeld => ?_)
                          clear hK K
                          try simp only [Act.put, List.setIfInBounds_toArray, List.set_cons_zero, List.set_cons_succ]
                          refine wpAnyH_ready (rs := [8]) (by kernel_rfl) (by simp) ?_
                          refine (AllReadyH.cons (by simp only [List.getElem?_toArray, List.getElem?_cons_succ, List.getElem?_cons_zero]; rfl) (fun K hK => ?_) AllReadyH.nil)
                          refine step_pushh rfl _ _ rfl W0.heap.size (.slice p m c) ps b7 (hh x) (hh_length x) (by rfl) CC.out.own (by rfl) HB7.out (by rw [← HM.out]; have := HM2.out; omega) YY.out.bel.size (m + 1) (by rw [HM.out]) ?_
                          intro p9 c9 v4 o9 oth9 loc9
                          have hpush := CC.out.push o9 oth9 (hh_length x)
                          have hc9 := cm_cell CC.out.hh (CC.out.mid oth9)
                          have hf9 : v4.frozen? ⟨cb, 32, none⟩ = false := frozen_of_row _ _ _ _ _ (CC.out.mid oth9)
                          have YH := Lib.hid (YY.out.half CC.out oth9)
                          have CN := Lib.hid hpush.1
                          have YN := Lib.hid (YY.out.far CC.out hpush.2)
                          clear hpush o9 oth9 loc9
                          refine hK.out _ _ ((IOwns.seen YH.out.p).cell' HX.out) (fun hHeld => ?_)
                          clear hK K
                          try simp only [Act.put, List.setIfInBounds_toArray, List.set_cons_zero, List.set_cons_succ]
                          refine wpAnyH_take (i := 9) (v := ?_) (by simp only [List.getElem?_toArray, List.getElem?_cons_succ, List.getElem?_cons_zero]; rfl) (by kernel_rfl) (by kernel_rfl) (by kernel_rfl) (fun _ _ _ h => h) (Or.inl ⟨by rfl, ?_⟩) (by assumption) ?_
                          rotate_left
                          · intro w hSw
                            try dsimp only at hSw
                            go_simp
                            try with_reducible rfl
                          try simp only [Act.put, List.setIfInBounds_toArray, List.set_cons_zero, List.set_cons_succ]
                          refine wpAnyH_ready (rs := [10]) (by kernel_rfl) (by simp) ?_
                          refine (AllReadyH.cons (by simp only [List.getElem?_toArray, List.getElem?_cons_succ, List.getElem?_cons_zero]; rfl) (fun K hK => ?_) AllReadyH.nil)
                          go_simp
                          generalize v4.setCell ⟨cb, 32, none⟩ (.slice p9 (m + 1) c9) = v5 at *
                          refine hK.out _ _ ((IOwns.seen YN.out.p).cell' HX.out) (fun hHeld => ?_)
                          clear hK K
                          try simp only [Act.put, List.setIfInBounds_toArray, List.set_cons_zero, List.set_cons_succ]
                          refine wpAnyH_done (by kernel_rfl) ?_ _
                          refine NoPanic.normal ?_
                          go_wp2_with fail
                          refine ⟨⟨j + 1, p9, c9, m + 1, ps ++ [hh x], by rw [hj1], HJ.out, Lib.hid (by rw [HM.out, List.length_append]; rfl), Nat.succ_le_succ HMJ.out, CN, YN⟩, ?_⟩
                          rw [hj1]; simp only [intOf]; have := HJ.out; omega
                    · have hjl : ¬ (j : Int) < n8 := by omega
                      have HM2 : Hid (m ≤ 2) := Lib.hid (by have := HL8.out; omega)
                      have HPL : Hid (ps.length ≤ 10) := Lib.hid (by rw [← HM.out]; have := HM2.out; omega)
                      clear hmj hlt hj
                      have RT := Lib.hid (RR0.out.kb YY.out.bel)
                      have XT := Lib.hid (XX0.out.kb YY.out.bel)
                      have t0 := RT.out.c0.1
                      have hcl := cld_range (w := wr) (p := cb) (o := 0) (h := h) (u := .slice p m c) CC.out.hh (by have := range_row CC.out.cell; rwa [cmv_list] at this)
                      have BA := Lib.hid (below_al11 wr (.cells (cf [(h, .slice p m c)]).toArray 49))
                      have RA := Lib.hid (RT.out.kb BA.out)
                      have SU : Hid (∀ j, (Value.slice p m c).ownBlock = some j → (Value.slice ph mh ch).ownBlock ≠ some j) := Lib.hid (fun j hj e => by
                        have h1 := own_from CC.out.own j hj
                        obtain ⟨_, h2, _⟩ := own_type RR0.out.heads e
                        have := (Array.getElem?_eq_some_iff.1 h2).1
                        omega)
                      go_upto_region 49 with (first
                        | (refine slicec_w (C := [(h, .slice p m c)]) (by simpa using HH32.out) rfl (by simp) (by simp) ?hv ?hw ?_; (case hv => first | rfl | simp [Act.put, Act.eval]); (case hw => first | rfl | simp [Region.wanted, yielded]))
                        | (at_builtin; refine push_comm rfl (.tmp 220) (.tmp 222) rfl (b := wr.heap.size) (h := h) (u := .slice p m c) (ps := ps) (w0 := w) rfl rfl (heap_alloc_last wr _) RA.out HNC.out (XT.out.kb BA.out) HH32.out CC.out.p32 HPL.out (own_mono (own_below CC.out.own BA.out) (XX0.out.hB ▸ XX0.out.bel.size)) SU.out NCB.out ?_; intro g5 c5 w5 hc5 hf5 R5 X5 o5; have R5 := Lib.hid R5; have X5 := Lib.hid X5; have O5 := Lib.hid o5; clear o5))
                      obtain ⟨f1, f2, f3⟩ := RA.out.apart O5.out
                      have HT6 := Lib.hid (f1 _ _ ((HTR.out.kb YY.out.bel).kb BA.out))
                      have HO6 := Lib.hid (f2 _ _ _ _ (own_below YY.out.p BA.out))
                      have HI6 := Lib.hid (f3 _ _ ((HIN.out.kb YY.out.bel).kb BA.out))
                      clear f1 f2 f3 O5 BA RA t0 hcl hc5 hf5
                      generalize w5.setCell ⟨rb, 0, none⟩ (.slice (some ⟨g5, 0, none⟩) (nC + 1) c5) = W6 at *
                      have E0 : Hid ((W6.alloc (.cells #[] 3)).ownsRow W6.heap.size 3 1 (.slice (some ⟨W6.heap.size, 0, none⟩) 0 0) 0 []) := Lib.hid (own_empty W6 _ _ (Nat.le_refl _))
                      have BE := Lib.hid (below_al11 W6 (.cells #[] 3))
                      have HTA := Lib.hid (HT6.out.kb BE.out)
                      have N8 : Hid ((Value.slice p8 n8 c8).ownBlock ≠ some W6.heap.size) := Lib.hid (fun hj => by obtain ⟨_, h1, _⟩ := own_type HO6.out hj; have := (Array.getElem?_eq_some_iff.1 h1).1; omega)
                      have OA := Lib.hid (own_below HO6.out BE.out)
                      go_wp2_with (first
                        | (at_builtin; refine push_app_ints rfl (.tmp 227) (.tmp 228) rfl W6.heap.size (.slice (some ⟨g2, 0, none⟩) m1 c2) (.slice p8 n8 c8) m1 (m1 + n8) tl l8 (by simp) rfl O2.out HM1.out rfl O7.out (by rw [HN8.out]) (by have := HMB2.out; have := HL8.out; omega) BV.out.size ?_; intro g3 c3 w8 o3 oth3 loc3; have B8' := Lib.hid (BV.out.trans (oth3.below BV.out.size (fun k hk => own_from O2.out k hk))); have HTN : Hid (Td w8 B (.slice (some ⟨g3, 0, none⟩) (m1 + n8) c3) (tl ++ l8)) := Lib.hid (Td.own (A := W6.heap.size) (by unfold IOwns; rw [List.length_append, ← HM1.out, ← HN8.out]; exact o3)); clear o3 oth3 loc3)
                        | (at_builtin; refine push_app_ints rfl (.tmp 225) (.tmp 226) rfl W6.heap.size (.slice (some ⟨W6.heap.size, 0, none⟩) 0 0) (.slice q m1 c1) 0 m1 [] tl (by simp) rfl E0.out rfl rfl HTA.out.seen (by rw [HM1.out, Nat.zero_add]) (by have := HMB2.out; omega) BE.out.size ?_; intro g2 c2 w7 o2 oth2 loc2; have O2 : Hid (w7.ownsRow W6.heap.size 3 1 (.slice (some ⟨g2, 0, none⟩) m1 c2) m1 (tl.map (Value.int .i64))) := Lib.hid o2; have BV := Lib.hid (BE.out.trans (oth2.below BE.out.size (fun k hk => own_from E0.out k hk))); have O7 : Hid (ISeen w7 (.slice p8 n8 c8) l8) := Lib.hid (IOwns.seen (B := B8) (by unfold IOwns; rw [← HN8.out]; exact own_keep (by have := OA.out; rwa [← HN8.out] at this) oth2 (fun j hj e => N8.out (hj.trans e.symm)))); clear o2 oth2 loc2)
                        | (refine push_empty rfl rfl ?_))
                      refine ⟨⟨some ⟨g3, 0, none⟩, m1 + n8, c3, tl ++ l8, bs5, some ⟨g5, 0, none⟩, nC + 1, c5, C ++ [(h, .slice p m c)], cs ++ [(h, ps)], rfl, Lib.hid (by rw [List.length_append, ← HM1.out, ← HN8.out]), Lib.hid (by have := HMB.out; have := HLS.out; have := HLB.out; have := HL8.out; omega), Lib.hid (by have := HN72.out; have := HLS.out; omega), Lib.hid (by rw [HNC.out, List.length_append]; rfl), HTN, Lib.hid (HI6.out.kb B8'.out), Lib.hid (R5.out.kb B8'.out), Lib.hid (X5.out.kb B8'.out)⟩, ?_⟩
                      rw [(HI6.out.kb B8'.out).lfw, HLF.out]
                      simp only [slen]; have := HLS.out; have := HL8.out; omega
        · go_wp2_with fail
          go_meet
          case rel => exact ⟨pc, nC, cc, C, cs, Nat.le_trans HN12.out (by decide), HNC, RR, XX⟩
      case rest =>
        clear RR XX
        obtain ⟨pc, nC, cc, C, cs, hn72, HNC, RR, XX⟩ := hcut
        have HN72 := Lib.hid hn72
        clear hn72
        obtain ⟨x0, x1, x2, x3⟩ := XX.out.c
        have hcs : how % 50 = 0 ∨ how % 50 = 1 ∨ (¬ how % 50 = 0 ∧ ¬ how % 50 = 1) := by omega
        rcases hcs with hc | hc | ⟨hc0, hc1⟩
        · have HPW := Lib.hid (fun W : World => pick_to W how 50 0 (by decide) (by decide) hc)
          have hr2 := RR.out.c0.2.2
          have hf2 := RR.out.free 2
          clear hc
          go_upto_region 55 with (go_at_call 24; refine (HPW.out _).mono ?_; rintro e wz ⟨rfl, rfl⟩)
          have RF := Lib.hid (RR.out.grp grp).1
          have XF := Lib.hid (XX.out.far ((RR.out.grp grp).2.mono (T := fun j => j = rb ∨ (Value.slice ph mh ch).ownBlock = some j) fun j _ hj => .inl hj) RR.out.heads (by decide) RR.out.lo RR.out.cell)
          generalize wc.setCell ⟨rb, 2, none⟩ (.int .i64 grp) = W5 at *
          clear x0 x1 x2 x3 hr2 hf2
          obtain ⟨z0, z1, z2⟩ := RF.out.c0
          have zz : ∀ i, W5.frozen? ⟨rz, i, none⟩ = false := fun i => frozen_of_row _ _ _ _ _ XF.out.zero
          have zr : ∀ i u, (#[.slice none 0 0, .slice none 0 0, .int .i64 0] : Array Value)[i]? = some u → W5.cell? ⟨rz, i, none⟩ = some u := fun i u hu => by rw [cell_of_row W5 rz i _ _ _ XF.out.zero]; exact hu
          have q0 := zr 0 _ rfl
          have q1 := zr 1 _ rfl
          have q2 := zr 2 _ rfl
          have y0 := zz 0
          have y1 := zz 1
          have y2 := zz 2
          clear zz zr
          have hd := XF.out.done RF.out HRZ.out (.slice pc nC cc) (.slice ph mh ch) (.int .i64 grp)
          have HD1 := Lib.hid hd.1
          have HD2 := Lib.hid hd.2.1
          have HD3 := Lib.hid hd.2.2
          clear hd
          go_wp2_with fail
          generalize ((W5.setCell ⟨rz, 0, none⟩ (.slice pc nC cc)).setCell ⟨rz, 1, none⟩ (.slice ph mh ch)).setCell ⟨rz, 2, none⟩ (.int .i64 grp) = W6 at *
          have k0 : W6.cell? ⟨rz, 0, none⟩ = some (.slice pc nC cc) := by rw [cell_of_row W6 rz 0 _ _ _ HD1.out]; rfl
          have k1 : W6.cell? ⟨rz, 1, none⟩ = some (.slice ph mh ch) := by rw [cell_of_row W6 rz 1 _ _ _ HD1.out]; rfl
          have k2 : W6.cell? ⟨rz, 2, none⟩ = some (.int .i64 grp) := by rw [cell_of_row W6 rz 2 _ _ _ HD1.out]; rfl
          obtain ⟨s1, s2, s3, s4, s5⟩ := HD2.out.seen
          have S1 := Lib.hid s1
          have S2 := Lib.hid s2
          have S3 := Lib.hid s3
          have S4 := Lib.hid s4
          have S5 := Lib.hid s5
          clear s1 s2 s3 s4 s5
          refine bodyPost_ret (v := .agg #[(.slice pc nC cc), (.slice ph mh ch), .int .i64 grp]) ?_ rfl ?_
          · have hres : Try.f34.results = #[.cell 2 64] := by kernel_rfl
            simp only [results, hres]
            go_simp
          exact ⟨_, _, _, cs, hs, rfl, S1.out, S2.out, S3.out, S4.out, S5.out, by rw [← HD2.out.len, ← HNC.out]; have := HN72.out; omega, (by rw [← HMH.out]; have := HM4.out; omega), HD3.out, HD2.out.form⟩
        · have HPW := Lib.hid (fun W : World => pick_to W how 50 1 (by decide) (by decide) hc)
          clear hc
          have hr1 := RR.out.c0.2.1
          obtain ⟨h9, hb9, hl9⟩ : ∃ h9 : Key, Try.prog.built 28 [(0, .int .u8 9)] = some (hv h9) ∧ h9.length = 32 := ⟨kn 9, kn_built 9, rfl⟩
          have HB9 := Lib.hid hb9
          have HL9 := Lib.hid hl9
          clear hb9 hl9
          have RA := Lib.hid (RR.out.kb (below_al11 wc (.cells (hv h9) 28)))
          have XA := Lib.hid (XX.out.kb (below_al11 wc (.cells (hv h9) 28)))
          have HA9 := Lib.hid (heap_alloc_last wc (.cells (hv h9) 28))
          go_upto_region 54 with (go_at_call 24; refine (HPW.out _).mono ?_; rintro e wz ⟨rfl, rfl⟩)
          clear x0 x1 x2 x3
          go_upto_region 55 with (first
            | (at_builtin; refine push_hash11 rfl (.tmp 241) (.tmp 243) rfl B (.slice ph mh ch) hs wc.heap.size h9 HL9.out rfl RA.out.heads rfl HA9.out (by rw [← HMH.out]; have := HM4.out; omega) (by rw [XA.out.hB]; exact XA.out.bel.size) (mh + 1) (by rw [HMH.out]) ?_; intro p9 c9 w9 o9 oth9 loc9; have hc9 : w9.cell? ⟨rb, 1, none⟩ = some (.slice ph mh ch) := (by rw [cell_of_row w9 rb 1 _ _ _ (RA.out.hmid oth9)]; rfl); have hf9 : w9.frozen? ⟨rb, 1, none⟩ = false := frozen_of_row _ _ _ _ _ (RA.out.hmid oth9); have hpush := RA.out.head HL9.out o9 oth9 loc9; have RF := Lib.hid hpush.1; have XF := Lib.hid (XA.out.far hpush.2 RA.out.heads (by decide) RA.out.lo RA.out.cell); clear hpush o9 oth9 loc9; clear hr1; go_upto_region 55 with fail)
            | (refine build_one h9 HL9.out rfl ?_)
            | (refine build_w (t := 28) (vals := #[(0, .int .u8 9)]) HB9.out ?hv ?hw ?_; (case hv => first | rfl | simp [Act.put, Act.eval]); (case hw => first | rfl | simp [Region.wanted, yielded])))
          generalize w9.setCell ⟨rb, 1, none⟩ (.slice p9 (mh + 1) c9) = W5 at *
          clear hc9 hf9
          obtain ⟨z0, z1, z2⟩ := RF.out.c0
          have zz : ∀ i, W5.frozen? ⟨rz, i, none⟩ = false := fun i => frozen_of_row _ _ _ _ _ XF.out.zero
          have zr : ∀ i u, (#[.slice none 0 0, .slice none 0 0, .int .i64 0] : Array Value)[i]? = some u → W5.cell? ⟨rz, i, none⟩ = some u := fun i u hu => by rw [cell_of_row W5 rz i _ _ _ XF.out.zero]; exact hu
          have q0 := zr 0 _ rfl
          have q1 := zr 1 _ rfl
          have q2 := zr 2 _ rfl
          have y0 := zz 0
          have y1 := zz 1
          have y2 := zz 2
          clear zz zr
          have hd := XF.out.done RF.out HRZ.out (.slice pc nC cc) (.slice p9 (mh + 1) c9) (.int .i64 g)
          have HD1 := Lib.hid hd.1
          have HD2 := Lib.hid hd.2.1
          have HD3 := Lib.hid hd.2.2
          clear hd
          go_wp2_with fail
          generalize ((W5.setCell ⟨rz, 0, none⟩ (.slice pc nC cc)).setCell ⟨rz, 1, none⟩ (.slice p9 (mh + 1) c9)).setCell ⟨rz, 2, none⟩ (.int .i64 g) = W6 at *
          have k0 : W6.cell? ⟨rz, 0, none⟩ = some (.slice pc nC cc) := by rw [cell_of_row W6 rz 0 _ _ _ HD1.out]; rfl
          have k1 : W6.cell? ⟨rz, 1, none⟩ = some (.slice p9 (mh + 1) c9) := by rw [cell_of_row W6 rz 1 _ _ _ HD1.out]; rfl
          have k2 : W6.cell? ⟨rz, 2, none⟩ = some (.int .i64 g) := by rw [cell_of_row W6 rz 2 _ _ _ HD1.out]; rfl
          obtain ⟨s1, s2, s3, s4, s5⟩ := HD2.out.seen
          have S1 := Lib.hid s1
          have S2 := Lib.hid s2
          have S3 := Lib.hid s3
          have S4 := Lib.hid s4
          have S5 := Lib.hid s5
          clear s1 s2 s3 s4 s5
          refine bodyPost_ret (v := .agg #[(.slice pc nC cc), (.slice p9 (mh + 1) c9), .int .i64 g]) ?_ rfl ?_
          · have hres : Try.f34.results = #[.cell 2 64] := by kernel_rfl
            simp only [results, hres]
            go_simp
          exact ⟨_, _, _, cs, (hs ++ [h9]), rfl, S1.out, S2.out, S3.out, S4.out, S5.out, by rw [← HD2.out.len, ← HNC.out]; have := HN72.out; omega, (by rw [List.length_append, ← HMH.out]; have := HM4.out; simp; omega), HD3.out, HD2.out.form⟩
        · have HPW := Lib.hid (fun W : World => pick_any W how 50 (by decide) (by decide))
          generalize how % 50 = r at *
          go_upto_region 55 with (go_at_call 24; refine (HPW.out _).mono ?_; rintro e wz ⟨rfl, rfl⟩)
          have RF := RR
          have XF := XX
          clear x0 x1 x2 x3 RR XX
          generalize wc = W5 at *
          obtain ⟨z0, z1, z2⟩ := RF.out.c0
          have zz : ∀ i, W5.frozen? ⟨rz, i, none⟩ = false := fun i => frozen_of_row _ _ _ _ _ XF.out.zero
          have zr : ∀ i u, (#[.slice none 0 0, .slice none 0 0, .int .i64 0] : Array Value)[i]? = some u → W5.cell? ⟨rz, i, none⟩ = some u := fun i u hu => by rw [cell_of_row W5 rz i _ _ _ XF.out.zero]; exact hu
          have q0 := zr 0 _ rfl
          have q1 := zr 1 _ rfl
          have q2 := zr 2 _ rfl
          have y0 := zz 0
          have y1 := zz 1
          have y2 := zz 2
          clear zz zr
          have hd := XF.out.done RF.out HRZ.out (.slice pc nC cc) (.slice ph mh ch) (.int .i64 g)
          have HD1 := Lib.hid hd.1
          have HD2 := Lib.hid hd.2.1
          have HD3 := Lib.hid hd.2.2
          clear hd
          go_wp2_with fail
          generalize ((W5.setCell ⟨rz, 0, none⟩ (.slice pc nC cc)).setCell ⟨rz, 1, none⟩ (.slice ph mh ch)).setCell ⟨rz, 2, none⟩ (.int .i64 g) = W6 at *
          have k0 : W6.cell? ⟨rz, 0, none⟩ = some (.slice pc nC cc) := by rw [cell_of_row W6 rz 0 _ _ _ HD1.out]; rfl
          have k1 : W6.cell? ⟨rz, 1, none⟩ = some (.slice ph mh ch) := by rw [cell_of_row W6 rz 1 _ _ _ HD1.out]; rfl
          have k2 : W6.cell? ⟨rz, 2, none⟩ = some (.int .i64 g) := by rw [cell_of_row W6 rz 2 _ _ _ HD1.out]; rfl
          obtain ⟨s1, s2, s3, s4, s5⟩ := HD2.out.seen
          have S1 := Lib.hid s1
          have S2 := Lib.hid s2
          have S3 := Lib.hid s3
          have S4 := Lib.hid s4
          have S5 := Lib.hid s5
          clear s1 s2 s3 s4 s5
          refine bodyPost_ret (v := .agg #[(.slice pc nC cc), (.slice ph mh ch), .int .i64 g]) ?_ rfl ?_
          · have hres : Try.f34.results = #[.cell 2 64] := by kernel_rfl
            simp only [results, hres]
            go_simp
          exact ⟨_, _, _, cs, hs, rfl, S1.out, S2.out, S3.out, S4.out, S5.out, by rw [← HD2.out.len, ← HNC.out]; have := HN72.out; omega, (by rw [← HMH.out]; have := HM4.out; omega), HD3.out, HD2.out.form⟩
end Go.Proofs.Ythfkmfepeafgjaa
