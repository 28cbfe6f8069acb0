/- IdsRise returns true, whatever the memory holds and whatever the schedule is. No condition. -/
import Derived.Test.YtnpeahbbcolfmaaZq4
import Derived.Deep.CutBlock
import Derived.Deep.CutRange
import Derived.SizedLaws
import Derived.Test.YtnpeahbbcolfmaaRows
import Derived.ProofKit
import Derived.OpenShut
import Derived.ShutString
import Derived.ChangeOld
namespace Go.Proofs.Ytnpeahbbcolfmaa
open Go.RowKit Go.Extern.Stop Go.Stop Go.Extern
open Go.Maps
/-- What Request hands back, told closer. -/
def RqPost72 (w : World) (e : Ending) (w' : World) : Prop :=
  ∃ vc vh g cs hs, e = .returned (.agg #[vc, vh, .int .i64 g]) ∧ CSeen w' vc cs ∧ HSeen w' vh hs ∧ COk cs ∧ H32 hs ∧ (∀ c ∈ cs, c.2.length ≤ 10) ∧ cs.length ≤ 100 ∧ hs.length ≤ 100 ∧ Below w.heap.size w w' ∧ CForm vc cs.length ∧ cs.length ≤ 72 ∧ ∀ (S : Nat → Prop) (V : World), (∀ j, S j → j < w.heap.size) → Only S w' V → CSeen V vc cs ∧ HSeen V vh hs

set_option linter.unusedSimpArgs false in
set_option maxRecDepth 20000 in
set_option maxHeartbeats 16000000 in
attribute [local go_sem ↓] hld_open cld_open in
theorem request72_to (w : World) (vL vH : Value) (grp how : Int) (R : List Rw) (Hs : List Int) (hL : RwSeen w vL R) (hH : ISeen w vH Hs) :
    Calls Try.prog 13 #[.agg #[vL, vH, .int .i64 grp, .int .i64 how]] w (RqPost72 w) := by
  obtain ⟨pL, cL, rfl, hLx⟩ := id hL
  obtain ⟨pH, cH, rfl⟩ := hH.shape'
  obtain ⟨nL, hnL⟩ : ∃ n, n = R.length := ⟨_, rfl⟩
  obtain ⟨nH, hnH⟩ : ∃ n, n = Hs.length := ⟨_, rfl⟩
  rw [← hnL] at hL ⊢
  rw [← hnH] at hH ⊢
  have HL := Lib.hid hL
  have HH := Lib.hid hH
  have HNL := Lib.hid hnL
  have HNH := Lib.hid hnH
  clear hL hH hnL hnH hLx
  have HP := Lib.hid (fun W : World => pick_any W grp 2 (by decide) (by decide))
  go_enter Try.func13, Try.ntmps13
  go_upto_block 0 with (go_at_call 5; refine (HP.out _).mono ?_; rintro e w1 ⟨rfl, rfl⟩)
  generalize hg : 1 + grp % 2 = g at *
  have hbel : Below w.heap.size w (((w.alloc (.cells #[.slice pL nL cL, .slice pH nH cH, .int .i64 grp, .int .i64 how] 49)).alloc (.cells #[.slice none 0 0, .slice none 0 0, .int .i64 0] 44)).alloc (.cells #[.slice none 0 0, .slice none 0 0, .int .i64 g] 44)) :=
    (((Below.refl w.heap.size w).alloc (Nat.le_refl _) _).alloc (by rw [al_size]; omega) _).alloc (by rw [al_size, al_size]; omega) _
  have hr3 := heap_alloc_last ((w.alloc (.cells #[.slice pL nL cL, .slice pH nH cH, .int .i64 grp, .int .i64 how] 49)).alloc (.cells #[.slice none 0 0, .slice none 0 0, .int .i64 0] 44)) (.cells #[.slice none 0 0, .slice none 0 0, .int .i64 g] 44)
  have hr2 := (mild_below (below_al11 ((w.alloc (.cells #[.slice pL nL cL, .slice pH nH cH, .int .i64 grp, .int .i64 how] 49)).alloc (.cells #[.slice none 0 0, .slice none 0 0, .int .i64 0] 44)) (.cells #[.slice none 0 0, .slice none 0 0, .int .i64 g] 44))).cells (heap_alloc_last (w.alloc (.cells #[.slice pL nL cL, .slice pH nH cH, .int .i64 grp, .int .i64 how] 49)) (.cells #[.slice none 0 0, .slice none 0 0, .int .i64 0] 44))
  have hr1 := (mild_below (below_al11 ((w.alloc (.cells #[.slice pL nL cL, .slice pH nH cH, .int .i64 grp, .int .i64 how] 49)).alloc (.cells #[.slice none 0 0, .slice none 0 0, .int .i64 0] 44)) (.cells #[.slice none 0 0, .slice none 0 0, .int .i64 g] 44))).cells ((mild_below (below_al11 (w.alloc (.cells #[.slice pL nL cL, .slice pH nH cH, .int .i64 grp, .int .i64 how] 49)) (.cells #[.slice none 0 0, .slice none 0 0, .int .i64 0] 44))).cells (heap_alloc_last w (.cells #[.slice pL nL cL, .slice pH nH cH, .int .i64 grp, .int .i64 how] 49)))
  rw [al_size, al_size] at hr3
  rw [al_size] at hr2
  obtain ⟨B, hB⟩ : ∃ B, B = w.heap.size := ⟨_, rfl⟩
  have HRZ : Hid (B ≤ w.heap.size + 1) := Lib.hid (by omega)
  have X1 : Hid (XS w (((w.alloc (.cells #[.slice pL nL cL, .slice pH nH cH, .int .i64 grp, .int .i64 how] 49)).alloc (.cells #[.slice none 0 0, .slice none 0 0, .int .i64 0] 44)).alloc (.cells #[.slice none 0 0, .slice none 0 0, .int .i64 g] 44)) B w.heap.size (w.heap.size + 1) (w.heap.size + 1 + 1) (.slice pL nL cL) (.slice pH nH cH) grp how) :=
    Lib.hid ⟨hB ▸ hbel, hB, hr1, hr2, by omega⟩
  have R1 : Hid (RI (((w.alloc (.cells #[.slice pL nL cL, .slice pH nH cH, .int .i64 grp, .int .i64 how] 49)).alloc (.cells #[.slice none 0 0, .slice none 0 0, .int .i64 0] 44)).alloc (.cells #[.slice none 0 0, .slice none 0 0, .int .i64 g] 44)) B (w.heap.size + 1 + 1) (.slice none 0 0) (.slice none 0 0) g [] [] []) :=
    Lib.hid (RI.mk hr3 (by omega) (World.ownsRow_nil _ _ _ _) rfl (fun i c d h => by simp at h) (fun c h => by cases h) (World.ownsRow_nil _ _ _ _) H32.nil)
  clear hr1 hr2 hr3 hbel hB hg
  generalize ((w.alloc (.cells #[.slice pL nL cL, .slice pH nH cH, .int .i64 grp, .int .i64 how] 49)).alloc (.cells #[.slice none 0 0, .slice none 0 0, .int .i64 0] 44)).alloc (.cells #[.slice none 0 0, .slice none 0 0, .int .i64 g] 44) = W1 at *
  generalize w.heap.size + 1 + 1 = rb at *
  generalize w.heap.size + 1 = rz at *
  generalize w.heap.size = bx at *
  go_cut [4, 5, 6, 7, 8, 9, 10] from 24 to 118 (fun _ _ _ _ _ _ _ wr => ∃ (pc : Option Addr) (nC cc : Nat) (C : Cv) (cs : List Cm), nC ≤ 12 ∧ Hid (nC = C.length) ∧ Hid (RI wr B rb (.slice pc nC cc) (.slice none 0 0) g C cs []) ∧ Hid (XS w wr B bx rz rb (.slice pL nL cL) (.slice pH nH cH) grp how))
  case first =>
    go_wp2_with fail
    go_loopw [4] (fun s wr => ∃ (i : Nat) (pc : Option Addr) (nC cc : Nat) (C : Cv) (cs : List Cm), s = .int .i64 i ∧ i ≤ nL ∧ i ≤ 12 ∧ nC ≤ i ∧ Hid (nC = C.length) ∧ Hid (RI wr B rb (.slice pc nC cc) (.slice none 0 0) g C cs []) ∧ Hid (XS w wr B bx rz rb (.slice pL nL cL) (.slice pH nH cH) grp how))
      (fun s _ => 12 - (intOf s).toNat)
    case atStart => exact ⟨0, none, 0, 0, [], [], rfl, Nat.zero_le _, Nat.zero_le _, Nat.le_refl _, Lib.hid rfl, R1, X1⟩
    case round =>
      clear R1 X1
      obtain ⟨i, pc, nC, cc, C, cs, rfl, hi, hi2, hcl, HNC, RR, XX⟩ := hrel
      have HNI := Lib.hid hcl
      clear hcl
      obtain ⟨x0, x1, x2, x3⟩ := XX.out.c
      by_cases hlt : i < nL ∧ i < 12
      · obtain ⟨h1, h2⟩ := hlt
        have hl1 : (i : Int) < nL := by omega
        have hl2 : (i : Int) < 12 := by omega
        have hl0 : (0 : Int) ≤ i := by omega
        have hi1 : wrap64 ((i : Int) + 1) = ((i + 1 : Nat) : Int) := by unfold wrap64; omega
        have NCB : Hid (nC ≤ 1000000) := Lib.hid (by have := HNI.out; omega)
        have HI12 := Lib.hid h2
        have HINL := Lib.hid h1
        obtain ⟨p', cap', e1, hx⟩ := HL.out.kb XX.out.of
        injection e1 with e1 e2 e3
        subst e1
        have hiR : i < R.length := by rw [← HNL.out]; exact h1
        obtain ⟨b, o, rfl, hrg, hps⟩ := hx i _ (List.getElem?_eq_getElem hiR)
        generalize R[i] = y at hrg hps
        obtain ⟨yn, yh, yp, yl⟩ := y
        obtain ⟨c0, c1, c2⟩ := ld_rw hrg
        obtain ⟨q, cq, hq0⟩ := hps.shape'
        obtain ⟨ny, hny⟩ : ∃ n, n = yl.length := ⟨_, rfl⟩
        have hq : yp = .slice q ny cq := by rw [hny]; exact hq0
        clear hq0
        subst hq
        dsimp only at c0 c1 c2
        have hps : ISeen wr (.slice q ny cq) yl := hps
        have HNY := Lib.hid hny
        clear hny
        have HPS := Lib.hid hps
        clear hrg hps e2 e3 hx
        have HPY := Lib.hid (fun W : World => pick_any W yn 60 (by decide) (by decide))
        have hn0 : 0 ≤ yn % 60 := Int.emod_nonneg _ (by decide)
        have hn1 : yn % 60 < 60 := Int.emod_lt_of_pos _ (by decide)
        have RW := Lib.hid XX.out.of
        go_wp2_with (go_at_call 5; refine (HPY.out _).mono ?_; rintro e w1 ⟨rfl, rfl⟩)
        generalize hn60 : yn % 60 = n60 at *
        have HN0 := Lib.hid hn0
        have HN1 := Lib.hid hn1
        clear hn60 hn0 hn1
        have b1 := below_al11 wr (.cells #[.int .i64 yn, .int .i64 yh, .slice q ny cq] 81)
        have hy1 := heap_alloc_last wr (.cells #[.int .i64 yn, .int .i64 yh, .slice q ny cq] 81)
        generalize wr.alloc (.cells #[.int .i64 yn, .int .i64 yh, .slice q ny cq] 81) = w1 at *
        refine (hash_to _ n60).mono ?_
        rintro e w2 ⟨rfl, b2⟩
        obtain ⟨h, hh'⟩ : ∃ h, h = hh n60 := ⟨_, rfl⟩
        have hh32 : h.length = 32 := by rw [hh']; exact hh_length _
        rw [← hh']
        have BB2 : Below wr.heap.size wr w2 := b1.trans (b2.mono b1.size)
        have hy2 := (mild_below b2).cells hy1
        have st := cst_cells h (.slice none 0 0) hh32 rfl w2
        have hks : (cmv h (.slice none 0 0)).size = 33 := cmv_size hh32 _
        have HH32 := Lib.hid hh32
        have Y3 : Hid (Below wr.heap.size wr (w2.alloc (.cells (cmv h (.slice none 0 0)) 32)) ∧ (w2.alloc (.cells (cmv h (.slice none 0 0)) 32)).heap[wr.heap.size]? = some (.cells #[.int .i64 yn, .int .i64 yh, .slice q ny cq] 81 (0, 0)) ∧ CI (w2.alloc (.cells (cmv h (.slice none 0 0)) 32)) wr.heap.size w2.heap.size h (.slice none 0 0) []) :=
          Lib.hid ⟨BB2.alloc BB2.size _, (mild_below (below_al11 w2 _)).cells hy2, heap_alloc_last w2 _, World.ownsRow_nil _ _ _ _, BB2.size, H32.nil, hh32⟩
        clear b1 b2 hh' hy1 hy2 BB2 hh32
        go_wp2_with (refine build_w (t := 32) (vals := #[(0, .agg (hv h))]) (built_commit0 h HH32.out) ?hv ?hw ?_; (case hv => first | rfl | simp [Act.put, Act.eval]); (case hw => first | rfl | simp [Region.wanted, yielded]))
        generalize w2.alloc (.cells (cmv h (.slice none 0 0)) 32) = W2 at *
        generalize w2.heap.size = cb at *
        clear st hks
        refine (ahead_to _ n60 HN0.out HN1.out).mono ?_
        rintro e w3 ⟨v8, l8, rfl, hl8, o8, b3⟩
        obtain ⟨p8, c8, hv8⟩ := (IOwns.seen o8).shape'
        subst hv8
        obtain ⟨n8, hn8⟩ : ∃ n, n = l8.length := ⟨_, rfl⟩
        have Y3B : Hid (YB w3 wr wr.heap.size #[.int .i64 yn, .int .i64 yh, .slice q ny cq] 81 W2.heap.size (.slice p8 l8.length c8) l8) := Lib.hid ⟨Y3.out.1.trans (b3.mono Y3.out.1.size), (mild_below b3).cells Y3.out.2.1, by decide, o8⟩
        have C3 : Hid (CI w3 wr.heap.size cb h (.slice none 0 0) []) := Lib.hid (Y3.out.2.2.kb b3)
        rw [← hn8] at Y3B hl8 ⊢
        have HN8 := Lib.hid hn8
        have HL8 := Lib.hid hl8
        clear Y3 o8 b3 hn8 hl8
        generalize W2.heap.size = B8 at *
        go_wp2_with fail
        have RR0 := Lib.hid RR.out
        have XX0 := Lib.hid XX.out
        generalize wr = W0 at *
        go_loopw [9] (fun s wq => ∃ (j : Nat) (p : Option Addr) (c m : Nat) (ps : List Key), s = .int .i64 j ∧ j ≤ n8 ∧ Hid (m = ps.length) ∧ m ≤ j ∧ Hid (CI wq W0.heap.size cb h (.slice p m c) ps) ∧ Hid (YB wq W0 W0.heap.size #[.int .i64 yn, .int .i64 yh, .slice q ny cq] 81 B8 (.slice p8 n8 c8) l8))
          (fun s _ => n8 - (intOf s).toNat)
        case atStart => exact ⟨0, none, 0, 0, [], rfl, Nat.zero_le _, Lib.hid rfl, Nat.le_refl _, C3, Y3B⟩
        case round =>
          clear C3 Y3B
          obtain ⟨j, p, c, m, ps, rfl, hj, HM, hmj, CC, YY⟩ := hrel
          by_cases hlt : j < n8
          · have HJ := Lib.hid hlt
            have hj1 : wrap64 ((j : Int) + 1) = ((j + 1 : Nat) : Int) := by have := HL8.out; unfold wrap64; omega
            have hjl : (j : Int) < n8 := by omega
            have HMJ := Lib.hid hmj
            have HM2 : Hid (m ≤ 2) := Lib.hid (by have := HL8.out; omega)
            obtain ⟨x, hx⟩ : ∃ x, l8[j]? = some x := ⟨l8[j]'(by rw [← HN8.out]; exact hlt), List.getElem?_eq_getElem _⟩
            obtain ⟨a8, rfl, hc0⟩ := (IOwns.seen YY.out.p).at' hx
            have HX := Lib.hid hx
            clear hx hj hmj
            go_wp2_with fail
            have bq : Below wr.heap.size wr wr.drew := blw_qt _ 1 wr
            have CC := Lib.hid (CC.out.kb bq)
            have YY := Lib.hid (YY.out.kb bq)
            clear bq
            try simp only [List.append]
            refine wp_region_noPanic ?_
            refine wp_region_held_drew (S := (fun V => V.cell? (a8.add j) = some (.int .i64 x))) (by kernel_rfl) ((IOwns.seen YY.out.p).cell' HX.out) (fun hHeld => ?_)
            generalize wr.drew = v1 at *
            refine wpAnyH_take (i := 0) (v := ?_) (by simp only [List.getElem?_toArray, List.getElem?_cons_zero]; rfl) (by kernel_rfl) (by kernel_rfl) (by kernel_rfl) (fun _ _ _ h => h) (Or.inl ⟨by rfl, ?_⟩) (by assumption) ?_
            rotate_left
            · intro w hSw
              try dsimp only at hSw
              go_simp
              try with_reducible rfl
            try simp only [Act.put, List.setIfInBounds_toArray, List.set_cons_zero, List.set_cons_succ]
            refine wpAnyH_take (i := 2) (v := ?_) (by simp only [List.getElem?_toArray, List.getElem?_cons_succ, List.getElem?_cons_zero]; rfl) (by kernel_rfl) (by kernel_rfl) (by kernel_rfl) (fun _ _ _ h => h) (Or.inl ⟨by rfl, ?_⟩) (by assumption) ?_
            rotate_left
            · intro w hSw
              try dsimp only at hSw
              go_simp
              try with_reducible rfl
            try simp only [Act.put, List.setIfInBounds_toArray, List.set_cons_zero, List.set_cons_succ]
            refine wpAnyH_take (i := 3) (v := ?_) (by simp only [List.getElem?_toArray, List.getElem?_cons_succ, List.getElem?_cons_zero]; rfl) (by kernel_rfl) (by kernel_rfl) (by kernel_rfl) (fun _ _ _ h => h) (Or.inl ⟨by rfl, ?_⟩) (by assumption) ?_
            rotate_left
            · intro w hSw
              try dsimp only at hSw
              go_simp
              try with_reducible rfl
            try simp only [Act.put, List.setIfInBounds_toArray, List.set_cons_zero, List.set_cons_succ]
            refine wpAnyH_take (i := 4) (v := ?_) (by simp only [List.getElem?_toArray, List.getElem?_cons_succ, List.getElem?_cons_zero]; rfl) (by kernel_rfl) (by kernel_rfl) (by kernel_rfl) (fun _ _ _ h => h) (Or.inl ⟨by rfl, ?_⟩) (by assumption) ?_
            rotate_left
            · intro w hSw
              try dsimp only at hSw
              go_simp
              try with_reducible rfl
            try simp only [Act.put, List.setIfInBounds_toArray, List.set_cons_zero, List.set_cons_succ]
            refine wpAnyH_take (i := 5) (v := ?_) (by simp only [List.getElem?_toArray, List.getElem?_cons_succ, List.getElem?_cons_zero]; rfl) (by kernel_rfl) (by kernel_rfl) (by kernel_rfl) (fun _ _ _ h => h) (Or.inl ⟨by rfl, ?_⟩) (by assumption) ?_
            rotate_left
            · intro w hSw
              try dsimp only at hSw
              go_simp
              try with_reducible rfl
            try simp only [Act.put, List.setIfInBounds_toArray, List.set_cons_zero, List.set_cons_succ]
            refine wpAnyH_ready (rs := [1, 6]) (by kernel_rfl) (by simp) ?_
            refine (AllReadyH.cons (by simp only [List.getElem?_toArray, List.getElem?_cons_succ, List.getElem?_cons_zero]; rfl) (fun K hK => ?_) (AllReadyH.cons (by simp only [List.getElem?_toArray, List.getElem?_cons_succ, List.getElem?_cons_zero]; rfl) (fun K hK => ?_) AllReadyH.nil))
            · have cL := CC.out.par
              go_simp
              clear cL
              refine hK.out _ _ ((IOwns.seen YY.out.p).cell' HX.out) (fun hHeld => ?_)
              clear hK K
              try simp only [Act.put, List.setIfInBounds_toArray, List.set_cons_zero, List.set_cons_succ]
              refine wpAnyH_ready (rs := [6]) (by kernel_rfl) (by simp) ?_
              refine (AllReadyH.cons (by simp only [List.getElem?_toArray, List.getElem?_cons_succ, List.getElem?_cons_zero]; rfl) (fun K hK => ?_) AllReadyH.nil)
              go_simp
              refine (hash_to _ x).mono ?_
              rintro e v2 ⟨rfl, bb⟩
              have CC := Lib.hid (CC.out.kb bb)
              have YY := Lib.hid (YY.out.kb bb)
              clear bb
              go_wp2_with fail
              refine hK.out _ _ ((IOwns.seen YY.out.p).cell' HX.out) (fun hHeld => ?_)
              clear hK K
              try simp only [Act.put, List.setIfInBounds_toArray, List.set_cons_zero, List.set_cons_succ]
              refine wpAnyH_ready (rs := [7]) (by kernel_rfl) (by simp) ?_
              refine (AllReadyH.cons (by simp only [List.getElem?_toArray, List.getElem?_cons_succ, List.getElem?_cons_zero]; rfl) (fun K hK => ?_) AllReadyH.nil)
              refine step_sl1 (hh x) (hh_length x) (by rfl) (by rfl) ?_
              have HB7 := Lib.hid (heap_alloc_last v2 (.cells (hv (hh x)) 27))
              have CC := Lib.hid (CC.out.kb (below_al11 v2 (.cells (hv (hh x)) 27)))
              have YY := Lib.hid (YY.out.kb (below_al11 v2 (.cells (hv (hh x)) 27)))
              generalize v2.alloc (.cells (hv (hh x)) 27) = v3 at *
              generalize v2.heap.size = b7 at *
              refine hK.out _ _ ((IOwns.seen YY.out.p).cell' HX.out) (fun hHeld => ?_)
              clear hK K
              try simp only [Act.put, List.setIfInBounds_toArray, List.set_cons_zero, List.set_cons_succ]
              refine wpAnyH_ready (rs := [8]) (by kernel_rfl) (by simp) ?_
              refine (AllReadyH.cons (by simp only [List.getElem?_toArray, List.getElem?_cons_succ, List.getElem?_cons_zero]; rfl) (fun K hK => ?_) AllReadyH.nil)
              refine step_pushh rfl _ _ rfl W0.heap.size (.slice p m c) ps b7 (hh x) (hh_length x) (by rfl) CC.out.own (by rfl) HB7.out (by rw [← HM.out]; have := HM2.out; omega) YY.out.bel.size (m + 1) (by rw [HM.out]) ?_
              intro p9 c9 v4 o9 oth9 loc9
              have hpush := CC.out.push o9 oth9 (hh_length x)
              have hc9 := cm_cell CC.out.hh (CC.out.mid oth9)
              have hf9 : v4.frozen? ⟨cb, 32, none⟩ = false := frozen_of_row _ _ _ _ _ (CC.out.mid oth9)
              have YH := Lib.hid (YY.out.half CC.out oth9)
              have CN := Lib.hid hpush.1
              have YN := Lib.hid (YY.out.far CC.out hpush.2)
              clear hpush o9 oth9 loc9
              refine hK.out _ _ ((IOwns.seen YH.out.p).cell' HX.out) (fun hHeld => ?_)
              clear hK K
              try simp only [Act.put, List.setIfInBounds_toArray, List.set_cons_zero, List.set_cons_succ]
              refine wpAnyH_take (i := 9) (v := ?_) (by simp only [List.getElem?_toArray, List.getElem?_cons_succ, List.getElem?_cons_zero]; rfl) (by kernel_rfl) (by kernel_rfl) (by kernel_rfl) (fun _ _ _ h => h) (Or.inl ⟨by rfl, ?_⟩) (by assumption) ?_
              rotate_left
              · intro w hSw
                try dsimp only at hSw
                go_simp
                try with_reducible rfl
              try simp only [Act.put, List.setIfInBounds_toArray, List.set_cons_zero, List.set_cons_succ]
              refine wpAnyH_ready (rs := [10]) (by kernel_rfl) (by simp) ?_
              refine (AllReadyH.cons (by simp only [List.getElem?_toArray, List.getElem?_cons_succ, List.getElem?_cons_zero]; rfl) (fun K hK => ?_) AllReadyH.nil)
              go_simp
              generalize v4.setCell ⟨cb, 32, none⟩ (.slice p9 (m + 1) c9) = v5 at *
              refine hK.out _ _ ((IOwns.seen YN.out.p).cell' HX.out) (fun hHeld => ?_)
              clear hK K
              try simp only [Act.put, List.setIfInBounds_toArray, List.set_cons_zero, List.set_cons_succ]
              refine wpAnyH_done (by kernel_rfl) ?_ _
              refine NoPanic.normal ?_
              go_wp2_with fail
              refine ⟨⟨j + 1, p9, c9, m + 1, ps ++ [hh x], by rw [hj1], HJ.out, Lib.hid (by rw [HM.out, List.length_append]; rfl), Nat.succ_le_succ HMJ.out, CN, YN⟩, ?_⟩
              rw [hj1]; simp only [intOf]; have := HJ.out; omega
            · go_simp
              refine (hash_to _ x).mono ?_
              rintro e v2 ⟨rfl, bb⟩
              have CC := Lib.hid (CC.out.kb bb)
              have YY := Lib.hid (YY.out.kb bb)
              clear bb
              go_wp2_with fail
              refine hK.out _ _ ((IOwns.seen YY.out.p).cell' HX.out) (fun hHeld => ?_)
              clear hK K
              try simp only [Act.put, List.setIfInBounds_toArray, List.set_cons_zero, List.set_cons_succ]
              refine wpAnyH_ready (rs := [1, 7]) (by kernel_rfl) (by simp) ?_
              refine (AllReadyH.cons (by simp only [List.getElem?_toArray, List.getElem?_cons_succ, List.getElem?_cons_zero]; rfl) (fun K hK => ?_) (AllReadyH.cons (by simp only [List.getElem?_toArray, List.getElem?_cons_succ, List.getElem?_cons_zero]; rfl) (fun K hK => ?_) AllReadyH.nil))
              · have cL := CC.out.par
                go_simp
                clear cL
                refine hK.out _ _ ((IOwns.seen YY.out.p).cell' HX.out) (fun hHeld => ?_)
                clear hK K
                try simp only [Act.put, List.setIfInBounds_toArray, List.set_cons_zero, List.set_cons_succ]
                refine wpAnyH_ready (rs := [7]) (by kernel_rfl) (by simp) ?_
                refine (AllReadyH.cons (by simp only [List.getElem?_toArray, List.getElem?_cons_succ, List.getElem?_cons_zero]; rfl) (fun K hK => ?_) AllReadyH.nil)
                refine step_sl1 (hh x) (hh_length x) (by rfl) (by rfl) ?_
                have HB7 := Lib.hid (heap_alloc_last v2 (.cells (hv (hh x)) 27))
                have CC := Lib.hid (CC.out.kb (below_al11 v2 (.cells (hv (hh x)) 27)))
                have YY := Lib.hid (YY.out.kb (below_al11 v2 (.cells (hv (hh x)) 27)))
                generalize v2.alloc (.cells (hv (hh x)) 27) = v3 at *
                generalize v2.heap.size = b7 at *
                refine hK.out _ _ ((IOwns.seen YY.out.p).cell' HX.out) (fun hHeld => ?_)
                clear hK K
                try simp only [Act.put, List.setIfInBounds_toArray, List.set_cons_zero, List.set_cons_succ]
                refine wpAnyH_ready (rs := [8]) (by kernel_rfl) (by simp) ?_
                refine (AllReadyH.cons (by simp only [List.getElem?_toArray, List.getElem?_cons_succ, List.getElem?_cons_zero]; rfl) (fun K hK => ?_) AllReadyH.nil)
                refine step_pushh rfl _ _ rfl W0.heap.size (.slice p m c) ps b7 (hh x) (hh_length x) (by rfl) CC.out.own (by rfl) HB7.out (by rw [← HM.out]; have := HM2.out; omega) YY.out.bel.size (m + 1) (by rw [HM.out]) ?_
                intro p9 c9 v4 o9 oth9 loc9
                have hpush := CC.out.push o9 oth9 (hh_length x)
                have hc9 := cm_cell CC.out.hh (CC.out.mid oth9)
                have hf9 : v4.frozen? ⟨cb, 32, none⟩ = false := frozen_of_row _ _ _ _ _ (CC.out.mid oth9)
                have YH := Lib.hid (YY.out.half CC.out oth9)
                have CN := Lib.hid hpush.1
                have YN := Lib.hid (YY.out.far CC.out hpush.2)
                clear hpush o9 oth9 loc9
                refine hK.out _ _ ((IOwns.seen YH.out.p).cell' HX.out) (fun hHeld => ?_)
                clear hK K
                try simp only [Act.put, List.setIfInBounds_toArray, List.set_cons_zero, List.set_cons_succ]
                refine wpAnyH_take (i := 9) (v := ?_) (by simp only [List.getElem?_toArray, List.getElem?_cons_succ, List.getElem?_cons_zero]; rfl) (by kernel_rfl) (by kernel_rfl) (by kernel_rfl) (fun _ _ _ h => h) (Or.inl ⟨by rfl, ?_⟩) (by assumption) ?_
                rotate_left
                · intro w hSw
                  try dsimp only at hSw
                  go_simp
                  try with_reducible rfl
                try simp only [Act.put, List.setIfInBounds_toArray, List.set_cons_zero, List.set_cons_succ]
                refine wpAnyH_ready (rs := [10]) (by kernel_rfl) (by simp) ?_
                refine (AllReadyH.cons (by simp only [List.getElem?_toArray, List.getElem?_cons_succ, List.getElem?_cons_zero]; rfl) (fun K hK => ?_) AllReadyH.nil)
                go_simp
                generalize v4.setCell ⟨cb, 32, none⟩ (.slice p9 (m + 1) c9) = v5 at *
                refine hK.out _ _ ((IOwns.seen YN.out.p).cell' HX.out) (fun hHeld => ?_)
                clear hK K
                try simp only [Act.put, List.setIfInBounds_toArray, List.set_cons_zero, List.set_cons_succ]
                refine wpAnyH_done (by kernel_rfl) ?_ _
                refine NoPanic.normal ?_
                go_wp2_with fail
                refine ⟨⟨j + 1, p9, c9, m + 1, ps ++ [hh x], by rw [hj1], HJ.out, Lib.hid (by rw [HM.out, List.length_append]; rfl), Nat.succ_le_succ HMJ.out, CN, YN⟩, ?_⟩
                rw [hj1]; simp only [intOf]; have := HJ.out; omega
              · refine step_sl1 (hh x) (hh_length x) (by rfl) (by rfl) ?_
                have HB7 := Lib.hid (heap_alloc_last v2 (.cells (hv (hh x)) 27))
                have CC := Lib.hid (CC.out.kb (below_al11 v2 (.cells (hv (hh x)) 27)))
                have YY := Lib.hid (YY.out.kb (below_al11 v2 (.cells (hv (hh x)) 27)))
                generalize v2.alloc (.cells (hv (hh x)) 27) = v3 at *
                generalize v2.heap.size = b7 at *
                refine hK.out _ _ ((IOwns.seen YY.out.p).cell' HX.out) (fun hHeld => ?_)
                clear hK K
                try simp only [Act.put, List.setIfInBounds_toArray, List.set_cons_zero, List.set_cons_succ]
                refine wpAnyH_ready (rs := [1]) (by kernel_rfl) (by simp) ?_
                refine (AllReadyH.cons (by simp only [List.getElem?_toArray, List.getElem?_cons_succ, List.getElem?_cons_zero]; rfl) (fun K hK => ?_) AllReadyH.nil)
                have cL := CC.out.par
                go_simp
                clear cL
                refine hK.out _ _ ((IOwns.seen YY.out.p).cell' HX.out) (fun hHeld => ?_)
                clear hK K
                try simp only [Act.put, List.setIfInBounds_toArray, List.set_cons_zero, List.set_cons_succ]
                refine wpAnyH_ready (rs := [8]) (by kernel_rfl) (by simp) ?_
                refine (AllReadyH.cons (by simp only [List.getElem?_toArray, List.getElem?_cons_succ, List.getElem?_cons_zero]; rfl) (fun K hK => ?_) AllReadyH.nil)
                refine step_pushh rfl _ _ rfl W0.heap.size (.slice p m c) ps b7 (hh x) (hh_length x) (by rfl) CC.out.own (by rfl) HB7.out (by rw [← HM.out]; have := HM2.out; omega) YY.out.bel.size (m + 1) (by rw [HM.out]) ?_
                intro p9 c9 v4 o9 oth9 loc9
                have hpush := CC.out.push o9 oth9 (hh_length x)
                have hc9 := cm_cell CC.out.hh (CC.out.mid oth9)
                have hf9 : v4.frozen? ⟨cb, 32, none⟩ = false := frozen_of_row _ _ _ _ _ (CC.out.mid oth9)
                have YH := Lib.hid (YY.out.half CC.out oth9)
                have CN := Lib.hid hpush.1
                have YN := Lib.hid (YY.out.far CC.out hpush.2)
                clear hpush o9 oth9 loc9
                refine hK.out _ _ ((IOwns.seen YH.out.p).cell' HX.out) (fun hHeld => ?_)
                clear hK K
                try simp only [Act.put, List.setIfInBounds_toArray, List.set_cons_zero, List.set_cons_succ]
                refine wpAnyH_take (i := 9) (v := ?_) (by simp only [List.getElem?_toArray, List.getElem?_cons_succ, List.getElem?_cons_zero]; rfl) (by kernel_rfl) (by kernel_rfl) (by kernel_rfl) (fun _ _ _ h => h) (Or.inl ⟨by rfl, ?_⟩) (by assumption) ?_
                rotate_left
                · intro w hSw
                  try dsimp only at hSw
                  go_simp
                  try with_reducible rfl
                try simp only [Act.put, List.setIfInBounds_toArray, List.set_cons_zero, List.set_cons_succ]
                refine wpAnyH_ready (rs := [10]) (by kernel_rfl) (by simp) ?_
                refine (AllReadyH.cons (by simp only [List.getElem?_toArray, List.getElem?_cons_succ, List.getElem?_cons_zero]; rfl) (fun K hK => ?_) AllReadyH.nil)
                go_simp
                generalize v4.setCell ⟨cb, 32, none⟩ (.slice p9 (m + 1) c9) = v5 at *
                refine hK.out _ _ ((IOwns.seen YN.out.p).cell' HX.out) (fun hHeld => ?_)
                clear hK K
                try simp only [Act.put, List.setIfInBounds_toArray, List.set_cons_zero, List.set_cons_succ]
                refine wpAnyH_done (by kernel_rfl) ?_ _
                refine NoPanic.normal ?_
                go_wp2_with fail
                refine ⟨⟨j + 1, p9, c9, m + 1, ps ++ [hh x], by rw [hj1], HJ.out, Lib.hid (by rw [HM.out, List.length_append]; rfl), Nat.succ_le_succ HMJ.out, CN, YN⟩, ?_⟩
                rw [hj1]; simp only [intOf]; have := HJ.out; omega
          · have hjl : ¬ (j : Int) < n8 := by omega
            have HM2 : Hid (m ≤ 2) := Lib.hid (by have := HL8.out; omega)
            have HPL : Hid (ps.length ≤ 10) := Lib.hid (by rw [← HM.out]; have := HM2.out; omega)
            obtain ⟨y0, y1, y2⟩ := YY.out.y2
            have hcs : yh % 60 = 0 ∨ yh % 60 = 1 ∨ yh % 60 = 2 ∨ (¬ yh % 60 = 0 ∧ ¬ yh % 60 = 1 ∧ ¬ yh % 60 = 2) := by omega
            clear hmj hlt
            rcases hcs with hc | hc | hc | hc
            · have HPH := Lib.hid (fun W : World => pick_to W yh 60 0 (by decide) (by decide) hc)
              clear hc
              go_wp2_with (go_at_call 5; refine (HPH.out _).mono ?_; rintro e wz ⟨rfl, rfl⟩)
              generalize wr = W3 at *
              clear y0 y1 y2 HPL
              go_loopw [10] (fun s wt => ∃ (j : Nat) (p : Option Addr) (c m : Nat) (ps : List Key), s = .int .i64 j ∧ j ≤ ny ∧ j ≤ 6 ∧ Hid (m = ps.length) ∧ m ≤ 2 + j ∧ Hid (CI wt W0.heap.size cb h (.slice p m c) ps) ∧ Hid (YB wt W0 W0.heap.size #[.int .i64 yn, .int .i64 yh, .slice q ny cq] 81 B8 (.slice p8 n8 c8) l8))
                (fun s _ => 6 - (intOf s).toNat)
              case atStart => exact ⟨0, p, c, m, ps, rfl, Nat.zero_le _, Nat.zero_le _, HM, by have := HM2.out; omega, CC, YY⟩
              case round =>
                clear HM CC YY HM2
                obtain ⟨j, p, c, m, ps, rfl, hjn, hj6, HM, hmj, CC, YY⟩ := hrel
                obtain ⟨y0, y1, y2⟩ := YY.out.y2
                by_cases hlt : j < ny ∧ j < 6
                · obtain ⟨hl1, hl2⟩ := hlt
                  have HJ := Lib.hid hl1
                  have HJ6 := Lib.hid hl2
                  have hj1 : wrap64 ((j : Int) + 1) = ((j + 1 : Nat) : Int) := by unfold wrap64; omega
                  have hjl : (j : Int) < ny := by omega
                  have hjl6 : (j : Int) < 6 := by omega
                  have HMJ := Lib.hid hmj
                  have HM2 : Hid (m ≤ 8) := Lib.hid (by omega)
                  obtain ⟨x, hx⟩ : ∃ x, yl[j]? = some x := ⟨yl[j]'(by rw [← HNY.out]; exact hl1), List.getElem?_eq_getElem _⟩
                  obtain ⟨a8, rfl, hc0⟩ := HPS.out.at' hx
                  have HX := Lib.hid hx
                  clear hx hjn hj6 hmj hc0
                  go_wp2_with fail
                  clear y0 y1 y2
                  have bq : Below wr.heap.size wr wr.drew := blw_qt _ 1 wr
                  have CC := Lib.hid (CC.out.kb bq)
                  have YY := Lib.hid (YY.out.kb bq)
                  clear bq
                  try simp only [List.append]
                  refine wp_region_noPanic ?_
                  refine wp_region_held_drew (S := (fun V => V.cell? ⟨W0.heap.size, 2, none⟩ = some (.slice (some a8) ny cq) ∧ V.cell? (a8.add j) = some (.int .i64 x))) (by kernel_rfl) ⟨YY.out.y2.2.2, (HPS.out.kb' YY.out.bel).cell' HX.out⟩ (fun hHeld => ?_)
                  generalize wr.drew = v1 at *
                  refine wpAnyH_take (i := 0) (v := ?_) (by simp only [List.getElem?_toArray, List.getElem?_cons_zero]; rfl) (by kernel_rfl) (by kernel_rfl) (by kernel_rfl) (fun _ _ _ h => h) (Or.inl ⟨by rfl, ?_⟩) (by assumption) ?_
                  rotate_left
                  · intro w hSw
                    try dsimp only at hSw
                    go_simp
                    try with_reducible rfl
                  try simp only [Act.put, List.setIfInBounds_toArray, List.set_cons_zero, List.set_cons_succ]
                  refine wpAnyH_take (i := 2) (v := ?_) (by simp only [List.getElem?_toArray, List.getElem?_cons_succ, List.getElem?_cons_zero]; rfl) (by kernel_rfl) (by kernel_rfl) (by kernel_rfl) (fun _ _ _ h => h) (Or.inl ⟨by rfl, ?_⟩) (by assumption) ?_
                  rotate_left
                  · intro w hSw
                    try dsimp only at hSw
                    go_simp
                    try with_reducible rfl
                  try simp only [Act.put, List.setIfInBounds_toArray, List.set_cons_zero, List.set_cons_succ]
                  refine wpAnyH_take (i := 3) (v := ?_) (by simp only [List.getElem?_toArray, List.getElem?_cons_succ, List.getElem?_cons_zero]; rfl) (by kernel_rfl) (by kernel_rfl) (by kernel_rfl) (fun _ _ _ h => h) (Or.inl ⟨by rfl, ?_⟩) (by assumption) ?_
                  rotate_left
                  · intro w hSw
                    try dsimp only at hSw
                    go_simp
                    try with_reducible rfl
                  try simp only [Act.put, List.setIfInBounds_toArray, List.set_cons_zero, List.set_cons_succ]
                  refine wpAnyH_take (i := 4) (v := ?_) (by simp only [List.getElem?_toArray, List.getElem?_cons_succ, List.getElem?_cons_zero]; rfl) (by kernel_rfl) (by kernel_rfl) (by kernel_rfl) (fun _ _ _ h => h) (Or.inl ⟨by rfl, ?_⟩) (by assumption) ?_
                  rotate_left
                  · intro w hSw
                    try dsimp only at hSw
                    go_simp
                    try with_reducible rfl
                  try simp only [Act.put, List.setIfInBounds_toArray, List.set_cons_zero, List.set_cons_succ]
                  refine wpAnyH_take (i := 5) (v := ?_) (by simp only [List.getElem?_toArray, List.getElem?_cons_succ, List.getElem?_cons_zero]; rfl) (by kernel_rfl) (by kernel_rfl) (by kernel_rfl) (fun _ _ _ h => h) (Or.inl ⟨by rfl, ?_⟩) (by assumption) ?_
                  rotate_left
                  · intro w hSw
                    try dsimp only at hSw
                    go_simp
                    try with_reducible rfl
                  try simp only [Act.put, List.setIfInBounds_toArray, List.set_cons_zero, List.set_cons_succ]
                  refine wpAnyH_take (i := 6) (v := ?_) (by simp only [List.getElem?_toArray, List.getElem?_cons_succ, List.getElem?_cons_zero]; rfl) (by kernel_rfl) (by kernel_rfl) (by kernel_rfl) (fun _ _ _ h => h) (Or.inl ⟨by rfl, ?_⟩) (by assumption) ?_
                  rotate_left
                  · intro w hSw
                    try dsimp only at hSw
                    go_simp
                    try with_reducible rfl
                  try simp only [Act.put, List.setIfInBounds_toArray, List.set_cons_zero, List.set_cons_succ]
                  refine wpAnyH_ready (rs := [1, 7]) (by kernel_rfl) (by simp) ?_
                  refine (AllReadyH.cons (by simp only [List.getElem?_toArray, List.getElem?_cons_succ, List.getElem?_cons_zero]; rfl) (fun K hK => ?_) (AllReadyH.cons (by simp only [List.getElem?_toArray, List.getElem?_cons_succ, List.getElem?_cons_zero]; rfl) (fun K hK => ?_) AllReadyH.nil))
                  · have cL := CC.out.par
                    go_simp
                    clear cL
                    refine hK.out _ _ ⟨YY.out.y2.2.2, (HPS.out.kb' YY.out.bel).cell' HX.out⟩ (fun hHeld => ?_)
                    clear hK K
                    try simp only [Act.put, List.setIfInBounds_toArray, List.set_cons_zero, List.set_cons_succ]
                    refine wpAnyH_ready (rs := [7]) (by kernel_rfl) (by simp) ?_
                    refine (AllReadyH.cons (by simp only [List.getElem?_toArray, List.getElem?_cons_succ, List.getElem?_cons_zero]; rfl) (fun K hK => ?_) AllReadyH.nil)
                    go_simp
                    refine (hash_to _ x).mono ?_
                    rintro e v2 ⟨rfl, bb⟩
                    have CC := Lib.hid (CC.out.kb bb)
                    have YY := Lib.hid (YY.out.kb bb)
                    clear bb
                    go_wp2_with fail
                    refine hK.out _ _ ⟨YY.out.y2.2.2, (HPS.out.kb' YY.out.bel).cell' HX.out⟩ (fun hHeld => ?_)
                    clear hK K
                    try simp only [Act.put, List.setIfInBounds_toArray, List.set_cons_zero, List.set_cons_succ]
                    refine wpAnyH_ready (rs := [8]) (by kernel_rfl) (by simp) ?_
                    refine (AllReadyH.cons (by simp only [List.getElem?_toArray, List.getElem?_cons_succ, List.getElem?_cons_zero]; rfl) (fun K hK => ?_) AllReadyH.nil)
                    refine step_sl1 (hh x) (hh_length x) (by rfl) (by rfl) ?_
                    have HB7 := Lib.hid (heap_alloc_last v2 (.cells (hv (hh x)) 27))
                    have CC := Lib.hid (CC.out.kb (below_al11 v2 (.cells (hv (hh x)) 27)))
                    have YY := Lib.hid (YY.out.kb (below_al11 v2 (.cells (hv (hh x)) 27)))
                    generalize v2.alloc (.cells (hv (hh x)) 27) = v3 at *
                    generalize v2.heap.size = b7 at *
                    refine hK.out _ _ ⟨YY.out.y2.2.2, (HPS.out.kb' YY.out.bel).cell' HX.out⟩ (fun hHeld => ?_)
                    clear hK K
                    try simp only [Act.put, List.setIfInBounds_toArray, List.set_cons_zero, List.set_cons_succ]
                    refine wpAnyH_ready (rs := [9]) (by kernel_rfl) (by simp) ?_
                    refine (AllReadyH.cons (by simp only [List.getElem?_toArray, List.getElem?_cons_succ, List.getElem?_cons_zero]; rfl) (fun K hK => ?_) AllReadyH.nil)
                    refine step_pushh rfl _ _ rfl W0.heap.size (.slice p m c) ps b7 (hh x) (hh_length x) (by rfl) CC.out.own (by rfl) HB7.out (by rw [← HM.out]; have := HM2.out; omega) YY.out.bel.size (m + 1) (by rw [HM.out]) ?_
                    intro p9 c9 v4 o9 oth9 loc9
                    have hpush := CC.out.push o9 oth9 (hh_length x)
                    have hc9 := cm_cell CC.out.hh (CC.out.mid oth9)
                    have hf9 : v4.frozen? ⟨cb, 32, none⟩ = false := frozen_of_row _ _ _ _ _ (CC.out.mid oth9)
                    have YH := Lib.hid (YY.out.half CC.out oth9)
                    have CN := Lib.hid hpush.1
                    have YN := Lib.hid (YY.out.far CC.out hpush.2)
                    clear hpush o9 oth9 loc9
                    refine hK.out _ _ ⟨YH.out.y2.2.2, (HPS.out.kb' YH.out.bel).cell' HX.out⟩ (fun hHeld => ?_)
                    clear hK K
                    try simp only [Act.put, List.setIfInBounds_toArray, List.set_cons_zero, List.set_cons_succ]
                    refine wpAnyH_take (i := 10) (v := ?_) (by simp only [List.getElem?_toArray, List.getElem?_cons_succ, List.getElem?_cons_zero]; rfl) (by kernel_rfl) (by kernel_rfl) (by kernel_rfl) (fun _ _ _ h => h) (Or.inl ⟨by rfl, ?_⟩) (by assumption) ?_
                    rotate_left
                    · intro w hSw
                      try dsimp only at hSw
                      go_simp
                      try with_reducible rfl
                    try simp only [Act.put, List.setIfInBounds_toArray, List.set_cons_zero, List.set_cons_succ]
                    refine wpAnyH_ready (rs := [11]) (by kernel_rfl) (by simp) ?_
                    refine (AllReadyH.cons (by simp only [List.getElem?_toArray, List.getElem?_cons_succ, List.getElem?_cons_zero]; rfl) (fun K hK => ?_) AllReadyH.nil)
                    go_simp
                    generalize v4.setCell ⟨cb, 32, none⟩ (.slice p9 (m + 1) c9) = v5 at *
                    refine hK.out _ _ ⟨YN.out.y2.2.2, (HPS.out.kb' YN.out.bel).cell' HX.out⟩ (fun hHeld => ?_)
                    clear hK K
                    try simp only [Act.put, List.setIfInBounds_toArray, List.set_cons_zero, List.set_cons_succ]
                    refine wpAnyH_done (by kernel_rfl) ?_ _
                    refine NoPanic.normal ?_
                    go_wp2_with fail
                    refine ⟨⟨j + 1, p9, c9, m + 1, ps ++ [hh x], congrArg _ (by omega), HJ.out, HJ6.out, Lib.hid (by rw [HM.out, List.length_append]; rfl), Nat.succ_le_succ HMJ.out, CN, YN⟩, ?_⟩
                    simp only [intOf]; have := HJ6.out; omega
                  · go_simp
                    refine (hash_to _ x).mono ?_
                    rintro e v2 ⟨rfl, bb⟩
                    have CC := Lib.hid (CC.out.kb bb)
                    have YY := Lib.hid (YY.out.kb bb)
                    clear bb
                    go_wp2_with fail
                    refine hK.out _ _ ⟨YY.out.y2.2.2, (HPS.out.kb' YY.out.bel).cell' HX.out⟩ (fun hHeld => ?_)
                    clear hK K
                    try simp only [Act.put, List.setIfInBounds_toArray, List.set_cons_zero, List.set_cons_succ]
                    refine wpAnyH_ready (rs := [1, 8]) (by kernel_rfl) (by simp) ?_
                    refine (AllReadyH.cons (by simp only [List.getElem?_toArray, List.getElem?_cons_succ, List.getElem?_cons_zero]; rfl) (fun K hK => ?_) (AllReadyH.cons (by simp only [List.getElem?_toArray, List.getElem?_cons_succ, List.getElem?_cons_zero]; rfl) (fun K hK => ?_) AllReadyH.nil))
                    · have cL := CC.out.par
                      go_simp
                      clear cL
                      refine hK.out _ _ ⟨YY.out.y2.2.2, (HPS.out.kb' YY.out.bel).cell' HX.out⟩ (fun hHeld => ?_)
                      clear hK K
                      try simp only [Act.put, List.setIfInBounds_toArray, List.set_cons_zero, List.set_cons_succ]
                      refine wpAnyH_ready (rs := [8]) (by kernel_rfl) (by simp) ?_
                      refine (AllReadyH.cons (by simp only [List.getElem?_toArray, List.getElem?_cons_succ, List.getElem?_cons_zero]; rfl) (fun K hK => ?_) AllReadyH.nil)
                      refine step_sl1 (hh x) (hh_length x) (by rfl) (by rfl) ?_
                      have HB7 := Lib.hid (heap_alloc_last v2 (.cells (hv (hh x)) 27))
                      have CC := Lib.hid (CC.out.kb (below_al11 v2 (.cells (hv (hh x)) 27)))
                      have YY := Lib.hid (YY.out.kb (below_al11 v2 (.cells (hv (hh x)) 27)))
                      generalize v2.alloc (.cells (hv (hh x)) 27) = v3 at *
                      generalize v2.heap.size = b7 at *
                      refine hK.out _ _ ⟨YY.out.y2.2.2, (HPS.out.kb' YY.out.bel).cell' HX.out⟩ (fun hHeld => ?_)
                      clear hK K
                      try simp only [Act.put, List.setIfInBounds_toArray, List.set_cons_zero, List.set_cons_succ]
                      refine wpAnyH_ready (rs := [9]) (by kernel_rfl) (by simp) ?_
                      refine (AllReadyH.cons (by simp only [List.getElem?_toArray, List.getElem?_cons_succ, List.getElem?_cons_zero]; rfl) (fun K hK => ?_) AllReadyH.nil)
                      refine step_pushh rfl _ _ rfl W0.heap.size (.slice p m c) ps b7 (hh x) (hh_length x) (by rfl) CC.out.own (by rfl) HB7.out (by rw [← HM.out]; have := HM2.out; omega) YY.out.bel.size (m + 1) (by rw [HM.out]) ?_
                      intro p9 c9 v4 o9 oth9 loc9
                      have hpush := CC.out.push o9 oth9 (hh_length x)
                      have hc9 := cm_cell CC.out.hh (CC.out.mid oth9)
                      have hf9 : v4.frozen? ⟨cb, 32, none⟩ = false := frozen_of_row _ _ _ _ _ (CC.out.mid oth9)
                      have YH := Lib.hid (YY.out.half CC.out oth9)
                      have CN := Lib.hid hpush.1
                      have YN := Lib.hid (YY.out.far CC.out hpush.2)
                      clear hpush o9 oth9 loc9
                      refine hK.out _ _ ⟨YH.out.y2.2.2, (HPS.out.kb' YH.out.bel).cell' HX.out⟩ (fun hHeld => ?_)
                      clear hK K
                      try simp only [Act.put, List.setIfInBounds_toArray, List.set_cons_zero, List.set_cons_succ]
                      refine wpAnyH_take (i := 10) (v := ?_) (by simp only [List.getElem?_toArray, List.getElem?_cons_succ, List.getElem?_cons_zero]; rfl) (by kernel_rfl) (by kernel_rfl) (by kernel_rfl) (fun _ _ _ h => h) (Or.inl ⟨by rfl, ?_⟩) (by assumption) ?_
                      rotate_left
                      · intro w hSw
                        try dsimp only at hSw
                        go_simp
                        try with_reducible rfl
                      try simp only [Act.put, List.setIfInBounds_toArray, List.set_cons_zero, List.set_cons_succ]
                      refine wpAnyH_ready (rs := [11]) (by kernel_rfl) (by simp) ?_
                      refine (AllReadyH.cons (by simp only [List.getElem?_toArray, List.getElem?_cons_succ, List.getElem?_cons_zero]; rfl) (fun K hK => ?_) AllReadyH.nil)
                      go_simp
                      generalize v4.setCell ⟨cb, 32, none⟩ (.slice p9 (m + 1) c9) = v5 at *
                      refine hK.out _ _ ⟨YN.out.y2.2.2, (HPS.out.kb' YN.out.bel).cell' HX.out⟩ (fun hHeld => ?_)
                      clear hK K
                      try simp only [Act.put, List.setIfInBounds_toArray, List.set_cons_zero, List.set_cons_succ]
                      refine wpAnyH_done (by kernel_rfl) ?_ _
                      refine NoPanic.normal ?_
                      go_wp2_with fail
                      refine ⟨⟨j + 1, p9, c9, m + 1, ps ++ [hh x], congrArg _ (by omega), HJ.out, HJ6.out, Lib.hid (by rw [HM.out, List.length_append]; rfl), Nat.succ_le_succ HMJ.out, CN, YN⟩, ?_⟩
                      simp only [intOf]; have := HJ6.out; omega
                    · refine step_sl1 (hh x) (hh_length x) (by rfl) (by rfl) ?_
                      have HB7 := Lib.hid (heap_alloc_last v2 (.cells (hv (hh x)) 27))
                      have CC := Lib.hid (CC.out.kb (below_al11 v2 (.cells (hv (hh x)) 27)))
                      have YY := Lib.hid (YY.out.kb (below_al11 v2 (.cells (hv (hh x)) 27)))
                      generalize v2.alloc (.cells (hv (hh x)) 27) = v3 at *
                      generalize v2.heap.size = b7 at *
                      refine hK.out _ _ ⟨YY.out.y2.2.2, (HPS.out.kb' YY.out.bel).cell' HX.out⟩ (fun hHeld => ?_)
                      clear hK K
                      try simp only [Act.put, List.setIfInBounds_toArray, List.set_cons_zero, List.set_cons_succ]
                      refine wpAnyH_ready (rs := [1]) (by kernel_rfl) (by simp) ?_
                      refine (AllReadyH.cons (by simp only [List.getElem?_toArray, List.getElem?_cons_succ, List.getElem?_cons_zero]; rfl) (fun K hK => ?_) AllReadyH.nil)
                      have cL := CC.out.par
                      go_simp
                      clear cL
                      refine hK.out _ _ ⟨YY.out.y2.2.2, (HPS.out.kb' YY.out.bel).cell' HX.out⟩ (fun hHeld => ?_)
                      clear hK K
                      try simp only [Act.put, List.setIfInBounds_toArray, List.set_cons_zero, List.set_cons_succ]
                      refine wpAnyH_ready (rs := [9]) (by kernel_rfl) (by simp) ?_
                      refine (AllReadyH.cons (by simp only [List.getElem?_toArray, List.getElem?_cons_succ, List.getElem?_cons_zero]; rfl) (fun K hK => ?_) AllReadyH.nil)
                      refine step_pushh rfl _ _ rfl W0.heap.size (.slice p m c) ps b7 (hh x) (hh_length x) (by rfl) CC.out.own (by rfl) HB7.out (by rw [← HM.out]; have := HM2.out; omega) YY.out.bel.size (m + 1) (by rw [HM.out]) ?_
                      intro p9 c9 v4 o9 oth9 loc9
                      have hpush := CC.out.push o9 oth9 (hh_length x)
                      have hc9 := cm_cell CC.out.hh (CC.out.mid oth9)
                      have hf9 : v4.frozen? ⟨cb, 32, none⟩ = false := frozen_of_row _ _ _ _ _ (CC.out.mid oth9)
                      have YH := Lib.hid (YY.out.half CC.out oth9)
                      have CN := Lib.hid hpush.1
                      have YN := Lib.hid (YY.out.far CC.out hpush.2)
                      clear hpush o9 oth9 loc9
                      refine hK.out _ _ ⟨YH.out.y2.2.2, (HPS.out.kb' YH.out.bel).cell' HX.out⟩ (fun hHeld => ?_)
                      clear hK K
                      try simp only [Act.put, List.setIfInBounds_toArray, List.set_cons_zero, List.set_cons_succ]
                      refine wpAnyH_take (i := 10) (v := ?_) (by simp only [List.getElem?_toArray, List.getElem?_cons_succ, List.getElem?_cons_zero]; rfl) (by kernel_rfl) (by kernel_rfl) (by kernel_rfl) (fun _ _ _ h => h) (Or.inl ⟨by rfl, ?_⟩) (by assumption) ?_
                      rotate_left
                      · intro w hSw
                        try dsimp only at hSw
                        go_simp
                        try with_reducible rfl
                      try simp only [Act.put, List.setIfInBounds_toArray, List.set_cons_zero, List.set_cons_succ]
                      refine wpAnyH_ready (rs := [11]) (by kernel_rfl) (by simp) ?_
                      refine (AllReadyH.cons (by simp only [List.getElem?_toArray, List.getElem?_cons_succ, List.getElem?_cons_zero]; rfl) (fun K hK => ?_) AllReadyH.nil)
                      go_simp
                      generalize v4.setCell ⟨cb, 32, none⟩ (.slice p9 (m + 1) c9) = v5 at *
                      refine hK.out _ _ ⟨YN.out.y2.2.2, (HPS.out.kb' YN.out.bel).cell' HX.out⟩ (fun hHeld => ?_)
                      clear hK K
                      try simp only [Act.put, List.setIfInBounds_toArray, List.set_cons_zero, List.set_cons_succ]
                      refine wpAnyH_done (by kernel_rfl) ?_ _
                      refine NoPanic.normal ?_
                      go_wp2_with fail
                      refine ⟨⟨j + 1, p9, c9, m + 1, ps ++ [hh x], congrArg _ (by omega), HJ.out, HJ6.out, Lib.hid (by rw [HM.out, List.length_append]; rfl), Nat.succ_le_succ HMJ.out, CN, YN⟩, ?_⟩
                      simp only [intOf]; have := HJ6.out; omega
                · have HPL : Hid (ps.length ≤ 10) := Lib.hid (by rw [← HM.out]; omega)
                  rcases (by omega : ¬ j < ny ∨ (j < ny ∧ ¬ j < 6)) with hq1 | ⟨hq1, hq2⟩
                  · have hjl : ¬ (j : Int) < ny := by omega
                    clear hlt hjn hj6 hmj
                    have RT := Lib.hid (RR0.out.kb YY.out.bel)
                    have XT := Lib.hid (XX0.out.kb YY.out.bel)
                    have t0 := RT.out.c0.1
                    have hcl := cld_range (w := wr) (p := cb) (o := 0) (h := h) (u := .slice p m c) CC.out.hh (by have := range_row CC.out.cell; rwa [cmv_list] at this)
                    have BA := Lib.hid (below_al11 wr (.cells (cf [(h, .slice p m c)]).toArray 32))
                    go_wp2_with (first
                      | (go_at_call 5; refine (HPH.out _).mono ?_; rintro e wz ⟨rfl, rfl⟩)
                      | (refine slicec_w (C := [(h, .slice p m c)]) (by simpa using HH32.out) rfl (by simp) (by simp) ?hv ?hw ?_; (case hv => first | rfl | simp [Act.put, Act.eval]); (case hw => first | rfl | simp [Region.wanted, yielded]))
                      | (at_builtin; refine push_comm rfl (.tmp 114) (.tmp 116) rfl (b := wr.heap.size) (h := h) (u := .slice p m c) (ps := ps) (w0 := w) rfl rfl (heap_alloc_last wr _) (RT.out.kb BA.out) HNC.out (XT.out.kb BA.out) HH32.out CC.out.p32 HPL.out (own_mono (own_below CC.out.own BA.out) (XX0.out.hB ▸ XX0.out.bel.size)) (fun j _ h => nomatch h) NCB.out ?_; intro g5 c5 w5 hc5 hf5 R5 X5 o5; have R5 := Lib.hid R5; have X5 := Lib.hid X5; have O5 := Lib.hid o5; clear o5))
                    refine ⟨⟨i + 1, some ⟨g5, 0, none⟩, nC + 1, c5, C ++ [(h, _)], cs ++ [(h, _)], congrArg _ (by omega), HINL.out, HI12.out, Nat.succ_le_succ HNI.out, Lib.hid (by rw [HNC.out, List.length_append]; rfl), R5, X5⟩, ?_⟩
                    simp only [intOf]; have := HI12.out; omega
                  · have hjl : (j : Int) < ny := by omega
                    have hjl6 : ¬ (j : Int) < 6 := by omega
                    clear hlt hjn hj6 hmj
                    have RT := Lib.hid (RR0.out.kb YY.out.bel)
                    have XT := Lib.hid (XX0.out.kb YY.out.bel)
                    have t0 := RT.out.c0.1
                    have hcl := cld_range (w := wr) (p := cb) (o := 0) (h := h) (u := .slice p m c) CC.out.hh (by have := range_row CC.out.cell; rwa [cmv_list] at this)
                    have BA := Lib.hid (below_al11 wr (.cells (cf [(h, .slice p m c)]).toArray 32))
                    go_wp2_with (first
                      | (go_at_call 5; refine (HPH.out _).mono ?_; rintro e wz ⟨rfl, rfl⟩)
                      | (refine slicec_w (C := [(h, .slice p m c)]) (by simpa using HH32.out) rfl (by simp) (by simp) ?hv ?hw ?_; (case hv => first | rfl | simp [Act.put, Act.eval]); (case hw => first | rfl | simp [Region.wanted, yielded]))
                      | (at_builtin; refine push_comm rfl (.tmp 114) (.tmp 116) rfl (b := wr.heap.size) (h := h) (u := .slice p m c) (ps := ps) (w0 := w) rfl rfl (heap_alloc_last wr _) (RT.out.kb BA.out) HNC.out (XT.out.kb BA.out) HH32.out CC.out.p32 HPL.out (own_mono (own_below CC.out.own BA.out) (XX0.out.hB ▸ XX0.out.bel.size)) (fun j _ h => nomatch h) NCB.out ?_; intro g5 c5 w5 hc5 hf5 R5 X5 o5; have R5 := Lib.hid R5; have X5 := Lib.hid X5; have O5 := Lib.hid o5; clear o5))
                    refine ⟨⟨i + 1, some ⟨g5, 0, none⟩, nC + 1, c5, C ++ [(h, _)], cs ++ [(h, _)], congrArg _ (by omega), HINL.out, HI12.out, Nat.succ_le_succ HNI.out, Lib.hid (by rw [HNC.out, List.length_append]; rfl), R5, X5⟩, ?_⟩
                    simp only [intOf]; have := HI12.out; omega
            · have HPH := Lib.hid (fun W : World => pick_to W yh 60 1 (by decide) (by decide) hc)
              have hpar := CC.out.par
              clear hc
              rcases Nat.eq_zero_or_pos m with h0 | h0
              · subst h0
                have RT := Lib.hid (RR0.out.kb YY.out.bel)
                have XT := Lib.hid (XX0.out.kb YY.out.bel)
                have t0 := RT.out.c0.1
                have hcl := cld_range (w := wr) (p := cb) (o := 0) (h := h) (u := .slice p 0 c) CC.out.hh (by have := range_row CC.out.cell; rwa [cmv_list] at this)
                have BA := Lib.hid (below_al11 wr (.cells (cf [(h, .slice p 0 c)]).toArray 32))
                go_wp2_with (first
                  | (go_at_call 5; refine (HPH.out _).mono ?_; rintro e wz ⟨rfl, rfl⟩)
                  | (refine slicec_w (C := [(h, .slice p 0 c)]) (by simpa using HH32.out) rfl (by simp) (by simp) ?hv ?hw ?_; (case hv => first | rfl | simp [Act.put, Act.eval]); (case hw => first | rfl | simp [Region.wanted, yielded]))
                  | (at_builtin; refine push_comm rfl (.tmp 114) (.tmp 116) rfl (b := wr.heap.size) (h := h) (u := .slice p 0 c) (ps := ps) (w0 := w) rfl rfl (heap_alloc_last wr _) (RT.out.kb BA.out) HNC.out (XT.out.kb BA.out) HH32.out CC.out.p32 HPL.out (own_mono (own_below CC.out.own BA.out) (XX0.out.hB ▸ XX0.out.bel.size)) (fun j _ h => nomatch h) NCB.out ?_; intro g5 c5 w5 hc5 hf5 R5 X5 o5; have R5 := Lib.hid R5; have X5 := Lib.hid X5; have O5 := Lib.hid o5; clear o5))
                refine ⟨⟨i + 1, some ⟨g5, 0, none⟩, nC + 1, c5, C ++ [(h, _)], cs ++ [(h, _)], congrArg _ (by omega), HINL.out, HI12.out, Nat.succ_le_succ HNI.out, Lib.hid (by rw [HNC.out, List.length_append]; rfl), R5, X5⟩, ?_⟩
                simp only [intOf]; have := HI12.out; omega
              · have h1 : (0 : Int) < m := by omega
                obtain ⟨x, tl, hps⟩ : ∃ x tl, ps = x :: tl := by
                  cases ps with
                  | nil => have := HM.out; simp at this; omega
                  | cons x tl => exact ⟨x, tl, rfl⟩
                obtain ⟨gp, hgp⟩ := own_first CC.out.own hps
                subst hgp
                have HPX := Lib.hid hps
                have HX32 : Hid (x.length = 32) := Lib.hid (CC.out.p32 x (by rw [hps]; exact List.mem_cons_self))
                clear hps
                go_wp2_with (go_at_call 5; refine (HPH.out _).mono ?_; rintro e wz ⟨rfl, rfl⟩)
                clear hpar y0 y1 y2
                have bq : Below wr.heap.size wr wr.drew := blw_qt _ 1 wr
                have CC := Lib.hid (CC.out.kb bq)
                have YY := Lib.hid (YY.out.kb bq)
                clear bq
                try simp only [List.append]
                refine wp_region_noPanic ?_
                refine wp_region_held_drew (S := (fun _ => True)) (by kernel_rfl) trivial (fun hHeld => ?_)
                generalize wr.drew = v1 at *
                refine wpAnyH_take (i := 0) (v := ?_) (by simp only [List.getElem?_toArray, List.getElem?_cons_zero]; rfl) (by kernel_rfl) (by kernel_rfl) (by kernel_rfl) (fun _ _ _ h => h) (Or.inl ⟨by rfl, ?_⟩) (by assumption) ?_
                rotate_left
                · intro w hSw
                  try dsimp only at hSw
                  go_simp
                  try with_reducible rfl
                try simp only [Act.put, List.setIfInBounds_toArray, List.set_cons_zero, List.set_cons_succ]
                refine wpAnyH_take (i := 2) (v := ?_) (by simp only [List.getElem?_toArray, List.getElem?_cons_succ, List.getElem?_cons_zero]; rfl) (by kernel_rfl) (by kernel_rfl) (by kernel_rfl) (fun _ _ _ h => h) (Or.inl ⟨by rfl, ?_⟩) (by assumption) ?_
                rotate_left
                · intro w hSw
                  try dsimp only at hSw
                  go_simp
                  try with_reducible rfl
                try simp only [Act.put, List.setIfInBounds_toArray, List.set_cons_zero, List.set_cons_succ]
                refine wpAnyH_ready (rs := [1, 3]) (by kernel_rfl) (by simp) ?_
                refine (AllReadyH.cons (by simp only [List.getElem?_toArray, List.getElem?_cons_succ, List.getElem?_cons_zero]; rfl) (fun K hK => ?_) (AllReadyH.cons (by simp only [List.getElem?_toArray, List.getElem?_cons_succ, List.getElem?_cons_zero]; rfl) (fun K hK => ?_) AllReadyH.nil))
                · have cL := CC.out.par
                  go_simp
                  clear cL
                  refine hK.out _ _ trivial (fun hHeld => ?_)
                  clear hK K
                  try simp only [Act.put, List.setIfInBounds_toArray, List.set_cons_zero, List.set_cons_succ]
                  refine wpAnyH_ready (rs := [3]) (by kernel_rfl) (by simp) ?_
                  refine (AllReadyH.cons (by simp only [List.getElem?_toArray, List.getElem?_cons_succ, List.getElem?_cons_zero]; rfl) (fun K hK => ?_) AllReadyH.nil)
                  have cL := CC.out.par
                  go_simp
                  clear cL
                  refine hK.out _ _ trivial (fun hHeld => ?_)
                  clear hK K
                  try simp only [Act.put, List.setIfInBounds_toArray, List.set_cons_zero, List.set_cons_succ]
                  refine wpAnyH_take (i := 4) (v := ?_) (by simp only [List.getElem?_toArray, List.getElem?_cons_succ, List.getElem?_cons_zero]; rfl) (by kernel_rfl) (by kernel_rfl) (by kernel_rfl) (fun _ _ _ h => h) (Or.inl ⟨by rfl, ?_⟩) (by assumption) ?_
                  rotate_left
                  · intro w hSw
                    try dsimp only at hSw
                    go_simp
                    try with_reducible rfl
                  try simp only [Act.put, List.setIfInBounds_toArray, List.set_cons_zero, List.set_cons_succ]
                  refine wpAnyH_ready (rs := [5]) (by kernel_rfl) (by simp) ?_
                  refine (AllReadyH.cons (by simp only [List.getElem?_toArray, List.getElem?_cons_succ, List.getElem?_cons_zero]; rfl) (fun K hK => ?_) AllReadyH.nil)
                  have l5 := hld_range HX32.out (own_first' CC.out.own HPX.out)
                  go_simp
                  clear l5
                  refine hK.out _ _ trivial (fun hHeld => ?_)
                  clear hK K
                  try simp only [Act.put, List.setIfInBounds_toArray, List.set_cons_zero, List.set_cons_succ]
                  refine wpAnyH_ready (rs := [6]) (by kernel_rfl) (by simp) ?_
                  refine (AllReadyH.cons (by simp only [List.getElem?_toArray, List.getElem?_cons_succ, List.getElem?_cons_zero]; rfl) (fun K hK => ?_) AllReadyH.nil)
                  refine step_sl1 x HX32.out (by rfl) (by rfl) ?_
                  have HB7 := Lib.hid (heap_alloc_last v1 (.cells (hv x) 27))
                  have CC := Lib.hid (CC.out.kb (below_al11 v1 (.cells (hv x) 27)))
                  have YY := Lib.hid (YY.out.kb (below_al11 v1 (.cells (hv x) 27)))
                  generalize v1.alloc (.cells (hv x) 27) = v3 at *
                  generalize v1.heap.size = b7 at *
                  refine hK.out _ _ trivial (fun hHeld => ?_)
                  clear hK K
                  try simp only [Act.put, List.setIfInBounds_toArray, List.set_cons_zero, List.set_cons_succ]
                  refine wpAnyH_ready (rs := [7]) (by kernel_rfl) (by simp) ?_
                  refine (AllReadyH.cons (by simp only [List.getElem?_toArray, List.getElem?_cons_succ, List.getElem?_cons_zero]; rfl) (fun K hK => ?_) AllReadyH.nil)
                  refine step_pushh rfl _ _ rfl W0.heap.size (.slice (some ⟨gp, 0, none⟩) m c) ps b7 x HX32.out (by rfl) CC.out.own (by rfl) HB7.out (by rw [← HM.out]; have := HM2.out; omega) YY.out.bel.size (m + 1) (by rw [HM.out]) ?_
                  intro p9 c9 v4 o9 oth9 loc9
                  have hpush := CC.out.push o9 oth9 HX32.out
                  have hc9 := cm_cell CC.out.hh (CC.out.mid oth9)
                  have hf9 : v4.frozen? ⟨cb, 32, none⟩ = false := frozen_of_row _ _ _ _ _ (CC.out.mid oth9)
                  have CN := Lib.hid hpush.1
                  have YN := Lib.hid (YY.out.far CC.out hpush.2)
                  clear hpush o9 oth9 loc9
                  refine hK.out _ _ trivial (fun hHeld => ?_)
                  clear hK K
                  try simp only [Act.put, List.setIfInBounds_toArray, List.set_cons_zero, List.set_cons_succ]
                  refine wpAnyH_take (i := 8) (v := ?_) (by simp only [List.getElem?_toArray, List.getElem?_cons_succ, List.getElem?_cons_zero]; rfl) (by kernel_rfl) (by kernel_rfl) (by kernel_rfl) (fun _ _ _ h => h) (Or.inl ⟨by rfl, ?_⟩) (by assumption) ?_
                  rotate_left
                  · intro w hSw
                    try dsimp only at hSw
                    go_simp
                    try with_reducible rfl
                  try simp only [Act.put, List.setIfInBounds_toArray, List.set_cons_zero, List.set_cons_succ]
                  refine wpAnyH_ready (rs := [9]) (by kernel_rfl) (by simp) ?_
                  refine (AllReadyH.cons (by simp only [List.getElem?_toArray, List.getElem?_cons_succ, List.getElem?_cons_zero]; rfl) (fun K hK => ?_) AllReadyH.nil)
                  go_simp
                  generalize v4.setCell ⟨cb, 32, none⟩ (.slice p9 (m + 1) c9) = v5 at *
                  refine hK.out _ _ trivial (fun hHeld => ?_)
                  clear hK K
                  try simp only [Act.put, List.setIfInBounds_toArray, List.set_cons_zero, List.set_cons_succ]
                  refine wpAnyH_done (by kernel_rfl) ?_ _
                  refine NoPanic.normal ?_
                  have HPL : Hid ((ps ++ [x]).length ≤ 10) := Lib.hid (by rw [List.length_append, ← HM.out]; have := HM2.out; simp; omega)
                  have RT := Lib.hid (RR0.out.kb YN.out.bel)
                  have XT := Lib.hid (XX0.out.kb YN.out.bel)
                  have t0 := RT.out.c0.1
                  have hcl := cld_range (w := v5) (p := cb) (o := 0) (h := h) (u := .slice p9 (m + 1) c9) CN.out.hh (by have := range_row CN.out.cell; rwa [cmv_list] at this)
                  have BA := Lib.hid (below_al11 v5 (.cells (cf [(h, .slice p9 (m + 1) c9)]).toArray 32))
                  go_wp2_with (first
                    | (go_at_call 5; refine (HPH.out _).mono ?_; rintro e wz ⟨rfl, rfl⟩)
                    | (refine slicec_w (C := [(h, .slice p9 (m + 1) c9)]) (by simpa using HH32.out) rfl (by simp) (by simp) ?hv ?hw ?_; (case hv => first | rfl | simp [Act.put, Act.eval]); (case hw => first | rfl | simp [Region.wanted, yielded]))
                    | (at_builtin; refine push_comm rfl (.tmp 114) (.tmp 116) rfl (b := v5.heap.size) (h := h) (u := .slice p9 (m + 1) c9) (ps := (ps ++ [x])) (w0 := w) rfl rfl (heap_alloc_last v5 _) (RT.out.kb BA.out) HNC.out (XT.out.kb BA.out) HH32.out CN.out.p32 HPL.out (own_mono (own_below CN.out.own BA.out) (XX0.out.hB ▸ XX0.out.bel.size)) (fun j _ h => nomatch h) NCB.out ?_; intro g5 c5 w5 hc5 hf5 R5 X5 o5; have R5 := Lib.hid R5; have X5 := Lib.hid X5; have O5 := Lib.hid o5; clear o5))
                  refine ⟨⟨i + 1, some ⟨g5, 0, none⟩, nC + 1, c5, C ++ [(h, _)], cs ++ [(h, _)], congrArg _ (by omega), HINL.out, HI12.out, Nat.succ_le_succ HNI.out, Lib.hid (by rw [HNC.out, List.length_append]; rfl), R5, X5⟩, ?_⟩
                  simp only [intOf]; have := HI12.out; omega
                · have cL := CC.out.par
                  go_simp
                  clear cL
                  refine hK.out _ _ trivial (fun hHeld => ?_)
                  clear hK K
                  try simp only [Act.put, List.setIfInBounds_toArray, List.set_cons_zero, List.set_cons_succ]
                  refine wpAnyH_take (i := 4) (v := ?_) (by simp only [List.getElem?_toArray, List.getElem?_cons_succ, List.getElem?_cons_zero]; rfl) (by kernel_rfl) (by kernel_rfl) (by kernel_rfl) (fun _ _ _ h => h) (Or.inl ⟨by rfl, ?_⟩) (by assumption) ?_
                  rotate_left
                  · intro w hSw
                    try dsimp only at hSw
                    go_simp
                    try with_reducible rfl
                  try simp only [Act.put, List.setIfInBounds_toArray, List.set_cons_zero, List.set_cons_succ]
                  refine wpAnyH_ready (rs := [1, 5]) (by kernel_rfl) (by simp) ?_
                  refine (AllReadyH.cons (by simp only [List.getElem?_toArray, List.getElem?_cons_succ, List.getElem?_cons_zero]; rfl) (fun K hK => ?_) (AllReadyH.cons (by simp only [List.getElem?_toArray, List.getElem?_cons_succ, List.getElem?_cons_zero]; rfl) (fun K hK => ?_) AllReadyH.nil))
                  · have cL := CC.out.par
                    go_simp
                    clear cL
                    refine hK.out _ _ trivial (fun hHeld => ?_)
                    clear hK K
                    try simp only [Act.put, List.setIfInBounds_toArray, List.set_cons_zero, List.set_cons_succ]
                    refine wpAnyH_ready (rs := [5]) (by kernel_rfl) (by simp) ?_
                    refine (AllReadyH.cons (by simp only [List.getElem?_toArray, List.getElem?_cons_succ, List.getElem?_cons_zero]; rfl) (fun K hK => ?_) AllReadyH.nil)
                    have l5 := hld_range HX32.out (own_first' CC.out.own HPX.out)
                    go_simp
                    clear l5
                    refine hK.out _ _ trivial (fun hHeld => ?_)
                    clear hK K
                    try simp only [Act.put, List.setIfInBounds_toArray, List.set_cons_zero, List.set_cons_succ]
                    refine wpAnyH_ready (rs := [6]) (by kernel_rfl) (by simp) ?_
                    refine (AllReadyH.cons (by simp only [List.getElem?_toArray, List.getElem?_cons_succ, List.getElem?_cons_zero]; rfl) (fun K hK => ?_) AllReadyH.nil)
                    refine step_sl1 x HX32.out (by rfl) (by rfl) ?_
                    have HB7 := Lib.hid (heap_alloc_last v1 (.cells (hv x) 27))
                    have CC := Lib.hid (CC.out.kb (below_al11 v1 (.cells (hv x) 27)))
                    have YY := Lib.hid (YY.out.kb (below_al11 v1 (.cells (hv x) 27)))
                    generalize v1.alloc (.cells (hv x) 27) = v3 at *
                    generalize v1.heap.size = b7 at *
                    refine hK.out _ _ trivial (fun hHeld => ?_)
                    clear hK K
                    try simp only [Act.put, List.setIfInBounds_toArray, List.set_cons_zero, List.set_cons_succ]
                    refine wpAnyH_ready (rs := [7]) (by kernel_rfl) (by simp) ?_
                    refine (AllReadyH.cons (by simp only [List.getElem?_toArray, List.getElem?_cons_succ, List.getElem?_cons_zero]; rfl) (fun K hK => ?_) AllReadyH.nil)
                    refine step_pushh rfl _ _ rfl W0.heap.size (.slice (some ⟨gp, 0, none⟩) m c) ps b7 x HX32.out (by rfl) CC.out.own (by rfl) HB7.out (by rw [← HM.out]; have := HM2.out; omega) YY.out.bel.size (m + 1) (by rw [HM.out]) ?_
                    intro p9 c9 v4 o9 oth9 loc9
                    have hpush := CC.out.push o9 oth9 HX32.out
                    have hc9 := cm_cell CC.out.hh (CC.out.mid oth9)
                    have hf9 : v4.frozen? ⟨cb, 32, none⟩ = false := frozen_of_row _ _ _ _ _ (CC.out.mid oth9)
                    have CN := Lib.hid hpush.1
                    have YN := Lib.hid (YY.out.far CC.out hpush.2)
                    clear hpush o9 oth9 loc9
                    refine hK.out _ _ trivial (fun hHeld => ?_)
                    clear hK K
                    try simp only [Act.put, List.setIfInBounds_toArray, List.set_cons_zero, List.set_cons_succ]
                    refine wpAnyH_take (i := 8) (v := ?_) (by simp only [List.getElem?_toArray, List.getElem?_cons_succ, List.getElem?_cons_zero]; rfl) (by kernel_rfl) (by kernel_rfl) (by kernel_rfl) (fun _ _ _ h => h) (Or.inl ⟨by rfl, ?_⟩) (by assumption) ?_
                    rotate_left
                    · intro w hSw
                      try dsimp only at hSw
                      go_simp
                      try with_reducible rfl
                    try simp only [Act.put, List.setIfInBounds_toArray, List.set_cons_zero, List.set_cons_succ]
                    refine wpAnyH_ready (rs := [9]) (by kernel_rfl) (by simp) ?_
                    refine (AllReadyH.cons (by simp only [List.getElem?_toArray, List.getElem?_cons_succ, List.getElem?_cons_zero]; rfl) (fun K hK => ?_) AllReadyH.nil)
                    go_simp
                    generalize v4.setCell ⟨cb, 32, none⟩ (.slice p9 (m + 1) c9) = v5 at *
                    refine hK.out _ _ trivial (fun hHeld => ?_)
                    clear hK K
                    try simp only [Act.put, List.setIfInBounds_toArray, List.set_cons_zero, List.set_cons_succ]
                    refine wpAnyH_done (by kernel_rfl) ?_ _
                    refine NoPanic.normal ?_
                    have HPL : Hid ((ps ++ [x]).length ≤ 10) := Lib.hid (by rw [List.length_append, ← HM.out]; have := HM2.out; simp; omega)
                    have RT := Lib.hid (RR0.out.kb YN.out.bel)
                    have XT := Lib.hid (XX0.out.kb YN.out.bel)
                    have t0 := RT.out.c0.1
                    have hcl := cld_range (w := v5) (p := cb) (o := 0) (h := h) (u := .slice p9 (m + 1) c9) CN.out.hh (by have := range_row CN.out.cell; rwa [cmv_list] at this)
                    have BA := Lib.hid (below_al11 v5 (.cells (cf [(h, .slice p9 (m + 1) c9)]).toArray 32))
                    go_wp2_with (first
                      | (go_at_call 5; refine (HPH.out _).mono ?_; rintro e wz ⟨rfl, rfl⟩)
                      | (refine slicec_w (C := [(h, .slice p9 (m + 1) c9)]) (by simpa using HH32.out) rfl (by simp) (by simp) ?hv ?hw ?_; (case hv => first | rfl | simp [Act.put, Act.eval]); (case hw => first | rfl | simp [Region.wanted, yielded]))
                      | (at_builtin; refine push_comm rfl (.tmp 114) (.tmp 116) rfl (b := v5.heap.size) (h := h) (u := .slice p9 (m + 1) c9) (ps := (ps ++ [x])) (w0 := w) rfl rfl (heap_alloc_last v5 _) (RT.out.kb BA.out) HNC.out (XT.out.kb BA.out) HH32.out CN.out.p32 HPL.out (own_mono (own_below CN.out.own BA.out) (XX0.out.hB ▸ XX0.out.bel.size)) (fun j _ h => nomatch h) NCB.out ?_; intro g5 c5 w5 hc5 hf5 R5 X5 o5; have R5 := Lib.hid R5; have X5 := Lib.hid X5; have O5 := Lib.hid o5; clear o5))
                    refine ⟨⟨i + 1, some ⟨g5, 0, none⟩, nC + 1, c5, C ++ [(h, _)], cs ++ [(h, _)], congrArg _ (by omega), HINL.out, HI12.out, Nat.succ_le_succ HNI.out, Lib.hid (by rw [HNC.out, List.length_append]; rfl), R5, X5⟩, ?_⟩
                    simp only [intOf]; have := HI12.out; omega
                  · have l5 := hld_range HX32.out (own_first' CC.out.own HPX.out)
                    go_simp
                    clear l5
                    refine hK.out _ _ trivial (fun hHeld => ?_)
                    clear hK K
                    try simp only [Act.put, List.setIfInBounds_toArray, List.set_cons_zero, List.set_cons_succ]
                    refine wpAnyH_ready (rs := [1, 6]) (by kernel_rfl) (by simp) ?_
                    refine (AllReadyH.cons (by simp only [List.getElem?_toArray, List.getElem?_cons_succ, List.getElem?_cons_zero]; rfl) (fun K hK => ?_) (AllReadyH.cons (by simp only [List.getElem?_toArray, List.getElem?_cons_succ, List.getElem?_cons_zero]; rfl) (fun K hK => ?_) AllReadyH.nil))
                    · have cL := CC.out.par
                      go_simp
                      clear cL
                      refine hK.out _ _ trivial (fun hHeld => ?_)
                      clear hK K
                      try simp only [Act.put, List.setIfInBounds_toArray, List.set_cons_zero, List.set_cons_succ]
                      refine wpAnyH_ready (rs := [6]) (by kernel_rfl) (by simp) ?_
                      refine (AllReadyH.cons (by simp only [List.getElem?_toArray, List.getElem?_cons_succ, List.getElem?_cons_zero]; rfl) (fun K hK => ?_) AllReadyH.nil)
                      refine step_sl1 x HX32.out (by rfl) (by rfl) ?_
                      have HB7 := Lib.hid (heap_alloc_last v1 (.cells (hv x) 27))
                      have CC := Lib.hid (CC.out.kb (below_al11 v1 (.cells (hv x) 27)))
                      have YY := Lib.hid (YY.out.kb (below_al11 v1 (.cells (hv x) 27)))
                      generalize v1.alloc (.cells (hv x) 27) = v3 at *
                      generalize v1.heap.size = b7 at *
                      refine hK.out _ _ trivial (fun hHeld => ?_)
                      clear hK K
                      try simp only [Act.put, List.setIfInBounds_toArray, List.set_cons_zero, List.set_cons_succ]
                      refine wpAnyH_ready (rs := [7]) (by kernel_rfl) (by simp) ?_
                      refine (AllReadyH.cons (by simp only [List.getElem?_toArray, List.getElem?_cons_succ, List.getElem?_cons_zero]; rfl) (fun K hK => ?_) AllReadyH.nil)
                      refine step_pushh rfl _ _ rfl W0.heap.size (.slice (some ⟨gp, 0, none⟩) m c) ps b7 x HX32.out (by rfl) CC.out.own (by rfl) HB7.out (by rw [← HM.out]; have := HM2.out; omega) YY.out.bel.size (m + 1) (by rw [HM.out]) ?_
                      intro p9 c9 v4 o9 oth9 loc9
                      have hpush := CC.out.push o9 oth9 HX32.out
                      have hc9 := cm_cell CC.out.hh (CC.out.mid oth9)
                      have hf9 : v4.frozen? ⟨cb, 32, none⟩ = false := frozen_of_row _ _ _ _ _ (CC.out.mid oth9)
                      have CN := Lib.hid hpush.1
                      have YN := Lib.hid (YY.out.far CC.out hpush.2)
                      clear hpush o9 oth9 loc9
                      refine hK.out _ _ trivial (fun hHeld => ?_)
                      clear hK K
                      try simp only [Act.put, List.setIfInBounds_toArray, List.set_cons_zero, List.set_cons_succ]
                      refine wpAnyH_take (i := 8) (v := ?_) (by simp only [List.getElem?_toArray, List.getElem?_cons_succ, List.getElem?_cons_zero]; rfl) (by kernel_rfl) (by kernel_rfl) (by kernel_rfl) (fun _ _ _ h => h) (Or.inl ⟨by rfl, ?_⟩) (by assumption) ?_
                      rotate_left
                      · intro w hSw
                        try dsimp only at hSw
                        go_simp
                        try with_reducible rfl
                      try simp only [Act.put, List.setIfInBounds_toArray, List.set_cons_zero, List.set_cons_succ]
                      refine wpAnyH_ready (rs := [9]) (by kernel_rfl) (by simp) ?_
                      refine (AllReadyH.cons (by simp only [List.getElem?_toArray, List.getElem?_cons_succ, List.getElem?_cons_zero]; rfl) (fun K hK => ?_) AllReadyH.nil)
                      go_simp
                      generalize v4.setCell ⟨cb, 32, none⟩ (.slice p9 (m + 1) c9) = v5 at *
                      refine hK.out _ _ trivial (fun hHeld => ?_)
                      clear hK K
                      try simp only [Act.put, List.setIfInBounds_toArray, List.set_cons_zero, List.set_cons_succ]
                      refine wpAnyH_done (by kernel_rfl) ?_ _
                      refine NoPanic.normal ?_
                      have HPL : Hid ((ps ++ [x]).length ≤ 10) := Lib.hid (by rw [List.length_append, ← HM.out]; have := HM2.out; simp; omega)
                      have RT := Lib.hid (RR0.out.kb YN.out.bel)
                      have XT := Lib.hid (XX0.out.kb YN.out.bel)
                      have t0 := RT.out.c0.1
                      have hcl := cld_range (w := v5) (p := cb) (o := 0) (h := h) (u := .slice p9 (m + 1) c9) CN.out.hh (by have := range_row CN.out.cell; rwa [cmv_list] at this)
                      have BA := Lib.hid (below_al11 v5 (.cells (cf [(h, .slice p9 (m + 1) c9)]).toArray 32))
                      go_wp2_with (first
                        | (go_at_call 5; refine (HPH.out _).mono ?_; rintro e wz ⟨rfl, rfl⟩)
                        | (refine slicec_w (C := [(h, .slice p9 (m + 1) c9)]) (by simpa using HH32.out) rfl (by simp) (by simp) ?hv ?hw ?_; (case hv => first | rfl | simp [Act.put, Act.eval]); (case hw => first | rfl | simp [Region.wanted, yielded]))
                        | (at_builtin; refine push_comm rfl (.tmp 114) (.tmp 116) rfl (b := v5.heap.size) (h := h) (u := .slice p9 (m + 1) c9) (ps := (ps ++ [x])) (w0 := w) rfl rfl (heap_alloc_last v5 _) (RT.out.kb BA.out) HNC.out (XT.out.kb BA.out) HH32.out CN.out.p32 HPL.out (own_mono (own_below CN.out.own BA.out) (XX0.out.hB ▸ XX0.out.bel.size)) (fun j _ h => nomatch h) NCB.out ?_; intro g5 c5 w5 hc5 hf5 R5 X5 o5; have R5 := Lib.hid R5; have X5 := Lib.hid X5; have O5 := Lib.hid o5; clear o5))
                      refine ⟨⟨i + 1, some ⟨g5, 0, none⟩, nC + 1, c5, C ++ [(h, _)], cs ++ [(h, _)], congrArg _ (by omega), HINL.out, HI12.out, Nat.succ_le_succ HNI.out, Lib.hid (by rw [HNC.out, List.length_append]; rfl), R5, X5⟩, ?_⟩
                      simp only [intOf]; have := HI12.out; omega
                    · refine step_sl1 x HX32.out (by rfl) (by rfl) ?_
                      have HB7 := Lib.hid (heap_alloc_last v1 (.cells (hv x) 27))
                      have CC := Lib.hid (CC.out.kb (below_al11 v1 (.cells (hv x) 27)))
                      have YY := Lib.hid (YY.out.kb (below_al11 v1 (.cells (hv x) 27)))
                      generalize v1.alloc (.cells (hv x) 27) = v3 at *
                      generalize v1.heap.size = b7 at *
                      refine hK.out _ _ trivial (fun hHeld => ?_)
                      clear hK K
                      try simp only [Act.put, List.setIfInBounds_toArray, List.set_cons_zero, List.set_cons_succ]
                      refine wpAnyH_ready (rs := [1]) (by kernel_rfl) (by simp) ?_
                      refine (AllReadyH.cons (by simp only [List.getElem?_toArray, List.getElem?_cons_succ, List.getElem?_cons_zero]; rfl) (fun K hK => ?_) AllReadyH.nil)
                      have cL := CC.out.par
                      go_simp
                      clear cL
                      refine hK.out _ _ trivial (fun hHeld => ?_)
                      clear hK K
                      try simp only [Act.put, List.setIfInBounds_toArray, List.set_cons_zero, List.set_cons_succ]
                      refine wpAnyH_ready (rs := [7]) (by kernel_rfl) (by simp) ?_
                      refine (AllReadyH.cons (by simp only [List.getElem?_toArray, List.getElem?_cons_succ, List.getElem?_cons_zero]; rfl) (fun K hK => ?_) AllReadyH.nil)
                      refine step_pushh rfl _ _ rfl W0.heap.size (.slice (some ⟨gp, 0, none⟩) m c) ps b7 x HX32.out (by rfl) CC.out.own (by rfl) HB7.out (by rw [← HM.out]; have := HM2.out; omega) YY.out.bel.size (m + 1) (by rw [HM.out]) ?_
                      intro p9 c9 v4 o9 oth9 loc9
                      have hpush := CC.out.push o9 oth9 HX32.out
                      have hc9 := cm_cell CC.out.hh (CC.out.mid oth9)
                      have hf9 : v4.frozen? ⟨cb, 32, none⟩ = false := frozen_of_row _ _ _ _ _ (CC.out.mid oth9)
                      have CN := Lib.hid hpush.1
                      have YN := Lib.hid (YY.out.far CC.out hpush.2)
                      clear hpush o9 oth9 loc9
                      refine hK.out _ _ trivial (fun hHeld => ?_)
                      clear hK K
                      try simp only [Act.put, List.setIfInBounds_toArray, List.set_cons_zero, List.set_cons_succ]
                      refine wpAnyH_take (i := 8) (v := ?_) (by simp only [List.getElem?_toArray, List.getElem?_cons_succ, List.getElem?_cons_zero]; rfl) (by kernel_rfl) (by kernel_rfl) (by kernel_rfl) (fun _ _ _ h => h) (Or.inl ⟨by rfl, ?_⟩) (by assumption) ?_
                      rotate_left
                      · intro w hSw
                        try dsimp only at hSw
                        go_simp
                        try with_reducible rfl
                      try simp only [Act.put, List.setIfInBounds_toArray, List.set_cons_zero, List.set_cons_succ]
                      refine wpAnyH_ready (rs := [9]) (by kernel_rfl) (by simp) ?_
                      refine (AllReadyH.cons (by simp only [List.getElem?_toArray, List.getElem?_cons_succ, List.getElem?_cons_zero]; rfl) (fun K hK => ?_) AllReadyH.nil)
                      go_simp
                      generalize v4.setCell ⟨cb, 32, none⟩ (.slice p9 (m + 1) c9) = v5 at *
                      refine hK.out _ _ trivial (fun hHeld => ?_)
                      clear hK K
                      try simp only [Act.put, List.setIfInBounds_toArray, List.set_cons_zero, List.set_cons_succ]
                      refine wpAnyH_done (by kernel_rfl) ?_ _
                      refine NoPanic.normal ?_
                      have HPL : Hid ((ps ++ [x]).length ≤ 10) := Lib.hid (by rw [List.length_append, ← HM.out]; have := HM2.out; simp; omega)
                      have RT := Lib.hid (RR0.out.kb YN.out.bel)
                      have XT := Lib.hid (XX0.out.kb YN.out.bel)
                      have t0 := RT.out.c0.1
                      have hcl := cld_range (w := v5) (p := cb) (o := 0) (h := h) (u := .slice p9 (m + 1) c9) CN.out.hh (by have := range_row CN.out.cell; rwa [cmv_list] at this)
                      have BA := Lib.hid (below_al11 v5 (.cells (cf [(h, .slice p9 (m + 1) c9)]).toArray 32))
                      go_wp2_with (first
                        | (go_at_call 5; refine (HPH.out _).mono ?_; rintro e wz ⟨rfl, rfl⟩)
                        | (refine slicec_w (C := [(h, .slice p9 (m + 1) c9)]) (by simpa using HH32.out) rfl (by simp) (by simp) ?hv ?hw ?_; (case hv => first | rfl | simp [Act.put, Act.eval]); (case hw => first | rfl | simp [Region.wanted, yielded]))
                        | (at_builtin; refine push_comm rfl (.tmp 114) (.tmp 116) rfl (b := v5.heap.size) (h := h) (u := .slice p9 (m + 1) c9) (ps := (ps ++ [x])) (w0 := w) rfl rfl (heap_alloc_last v5 _) (RT.out.kb BA.out) HNC.out (XT.out.kb BA.out) HH32.out CN.out.p32 HPL.out (own_mono (own_below CN.out.own BA.out) (XX0.out.hB ▸ XX0.out.bel.size)) (fun j _ h => nomatch h) NCB.out ?_; intro g5 c5 w5 hc5 hf5 R5 X5 o5; have R5 := Lib.hid R5; have X5 := Lib.hid X5; have O5 := Lib.hid o5; clear o5))
                      refine ⟨⟨i + 1, some ⟨g5, 0, none⟩, nC + 1, c5, C ++ [(h, _)], cs ++ [(h, _)], congrArg _ (by omega), HINL.out, HI12.out, Nat.succ_le_succ HNI.out, Lib.hid (by rw [HNC.out, List.length_append]; rfl), R5, X5⟩, ?_⟩
                      simp only [intOf]; have := HI12.out; omega
            · have HPH := Lib.hid (fun W : World => pick_to W yh 60 2 (by decide) (by decide) hc)
              clear hc
              go_wp2_with (go_at_call 5; refine (HPH.out _).mono ?_; rintro e wz ⟨rfl, rfl⟩)
              refine (hash_to _ _).mono ?_
              rintro e v2 ⟨rfl, bb⟩
              obtain ⟨x, hx⟩ : ∃ x, x = hh (wrap64 (n60 + 1)) := ⟨_, rfl⟩
              have hx32 : x.length = 32 := by rw [hx]; exact hh_length _
              rw [← hx]
              have CC := Lib.hid (CC.out.kb bb)
              have YY := Lib.hid (YY.out.kb bb)
              have CA := CC.out.kb (below_al11 v2 (.cells (hv x) 27))
              have YA := YY.out.kb (below_al11 v2 (.cells (hv x) 27))
              have hc2 := CA.par
              have hf2 := CA.free
              have CN := Lib.hid (CA.set (own_hash hx32 (heap_alloc_last v2 _) YY.out.bel.size) (H32.one hx32))
              have YN := Lib.hid (YA.far CA ((Only.refl (fun j => j = cb ∨ (Value.slice p m c).ownBlock = some j) (v2.alloc (.cells (hv x) 27))).setCell (p := ⟨cb, 32, none⟩) (.inl rfl) (.slice (some ⟨v2.heap.size, 0, none⟩) 1 1)))
              have HX32 := Lib.hid hx32
              clear hx hx32 CA YA bb
              go_upto_region 24 with (refine build_one x HX32.out rfl ?_)
              generalize (v2.alloc (.cells (hv x) 27)).setCell ⟨cb, 32, none⟩ (.slice (some ⟨v2.heap.size, 0, none⟩) 1 1) = v5 at *
              generalize v2.heap.size = b5 at *
              clear hc2 hf2 y0 y1 y2
              have HPL : Hid ([x].length ≤ 10) := Lib.hid (by simp)
              have RT := Lib.hid (RR0.out.kb YN.out.bel)
              have XT := Lib.hid (XX0.out.kb YN.out.bel)
              have t0 := RT.out.c0.1
              have hcl := cld_range (w := v5) (p := cb) (o := 0) (h := h) (u := .slice (some ⟨b5, 0, none⟩) 1 1) CN.out.hh (by have := range_row CN.out.cell; rwa [cmv_list] at this)
              have BA := Lib.hid (below_al11 v5 (.cells (cf [(h, .slice (some ⟨b5, 0, none⟩) 1 1)]).toArray 32))
              go_wp2_with (first
                | (go_at_call 5; refine (HPH.out _).mono ?_; rintro e wz ⟨rfl, rfl⟩)
                | (refine slicec_w (C := [(h, .slice (some ⟨b5, 0, none⟩) 1 1)]) (by simpa using HH32.out) rfl (by simp) (by simp) ?hv ?hw ?_; (case hv => first | rfl | simp [Act.put, Act.eval]); (case hw => first | rfl | simp [Region.wanted, yielded]))
                | (at_builtin; refine push_comm rfl (.tmp 114) (.tmp 116) rfl (b := v5.heap.size) (h := h) (u := .slice (some ⟨b5, 0, none⟩) 1 1) (ps := [x]) (w0 := w) rfl rfl (heap_alloc_last v5 _) (RT.out.kb BA.out) HNC.out (XT.out.kb BA.out) HH32.out CN.out.p32 HPL.out (own_mono (own_below CN.out.own BA.out) (XX0.out.hB ▸ XX0.out.bel.size)) (fun j _ h => nomatch h) NCB.out ?_; intro g5 c5 w5 hc5 hf5 R5 X5 o5; have R5 := Lib.hid R5; have X5 := Lib.hid X5; have O5 := Lib.hid o5; clear o5))
              refine ⟨⟨i + 1, some ⟨g5, 0, none⟩, nC + 1, c5, C ++ [(h, _)], cs ++ [(h, _)], congrArg _ (by omega), HINL.out, HI12.out, Nat.succ_le_succ HNI.out, Lib.hid (by rw [HNC.out, List.length_append]; rfl), R5, X5⟩, ?_⟩
              simp only [intOf]; have := HI12.out; omega
            · have HPH := Lib.hid (fun W : World => pick_any W yh 60 (by decide) (by decide))
              generalize yh % 60 = r at *
              obtain ⟨hr0, hr1, hr2⟩ := hc
              have RT := Lib.hid (RR0.out.kb YY.out.bel)
              have XT := Lib.hid (XX0.out.kb YY.out.bel)
              have t0 := RT.out.c0.1
              have hcl := cld_range (w := wr) (p := cb) (o := 0) (h := h) (u := .slice p m c) CC.out.hh (by have := range_row CC.out.cell; rwa [cmv_list] at this)
              have BA := Lib.hid (below_al11 wr (.cells (cf [(h, .slice p m c)]).toArray 32))
              go_wp2_with (first
                | (go_at_call 5; refine (HPH.out _).mono ?_; rintro e wz ⟨rfl, rfl⟩)
                | (refine slicec_w (C := [(h, .slice p m c)]) (by simpa using HH32.out) rfl (by simp) (by simp) ?hv ?hw ?_; (case hv => first | rfl | simp [Act.put, Act.eval]); (case hw => first | rfl | simp [Region.wanted, yielded]))
                | (at_builtin; refine push_comm rfl (.tmp 114) (.tmp 116) rfl (b := wr.heap.size) (h := h) (u := .slice p m c) (ps := ps) (w0 := w) rfl rfl (heap_alloc_last wr _) (RT.out.kb BA.out) HNC.out (XT.out.kb BA.out) HH32.out CC.out.p32 HPL.out (own_mono (own_below CC.out.own BA.out) (XX0.out.hB ▸ XX0.out.bel.size)) (fun j _ h => nomatch h) NCB.out ?_; intro g5 c5 w5 hc5 hf5 R5 X5 o5; have R5 := Lib.hid R5; have X5 := Lib.hid X5; have O5 := Lib.hid o5; clear o5))
              refine ⟨⟨i + 1, some ⟨g5, 0, none⟩, nC + 1, c5, C ++ [(h, _)], cs ++ [(h, _)], congrArg _ (by omega), HINL.out, HI12.out, Nat.succ_le_succ HNI.out, Lib.hid (by rw [HNC.out, List.length_append]; rfl), R5, X5⟩, ?_⟩
              simp only [intOf]; have := HI12.out; omega
      · rcases (by omega : ¬ i < nL ∨ (i < nL ∧ ¬ i < 12)) with hq1 | ⟨hq1, hq2⟩
        · have hjl : ¬ (i : Int) < nL := by omega
          clear hlt hq1 hi
          go_wp2_with fail
          go_meet
          case rel => exact ⟨pc, nC, cc, C, cs, Nat.le_trans HNI.out hi2, HNC, RR, XX⟩
        · have hjl : (i : Int) < nL := by omega
          have hjl6 : ¬ (i : Int) < 12 := by omega
          clear hlt hq1 hq2 hi
          go_wp2_with fail
          go_meet
          case rel => exact ⟨pc, nC, cc, C, cs, Nat.le_trans HNI.out hi2, HNC, RR, XX⟩
  case rest =>
    clear R1 X1
    obtain ⟨pc, nC, cc, C, cs, hn12, HNC, RR, XX⟩ := hcut
    have HN12 := Lib.hid hn12
    clear hn12
    go_upto_block 7 with fail
    go_cut [11] from 119 to 140 (fun _ wr => ∃ (ph : Option Addr) (mh ch : Nat) (hs : List Key), mh ≤ 4 ∧ Hid (mh = hs.length) ∧ Hid (RI wr B rb (.slice pc nC cc) (.slice ph mh ch) g C cs hs) ∧ Hid (XS w wr B bx rz rb (.slice pL nL cL) (.slice pH nH cH) grp how))
    case first =>
      go_wp2_with fail
      go_loopw [11] (fun s wq => ∃ (i : Nat) (ph : Option Addr) (ch : Nat) (hs : List Key), s = .int .i64 i ∧ i ≤ nH ∧ i ≤ 4 ∧ Hid (i = hs.length) ∧ Hid (RI wq B rb (.slice pc nC cc) (.slice ph i ch) g C cs hs) ∧ Hid (XS w wq B bx rz rb (.slice pL nL cL) (.slice pH nH cH) grp how))
        (fun s _ => 4 - (intOf s).toNat)
      case atStart => exact ⟨0, none, 0, [], rfl, Nat.zero_le _, Nat.zero_le _, Lib.hid rfl, RR, XX⟩
      case round =>
        clear RR XX
        obtain ⟨i, ph, ch, hs, rfl, hi, hi4, HMH, RR, XX⟩ := hrel
        obtain ⟨x0, x1, x2, x3⟩ := XX.out.c
        by_cases hlt : i < nH ∧ i < 4
        · obtain ⟨h1, h2⟩ := hlt
          have hl1 : (i : Int) < nH := by omega
          have hl2 : (i : Int) < 4 := by omega
          have hl0 : (0 : Int) ≤ i := by omega
          have HI4 := Lib.hid h2
          have HINH := Lib.hid h1
          obtain ⟨x, hx⟩ : ∃ x, Hs[i]? = some x := ⟨Hs[i]'(by rw [← HNH.out]; exact h1), List.getElem?_eq_getElem _⟩
          obtain ⟨aH, rfl, hc0⟩ := (HH.out.kb' XX.out.of).at' hx
          have HX := Lib.hid hx
          clear hx hc0 h1 h2 hi hi4
          go_wp2_with fail
          have bq : Below wr.heap.size wr wr.drew := blw_qt _ 1 wr
          have RR := Lib.hid (RR.out.kb bq)
          have XX := Lib.hid (XX.out.kb bq)
          clear bq x0 x1 x2 x3
          try simp only [List.append]
          refine wp_region_noPanic ?_
          refine wp_region_held_drew (S := (fun V => V.cell? ⟨bx, 1, none⟩ = some (.slice (some aH) nH cH) ∧ V.cell? (aH.add i) = some (.int .i64 x))) (by kernel_rfl) ⟨XX.out.c.2.1, (HH.out.kb' XX.out.of).cell' HX.out⟩ (fun hHeld => ?_)
          generalize wr.drew = v1 at *
          refine wpAnyH_take (i := 0) (v := ?_) (by simp only [List.getElem?_toArray, List.getElem?_cons_zero]; rfl) (by kernel_rfl) (by kernel_rfl) (by kernel_rfl) (fun _ _ _ h => h) (Or.inl ⟨by rfl, ?_⟩) (by assumption) ?_
          rotate_left
          · intro w hSw
            try dsimp only at hSw
            go_simp
            try with_reducible rfl
          try simp only [Act.put, List.setIfInBounds_toArray, List.set_cons_zero, List.set_cons_succ]
          refine wpAnyH_take (i := 2) (v := ?_) (by simp only [List.getElem?_toArray, List.getElem?_cons_succ, List.getElem?_cons_zero]; rfl) (by kernel_rfl) (by kernel_rfl) (by kernel_rfl) (fun _ _ _ h => h) (Or.inl ⟨by rfl, ?_⟩) (by assumption) ?_
          rotate_left
          · intro w hSw
            try dsimp only at hSw
            go_simp
            try with_reducible rfl
          try simp only [Act.put, List.setIfInBounds_toArray, List.set_cons_zero, List.set_cons_succ]
          refine wpAnyH_take (i := 3) (v := ?_) (by simp only [List.getElem?_toArray, List.getElem?_cons_succ, List.getElem?_cons_zero]; rfl) (by kernel_rfl) (by kernel_rfl) (by kernel_rfl) (fun _ _ _ h => h) (Or.inl ⟨by rfl, ?_⟩) (by assumption) ?_
          rotate_left
          · intro w hSw
            try dsimp only at hSw
            go_simp
            try with_reducible rfl
          try simp only [Act.put, List.setIfInBounds_toArray, List.set_cons_zero, List.set_cons_succ]
          refine wpAnyH_take (i := 4) (v := ?_) (by simp only [List.getElem?_toArray, List.getElem?_cons_succ, List.getElem?_cons_zero]; rfl) (by kernel_rfl) (by kernel_rfl) (by kernel_rfl) (fun _ _ _ h => h) (Or.inl ⟨by rfl, ?_⟩) (by assumption) ?_
          rotate_left
          · intro w hSw
            try dsimp only at hSw
            go_simp
            try with_reducible rfl
          try simp only [Act.put, List.setIfInBounds_toArray, List.set_cons_zero, List.set_cons_succ]
          refine wpAnyH_take (i := 5) (v := ?_) (by simp only [List.getElem?_toArray, List.getElem?_cons_succ, List.getElem?_cons_zero]; rfl) (by kernel_rfl) (by kernel_rfl) (by kernel_rfl) (fun _ _ _ h => h) (Or.inl ⟨by rfl, ?_⟩) (by assumption) ?_
          rotate_left
          · intro w hSw
            try dsimp only at hSw
            go_simp
            try with_reducible rfl
          try simp only [Act.put, List.setIfInBounds_toArray, List.set_cons_zero, List.set_cons_succ]
          refine wpAnyH_take (i := 6) (v := ?_) (by simp only [List.getElem?_toArray, List.getElem?_cons_succ, List.getElem?_cons_zero]; rfl) (by kernel_rfl) (by kernel_rfl) (by kernel_rfl) (fun _ _ _ h => h) (Or.inl ⟨by rfl, ?_⟩) (by assumption) ?_
          rotate_left
          · intro w hSw
            try dsimp only at hSw
            go_simp
            try with_reducible rfl
          try simp only [Act.put, List.setIfInBounds_toArray, List.set_cons_zero, List.set_cons_succ]
          refine wpAnyH_ready (rs := [1, 7]) (by kernel_rfl) (by simp) ?_
          refine (AllReadyH.cons (by simp only [List.getElem?_toArray, List.getElem?_cons_succ, List.getElem?_cons_zero]; rfl) (fun K hK => ?_) (AllReadyH.cons (by simp only [List.getElem?_toArray, List.getElem?_cons_succ, List.getElem?_cons_zero]; rfl) (fun K hK => ?_) AllReadyH.nil))
          · have cL := RR.out.c0.2.1
            go_simp
            clear cL
            refine hK.out _ _ ⟨XX.out.c.2.1, (HH.out.kb' XX.out.of).cell' HX.out⟩ (fun hHeld => ?_)
            clear hK K
            try simp only [Act.put, List.setIfInBounds_toArray, List.set_cons_zero, List.set_cons_succ]
            refine wpAnyH_ready (rs := [7]) (by kernel_rfl) (by simp) ?_
            refine (AllReadyH.cons (by simp only [List.getElem?_toArray, List.getElem?_cons_succ, List.getElem?_cons_zero]; rfl) (fun K hK => ?_) AllReadyH.nil)
            go_simp
            refine (hash_to _ x).mono ?_
            rintro e v2 ⟨rfl, bb⟩
            have RR := Lib.hid (RR.out.kb bb)
            have XX := Lib.hid (XX.out.kb bb)
            clear bb
            go_wp2_with fail
            refine hK.out _ _ ⟨XX.out.c.2.1, (HH.out.kb' XX.out.of).cell' HX.out⟩ (fun hHeld => ?_)
            clear hK K
            try simp only [Act.put, List.setIfInBounds_toArray, List.set_cons_zero, List.set_cons_succ]
            refine wpAnyH_ready (rs := [8]) (by kernel_rfl) (by simp) ?_
            refine (AllReadyH.cons (by simp only [List.getElem?_toArray, List.getElem?_cons_succ, List.getElem?_cons_zero]; rfl) (fun K hK => ?_) AllReadyH.nil)
            refine step_sl1 (hh x) (hh_length x) (by rfl) (by rfl) ?_
            have HB7 := Lib.hid (heap_alloc_last v2 (.cells (hv (hh x)) 27))
            have RR := Lib.hid (RR.out.kb (below_al11 v2 (.cells (hv (hh x)) 27)))
            have XX := Lib.hid (XX.out.kb (below_al11 v2 (.cells (hv (hh x)) 27)))
            generalize v2.alloc (.cells (hv (hh x)) 27) = v3 at *
            generalize v2.heap.size = b7 at *
            refine hK.out _ _ ⟨XX.out.c.2.1, (HH.out.kb' XX.out.of).cell' HX.out⟩ (fun hHeld => ?_)
            clear hK K
            try simp only [Act.put, List.setIfInBounds_toArray, List.set_cons_zero, List.set_cons_succ]
            refine wpAnyH_ready (rs := [9]) (by kernel_rfl) (by simp) ?_
            refine (AllReadyH.cons (by simp only [List.getElem?_toArray, List.getElem?_cons_succ, List.getElem?_cons_zero]; rfl) (fun K hK => ?_) AllReadyH.nil)
            refine step_pushh rfl _ _ rfl B (.slice ph i ch) hs b7 (hh x) (hh_length x) (by rfl) RR.out.heads (by rfl) HB7.out (by rw [← HMH.out]; have := HI4.out; omega) (by rw [XX.out.hB]; exact XX.out.bel.size) (i + 1) (by rw [HMH.out]) ?_
            intro p9 c9 v4 o9 oth9 loc9
            have hpush := RR.out.head (hh_length x) o9 oth9 loc9
            have hc9 : v4.cell? ⟨rb, 1, none⟩ = some (.slice ph i ch) := by rw [cell_of_row v4 rb 1 _ _ _ (RR.out.hmid oth9)]; rfl
            have hf9 : v4.frozen? ⟨rb, 1, none⟩ = false := frozen_of_row _ _ _ _ _ (RR.out.hmid oth9)
            have XH := Lib.hid (XX.out.far (oth9.mono (T := fun j => j = rb ∨ (Value.slice ph i ch).ownBlock = some j) fun j _ hj => .inr hj) RR.out.heads (by decide) RR.out.lo RR.out.cell)
            have XN := Lib.hid (XX.out.far hpush.2 RR.out.heads (by decide) RR.out.lo RR.out.cell)
            have RN := Lib.hid hpush.1
            clear hpush o9 oth9 loc9
            refine hK.out _ _ ⟨XH.out.c.2.1, (HH.out.kb' XH.out.of).cell' HX.out⟩ (fun hHeld => ?_)
            clear hK K
            try simp only [Act.put, List.setIfInBounds_toArray, List.set_cons_zero, List.set_cons_succ]
            refine wpAnyH_take (i := 10) (v := ?_) (by simp only [List.getElem?_toArray, List.getElem?_cons_succ, List.getElem?_cons_zero]; rfl) (by kernel_rfl) (by kernel_rfl) (by kernel_rfl) (fun _ _ _ h => h) (Or.inl ⟨by rfl, ?_⟩) (by assumption) ?_
            rotate_left
            · intro w hSw
              try dsimp only at hSw
              go_simp
              try with_reducible rfl
            try simp only [Act.put, List.setIfInBounds_toArray, List.set_cons_zero, List.set_cons_succ]
            refine wpAnyH_ready (rs := [11]) (by kernel_rfl) (by simp) ?_
            refine (AllReadyH.cons (by simp only [List.getElem?_toArray, List.getElem?_cons_succ, List.getElem?_cons_zero]; rfl) (fun K hK => ?_) AllReadyH.nil)
            go_simp
            generalize v4.setCell ⟨rb, 1, none⟩ (.slice p9 (i + 1) c9) = v5 at *
            refine hK.out _ _ ⟨XN.out.c.2.1, (HH.out.kb' XN.out.of).cell' HX.out⟩ (fun hHeld => ?_)
            clear hK K
            try simp only [Act.put, List.setIfInBounds_toArray, List.set_cons_zero, List.set_cons_succ]
            refine wpAnyH_done (by kernel_rfl) ?_ _
            refine NoPanic.normal ?_
            go_wp2_with fail
            refine ⟨⟨i + 1, p9, c9, hs ++ [hh x], congrArg _ (by omega), HINH.out, HI4.out, Lib.hid (by rw [HMH.out, List.length_append]; rfl), RN, XN⟩, ?_⟩
            simp only [intOf]; have := HI4.out; omega
          · go_simp
            refine (hash_to _ x).mono ?_
            rintro e v2 ⟨rfl, bb⟩
            have RR := Lib.hid (RR.out.kb bb)
            have XX := Lib.hid (XX.out.kb bb)
            clear bb
            go_wp2_with fail
            refine hK.out _ _ ⟨XX.out.c.2.1, (HH.out.kb' XX.out.of).cell' HX.out⟩ (fun hHeld => ?_)
            clear hK K
            try simp only [Act.put, List.setIfInBounds_toArray, List.set_cons_zero, List.set_cons_succ]
            refine wpAnyH_ready (rs := [1, 8]) (by kernel_rfl) (by simp) ?_
            refine (AllReadyH.cons (by simp only [List.getElem?_toArray, List.getElem?_cons_succ, List.getElem?_cons_zero]; rfl) (fun K hK => ?_) (AllReadyH.cons (by simp only [List.getElem?_toArray, List.getElem?_cons_succ, List.getElem?_cons_zero]; rfl) (fun K hK => ?_) AllReadyH.nil))
            · have cL := RR.out.c0.2.1
              go_simp
              clear cL
              refine hK.out _ _ ⟨XX.out.c.2.1, (HH.out.kb' XX.out.of).cell' HX.out⟩ (fun hHeld => ?_)
              clear hK K
              try simp only [Act.put, List.setIfInBounds_toArray, List.set_cons_zero, List.set_cons_succ]
              refine wpAnyH_ready (rs := [8]) (by kernel_rfl) (by simp) ?_
              refine (AllReadyH.cons (by simp only [List.getElem?_toArray, List.getElem?_cons_succ, List.getElem?_cons_zero]; rfl) (fun K hK => ?_) AllReadyH.nil)
              refine step_sl1 (hh x) (hh_length x) (by rfl) (by rfl) ?_
              have HB7 := Lib.hid (heap_alloc_last v2 (.cells (hv (hh x)) 27))
              have RR := Lib.hid (RR.out.kb (below_al11 v2 (.cells (hv (hh x)) 27)))
              have XX := Lib.hid (XX.out.kb (below_al11 v2 (.cells (hv (hh x)) 27)))
              generalize v2.alloc (.cells (hv (hh x)) 27) = v3 at *
              generalize v2.heap.size = b7 at *
              refine hK.out _ _ ⟨XX.out.c.2.1, (HH.out.kb' XX.out.of).cell' HX.out⟩ (fun hHeld => ?_)
              clear hK K
              try simp only [Act.put, List.setIfInBounds_toArray, List.set_cons_zero, List.set_cons_succ]
              refine wpAnyH_ready (rs := [9]) (by kernel_rfl) (by simp) ?_
              refine (AllReadyH.cons (by simp only [List.getElem?_toArray, List.getElem?_cons_succ, List.getElem?_cons_zero]; rfl) (fun K hK => ?_) AllReadyH.nil)
              refine step_pushh rfl _ _ rfl B (.slice ph i ch) hs b7 (hh x) (hh_length x) (by rfl) RR.out.heads (by rfl) HB7.out (by rw [← HMH.out]; have := HI4.out; omega) (by rw [XX.out.hB]; exact XX.out.bel.size) (i + 1) (by rw [HMH.out]) ?_
              intro p9 c9 v4 o9 oth9 loc9
              have hpush := RR.out.head (hh_length x) o9 oth9 loc9
              have hc9 : v4.cell? ⟨rb, 1, none⟩ = some (.slice ph i ch) := by rw [cell_of_row v4 rb 1 _ _ _ (RR.out.hmid oth9)]; rfl
              have hf9 : v4.frozen? ⟨rb, 1, none⟩ = false := frozen_of_row _ _ _ _ _ (RR.out.hmid oth9)
              have XH := Lib.hid (XX.out.far (oth9.mono (T := fun j => j = rb ∨ (Value.slice ph i ch).ownBlock = some j) fun j _ hj => .inr hj) RR.out.heads (by decide) RR.out.lo RR.out.cell)
              have XN := Lib.hid (XX.out.far hpush.2 RR.out.heads (by decide) RR.out.lo RR.out.cell)
              have RN := Lib.hid hpush.1
              clear hpush o9 oth9 loc9
              refine hK.out _ _ ⟨XH.out.c.2.1, (HH.out.kb' XH.out.of).cell' HX.out⟩ (fun hHeld => ?_)
              clear hK K
              try simp only [Act.put, List.setIfInBounds_toArray, List.set_cons_zero, List.set_cons_succ]
              refine wpAnyH_take (i := 10) (v := ?_) (by simp only [List.getElem?_toArray, List.getElem?_cons_succ, List.getElem?_cons_zero]; rfl) (by kernel_rfl) (by kernel_rfl) (by kernel_rfl) (fun _ _ _ h => h) (Or.inl ⟨by rfl, ?_⟩) (by assumption) ?_
              rotate_left
              · intro w hSw
                try dsimp only at hSw
                go_simp
                try with_reducible rfl
              try simp only [Act.put, List.setIfInBounds_toArray, List.set_cons_zero, List.set_cons_succ]
              refine wpAnyH_ready (rs := [11]) (by kernel_rfl) (by simp) ?_
              refine (AllReadyH.cons (by simp only [List.getElem?_toArray, List.getElem?_cons_succ, List.getElem?_cons_zero]; rfl) (fun K hK => ?_) AllReadyH.nil)
              go_simp
              generalize v4.setCell ⟨rb, 1, none⟩ (.slice p9 (i + 1) c9) = v5 at *
              refine hK.out _ _ ⟨XN.out.c.2.1, (HH.out.kb' XN.out.of).cell' HX.out⟩ (fun hHeld => ?_)
              clear hK K
              try simp only [Act.put, List.setIfInBounds_toArray, List.set_cons_zero, List.set_cons_succ]
              refine wpAnyH_done (by kernel_rfl) ?_ _
              refine NoPanic.normal ?_
              go_wp2_with fail
              refine ⟨⟨i + 1, p9, c9, hs ++ [hh x], congrArg _ (by omega), HINH.out, HI4.out, Lib.hid (by rw [HMH.out, List.length_append]; rfl), RN, XN⟩, ?_⟩
              simp only [intOf]; have := HI4.out; omega
            · refine step_sl1 (hh x) (hh_length x) (by rfl) (by rfl) ?_
              have HB7 := Lib.hid (heap_alloc_last v2 (.cells (hv (hh x)) 27))
              have RR := Lib.hid (RR.out.kb (below_al11 v2 (.cells (hv (hh x)) 27)))
              have XX := Lib.hid (XX.out.kb (below_al11 v2 (.cells (hv (hh x)) 27)))
              generalize v2.alloc (.cells (hv (hh x)) 27) = v3 at *
              generalize v2.heap.size = b7 at *
              refine hK.out _ _ ⟨XX.out.c.2.1, (HH.out.kb' XX.out.of).cell' HX.out⟩ (fun hHeld => ?_)
              clear hK K
              try simp only [Act.put, List.setIfInBounds_toArray, List.set_cons_zero, List.set_cons_succ]
              refine wpAnyH_ready (rs := [1]) (by kernel_rfl) (by simp) ?_
              refine (AllReadyH.cons (by simp only [List.getElem?_toArray, List.getElem?_cons_succ, List.getElem?_cons_zero]; rfl) (fun K hK => ?_) AllReadyH.nil)
              have cL := RR.out.c0.2.1
              go_simp
              clear cL
              refine hK.out _ _ ⟨XX.out.c.2.1, (HH.out.kb' XX.out.of).cell' HX.out⟩ (fun hHeld => ?_)
              clear hK K
              try simp only [Act.put, List.setIfInBounds_toArray, List.set_cons_zero, List.set_cons_succ]
              refine wpAnyH_ready (rs := [9]) (by kernel_rfl) (by simp) ?_
              refine (AllReadyH.cons (by simp only [List.getElem?_toArray, List.getElem?_cons_succ, List.getElem?_cons_zero]; rfl) (fun K hK => ?_) AllReadyH.nil)
              refine step_pushh rfl _ _ rfl B (.slice ph i ch) hs b7 (hh x) (hh_length x) (by rfl) RR.out.heads (by rfl) HB7.out (by rw [← HMH.out]; have := HI4.out; omega) (by rw [XX.out.hB]; exact XX.out.bel.size) (i + 1) (by rw [HMH.out]) ?_
              intro p9 c9 v4 o9 oth9 loc9
              have hpush := RR.out.head (hh_length x) o9 oth9 loc9
              have hc9 : v4.cell? ⟨rb, 1, none⟩ = some (.slice ph i ch) := by rw [cell_of_row v4 rb 1 _ _ _ (RR.out.hmid oth9)]; rfl
              have hf9 : v4.frozen? ⟨rb, 1, none⟩ = false := frozen_of_row _ _ _ _ _ (RR.out.hmid oth9)
              have XH := Lib.hid (XX.out.far (oth9.mono (T := fun j => j = rb ∨ (Value.slice ph i ch).ownBlock = some j) fun j _ hj => .inr hj) RR.out.heads (by decide) RR.out.lo RR.out.cell)
              have XN := Lib.hid (XX.out.far hpush.2 RR.out.heads (by decide) RR.out.lo RR.out.cell)
              have RN := Lib.hid hpush.1
              clear hpush o9 oth9 loc9
              refine hK.out _ _ ⟨XH.out.c.2.1, (HH.out.kb' XH.out.of).cell' HX.out⟩ (fun hHeld => ?_)
              clear hK K
              try simp only [Act.put, List.setIfInBounds_toArray, List.set_cons_zero, List.set_cons_succ]
              refine wpAnyH_take (i := 10) (v := ?_) (by simp only [List.getElem?_toArray, List.getElem?_cons_succ, List.getElem?_cons_zero]; rfl) (by kernel_rfl) (by kernel_rfl) (by kernel_rfl) (fun _ _ _ h => h) (Or.inl ⟨by rfl, ?_⟩) (by assumption) ?_
              rotate_left
              · intro w hSw
                try dsimp only at hSw
                go_simp
                try with_reducible rfl
              try simp only [Act.put, List.setIfInBounds_toArray, List.set_cons_zero, List.set_cons_succ]
              refine wpAnyH_ready (rs := [11]) (by kernel_rfl) (by simp) ?_
              refine (AllReadyH.cons (by simp only [List.getElem?_toArray, List.getElem?_cons_succ, List.getElem?_cons_zero]; rfl) (fun K hK => ?_) AllReadyH.nil)
              go_simp
              generalize v4.setCell ⟨rb, 1, none⟩ (.slice p9 (i + 1) c9) = v5 at *
              refine hK.out _ _ ⟨XN.out.c.2.1, (HH.out.kb' XN.out.of).cell' HX.out⟩ (fun hHeld => ?_)
              clear hK K
              try simp only [Act.put, List.setIfInBounds_toArray, List.set_cons_zero, List.set_cons_succ]
              refine wpAnyH_done (by kernel_rfl) ?_ _
              refine NoPanic.normal ?_
              go_wp2_with fail
              refine ⟨⟨i + 1, p9, c9, hs ++ [hh x], congrArg _ (by omega), HINH.out, HI4.out, Lib.hid (by rw [HMH.out, List.length_append]; rfl), RN, XN⟩, ?_⟩
              simp only [intOf]; have := HI4.out; omega
        · rcases (by omega : ¬ i < nH ∨ (i < nH ∧ ¬ i < 4)) with hq1 | ⟨hq1, hq2⟩
          · have hjl : ¬ (i : Int) < nH := by omega
            clear hlt hq1 hi
            go_wp2_with fail
            go_meet
            case rel => exact ⟨ph, i, ch, hs, hi4, HMH, RR, XX⟩
          · have hjl : (i : Int) < nH := by omega
            have hjl6 : ¬ (i : Int) < 4 := by omega
            clear hlt hq1 hq2 hi
            go_wp2_with fail
            go_meet
            case rel => exact ⟨ph, i, ch, hs, hi4, HMH, RR, XX⟩
    case rest =>
      clear RR XX
      obtain ⟨ph, mh, ch, hs, hm4, HMH, RR, XX⟩ := hcut
      have HM4 := Lib.hid hm4
      clear hm4
      have HPQ := Lib.hid (fun W : World => pick_any W (wrap64 (how.tdiv 50)) 4 (by decide) (by decide))
      obtain ⟨x0, x1, x2, x3⟩ := XX.out.c
      go_upto_if 145 with (go_at_call 5; refine (HPQ.out _).mono ?_; rintro e wz ⟨rfl, rfl⟩)
      generalize wrap64 (how.tdiv 50) % 4 = k at *
      go_cut [12, 13, 14, 15, 16, 17, 18] from 145 to 229 (fun _ _ _ _ _ _ _ wr => ∃ (pc : Option Addr) (nC cc : Nat) (C : Cv) (cs : List Cm), nC ≤ 72 ∧ Hid (nC = C.length) ∧ Hid (RI wr B rb (.slice pc nC cc) (.slice ph mh ch) g C cs hs) ∧ Hid (XS w wr B bx rz rb (.slice pL nL cL) (.slice pH nH cH) grp how))
      case first =>
        by_cases hk : 0 < k
        · skip
          rename_i J0 K0 hJ0 hK0
          have HJ0 := Lib.hid hJ0
          have HK0 := Lib.hid hK0
          clear hJ0 hK0
          have HIB : Hid (B ≤ wc.heap.size) := Lib.hid (by rw [XX.out.hB]; exact XX.out.bel.size)
          have hk0 : (0 : Int) < k := hk
          clear x0 x1 x2 x3
          go_upto_region 31 with fail
          have HI0 : Hid (InB (wc.alloc (.cells #[.bool false, .bool false, .bool false, .bool false, .bool false, .bool false, .bool false, .bool false, .bool false, .bool false, .bool false, .bool false, .bool false, .bool false, .bool false, .bool false, .bool false, .bool false, .bool false, .bool false, .bool false, .bool false, .bool false, .bool false, .bool false, .bool false, .bool false, .bool false, .bool false, .bool false, .bool false, .bool false, .bool false, .bool false, .bool false, .bool false, .bool false, .bool false, .bool false, .bool false, .bool false, .bool false, .bool false, .bool false, .bool false, .bool false, .bool false, .bool false, .bool false, .bool false, .bool false, .bool false, .bool false, .bool false, .bool false, .bool false, .bool false, .bool false, .bool false, .bool false] 84)) wc.heap.size (List.replicate 60 false)) := Lib.hid ⟨heap_alloc_last wc _, rfl⟩
          have RR := Lib.hid (RR.out.kb (below_al11 wc (.cells #[.bool false, .bool false, .bool false, .bool false, .bool false, .bool false, .bool false, .bool false, .bool false, .bool false, .bool false, .bool false, .bool false, .bool false, .bool false, .bool false, .bool false, .bool false, .bool false, .bool false, .bool false, .bool false, .bool false, .bool false, .bool false, .bool false, .bool false, .bool false, .bool false, .bool false, .bool false, .bool false, .bool false, .bool false, .bool false, .bool false, .bool false, .bool false, .bool false, .bool false, .bool false, .bool false, .bool false, .bool false, .bool false, .bool false, .bool false, .bool false, .bool false, .bool false, .bool false, .bool false, .bool false, .bool false, .bool false, .bool false, .bool false, .bool false, .bool false, .bool false] 84)))
          have XX := Lib.hid (XX.out.kb (below_al11 wc (.cells #[.bool false, .bool false, .bool false, .bool false, .bool false, .bool false, .bool false, .bool false, .bool false, .bool false, .bool false, .bool false, .bool false, .bool false, .bool false, .bool false, .bool false, .bool false, .bool false, .bool false, .bool false, .bool false, .bool false, .bool false, .bool false, .bool false, .bool false, .bool false, .bool false, .bool false, .bool false, .bool false, .bool false, .bool false, .bool false, .bool false, .bool false, .bool false, .bool false, .bool false, .bool false, .bool false, .bool false, .bool false, .bool false, .bool false, .bool false, .bool false, .bool false, .bool false, .bool false, .bool false, .bool false, .bool false, .bool false, .bool false, .bool false, .bool false, .bool false, .bool false] 84)))
          generalize wc.alloc (.cells #[.bool false, .bool false, .bool false, .bool false, .bool false, .bool false, .bool false, .bool false, .bool false, .bool false, .bool false, .bool false, .bool false, .bool false, .bool false, .bool false, .bool false, .bool false, .bool false, .bool false, .bool false, .bool false, .bool false, .bool false, .bool false, .bool false, .bool false, .bool false, .bool false, .bool false, .bool false, .bool false, .bool false, .bool false, .bool false, .bool false, .bool false, .bool false, .bool false, .bool false, .bool false, .bool false, .bool false, .bool false, .bool false, .bool false, .bool false, .bool false, .bool false, .bool false, .bool false, .bool false, .bool false, .bool false, .bool false, .bool false, .bool false, .bool false, .bool false, .bool false] 84) = W4 at *
          generalize wc.heap.size = ib at *
          generalize decide ((0 : Int) < k) = dk at *
          clear hk hk0
          obtain ⟨x0, x1, x2, x3⟩ := XX.out.c
          obtain ⟨m0, hm0⟩ : ∃ m0 : Nat, min (nH : Int) 4 = m0 := ⟨min nH 4, by omega⟩
          have hcH : nH ≤ cH := by
            rcases HH.out with ⟨h1, h2⟩ | ⟨a, cap, h1, h2, _⟩
            · injection h1 with _ h1 _; omega
            · injection h1 with _ h1 h3; omega
          have hb1 : ¬ (cH : Int) < m0 := by omega
          have hb2 : ¬ (m0 : Int) < 0 := by omega
          have hb3 : (m0 : Int) ≤ cH := by omega
          have hb4 : (0 : Int) ≤ m0 := by omega
          have HM0 : Hid (m0 = min nH 4) := Lib.hid (by omega)
          have HM1 : Hid (m0 ≤ nH) := Lib.hid (by omega)
          have HTD0 : Hid (Td W4 B (.slice pH m0 cH) (Hs.take m0)) := Lib.hid (by rw [XX.out.hB]; exact Td.came (HH.out.pre HM1.out) XX.out.of)
          have HTD0 : Hid (Td W4 B (.slice pH m0 cH) (Hs.take m0)) := Lib.hid (by rw [XX.out.hB]; exact Td.came (HH.out.pre HM1.out) XX.out.of)
          go_upto_block 9 with fail
          clear hm0 hcH hb1 hb2 hb3 hb4 x0 x1 x2 x3
          go_cut [13, 14] from 153 to 183 (fun vt _ wr => ∃ (p : Option Addr) (m c : Nat) (td : List Int) (bs : List Bool), vt = .slice p m c ∧ m ≤ 28 ∧ Hid (m = td.length) ∧ Hid (Td wr B (.slice p m c) td) ∧ Hid (InB wr ib bs) ∧ Hid (RI wr B rb (.slice pc nC cc) (.slice ph mh ch) g C cs hs) ∧ Hid (XS w wr B bx rz rb (.slice pL nL cL) (.slice pH nH cH) grp how))
          case first =>
            go_wp2_with fail
            go_loopw [13, 14] (fun vt vi wq => ∃ (i : Nat) (p : Option Addr) (m c : Nat) (td : List Int) (bs : List Bool), vt = .slice p m c ∧ vi = .int .i64 i ∧ i ≤ nL ∧ i ≤ 12 ∧ m ≤ 4 + 2 * i ∧ Hid (m = td.length) ∧ Hid (Td wq B (.slice p m c) td) ∧ Hid (InB wq ib bs) ∧ Hid (RI wq B rb (.slice pc nC cc) (.slice ph mh ch) g C cs hs) ∧ Hid (XS w wq B bx rz rb (.slice pL nL cL) (.slice pH nH cH) grp how)) (fun _ vi _ => 12 - (intOf vi).toNat)
            case atStart => exact ⟨0, pH, m0, cH, Hs.take m0, List.replicate 60 false, rfl, rfl, Nat.zero_le _, Nat.zero_le _, by have := HM0.out; omega, Lib.hid (by rw [List.length_take, ← HNH.out]; have := HM1.out; omega), HTD0, HI0, RR, XX⟩
            case round =>
              clear RR XX HTD0 HI0 HM0 HM1
              obtain ⟨i, p, m, c, td, bs, rfl, rfl, hi, hi12, hm28, HM, HTD, HIN, RR, XX⟩ := hrel
              obtain ⟨x0, x1, x2, x3⟩ := XX.out.c
              by_cases hlt : i < nL ∧ i < 12
              · obtain ⟨h1, h2⟩ := hlt
                have hl1 : (i : Int) < nL := by omega
                have hl2 : (i : Int) < 12 := by omega
                have hl0 : (0 : Int) ≤ i := by omega
                have HI12 := Lib.hid h2
                have HINL := Lib.hid h1
                have HM28 := Lib.hid hm28
                have HMB : Hid (m ≤ 30) := Lib.hid (by omega)
                obtain ⟨p', cap', e1, hx⟩ := id HL.out
                injection e1 with e1 e2 e3
                subst e1
                have hiR : i < R.length := by rw [← HNL.out]; exact h1
                obtain ⟨b, o, rfl, hrg, hps⟩ := hx i _ (List.getElem?_eq_getElem hiR)
                clear hps
                generalize R[i] = y at hrg
                have HRG := Lib.hid hrg
                obtain ⟨c0, _, _⟩ := ld_rw (rng_kb HRG.out XX.out.of)
                have HPY := Lib.hid (fun W : World => pick_any W y.n 60 (by decide) (by decide))
                obtain ⟨n, hn⟩ : ∃ n : Nat, y.n % 60 = n := ⟨(y.n % 60).toNat, by omega⟩
                have hn60 : n < 60 := by omega
                rw [hn] at HPY
                have hnl : (n : Int) < 60 := by omega
                have hn0 : (0 : Int) ≤ n := by omega
                have HN60 := Lib.hid hn60
                obtain ⟨bn, hbn⟩ : ∃ bn, bs[n]? = some bn := ⟨bs[n]'(by rw [HIN.out.2]; exact hn60), List.getElem?_eq_getElem _⟩
                have hcI := HIN.out.cell hbn
                have hfI := HIN.out.free n
                clear hx e2 e3 hn hi hi12 hm28 hrg h1 h2 hiR hn60 hbn
                go_upto_region 36 with (go_at_call 5; refine (HPY.out _).mono ?_; rintro e wz ⟨rfl, rfl⟩)
                have hset := HIN.out.set HN60.out
                have RR := Lib.hid (RR.out.inb HIN.out hset.2)
                have XX := Lib.hid (XX.out.inb HIN.out HIB.out hset.2)
                have HTD := Lib.hid (HTD.out.only hset.2 (fun j hj => by rw [hj]; exact ⟨HIB.out, fun cs e => by rw [HIN.out.1] at e; injection e with e; injection e with _ e _; exact absurd e (by decide)⟩))
                have HIN := Lib.hid hset.1
                clear hset hcI hfI
                generalize wr.setCell ⟨ib, n, none⟩ (.bool true) = W5 at *
                generalize bs.set n true = bs5 at *
                clear c0 x0 x1 x2 x3
                go_wp2_with fail
                have bq : Below W5.heap.size W5 W5.drew := blw_qt _ 1 W5
                have RR := Lib.hid (RR.out.kb bq)
                have XX := Lib.hid (XX.out.kb bq)
                have HTD := Lib.hid (HTD.out.kb bq)
                have HIN := Lib.hid (HIN.out.kb bq)
                clear bq
                try simp only [List.append]
                refine wp_region_noPanic ?_
                refine wp_region_held_drew (S := (fun V => V.cell? ⟨bx, 0, none⟩ = some (.slice (some ⟨b, o, none⟩) nL cL) ∧ V.cell? ⟨b, o + i * 3, none⟩ = some (.int .i64 y.n))) (by kernel_rfl) ⟨XX.out.c.1, (ld_rw (rng_kb HRG.out XX.out.of)).1⟩ (fun hHeld => ?_)
                generalize W5.drew = cw at *
                obtain ⟨v1, hv1⟩ : ∃ V, V = cw := ⟨_, rfl⟩
                have V1 := Lib.hid hv1
                clear hv1
                have RR : Hid (RI v1 B rb (.slice pc nC cc) (.slice ph mh ch) g C cs hs) := Lib.hid (by rw [V1.out]; exact RR.out)
                have XX : Hid (XS w v1 B bx rz rb (.slice (some ⟨b, o, none⟩) nL cL) (.slice pH nH cH) grp how) := Lib.hid (by rw [V1.out]; exact XX.out)
                have HTD : Hid (Td v1 B (.slice p m c) td) := Lib.hid (by rw [V1.out]; exact HTD.out)
                have HIN : Hid (InB v1 ib bs5) := Lib.hid (by rw [V1.out]; exact HIN.out)
                have BV : Hid (Below v1.heap.size v1 cw) := Lib.hid (by rw [V1.out]; exact Below.refl _ _)
                clear V1
                refine wpAnyH_take (i := 1) (v := ?_) (by simp only [List.getElem?_toArray, List.getElem?_cons_succ, List.getElem?_cons_zero]; rfl) (by kernel_rfl) (by kernel_rfl) (by kernel_rfl) (fun _ _ _ h => h) (Or.inl ⟨by rfl, ?_⟩) (by assumption) ?_
                rotate_left
                · intro w hSw
                  try dsimp only at hSw
                  go_simp
                  try with_reducible rfl
                try simp only [Act.put, List.setIfInBounds_toArray, List.set_cons_zero, List.set_cons_succ]
                refine wpAnyH_take (i := 3) (v := ?_) (by simp only [List.getElem?_toArray, List.getElem?_cons_succ, List.getElem?_cons_zero]; rfl) (by kernel_rfl) (by kernel_rfl) (by kernel_rfl) (fun _ _ _ h => h) (Or.inl ⟨by rfl, ?_⟩) (by assumption) ?_
                rotate_left
                · intro w hSw
                  try dsimp only at hSw
                  go_simp
                  try with_reducible rfl
                try simp only [Act.put, List.setIfInBounds_toArray, List.set_cons_zero, List.set_cons_succ]
                refine wpAnyH_take (i := 4) (v := ?_) (by simp only [List.getElem?_toArray, List.getElem?_cons_succ, List.getElem?_cons_zero]; rfl) (by kernel_rfl) (by kernel_rfl) (by kernel_rfl) (fun _ _ _ h => h) (Or.inl ⟨by rfl, ?_⟩) (by assumption) ?_
                rotate_left
                · intro w hSw
                  try dsimp only at hSw
                  go_simp
                  try with_reducible rfl
                try simp only [Act.put, List.setIfInBounds_toArray, List.set_cons_zero, List.set_cons_succ]
                refine wpAnyH_take (i := 5) (v := ?_) (by simp only [List.getElem?_toArray, List.getElem?_cons_succ, List.getElem?_cons_zero]; rfl) (by kernel_rfl) (by kernel_rfl) (by kernel_rfl) (fun _ _ _ h => h) (Or.inl ⟨by rfl, ?_⟩) (by assumption) ?_
                rotate_left
                · intro w hSw
                  try dsimp only at hSw
                  go_simp
                  try with_reducible rfl
                try simp only [Act.put, List.setIfInBounds_toArray, List.set_cons_zero, List.set_cons_succ]
                refine wpAnyH_take (i := 6) (v := ?_) (by simp only [List.getElem?_toArray, List.getElem?_cons_succ, List.getElem?_cons_zero]; rfl) (by kernel_rfl) (by kernel_rfl) (by kernel_rfl) (fun _ _ _ h => h) (Or.inl ⟨by rfl, ?_⟩) (by assumption) ?_
                rotate_left
                · intro w hSw
                  try dsimp only at hSw
                  go_simp
                  try with_reducible rfl
                try simp only [Act.put, List.setIfInBounds_toArray, List.set_cons_zero, List.set_cons_succ]
                refine wpAnyH_take (i := 7) (v := ?_) (by simp only [List.getElem?_toArray, List.getElem?_cons_succ, List.getElem?_cons_zero]; rfl) (by kernel_rfl) (by kernel_rfl) (by kernel_rfl) (fun _ _ _ h => h) (Or.inl ⟨by rfl, ?_⟩) (by assumption) ?_
                rotate_left
                · intro w hSw
                  try dsimp only at hSw
                  go_simp
                  try with_reducible rfl
                try simp only [Act.put, List.setIfInBounds_toArray, List.set_cons_zero, List.set_cons_succ]
                refine wpAnyH_take (i := 8) (v := ?_) (by simp only [List.getElem?_toArray, List.getElem?_cons_succ, List.getElem?_cons_zero]; rfl) (by kernel_rfl) (by kernel_rfl) (by kernel_rfl) (fun _ _ _ h => h) (Or.inl ⟨by rfl, ?_⟩) (by assumption) ?_
                rotate_left
                · intro w hSw
                  try dsimp only at hSw
                  go_simp
                  try with_reducible rfl
                try simp only [Act.put, List.setIfInBounds_toArray, List.set_cons_zero, List.set_cons_succ]
                refine wpAnyH_ready (rs := [0]) (by kernel_rfl) (by simp) ?_
                refine (AllReadyH.cons (by simp only [List.getElem?_toArray, List.getElem?_cons_zero]; rfl) (fun K hK => ?_) AllReadyH.nil)
                refine step_empty_ints rfl rfl ?_
                have E0 : Hid ((cw.alloc (.cells #[] 3)).ownsRow v1.heap.size 3 1 (.slice (some ⟨cw.heap.size, 0, none⟩) 0 0) 0 []) := Lib.hid (own_empty cw _ _ BV.out.size)
                try have N8 : Hid ((Value.slice p8 n8 c8).ownBlock ≠ some cw.heap.size) := Lib.hid (fun hj => by obtain ⟨_, h1, _⟩ := own_type O8.out hj; have := (Array.getElem?_eq_some_iff.1 h1).1; omega)
                try have O8 := Lib.hid (own_below O8.out (below_al11 cw (.cells #[] 3)))
                have BV := Lib.hid (BV.out.alloc BV.out.size (.cells #[] 3))
                generalize cw.alloc (.cells #[] 3) = cx at *
                generalize cw.heap.size = b0 at *
                rename World => cw
                refine hK.out _ _ ⟨(XX.out.kb BV.out).c.1, (ld_rw (rng_kb HRG.out (XX.out.kb BV.out).of)).1⟩ (fun hHeld => ?_)
                clear hK K
                try simp only [Act.put, List.setIfInBounds_toArray, List.set_cons_zero, List.set_cons_succ]
                refine wpAnyH_ready (rs := [2]) (by kernel_rfl) (by simp) ?_
                refine (AllReadyH.cons (by simp only [List.getElem?_toArray, List.getElem?_cons_succ, List.getElem?_cons_zero]; rfl) (fun K hK => ?_) AllReadyH.nil)
                refine step_app_ints rfl _ _ rfl v1.heap.size (.slice (some ⟨b0, 0, none⟩) 0 0) (.slice p m c) 0 m [] td (by simp) (by rfl) E0.out rfl (by rfl) (HTD.out.kb BV.out).seen (by rw [HM.out, Nat.zero_add]) (by have := HMB.out; omega) BV.out.size ?_
                intro g2 c2 cx o2 oth2 loc2
                have O2 : Hid (cx.ownsRow v1.heap.size 3 1 (.slice (some ⟨g2, 0, none⟩) m c2) m (td.map (Value.int .i64))) := Lib.hid o2
                have BV := Lib.hid (BV.out.trans (oth2.below BV.out.size (fun k hk => own_from E0.out k hk)))
                try have O8 := Lib.hid (own_keep O8.out oth2 (fun j hj e => N8.out (hj.trans e.symm)))
                clear o2 oth2 loc2
                rename World => cw
                refine hK.out _ _ ⟨(XX.out.kb BV.out).c.1, (ld_rw (rng_kb HRG.out (XX.out.kb BV.out).of)).1⟩ (fun hHeld => ?_)
                clear hK K
                try simp only [Act.put, List.setIfInBounds_toArray, List.set_cons_zero, List.set_cons_succ]
                refine wpAnyH_ready (rs := [9]) (by kernel_rfl) (by simp) ?_
                refine (AllReadyH.cons (by simp only [List.getElem?_toArray, List.getElem?_cons_succ, List.getElem?_cons_zero]; rfl) (fun K hK => ?_) AllReadyH.nil)
                go_simp
                refine (HPY.out _).mono ?_
                rintro e wz ⟨rfl, rfl⟩
                go_wp2_with fail
                refine hK.out _ _ ⟨(XX.out.kb BV.out).c.1, (ld_rw (rng_kb HRG.out (XX.out.kb BV.out).of)).1⟩ (fun hHeld => ?_)
                clear hK K
                try simp only [Act.put, List.setIfInBounds_toArray, List.set_cons_zero, List.set_cons_succ]
                refine wpAnyH_ready (rs := [10]) (by kernel_rfl) (by simp) ?_
                refine (AllReadyH.cons (by simp only [List.getElem?_toArray, List.getElem?_cons_succ, List.getElem?_cons_zero]; rfl) (fun K hK => ?_) AllReadyH.nil)
                go_simp
                refine (ahead_to cw n hn0 hnl).mono ?_
                rintro e cx ⟨v8, l8, rfl, hl8, o8, b8⟩
                obtain ⟨n8, hn8⟩ : ∃ n, n = l8.length := ⟨_, rfl⟩
                obtain ⟨p8, c8, hv8⟩ := (IOwns.seen o8).shape'
                unfold IOwns at o8
                rw [← hn8] at o8 hl8 hv8
                subst hv8
                have HL8 := Lib.hid hl8
                have HN8 := Lib.hid hn8
                try have N8 : Hid ((Value.slice p8 n8 c8).ownBlock ≠ some b0) := Lib.hid (fun hj => by have h1 := own_from o8 b0 hj; obtain ⟨_, h2, _⟩ := own_type E0.out (j := b0) rfl; have := (Array.getElem?_eq_some_iff.1 h2).1; omega)
                try have E0 := Lib.hid (own_below E0.out b8)
                try have O2 := Lib.hid (own_below O2.out b8)
                have O8 : Hid (cx.ownsRow v1.heap.size 3 1 (.slice p8 n8 c8) n8 (l8.map (Value.int .i64))) := Lib.hid (own_mono o8 BV.out.size)
                have BV := Lib.hid (BV.out.trans (b8.mono BV.out.size))
                clear o8 b8 hl8 hn8
                rename World => cw
                go_wp2_with fail
                refine hK.out _ _ ⟨(XX.out.kb BV.out).c.1, (ld_rw (rng_kb HRG.out (XX.out.kb BV.out).of)).1⟩ (fun hHeld => ?_)
                clear hK K
                try simp only [Act.put, List.setIfInBounds_toArray, List.set_cons_zero, List.set_cons_succ]
                refine wpAnyH_ready (rs := [11]) (by kernel_rfl) (by simp) ?_
                refine (AllReadyH.cons (by simp only [List.getElem?_toArray, List.getElem?_cons_succ, List.getElem?_cons_zero]; rfl) (fun K hK => ?_) AllReadyH.nil)
                refine step_app_ints rfl _ _ rfl v1.heap.size (.slice (some ⟨g2, 0, none⟩) m c2) (.slice p8 n8 c8) m (m + n8) td l8 (by simp) (by rfl) O2.out HM.out (by rfl) (IOwns.seen (show IOwns cw v1.heap.size (.slice p8 n8 c8) l8 by unfold IOwns; rw [← HN8.out]; exact O8.out)) (by rw [HN8.out]) (by have := HMB.out; have := HL8.out; omega) BV.out.size ?_
                intro g3 c3 cx o3 oth3 loc3
                have BV := Lib.hid (BV.out.trans (oth3.below BV.out.size (fun k hk => own_from O2.out k hk)))
                have HTN : Hid (Td cx B (.slice (some ⟨g3, 0, none⟩) (m + n8) c3) (td ++ l8)) := Lib.hid (Td.own (A := v1.heap.size) (by unfold IOwns; rw [List.length_append, ← HM.out, ← HN8.out]; exact o3))
                clear o3 oth3 loc3
                rename World => cw
                refine hK.out _ _ ⟨(XX.out.kb BV.out).c.1, (ld_rw (rng_kb HRG.out (XX.out.kb BV.out).of)).1⟩ (fun hHeld => ?_)
                clear hK K
                try simp only [Act.put, List.setIfInBounds_toArray, List.set_cons_zero, List.set_cons_succ]
                refine wpAnyH_take (i := 12) (v := ?_) (by simp only [List.getElem?_toArray, List.getElem?_cons_succ, List.getElem?_cons_zero]; rfl) (by kernel_rfl) (by kernel_rfl) (by kernel_rfl) (fun _ _ _ h => h) (Or.inl ⟨by rfl, ?_⟩) (by assumption) ?_
                rotate_left
                · intro w hSw
                  try dsimp only at hSw
                  go_simp
                  try with_reducible rfl
                try simp only [Act.put, List.setIfInBounds_toArray, List.set_cons_zero, List.set_cons_succ]
                refine wpAnyH_done (by kernel_rfl) ?_ _
                refine NoPanic.normal ?_
                go_wp2_with fail
                refine ⟨⟨i + 1, some ⟨g3, 0, none⟩, m + n8, c3, td ++ l8, bs5, rfl, congrArg _ (by omega), HINL.out, HI12.out, by have := HM28.out; have := HL8.out; omega, Lib.hid (by rw [List.length_append, ← HM.out, ← HN8.out]), HTN, Lib.hid (HIN.out.kb BV.out), Lib.hid (RR.out.kb BV.out), Lib.hid (XX.out.kb BV.out)⟩, ?_⟩
                simp only [intOf]; have := HI12.out; omega
              · rcases (by omega : ¬ i < nL ∨ (i < nL ∧ ¬ i < 12)) with hq1 | ⟨hq1, hq2⟩
                · have hjl : ¬ (i : Int) < nL := by omega
                  have HM28 : Hid (m ≤ 28) := Lib.hid (by omega)
                  clear hlt hq1 hi hm28
                  go_wp2_with fail
                  go_meet
                  case rel => exact ⟨p, m, c, td, bs, rfl, HM28.out, HM, HTD, HIN, RR, XX⟩
                · have hjl : (i : Int) < nL := by omega
                  have hjl6 : ¬ (i : Int) < 12 := by omega
                  have HM28 : Hid (m ≤ 28) := Lib.hid (by omega)
                  clear hlt hq1 hq2 hi hm28
                  go_wp2_with fail
                  go_meet
                  case rel => exact ⟨p, m, c, td, bs, rfl, HM28.out, HM, HTD, HIN, RR, XX⟩
          case rest =>
            obtain ⟨p, m, c, td, bs, rfl, hm28, HM, HTD, HIN, RR, XX⟩ := hcut
            clear HTD0 HI0 HM0 HM1
            have HM28 := Lib.hid hm28
            clear hm28
            go_wp2_with fail
            go_loopw [13] (fun vt wq => ∃ (p : Option Addr) (m c : Nat) (td : List Int) (bs : List Bool) (pc : Option Addr) (nC cc : Nat) (C : Cv) (cs : List Cm), vt = .slice p m c ∧ Hid (m = td.length) ∧ Hid (m ≤ 28 + 2 * (60 - lft bs)) ∧ Hid (nC + lft bs ≤ 72) ∧ Hid (nC = C.length) ∧ Hid (Td wq B (.slice p m c) td) ∧ Hid (InB wq ib bs) ∧ Hid (RI wq B rb (.slice pc nC cc) (.slice ph mh ch) g C cs hs) ∧ Hid (XS w wq B bx rz rb (.slice pL nL cL) (.slice pH nH cH) grp how))
              (fun vt wq => 3 * lfw wq ib + slen vt)
            case atStart =>
              have h60 := lft_le (bs := bs)
              rw [HIN.out.2] at h60
              exact ⟨p, m, c, td, bs, pc, nC, cc, C, cs, rfl, HM, Lib.hid (by have := HM28.out; omega), Lib.hid (by have := HN12.out; omega), HNC, HTD, HIN, RR, XX⟩
            case round =>
              clear RR XX HTD HIN HM HM28 HNC HN12
              obtain ⟨p, m, c, td, bs, pc, nC, cc, C, cs, rfl, HM, HMB, HN72, HNC, HTD, HIN, RR, XX⟩ := hrel
              rcases Nat.eq_zero_or_pos m with h0 | h0
              · subst h0
                have hJ0 := HJ0.out
                have hK0 := HK0.out
                go_wp2_with fail
                go_meet
                case rel => exact ⟨pc, nC, cc, C, cs, by have := HN72.out; omega, HNC, RR, XX⟩
              · have hm0 : (0 : Int) < m := by omega
                obtain ⟨y, tl, htd⟩ : ∃ y tl, td = y :: tl := by
                  cases td with
                  | nil => have := HM.out; simp at this; omega
                  | cons x tl => exact ⟨x, tl, rfl⟩
                subst htd
                obtain ⟨a, rfl, hc0, hml, hmc⟩ := HTD.out.first
                obtain ⟨m1, hm1⟩ : ∃ m1, m1 = tl.length := ⟨_, rfl⟩
                rw [← hm1] at hml
                subst hml
                have HTR : Hid (Td wr B (.slice (if c = 1 then some a else some ⟨a.block, a.off + 1, none⟩) m1 (c - 1)) tl) := Lib.hid (by have := HTD.out.rest hm1; rwa [show a.add 1 = ⟨a.block, a.off + 1, none⟩ from by simp [Addr.add]] at this)
                have hw1 : ((m1 + 1 : Nat) : Int) - 1 = m1 := by omega
                have hb1 : (1 : Int) ≤ ((m1 + 1 : Nat) : Int) := by omega
                have hb2 : ((m1 + 1 : Nat) : Int) ≤ c := by omega
                have HM1 := Lib.hid hm1
                have HPY := Lib.hid (fun W : World => pick_any W y 60 (by decide) (by decide))
                obtain ⟨n, hn⟩ : ∃ n : Nat, y % 60 = n := ⟨(y % 60).toNat, by omega⟩
                have hn60 : n < 60 := by omega
                rw [hn] at HPY
                have hnl : (n : Int) < 60 := by omega
                have hn0 : (0 : Int) ≤ n := by omega
                have HN60 := Lib.hid hn60
                obtain ⟨bn, hbn⟩ : ∃ bn, bs[n]? = some bn := ⟨bs[n]'(by rw [HIN.out.2]; exact hn60), List.getElem?_eq_getElem _⟩
                have hcI := HIN.out.cell hbn
                have HBN := Lib.hid hbn
                have HLF := Lib.hid HIN.out.lfw
                clear hn hn60 hbn hm1 h0 hmc
                cases bn with
                | true =>
                  go_wp2_with (go_at_call 5; refine (HPY.out _).mono ?_; rintro e wz ⟨rfl, rfl⟩)
                  generalize (if c = 1 then some a else some ⟨a.block, a.off + 1, none⟩) = q at *
                  generalize c - 1 = c1 at *
                  refine ⟨⟨q, m1, c1, tl, bs, pc, nC, cc, C, cs, rfl, HM1, Lib.hid (by have := HMB.out; omega), HN72, HNC, HTR, HIN, RR, XX⟩, ?_⟩
                  simp only [slen]; omega
                | false =>
                  have hfI := HIN.out.free n
                  go_upto_region 42 with (go_at_call 5; refine (HPY.out _).mono ?_; rintro e wz ⟨rfl, rfl⟩)
                  have HLB : Hid (lft bs ≤ 60) := Lib.hid (by have := lft_le (bs := bs); rw [HIN.out.2] at this; exact this)
                  have hset := HIN.out.set HN60.out
                  have RR0 := Lib.hid (RR.out.inb HIN.out hset.2)
                  have XX0 := Lib.hid (XX.out.inb HIN.out HIB.out hset.2)
                  have HTR := Lib.hid (HTR.out.only hset.2 (fun j hj => by rw [hj]; exact ⟨HIB.out, fun cs e => by rw [HIN.out.1] at e; injection e with e; injection e with _ e _; exact absurd e (by decide)⟩))
                  have HLS : Hid (lft (bs.set n true) + 1 = lft bs) := Lib.hid (lft_set HBN.out)
                  have HIN := Lib.hid hset.1
                  clear hset hcI hfI hc0 HBN RR XX HTD hb1 hb2 hw1 hm0
                  generalize wr.setCell ⟨ib, n, none⟩ (.bool true) = W0 at *
                  generalize bs.set n true = bs5 at *
                  generalize (if c = 1 then some a else some ⟨a.block, a.off + 1, none⟩) = q at *
                  generalize c - 1 = c1 at *
                  go_wp2_with fail
                  refine (hash_to _ n).mono ?_
                  rintro e w2 ⟨rfl, b2⟩
                  obtain ⟨h, hh'⟩ : ∃ h, h = hh (n : Int) := ⟨_, rfl⟩
                  have hh32 : h.length = 32 := by rw [hh']; exact hh_length _
                  rw [← hh']
                  have st := cst_cells h (.slice none 0 0) hh32 rfl w2
                  have hks : (cmv h (.slice none 0 0)).size = 33 := cmv_size hh32 _
                  have HH32 := Lib.hid hh32
                  have Y3 : Hid (Below W0.heap.size W0 (w2.alloc (.cells (cmv h (.slice none 0 0)) 32)) ∧ CI (w2.alloc (.cells (cmv h (.slice none 0 0)) 32)) W0.heap.size w2.heap.size h (.slice none 0 0) []) :=
                    Lib.hid ⟨b2.alloc b2.size _, heap_alloc_last w2 _, World.ownsRow_nil _ _ _ _, b2.size, H32.nil, hh32⟩
                  clear b2 hh' hh32
                  go_wp2_with (refine build_w (t := 32) (vals := #[(0, .agg (hv h))]) (built_commit0 h HH32.out) ?hv ?hw ?_; (case hv => first | rfl | simp [Act.put, Act.eval]); (case hw => first | rfl | simp [Region.wanted, yielded]))
                  generalize w2.alloc (.cells (cmv h (.slice none 0 0)) 32) = W2 at *
                  generalize w2.heap.size = cb at *
                  clear st hks
                  refine (ahead_to _ n hn0 hnl).mono ?_
                  rintro e w3 ⟨v8, l8, rfl, hl8, o8, b3⟩
                  obtain ⟨p8, c8, hv8⟩ := (IOwns.seen o8).shape'
                  subst hv8
                  obtain ⟨n8, hn8⟩ : ∃ n, n = l8.length := ⟨_, rfl⟩
                  have Y3B : Hid (YB w3 W0 ib (bs5.map Value.bool).toArray 84 W2.heap.size (.slice p8 l8.length c8) l8) := Lib.hid ⟨Y3.out.1.trans (b3.mono Y3.out.1.size), (HIN.out.kb (Y3.out.1.trans (b3.mono Y3.out.1.size))).1, by decide, o8⟩
                  have C3 : Hid (CI w3 W0.heap.size cb h (.slice none 0 0) []) := Lib.hid (Y3.out.2.kb b3)
                  rw [← hn8] at Y3B hl8 ⊢
                  have HN8 := Lib.hid hn8
                  have HL8 := Lib.hid hl8
                  have NCB : Hid (nC ≤ 1000000) := Lib.hid (by have := HN72.out; omega)
                  have HMB2 : Hid (m1 ≤ 200) := Lib.hid (by have := HMB.out; omega)
                  clear Y3 o8 b3 hn8 hl8
                  generalize W2.heap.size = B8 at *
                  generalize hyc : (bs5.map Value.bool).toArray = yc at *
                  clear hyc
                  go_wp2_with fail
                  go_loopw [18] (fun s wq => ∃ (j : Nat) (p : Option Addr) (c m : Nat) (ps : List Key), s = .int .i64 j ∧ j ≤ n8 ∧ Hid (m = ps.length) ∧ m ≤ j ∧ Hid (CI wq W0.heap.size cb h (.slice p m c) ps) ∧ Hid (YB wq W0 ib yc 84 B8 (.slice p8 n8 c8) l8))
                    (fun s _ => n8 - (intOf s).toNat)
                  case atStart => exact ⟨0, none, 0, 0, [], rfl, Nat.zero_le _, Lib.hid rfl, Nat.le_refl _, C3, Y3B⟩
                  case round =>
                    clear C3 Y3B
                    obtain ⟨j, p, c, m, ps, rfl, hj, HM, hmj, CC, YY⟩ := hrel
                    by_cases hlt : j < n8
                    · have HJ := Lib.hid hlt
                      have hj1 : wrap64 ((j : Int) + 1) = ((j + 1 : Nat) : Int) := by have := HL8.out; unfold wrap64; omega
                      have hjl : (j : Int) < n8 := by omega
                      have HMJ := Lib.hid hmj
                      have HM2 : Hid (m ≤ 2) := Lib.hid (by have := HL8.out; omega)
                      obtain ⟨x, hx⟩ : ∃ x, l8[j]? = some x := ⟨l8[j]'(by rw [← HN8.out]; exact hlt), List.getElem?_eq_getElem _⟩
                      obtain ⟨a8, rfl, hc0⟩ := (IOwns.seen YY.out.p).at' hx
                      have HX := Lib.hid hx
                      clear hx hj hmj
                      go_wp2_with fail
                      have bq : Below wr.heap.size wr wr.drew := blw_qt _ 1 wr
                      have CC := Lib.hid (CC.out.kb bq)
                      have YY := Lib.hid (YY.out.kb bq)
                      clear bq
                      try simp only [List.append]
                      refine wp_region_noPanic ?_
                      refine wp_region_held_drew (S := (fun V => V.cell? (a8.add j) = some (.int .i64 x))) (by kernel_rfl) ((IOwns.seen YY.out.p).cell' HX.out) (fun hHeld => ?_)
                      generalize wr.drew = v1 at *
                      refine wpAnyH_take (i := 0) (v := ?_) (by simp only [List.getElem?_toArray, List.getElem?_cons_zero]; rfl) (by kernel_rfl) (by kernel_rfl) (by kernel_rfl) (fun _ _ _ h => h) (Or.inl ⟨by rfl, ?_⟩) (by assumption) ?_
                      rotate_left
                      · intro w hSw
                        try dsimp only at hSw
                        go_simp
                        try with_reducible rfl
                      try simp only [Act.put, List.setIfInBounds_toArray, List.set_cons_zero, List.set_cons_succ]
                      refine wpAnyH_take (i := 2) (v := ?_) (by simp only [List.getElem?_toArray, List.getElem?_cons_succ, List.getElem?_cons_zero]; rfl) (by kernel_rfl) (by kernel_rfl) (by kernel_rfl) (fun _ _ _ h => h) (Or.inl ⟨by rfl, ?_⟩) (by assumption) ?_
                      rotate_left
                      · intro w hSw
                        try dsimp only at hSw
                        go_simp
                        try with_reducible rfl
                      try simp only [Act.put, List.setIfInBounds_toArray, List.set_cons_zero, List.set_cons_succ]
                      refine wpAnyH_take (i := 3) (v := ?_) (by simp only [List.getElem?_toArray, List.getElem?_cons_succ, List.getElem?_cons_zero]; rfl) (by kernel_rfl) (by kernel_rfl) (by kernel_rfl) (fun _ _ _ h => h) (Or.inl ⟨by rfl, ?_⟩) (by assumption) ?_
                      rotate_left
                      · intro w hSw
                        try dsimp only at hSw
                        go_simp
                        try with_reducible rfl
                      try simp only [Act.put, List.setIfInBounds_toArray, List.set_cons_zero, List.set_cons_succ]
                      refine wpAnyH_take (i := 4) (v := ?_) (by simp only [List.getElem?_toArray, List.getElem?_cons_succ, List.getElem?_cons_zero]; rfl) (by kernel_rfl) (by kernel_rfl) (by kernel_rfl) (fun _ _ _ h => h) (Or.inl ⟨by rfl, ?_⟩) (by assumption) ?_
                      rotate_left
                      · intro w hSw
                        try dsimp only at hSw
                        go_simp
                        try with_reducible rfl
                      try simp only [Act.put, List.setIfInBounds_toArray, List.set_cons_zero, List.set_cons_succ]
                      refine wpAnyH_take (i := 5) (v := ?_) (by simp only [List.getElem?_toArray, List.getElem?_cons_succ, List.getElem?_cons_zero]; rfl) (by kernel_rfl) (by kernel_rfl) (by kernel_rfl) (fun _ _ _ h => h) (Or.inl ⟨by rfl, ?_⟩) (by assumption) ?_
                      rotate_left
                      · intro w hSw
                        try dsimp only at hSw
                        go_simp
                        try with_reducible rfl
                      try simp only [Act.put, List.setIfInBounds_toArray, List.set_cons_zero, List.set_cons_succ]
                      refine wpAnyH_ready (rs := [1, 6]) (by kernel_rfl) (by simp) ?_
                      refine (AllReadyH.cons (by simp only [List.getElem?_toArray, List.getElem?_cons_succ, List.getElem?_cons_zero]; rfl) (fun K hK => ?_) (AllReadyH.cons (by simp only [List.getElem?_toArray, List.getElem?_cons_succ, List.getElem?_cons_zero]; rfl) (fun K hK => ?_) AllReadyH.nil))
                      · have cL := CC.out.par
                        go_simp
                        clear cL
                        refine hK.out _ _ ((IOwns.seen YY.out.p).cell' HX.out) (fun hHeld => ?_)
                        clear hK K
                        try simp only [Act.put, List.setIfInBounds_toArray, List.set_cons_zero, List.set_cons_succ]
                        refine wpAnyH_ready (rs := [6]) (by kernel_rfl) (by simp) ?_
                        refine (AllReadyH.cons (by simp only [List.getElem?_toArray, List.getElem?_cons_succ, List.getElem?_cons_zero]; rfl) (fun K hK => ?_) AllReadyH.nil)
                        go_simp
                        refine (hash_to _ x).mono ?_
                        rintro e v2 ⟨rfl, bb⟩
                        have CC := Lib.hid (CC.out.kb bb)
                        have YY := Lib.hid (YY.out.kb bb)
                        clear bb
                        go_wp2_with fail
                        refine hK.out _ _ ((IOwns.seen YY.out.p).cell' HX.out) (fun hHeld => ?_)
                        clear hK K
                        try simp only [Act.put, List.setIfInBounds_toArray, List.set_cons_zero, List.set_cons_succ]
                        refine wpAnyH_ready (rs := [7]) (by kernel_rfl) (by simp) ?_
                        refine (AllReadyH.cons (by simp only [List.getElem?_toArray, List.getElem?_cons_succ, List.getElem?_cons_zero]; rfl) (fun K hK => ?_) AllReadyH.nil)
                        refine step_sl1 (hh x) (hh_length x) (by rfl) (by rfl) ?_
                        have HB7 := Lib.hid (heap_alloc_last v2 (.cells (hv (hh x)) 27))
                        have CC := Lib.hid (CC.out.kb (below_al11 v2 (.cells (hv (hh x)) 27)))
                        have YY := Lib.hid (YY.out.kb (below_al11 v2 (.cells (hv (hh x)) 27)))
                        generalize v2.alloc (.cells (hv (hh x)) 27) = v3 at *
                        generalize v2.heap.size = b7 at *
                        refine hK.out _ _ ((IOwns.seen YY.out.p).cell' HX.out) (fun hHeld => ?_)
                        clear hK K
                        try simp only [Act.put, List.setIfInBounds_toArray, List.set_cons_zero, List.set_cons_succ]
                        refine wpAnyH_ready (rs := [8]) (by kernel_rfl) (by simp) ?_
                        refine (AllReadyH.cons (by simp only [List.getElem?_toArray, List.getElem?_cons_succ, List.getElem?_cons_zero]; rfl) (fun K hK => ?_) AllReadyH.nil)
                        refine step_pushh rfl _ _ rfl W0.heap.size (.slice p m c) ps b7 (hh x) (hh_length x) (by rfl) CC.out.own (by rfl) HB7.out (by rw [← HM.out]; have := HM2.out; omega) YY.out.bel.size (m + 1) (by rw [HM.out]) ?_
                        intro p9 c9 v4 o9 oth9 loc9
                        have hpush := CC.out.push o9 oth9 (hh_length x)
                        have hc9 := cm_cell CC.out.hh (CC.out.mid oth9)
                        have hf9 : v4.frozen? ⟨cb, 32, none⟩ = false := frozen_of_row _ _ _ _ _ (CC.out.mid oth9)
                        have YH := Lib.hid (YY.out.half CC.out oth9)
                        have CN := Lib.hid hpush.1
                        have YN := Lib.hid (YY.out.far CC.out hpush.2)
                        clear hpush o9 oth9 loc9
                        refine hK.out _ _ ((IOwns.seen YH.out.p).cell' HX.out) (fun hHeld => ?_)
                        clear hK K
                        try simp only [Act.put, List.setIfInBounds_toArray, List.set_cons_zero, List.set_cons_succ]
                        refine wpAnyH_take (i := 9) (v := ?_) (by simp only [List.getElem?_toArray, List.getElem?_cons_succ, List.getElem?_cons_zero]; rfl) (by kernel_rfl) (by kernel_rfl) (by kernel_rfl) (fun _ _ _ h => h) (Or.inl ⟨by rfl, ?_⟩) (by assumption) ?_
                        rotate_left
                        · intro w hSw
                          try dsimp only at hSw
                          go_simp
                          try with_reducible rfl
                        try simp only [Act.put, List.setIfInBounds_toArray, List.set_cons_zero, List.set_cons_succ]
                        refine wpAnyH_ready (rs := [10]) (by kernel_rfl) (by simp) ?_
                        refine (AllReadyH.cons (by simp only [List.getElem?_toArray, List.getElem?_cons_succ, List.getElem?_cons_zero]; rfl) (fun K hK => ?_) AllReadyH.nil)
                        go_simp
                        generalize v4.setCell ⟨cb, 32, none⟩ (.slice p9 (m + 1) c9) = v5 at *
                        refine hK.out _ _ ((IOwns.seen YN.out.p).cell' HX.out) (fun hHeld => ?_)
                        clear hK K
                        try simp only [Act.put, List.setIfInBounds_toArray, List.set_cons_zero, List.set_cons_succ]
                        refine wpAnyH_done (by kernel_rfl) ?_ _
                        refine NoPanic.normal ?_
                        go_wp2_with fail
                        refine ⟨⟨j + 1, p9, c9, m + 1, ps ++ [hh x], by rw [hj1], HJ.out, Lib.hid (by rw [HM.out, List.length_append]; rfl), Nat.succ_le_succ HMJ.out, CN, YN⟩, ?_⟩
                        rw [hj1]; simp only [intOf]; have := HJ.out; omega
                      · go_simp
                        refine (hash_to _ x).mono ?_
                        rintro e v2 ⟨rfl, bb⟩
                        have CC := Lib.hid (CC.out.kb bb)
                        have YY := Lib.hid (YY.out.kb bb)
                        clear bb
                        go_wp2_with fail
                        refine hK.out _ _ ((IOwns.seen YY.out.p).cell' HX.out) (fun hHeld => ?_)
                        clear hK K
                        try simp only [Act.put, List.setIfInBounds_toArray, List.set_cons_zero, List.set_cons_succ]
                        refine wpAnyH_ready (rs := [1, 7]) (by kernel_rfl) (by simp) ?_
                        refine (AllReadyH.cons (by simp only [List.getElem?_toArray, List.getElem?_cons_succ, List.getElem?_cons_zero]; rfl) (fun K hK => ?_) (AllReadyH.cons (by simp only [List.getElem?_toArray, List.getElem?_cons_succ, List.getElem?_cons_zero]; rfl) (fun K hK => ?_) AllReadyH.nil))
                        · have cL := CC.out.par
                          go_simp
                          clear cL
                          refine hK.out _ _ ((IOwns.seen YY.out.p).cell' HX.out) (fun hHeld => ?_)
                          clear hK K
                          try simp only [Act.put, List.setIfInBounds_toArray, List.set_cons_zero, List.set_cons_succ]
                          refine wpAnyH_ready (rs := [7]) (by kernel_rfl) (by simp) ?_
                          refine (AllReadyH.cons (by simp only [List.getElem?_toArray, List.getElem?_cons_succ, List.getElem?_cons_zero]; rfl) (fun K hK => ?_) AllReadyH.nil)
                          refine step_sl1 (hh x) (hh_length x) (by rfl) (by rfl) ?_
                          have HB7 := Lib.hid (heap_alloc_last v2 (.cells (hv (hh x)) 27))
                          have CC := Lib.hid (CC.out.kb (below_al11 v2 (.cells (hv (hh x)) 27)))
                          have YY := Lib.hid (YY.out.kb (below_al11 v2 (.cells (hv (hh x)) 27)))
                          generalize v2.alloc (.cells (hv (hh x)) 27) = v3 at *
                          generalize v2.heap.size = b7 at *
                          refine hK.out _ _ ((IOwns.seen YY.out.p).cell' HX.out) (fun hHeld => ?_)
                          clear hK K
                          try simp only [Act.put, List.setIfInBounds_toArray, List.set_cons_zero, List.set_cons_succ]
                          refine wpAnyH_ready (rs := [8]) (by kernel_rfl) (by simp) ?_
                          refine (AllReadyH.cons (by simp only [List.getElem?_toArray, List.getElem?_cons_succ, List.getElem?_cons_zero]; rfl) (fun K hK => ?_) AllReadyH.nil)
                          refine step_pushh rfl _ _ rfl W0.heap.size (.slice p m c) ps b7 (hh x) (hh_length x) (by rfl) CC.out.own (by rfl) HB7.out (by rw [← HM.out]; have := HM2.out; omega) YY.out.bel.size (m + 1) (by rw [HM.out]) ?_
                          intro p9 c9 v4 o9 oth9 loc9
                          have hpush := CC.out.push o9 oth9 (hh_length x)
                          have hc9 := cm_cell CC.out.hh (CC.out.mid oth9)
                          have hf9 : v4.frozen? ⟨cb, 32, none⟩ = false := frozen_of_row _ _ _ _ _ (CC.out.mid oth9)
                          have YH := Lib.hid (YY.out.half CC.out oth9)
                          have CN := Lib.hid hpush.1
                          have YN := Lib.hid (YY.out.far CC.out hpush.2)
                          clear hpush o9 oth9 loc9
                          refine hK.out _ _ ((IOwns.seen YH.out.p).cell' HX.out) (fun hHeld => ?_)
                          clear hK K
                          try simp only [Act.put, List.setIfInBounds_toArray, List.set_cons_zero, List.set_cons_succ]
                          refine wpAnyH_take (i := 9) (v := ?_) (by simp only [List.getElem?_toArray, List.getElem?_cons_succ, List.getElem?_cons_zero]; rfl) (by kernel_rfl) (by kernel_rfl) (by kernel_rfl) (fun _ _ _ h => h) (Or.inl ⟨by rfl, ?_⟩) (by assumption) ?_
                          rotate_left
                          · intro w hSw
                            try dsimp only at hSw
                            go_simp
                            try with_reducible rfl
                          try simp only [Act.put, List.setIfInBounds_toArray, List.set_cons_zero, List.set_cons_succ]
                          refine wpAnyH_ready (rs := [10]) (by kernel_rfl) (by simp) ?_
                          refine (AllReadyH.cons (by simp only [List.getElem?_toArray, List.getElem?_cons_succ, List.getElem?_cons_zero]; rfl) (fun K hK => ?_) AllReadyH.nil)
                          go_simp
                          generalize v4.setCell ⟨cb, 32, none⟩ (.slice p9 (m + 1) c9) = v5 at *
                          refine hK.out _ _ ((IOwns.seen YN.out.p).cell' HX.out) (fun hHeld => ?_)
                          clear hK K
                          try simp only [Act.put, List.setIfInBounds_toArray, List.set_cons_zero, List.set_cons_succ]
                          refine wpAnyH_done (by kernel_rfl) ?_ _
                          refine NoPanic.normal ?_
                          go_wp2_with fail
                          refine ⟨⟨j + 1, p9, c9, m + 1, ps ++ [hh x], by rw [hj1], HJ.out, Lib.hid (by rw [HM.out, List.length_append]; rfl), Nat.succ_le_succ HMJ.out, CN, YN⟩, ?_⟩
                          rw [hj1]; simp only [intOf]; have := HJ.out; omega
                        · refine step_sl1 (hh x) (hh_length x) (by rfl) (by rfl) ?_
                          have HB7 := Lib.hid (heap_alloc_last v2 (.cells (hv (hh x)) 27))
                          have CC := Lib.hid (CC.out.kb (below_al11 v2 (.cells (hv (hh x)) 27)))
                          have YY := Lib.hid (YY.out.kb (below_al11 v2 (.cells (hv (hh x)) 27)))
                          generalize v2.alloc (.cells (hv (hh x)) 27) = v3 at *
                          generalize v2.heap.size = b7 at *
                          refine hK.out _ _ ((IOwns.seen YY.out.p).cell' HX.out) (fun hHeld => ?_)
                          clear hK K
                          try simp only [Act.put, List.setIfInBounds_toArray, List.set_cons_zero, List.set_cons_succ]
                          refine wpAnyH_ready (rs := [1]) (by kernel_rfl) (by simp) ?_
                          refine (AllReadyH.cons (by simp only [List.getElem?_toArray, List.getElem?_cons_succ, List.getElem?_cons_zero]; rfl) (fun K hK => ?_) AllReadyH.nil)
                          have cL := CC.out.par
                          go_simp
                          clear cL
                          refine hK.out _ _ ((IOwns.seen YY.out.p).cell' HX.out) (fun hHeld => ?_)
                          clear hK K
                          try simp only [Act.put, List.setIfInBounds_toArray, List.set_cons_zero, List.set_cons_succ]
                          refine wpAnyH_ready (rs := [8]) (by kernel_rfl) (by simp) ?_
                          refine (AllReadyH.cons (by simp only [List.getElem?_toArray, List.getElem?_cons_succ, List.getElem?_cons_zero]; rfl) (fun K hK => ?_) AllReadyH.nil)
                          refine step_pushh rfl _ _ rfl W0.heap.size (.slice p m c) ps b7 (hh x) (hh_length x) (by rfl) CC.out.own (by rfl) HB7.out (by rw [← HM.out]; have := HM2.out; omega) YY.out.bel.size (m + 1) (by rw [HM.out]) ?_
                          intro p9 c9 v4 o9 oth9 loc9
                          have hpush := CC.out.push o9 oth9 (hh_length x)
                          have hc9 := cm_cell CC.out.hh (CC.out.mid oth9)
                          have hf9 : v4.frozen? ⟨cb, 32, none⟩ = false := frozen_of_row _ _ _ _ _ (CC.out.mid oth9)
                          have YH := Lib.hid (YY.out.half CC.out oth9)
                          have CN := Lib.hid hpush.1
                          have YN := Lib.hid (YY.out.far CC.out hpush.2)
                          clear hpush o9 oth9 loc9
                          refine hK.out _ _ ((IOwns.seen YH.out.p).cell' HX.out) (fun hHeld => ?_)
                          clear hK K
                          try simp only [Act.put, List.setIfInBounds_toArray, List.set_cons_zero, List.set_cons_succ]
                          refine wpAnyH_take (i := 9) (v := ?_) (by simp only [List.getElem?_toArray, List.getElem?_cons_succ, List.getElem?_cons_zero]; rfl) (by kernel_rfl) (by kernel_rfl) (by kernel_rfl) (fun _ _ _ h => h) (Or.inl ⟨by rfl, ?_⟩) (by assumption) ?_
                          rotate_left
                          · intro w hSw
                            try dsimp only at hSw
                            go_simp
                            try with_reducible rfl
                          try simp only [Act.put, List.setIfInBounds_toArray, List.set_cons_zero, List.set_cons_succ]
                          refine wpAnyH_ready (rs := [10]) (by kernel_rfl) (by simp) ?_
                          refine (AllReadyH.cons (by simp only [List.getElem?_toArray, List.getElem?_cons_succ, List.getElem?_cons_zero]; rfl) (fun K hK => ?_) AllReadyH.nil)
                          go_simp
                          generalize v4.setCell ⟨cb, 32, none⟩ (.slice p9 (m + 1) c9) = v5 at *
                          refine hK.out _ _ ((IOwns.seen YN.out.p).cell' HX.out) (fun hHeld => ?_)
                          clear hK K
                          try simp only [Act.put, List.setIfInBounds_toArray, List.set_cons_zero, List.set_cons_succ]
                          refine wpAnyH_done (by kernel_rfl) ?_ _
                          refine NoPanic.normal ?_
                          go_wp2_with fail
                          refine ⟨⟨j + 1, p9, c9, m + 1, ps ++ [hh x], by rw [hj1], HJ.out, Lib.hid (by rw [HM.out, List.length_append]; rfl), Nat.succ_le_succ HMJ.out, CN, YN⟩, ?_⟩
                          rw [hj1]; simp only [intOf]; have := HJ.out; omega
                    · have hjl : ¬ (j : Int) < n8 := by omega
                      have HM2 : Hid (m ≤ 2) := Lib.hid (by have := HL8.out; omega)
                      have HPL : Hid (ps.length ≤ 10) := Lib.hid (by rw [← HM.out]; have := HM2.out; omega)
                      clear hmj hlt hj
                      have RT := Lib.hid (RR0.out.kb YY.out.bel)
                      have XT := Lib.hid (XX0.out.kb YY.out.bel)
                      have t0 := RT.out.c0.1
                      have hcl := cld_range (w := wr) (p := cb) (o := 0) (h := h) (u := .slice p m c) CC.out.hh (by have := range_row CC.out.cell; rwa [cmv_list] at this)
                      have BA := Lib.hid (below_al11 wr (.cells (cf [(h, .slice p m c)]).toArray 32))
                      have RA := Lib.hid (RT.out.kb BA.out)
                      have SU : Hid (∀ j, (Value.slice p m c).ownBlock = some j → (Value.slice ph mh ch).ownBlock ≠ some j) := Lib.hid (fun j hj e => by
                        have h1 := own_from CC.out.own j hj
                        obtain ⟨_, h2, _⟩ := own_type RR0.out.heads e
                        have := (Array.getElem?_eq_some_iff.1 h2).1
                        omega)
                      go_upto_region 49 with (first
                        | (refine slicec_w (C := [(h, .slice p m c)]) (by simpa using HH32.out) rfl (by simp) (by simp) ?hv ?hw ?_; (case hv => first | rfl | simp [Act.put, Act.eval]); (case hw => first | rfl | simp [Region.wanted, yielded]))
                        | (at_builtin; refine push_comm rfl (.tmp 220) (.tmp 222) rfl (b := wr.heap.size) (h := h) (u := .slice p m c) (ps := ps) (w0 := w) rfl rfl (heap_alloc_last wr _) RA.out HNC.out (XT.out.kb BA.out) HH32.out CC.out.p32 HPL.out (own_mono (own_below CC.out.own BA.out) (XX0.out.hB ▸ XX0.out.bel.size)) SU.out NCB.out ?_; intro g5 c5 w5 hc5 hf5 R5 X5 o5; have R5 := Lib.hid R5; have X5 := Lib.hid X5; have O5 := Lib.hid o5; clear o5))
                      obtain ⟨f1, f2, f3⟩ := RA.out.apart O5.out
                      have HT6 := Lib.hid (f1 _ _ ((HTR.out.kb YY.out.bel).kb BA.out))
                      have HO6 := Lib.hid (f2 _ _ _ _ (own_below YY.out.p BA.out))
                      have HI6 := Lib.hid (f3 _ _ ((HIN.out.kb YY.out.bel).kb BA.out))
                      clear f1 f2 f3 O5 BA RA t0 hcl hc5 hf5
                      generalize w5.setCell ⟨rb, 0, none⟩ (.slice (some ⟨g5, 0, none⟩) (nC + 1) c5) = W6 at *
                      have E0 : Hid ((W6.alloc (.cells #[] 3)).ownsRow W6.heap.size 3 1 (.slice (some ⟨W6.heap.size, 0, none⟩) 0 0) 0 []) := Lib.hid (own_empty W6 _ _ (Nat.le_refl _))
                      have BE := Lib.hid (below_al11 W6 (.cells #[] 3))
                      have HTA := Lib.hid (HT6.out.kb BE.out)
                      have N8 : Hid ((Value.slice p8 n8 c8).ownBlock ≠ some W6.heap.size) := Lib.hid (fun hj => by obtain ⟨_, h1, _⟩ := own_type HO6.out hj; have := (Array.getElem?_eq_some_iff.1 h1).1; omega)
                      have OA := Lib.hid (own_below HO6.out BE.out)
                      go_wp2_with (first
                        | (at_builtin; refine push_app_ints rfl (.tmp 227) (.tmp 228) rfl W6.heap.size (.slice (some ⟨g2, 0, none⟩) m1 c2) (.slice p8 n8 c8) m1 (m1 + n8) tl l8 (by simp) rfl O2.out HM1.out rfl O7.out (by rw [HN8.out]) (by have := HMB2.out; have := HL8.out; omega) BV.out.size ?_; intro g3 c3 w8 o3 oth3 loc3; have B8' := Lib.hid (BV.out.trans (oth3.below BV.out.size (fun k hk => own_from O2.out k hk))); have HTN : Hid (Td w8 B (.slice (some ⟨g3, 0, none⟩) (m1 + n8) c3) (tl ++ l8)) := Lib.hid (Td.own (A := W6.heap.size) (by unfold IOwns; rw [List.length_append, ← HM1.out, ← HN8.out]; exact o3)); clear o3 oth3 loc3)
                        | (at_builtin; refine push_app_ints rfl (.tmp 225) (.tmp 226) rfl W6.heap.size (.slice (some ⟨W6.heap.size, 0, none⟩) 0 0) (.slice q m1 c1) 0 m1 [] tl (by simp) rfl E0.out rfl rfl HTA.out.seen (by rw [HM1.out, Nat.zero_add]) (by have := HMB2.out; omega) BE.out.size ?_; intro g2 c2 w7 o2 oth2 loc2; have O2 : Hid (w7.ownsRow W6.heap.size 3 1 (.slice (some ⟨g2, 0, none⟩) m1 c2) m1 (tl.map (Value.int .i64))) := Lib.hid o2; have BV := Lib.hid (BE.out.trans (oth2.below BE.out.size (fun k hk => own_from E0.out k hk))); have O7 : Hid (ISeen w7 (.slice p8 n8 c8) l8) := Lib.hid (IOwns.seen (B := B8) (by unfold IOwns; rw [← HN8.out]; exact own_keep (by have := OA.out; rwa [← HN8.out] at this) oth2 (fun j hj e => N8.out (hj.trans e.symm)))); clear o2 oth2 loc2)
                        | (refine push_empty rfl rfl ?_))
                      refine ⟨⟨some ⟨g3, 0, none⟩, m1 + n8, c3, tl ++ l8, bs5, some ⟨g5, 0, none⟩, nC + 1, c5, C ++ [(h, .slice p m c)], cs ++ [(h, ps)], rfl, Lib.hid (by rw [List.length_append, ← HM1.out, ← HN8.out]), Lib.hid (by have := HMB.out; have := HLS.out; have := HLB.out; have := HL8.out; omega), Lib.hid (by have := HN72.out; have := HLS.out; omega), Lib.hid (by rw [HNC.out, List.length_append]; rfl), HTN, Lib.hid (HI6.out.kb B8'.out), Lib.hid (R5.out.kb B8'.out), Lib.hid (X5.out.kb B8'.out)⟩, ?_⟩
                      rw [(HI6.out.kb B8'.out).lfw, HLF.out]
                      simp only [slen]; have := HLS.out; have := HL8.out; omega
        · go_wp2_with fail
          go_meet
          case rel => exact ⟨pc, nC, cc, C, cs, Nat.le_trans HN12.out (by decide), HNC, RR, XX⟩
      case rest =>
        clear RR XX
        obtain ⟨pc, nC, cc, C, cs, hn72, HNC, RR, XX⟩ := hcut
        have HN72 := Lib.hid hn72
        clear hn72
        obtain ⟨x0, x1, x2, x3⟩ := XX.out.c
        have hcs : how % 50 = 0 ∨ how % 50 = 1 ∨ (¬ how % 50 = 0 ∧ ¬ how % 50 = 1) := by omega
        rcases hcs with hc | hc | ⟨hc0, hc1⟩
        · have HPW := Lib.hid (fun W : World => pick_to W how 50 0 (by decide) (by decide) hc)
          have hr2 := RR.out.c0.2.2
          have hf2 := RR.out.free 2
          clear hc
          go_upto_region 55 with (go_at_call 5; refine (HPW.out _).mono ?_; rintro e wz ⟨rfl, rfl⟩)
          have RF := Lib.hid (RR.out.grp grp).1
          have XF := Lib.hid (XX.out.far ((RR.out.grp grp).2.mono (T := fun j => j = rb ∨ (Value.slice ph mh ch).ownBlock = some j) fun j _ hj => .inl hj) RR.out.heads (by decide) RR.out.lo RR.out.cell)
          generalize wc.setCell ⟨rb, 2, none⟩ (.int .i64 grp) = W5 at *
          clear x0 x1 x2 x3 hr2 hf2
          obtain ⟨z0, z1, z2⟩ := RF.out.c0
          have zz : ∀ i, W5.frozen? ⟨rz, i, none⟩ = false := fun i => frozen_of_row _ _ _ _ _ XF.out.zero
          have zr : ∀ i u, (#[.slice none 0 0, .slice none 0 0, .int .i64 0] : Array Value)[i]? = some u → W5.cell? ⟨rz, i, none⟩ = some u := fun i u hu => by rw [cell_of_row W5 rz i _ _ _ XF.out.zero]; exact hu
          have q0 := zr 0 _ rfl
          have q1 := zr 1 _ rfl
          have q2 := zr 2 _ rfl
          have y0 := zz 0
          have y1 := zz 1
          have y2 := zz 2
          clear zz zr
          have hd := XF.out.done RF.out HRZ.out (.slice pc nC cc) (.slice ph mh ch) (.int .i64 grp)
          have HD1 := Lib.hid hd.1
          have HD2 := Lib.hid hd.2.1
          have HD3 := Lib.hid hd.2.2
          clear hd
          go_wp2_with fail
          generalize ((W5.setCell ⟨rz, 0, none⟩ (.slice pc nC cc)).setCell ⟨rz, 1, none⟩ (.slice ph mh ch)).setCell ⟨rz, 2, none⟩ (.int .i64 grp) = W6 at *
          have k0 : W6.cell? ⟨rz, 0, none⟩ = some (.slice pc nC cc) := by rw [cell_of_row W6 rz 0 _ _ _ HD1.out]; rfl
          have k1 : W6.cell? ⟨rz, 1, none⟩ = some (.slice ph mh ch) := by rw [cell_of_row W6 rz 1 _ _ _ HD1.out]; rfl
          have k2 : W6.cell? ⟨rz, 2, none⟩ = some (.int .i64 grp) := by rw [cell_of_row W6 rz 2 _ _ _ HD1.out]; rfl
          obtain ⟨s1, s2, s3, s4, s5⟩ := HD2.out.seen
          have S1 := Lib.hid s1
          have S2 := Lib.hid s2
          have S3 := Lib.hid s3
          have S4 := Lib.hid s4
          have S5 := Lib.hid s5
          clear s1 s2 s3 s4 s5
          refine bodyPost_ret (v := .agg #[(.slice pc nC cc), (.slice ph mh ch), .int .i64 grp]) ?_ rfl ?_
          · have hres : Try.f13.results = #[.cell 2 44] := by kernel_rfl
            simp only [results, hres]
            go_simp
          exact ⟨_, _, _, cs, hs, rfl, S1.out, S2.out, S3.out, S4.out, S5.out, by rw [← HD2.out.len, ← HNC.out]; have := HN72.out; omega, (by rw [← HMH.out]; have := HM4.out; omega), HD3.out, HD2.out.form, (by rw [← HD2.out.len, ← HNC.out]; have := HN72.out; omega), fun S V hS ho => HD2.out.far (fun j h => by rw [XF.out.hB]; exact hS j h) ho⟩
        · have HPW := Lib.hid (fun W : World => pick_to W how 50 1 (by decide) (by decide) hc)
          clear hc
          have hr1 := RR.out.c0.2.1
          obtain ⟨h9, hb9, hl9⟩ : ∃ h9 : Key, Try.prog.built 27 [(0, .int .u8 9)] = some (hv h9) ∧ h9.length = 32 := ⟨kn 9, kn_built 9, rfl⟩
          have HB9 := Lib.hid hb9
          have HL9 := Lib.hid hl9
          clear hb9 hl9
          have RA := Lib.hid (RR.out.kb (below_al11 wc (.cells (hv h9) 27)))
          have XA := Lib.hid (XX.out.kb (below_al11 wc (.cells (hv h9) 27)))
          have HA9 := Lib.hid (heap_alloc_last wc (.cells (hv h9) 27))
          go_upto_region 54 with (go_at_call 5; refine (HPW.out _).mono ?_; rintro e wz ⟨rfl, rfl⟩)
          clear x0 x1 x2 x3
          go_upto_region 55 with (first
            | (at_builtin; refine push_hash11 rfl (.tmp 241) (.tmp 243) rfl B (.slice ph mh ch) hs wc.heap.size h9 HL9.out rfl RA.out.heads rfl HA9.out (by rw [← HMH.out]; have := HM4.out; omega) (by rw [XA.out.hB]; exact XA.out.bel.size) (mh + 1) (by rw [HMH.out]) ?_; intro p9 c9 w9 o9 oth9 loc9; have hc9 : w9.cell? ⟨rb, 1, none⟩ = some (.slice ph mh ch) := (by rw [cell_of_row w9 rb 1 _ _ _ (RA.out.hmid oth9)]; rfl); have hf9 : w9.frozen? ⟨rb, 1, none⟩ = false := frozen_of_row _ _ _ _ _ (RA.out.hmid oth9); have hpush := RA.out.head HL9.out o9 oth9 loc9; have RF := Lib.hid hpush.1; have XF := Lib.hid (XA.out.far hpush.2 RA.out.heads (by decide) RA.out.lo RA.out.cell); clear hpush o9 oth9 loc9; clear hr1; go_upto_region 55 with fail)
            | (refine build_one h9 HL9.out rfl ?_)
            | (refine build_w (t := 27) (vals := #[(0, .int .u8 9)]) HB9.out ?hv ?hw ?_; (case hv => first | rfl | simp [Act.put, Act.eval]); (case hw => first | rfl | simp [Region.wanted, yielded])))
          generalize w9.setCell ⟨rb, 1, none⟩ (.slice p9 (mh + 1) c9) = W5 at *
          clear hc9 hf9
          obtain ⟨z0, z1, z2⟩ := RF.out.c0
          have zz : ∀ i, W5.frozen? ⟨rz, i, none⟩ = false := fun i => frozen_of_row _ _ _ _ _ XF.out.zero
          have zr : ∀ i u, (#[.slice none 0 0, .slice none 0 0, .int .i64 0] : Array Value)[i]? = some u → W5.cell? ⟨rz, i, none⟩ = some u := fun i u hu => by rw [cell_of_row W5 rz i _ _ _ XF.out.zero]; exact hu
          have q0 := zr 0 _ rfl
          have q1 := zr 1 _ rfl
          have q2 := zr 2 _ rfl
          have y0 := zz 0
          have y1 := zz 1
          have y2 := zz 2
          clear zz zr
          have hd := XF.out.done RF.out HRZ.out (.slice pc nC cc) (.slice p9 (mh + 1) c9) (.int .i64 g)
          have HD1 := Lib.hid hd.1
          have HD2 := Lib.hid hd.2.1
          have HD3 := Lib.hid hd.2.2
          clear hd
          go_wp2_with fail
          generalize ((W5.setCell ⟨rz, 0, none⟩ (.slice pc nC cc)).setCell ⟨rz, 1, none⟩ (.slice p9 (mh + 1) c9)).setCell ⟨rz, 2, none⟩ (.int .i64 g) = W6 at *
          have k0 : W6.cell? ⟨rz, 0, none⟩ = some (.slice pc nC cc) := by rw [cell_of_row W6 rz 0 _ _ _ HD1.out]; rfl
          have k1 : W6.cell? ⟨rz, 1, none⟩ = some (.slice p9 (mh + 1) c9) := by rw [cell_of_row W6 rz 1 _ _ _ HD1.out]; rfl
          have k2 : W6.cell? ⟨rz, 2, none⟩ = some (.int .i64 g) := by rw [cell_of_row W6 rz 2 _ _ _ HD1.out]; rfl
          obtain ⟨s1, s2, s3, s4, s5⟩ := HD2.out.seen
          have S1 := Lib.hid s1
          have S2 := Lib.hid s2
          have S3 := Lib.hid s3
          have S4 := Lib.hid s4
          have S5 := Lib.hid s5
          clear s1 s2 s3 s4 s5
          refine bodyPost_ret (v := .agg #[(.slice pc nC cc), (.slice p9 (mh + 1) c9), .int .i64 g]) ?_ rfl ?_
          · have hres : Try.f13.results = #[.cell 2 44] := by kernel_rfl
            simp only [results, hres]
            go_simp
          exact ⟨_, _, _, cs, (hs ++ [h9]), rfl, S1.out, S2.out, S3.out, S4.out, S5.out, by rw [← HD2.out.len, ← HNC.out]; have := HN72.out; omega, (by rw [List.length_append, ← HMH.out]; have := HM4.out; simp; omega), HD3.out, HD2.out.form, (by rw [← HD2.out.len, ← HNC.out]; have := HN72.out; omega), fun S V hS ho => HD2.out.far (fun j h => by rw [XF.out.hB]; exact hS j h) ho⟩
        · have HPW := Lib.hid (fun W : World => pick_any W how 50 (by decide) (by decide))
          generalize how % 50 = r at *
          go_upto_region 55 with (go_at_call 5; refine (HPW.out _).mono ?_; rintro e wz ⟨rfl, rfl⟩)
          have RF := RR
          have XF := XX
          clear x0 x1 x2 x3 RR XX
          generalize wc = W5 at *
          obtain ⟨z0, z1, z2⟩ := RF.out.c0
          have zz : ∀ i, W5.frozen? ⟨rz, i, none⟩ = false := fun i => frozen_of_row _ _ _ _ _ XF.out.zero
          have zr : ∀ i u, (#[.slice none 0 0, .slice none 0 0, .int .i64 0] : Array Value)[i]? = some u → W5.cell? ⟨rz, i, none⟩ = some u := fun i u hu => by rw [cell_of_row W5 rz i _ _ _ XF.out.zero]; exact hu
          have q0 := zr 0 _ rfl
          have q1 := zr 1 _ rfl
          have q2 := zr 2 _ rfl
          have y0 := zz 0
          have y1 := zz 1
          have y2 := zz 2
          clear zz zr
          have hd := XF.out.done RF.out HRZ.out (.slice pc nC cc) (.slice ph mh ch) (.int .i64 g)
          have HD1 := Lib.hid hd.1
          have HD2 := Lib.hid hd.2.1
          have HD3 := Lib.hid hd.2.2
          clear hd
          go_wp2_with fail
          generalize ((W5.setCell ⟨rz, 0, none⟩ (.slice pc nC cc)).setCell ⟨rz, 1, none⟩ (.slice ph mh ch)).setCell ⟨rz, 2, none⟩ (.int .i64 g) = W6 at *
          have k0 : W6.cell? ⟨rz, 0, none⟩ = some (.slice pc nC cc) := by rw [cell_of_row W6 rz 0 _ _ _ HD1.out]; rfl
          have k1 : W6.cell? ⟨rz, 1, none⟩ = some (.slice ph mh ch) := by rw [cell_of_row W6 rz 1 _ _ _ HD1.out]; rfl
          have k2 : W6.cell? ⟨rz, 2, none⟩ = some (.int .i64 g) := by rw [cell_of_row W6 rz 2 _ _ _ HD1.out]; rfl
          obtain ⟨s1, s2, s3, s4, s5⟩ := HD2.out.seen
          have S1 := Lib.hid s1
          have S2 := Lib.hid s2
          have S3 := Lib.hid s3
          have S4 := Lib.hid s4
          have S5 := Lib.hid s5
          clear s1 s2 s3 s4 s5
          refine bodyPost_ret (v := .agg #[(.slice pc nC cc), (.slice ph mh ch), .int .i64 g]) ?_ rfl ?_
          · have hres : Try.f13.results = #[.cell 2 44] := by kernel_rfl
            simp only [results, hres]
            go_simp
          exact ⟨_, _, _, cs, hs, rfl, S1.out, S2.out, S3.out, S4.out, S5.out, by rw [← HD2.out.len, ← HNC.out]; have := HN72.out; omega, (by rw [← HMH.out]; have := HM4.out; omega), HD3.out, HD2.out.form, (by rw [← HD2.out.len, ← HNC.out]; have := HN72.out; omega), fun S V hS ho => HD2.out.far (fun j h => by rw [XF.out.hB]; exact hS j h) ho⟩
end Go.Proofs.Ytnpeahbbcolfmaa
namespace Go.Proofs.Ytnpeahbbcolfmaa
open Go.RowKit Go.Extern.Stop Go.Stop Go.Extern
open Go.Maps
set_option linter.unusedSimpArgs false in
set_option maxRecDepth 20000 in
set_option maxHeartbeats 16000000 in
attribute [local go_sem ↓] hld_open cld_open hne_open in
theorem rise_to (w : World) (p : Option Addr) (n cap : Nat) (E : List Rq) (hn : n = E.length) (hE : RqSeen w p E) :
    Calls Try.prog 4 #[.slice p n cap] w fun e w' => e = .returned (.bool true) ∧ Below w.heap.size w w' := by
  have HE := Lib.hid hE
  have HN := Lib.hid hn
  clear hE hn
  have hne := nn_iface
  have hnn := nn_nil
  go_enter Try.func4, Try.ntmps4
  go_wp2_with fail
  refine (new_to w).mono ?_
  rintro e w1 ⟨rfl, g1, b1⟩
  have K1 : Hid (Ks w w1 [] (w.heap.size + 1) w.heap.size [] []) := Lib.hid (Ks.mk b1 (fun _ h => nomatch h) g1 (Nat.le_refl _) (fun _ h => nomatch h))
  clear b1 g1
  generalize w.heap.size + 1 = g at *
  generalize hmb : w.heap.size = bm at K1
  clear hmb
  have hnp : ∀ w : World, (binOp .eql 23 (gp g) (.pointer none)).run Try.prog w = .ok (.bool false) w := fun w => by kernel_rfl
  go_wp2_with fail
  refine (idsnew_to w1 600 (by decide) (by decide)).mono ?_
  rintro e w2 ⟨rfl, i2, b2⟩
  have J2 : Hid (∃ i nb, i = w1.heap.size + 1 ∧ Jo w w2 g bm i nb [] 600 (.slice none 0 0) (.slice none 0 0) [] []) := Lib.hid ⟨_, _, rfl, ⟨K1.out.kb b2, (show (fun _ => none) = idn [] [] from rfl) ▸ i2.lower K1.out.bel.size, Wf.nil, In13.nil _, (fun e => by have := K1.out.ga.at_.mp.lt; omega), fun x hx => by cases hx⟩⟩
  clear i2 b2 K1
  obtain ⟨i, nb, hi, j2⟩ := J2.out
  rw [← hi]
  have J3 := Lib.hid j2
  have hin := ip_nn i
  clear J2 j2 hi
  go_wp2_with fail
  refine (known13_to w2).mono ?_
  rintro e w3 ⟨rfl, b3⟩
  have J4 := Lib.hid (J3.out.kb b3)
  clear b3 J3
  go_wp2_with fail
  go_loopw [6, 7] (fun v6 v7 wr => ∃ (k : Nat) (pm : Option Addr) (nm cm : Nat), v6 = .slice pm nm cm ∧ v7 = .int .i64 k ∧ k ≤ n ∧ k ≤ 8 ∧ Hid (∃ X mv ov ms os mh, Jo w wr g bm i nb X 600 mv ov ms os ∧ Al13 (gr X) ms os mh ∧ Mh w wr w.heap.size X i nb bm g mv ov (.slice pm nm cm) mh ∧ mh.length ≤ k * 100 ∧ (gr X).length ≤ k * 72)) (fun _ v7 _ => 8 - (intOf v7).toNat)
  case atStart => exact ⟨0, none, 0, 0, rfl, rfl, Nat.zero_le _, Nat.zero_le _, Lib.hid ⟨[], _, _, [], [], [], J4.out, Al13.nil, ⟨World.ownsRow_nil _ _ _ _, H32.nil, (fun _ h => by cases h), fun x hx => by cases hx⟩, Nat.zero_le _, Nat.zero_le _⟩⟩
  case round =>
    clear J4
    obtain ⟨k, pm, nm, cm, rfl, rfl, hk, hk8, HX⟩ := hrel
    obtain ⟨X, mv, ov, ms, os, mh, j0, a0, m0, l0, g0⟩ := HX.out
    have J := Lib.hid j0
    have A := Lib.hid a0
    have M := Lib.hid m0
    have HML := Lib.hid l0
    have HGL := Lib.hid g0
    clear HX j0 a0 m0 l0 g0
    by_cases hlt : k < n ∧ k < 8
    · obtain ⟨h1, h2⟩ := hlt
      have hl1 : (k : Int) < n := by omega
      have hl2 : (k : Int) < 8 := by omega
      have hl0 : (0 : Int) ≤ k := by omega
      have HJK : Hid (wrap64 ((k : Int) + 1) = ((k + 1 : Nat) : Int)) := Lib.hid (by unfold wrap64; omega)
      have HI8 := Lib.hid h2
      have HIN := Lib.hid h1
      have hiE : k < E.length := by rw [← HN.out]; exact h1
      obtain ⟨b, o, x, rfl, hxin, c0, c1, c2, c3⟩ := HE.out.get J.out.k.bel hiE
      have HRQ := Lib.hid (request72_to wr x.vL x.vH x.grp x.how x.L x.hs hxin.1 hxin.2)
      clear hiE h1 h2 hk hk8 hxin
      go_wp2_with fail
      refine HRQ.out.mono ?_
      rintro e w3 ⟨vc, vh, gg, cs, hs, rfl, hcs, hhs, hok, h32, hp10, hcl, hhl, b3, _, h72, hkp⟩
      obtain ⟨pc, cc, rfl, _⟩ := id hcs
      obtain ⟨ph, ch, rfl⟩ := hhs.shape
      obtain ⟨m, hm⟩ : ∃ m, m = cs.length := ⟨_, rfl⟩
      obtain ⟨mh0, hmh0⟩ : ∃ m, m = hs.length := ⟨_, rfl⟩
      rw [← hm] at hkp hcs ⊢
      rw [← hmh0] at hkp hhs ⊢
      have AL := below_al11 w3 (.cells #[.slice pc m cc, .slice ph mh0 ch, .int .i64 gg] 44)
      have RB := Lib.hid (heap_alloc_last w3 (.cells #[.slice pc m cc, .slice ph mh0 ch, .int .i64 gg] 44))
      have KP := Lib.hid (fun (V : World) (ho : Only (fun j => j = bm ∨ iS i nb mv ov j) w3 V) => hkp _ V (fun j hj => by
        rcases hj with rfl | hj
        · exact J.out.k.ga.at_.mp.lt
        · exact J.out.a.lt j hj) ho)
      have J4 := Lib.hid ((J.out.kb b3).kb AL)
      have M4 := Lib.hid ((M.out.kb b3).kb AL)
      have T4 : Hid (Only (fun j => j = bm ∨ iS i nb mv ov j) w3 (w3.alloc (.cells #[.slice pc m cc, .slice ph mh0 ch, .int .i64 gg] 44))) := Lib.hid (Only.of_below (S := fun j => j = bm ∨ iS i nb mv ov j) AL)
      have HOK := Lib.hid hok
      have HH32 := Lib.hid h32
      have HP10 := Lib.hid hp10
      have HCL := Lib.hid h72
      have HHL := Lib.hid hhl
      have HMC := Lib.hid hm
      have HMH := Lib.hid hmh0
      clear hcs hhs hok h32 hp10 hcl hhl h72 hkp b3 hm hmh0 c0 c1 c2 c3 J M AL HRQ
      go_upto_region 10 with fail
      generalize w3.alloc (.cells #[.slice pc m cc, .slice ph mh0 ch, .int .i64 gg] 44) = w4 at *
      generalize w3.heap.size = rb at *
      have hr0 := cell_obj RB.out 0 rfl
      have hr1 := cell_obj RB.out 1 rfl
      have hr2 := cell_obj RB.out 2 rfl
      have kp4 := KP.out w4 T4.out
      have HCK := Lib.hid (check_to w4 g bm X (.slice pc m cc) (.slice ph mh0 ch) gg cs hs J4.out.k.ga (J4.out.wf.xlen) (J4.out.wf.parm 1000 (by decide)) kp4.1 kp4.2 HOK.out HH32.out (Nat.le_trans HCL.out (by decide)) (fun c hc => Nat.le_trans (HP10.out c hc) (by decide)) (Nat.le_trans HHL.out (by decide)))
      clear kp4
      go_wp2_with fail
      refine HCK.out.mono ?_
      rintro e w5 ⟨x5, rfl, e5, b5⟩
      have J5 := Lib.hid (J4.out.kb b5)
      have M5 := Lib.hid (M4.out.kb b5)
      have RB5 := Lib.hid ((mild_below b5).cells RB.out)
      have T5 := Lib.hid (T4.out.trans (Only.of_below (S := fun j => j = bm ∨ iS i nb mv ov j) b5) (fun _ h => h) (fun _ _ h => h))
      clear hr0 hr1 hr2 HCK b5 J4 M4 RB T4
      rcases e5.form with ⟨hn5, rfl⟩ | ⟨hs5, t5, y5, rfl⟩
      · have F := Lib.hid (chk_fine.1 hn5)
        have hr0 := cell_obj RB5.out 0 rfl
        clear e5 hn5
        go_wp2_with fail
        refine (add_to w5 g bm X (.slice pc m cc) cs J5.out.k.ga J5.out.wf (KP.out w5 T5.out).1 HOK.out (Nat.le_trans HCL.out (by decide)) (fun c hc => Nat.le_trans (HP10.out c hc) (by decide))).mono ?_
        intro e w6 hp
        have hf2 : chk (gr X) 2 cs [] = none := chk_fine.2 F.out.add
        obtain ⟨x6, X', rfl, k6, _, hX, o6, f6⟩ := J5.out.k.addedF hp
        have ex := k6.err _ List.mem_cons_self
        rw [hf2] at ex
        obtain rfl : x6 = .nilIface := ex
        have hX := hX hf2
        have hWf : Wf (gr X') := by rw [hX]; exact add_wf J5.out.wf HOK.out F.out
        have md : Mild w5 w6 := mild_map J5.out.k.ga.at_.mp o6
        have J6 := Lib.hid (J5.out.grow k6.bare o6 f6 hWf (fun y hy => by rw [hX]; exact adds_old J5.out.wf y hy))
        have M6 := Lib.hid (M5.out.grow J5.out o6 f6)
        have RB6 := Lib.hid (md.cells RB5.out)
        have T6 := Lib.hid (T5.out.trans o6 (fun _ h => h) (fun _ _ h => Or.inl h))
        have HX := Lib.hid hX
        have AN := Lib.hid (Al13.new J5.out.wf HOK.out F.out A.out)
        have GL : Hid ((gr X').length ≤ (k + 1) * 72) := Lib.hid (by rw [hX]; have h1 := adds_len cs (gr X); have h2 := HGL.out; have h3 := HCL.out; omega)
        rw [← hX] at AN
        clear hp k6 hX o6 f6 hWf md hf2 J5 M5 RB5 T5 hr0
        have hr0 := cell_obj RB6.out 0 rfl
        have hr1 := cell_obj RB6.out 1 rfl
        have hr2 := cell_obj RB6.out 2 rfl
        have HUP := Lib.hid (iupdate_to w6 w.heap.size i nb 600 mv ov ms os J6.out.a g bm X' (fun V ho => J6.out.stay ho) J6.out.wf J6.out.inn (.slice pc m cc) (.slice ph mh0 ch) gg cs hs
          (fun V ho => KP.out V (T6.out.trans ho (fun _ h => h) (fun _ _ h => Or.inr h))) HOK.out HH32.out (Nat.le_trans HCL.out (by decide)) (Nat.le_trans HHL.out (by decide)))
        go_wp2_with fail
        refine HUP.out.mono ?_
        intro e w7 hup
        obtain ⟨rfl, ip7⟩ := up_post hup (by
          rintro ⟨_, h⟩
          have h1 := mup_len J6.out.wf (hs := hs) (List.nodup_append.1 J6.out.inn.nd).1 (fun y hy => J6.out.inn.inG y (List.mem_append_left _ hy))
          have h2 := GL.out
          have h3 := HI8.out
          have h4 : (k + 1) * 72 ≤ 8 * 72 := Nat.mul_le_mul_right _ (by omega)
          omega)
        obtain ⟨mv', ov', j7, t7, l7⟩ := J6.out.turn ip7 (J6.out.inn.new J6.out.wf gg hs cs)
        have M7 := Lib.hid (M6.out.turn J6.out t7 l7)
        have J7 := Lib.hid j7
        have HH7 := Lib.hid (KP.out w7 (T6.out.trans t7 (fun _ h => h) (fun _ _ h => Or.inr h))).2
        have RB7 := Lib.hid ((t7.block rb (Array.getElem?_eq_some_iff.1 RB6.out).1 (J6.out.a.off RB6.out (by decide) (by decide))).trans RB6.out)
        clear hup ip7 j7 t7 l7 hr0 hr1 hr2 HUP J6 M6 RB6 T6 KP
        generalize mNew (gr X') gg ms hs = ms' at *
        generalize oNew (gr X') gg ms os hs cs = os' at *
        have hr1 := cell_obj RB7.out 1 rfl
        have hr2 := cell_obj RB7.out 2 rfl
        go_upto_if 73 with fail
        go_cut [6] from 73 to 77 (fun v6 wz => ∃ (pm2 : Option Addr) (nm2 cm2 : Nat), v6 = .slice pm2 nm2 cm2 ∧ Hid (∃ mh2, Jo w wz g bm i nb X' 600 mv' ov' ms' os' ∧ Mh w wz w.heap.size X' i nb bm g mv' ov' (.slice pm2 nm2 cm2) mh2 ∧ Al13 (gr X') ms' os' mh2 ∧ mh2.length ≤ (k + 1) * 100))
        case first =>
          by_cases hg : gg = 1
          · subst hg
            have AN1 := AN.out
            rw [if_pos rfl] at AN1
            have HA1 := Lib.hid AN1
            have HBW : Hid (w.heap.size ≤ w7.heap.size) := Lib.hid J7.out.k.bel.size
            have HLN : Hid (mh.length + hs.length ≤ (k + 1) * 100) := Lib.hid (by have := HML.out; have := HHL.out; omega)
            have HLM : Hid (mh.length + hs.length ≤ 1000000) := Lib.hid (by have := HLN.out; have := HI8.out; omega)
            clear AN1
            go_wp2_with (first
              | (at_builtin; refine push_hs (by rfl) (.tmp 74) (.tmp 76) (by rfl) w.heap.size _ _ mh hs (by rfl) M7.out.own (by rfl) HH7.out HH32.out HLM.out HBW.out ?_; intro p2 c2 w8 o8 t8 l8 _; have M8 := Lib.hid (M7.out.push J7.out o8 (M7.out.h32.app HH32.out) t8 l8 (Nat.le_refl _)); clear o8 t8 l8))
            go_meet
            case rel => exact ⟨p2, _, c2, rfl, Lib.hid ⟨mh ++ hs, M8.out.2, M8.out.1, HA1.out, by rw [List.length_append]; exact HLN.out⟩⟩
          · have hge : (gg == 1) = false := by simp [hg]
            have AN1 := AN.out
            rw [if_neg hg] at AN1
            have HA1 := Lib.hid AN1
            clear AN1 hg
            go_wp2_with fail
            go_meet
            case rel => exact ⟨pm, nm, cm, rfl, Lib.hid ⟨mh, J7.out, M7.out, HA1.out, by have := HML.out; omega⟩⟩
        case rest =>
          obtain ⟨pm2, nm2, cm2, rfl, HR⟩ := hcut
          obtain ⟨mh2, j8, m8, a8, l8⟩ := HR.out
          rename World => wz
          have J8 := Lib.hid j8
          have M8 := Lib.hid m8
          have A8 := Lib.hid a8
          have L8 := Lib.hid l8
          clear HR j8 m8 a8 l8 J7 M7 AN HH7 RB7 HH32 HP10 HCL HHL HMC HMH HOK HML HGL A HX F hr1 hr2
          go_wp2_with fail
          refine (hashes_to wz g bm X' (Nat.le_trans J8.out.wf.xlen (by decide)) J8.out.k.ga).mono ?_
          rintro e w9 ⟨va, rfl, oa, b9⟩
          rw [← gr_keys] at oa
          obtain ⟨pa, la, ca, rfl, hla⟩ := own_sh oa
          have OA := Lib.hid oa
          have J9 := Lib.hid (J8.out.kb b9)
          have M9 := Lib.hid (M8.out.kb b9)
          have HLA := Lib.hid hla
          clear oa hla b9 J8 M8
          go_wp2_with fail
          refine (ancestors_to w9 g bm X' (.slice pm2 nm2 cm2) mh2 J9.out.k.ga (HSeen.own M9.out.own) M9.out.h32 (by have := L8.out; have := HI8.out; omega) (Nat.le_trans J9.out.wf.xlen (by decide)) J9.out.wf.clo (J9.out.wf.parm 1000 (by decide))).mono ?_
          rintro e wa ⟨vb, rfl, ob, ba⟩
          obtain ⟨pb, lb, cb, rfl, hlb⟩ := own_sh ob
          have OB := Lib.hid ob
          have OAa := Lib.hid (own_below OA.out ba)
          have Ja := Lib.hid (J9.out.kb ba)
          have Ma := Lib.hid (M9.out.kb ba)
          have HLB := Lib.hid hlb
          clear ob hlb ba J9 M9 OA
          obtain ⟨q1, n1, d1, rfl, e1⟩ := own_sh Ja.out.a.om
          obtain ⟨q2, n2, d2, rfl, e2⟩ := own_sh Ja.out.a.oo
          have hnl : n1 = lb := by rw [e1, HLB.out]; exact A8.out.lenM Ja.out.wf
          subst hnl
          have hsum : wrap64 ((n1 : Int) + (n2 : Int)) = (la : Int) := by
            have h1 := A8.out.lenA Ja.out.wf
            have h2 := Ja.out.inn.len Ja.out.wf
            have h3 := HLA.out
            unfold wrap64
            omega
          have hsum2 : IntKind.i64.wrap ((n1 : Int) + (n2 : Int)) = (la : Int) := by
            have h1 := A8.out.lenA Ja.out.wf
            have h2 := Ja.out.inn.len Ja.out.wf
            have h3 := HLA.out
            rw [IntWalk.i64_in _ (by omega)]
            omega
          have HAL : Hid (la ≤ 1000) := Lib.hid (by have := keys_len Ja.out.wf; rw [← HLA.out] at this; exact this)
          clear e1 e2
          go_wp2_with fail
          refine (masters_to Ja.out.a.im).mono ?_
          rintro e wo1 ⟨rfl, rfl⟩
          go_wp2_with fail
          refine (masters_to Ja.out.a.im).mono ?_
          rintro e wo2 ⟨rfl, rfl⟩
          go_wp2_with fail
          refine (others_to Ja.out.a.im).mono ?_
          rintro e wb ⟨rfl, rfl⟩
          go_wp2_with fail
          clear hsum hsum2
          go_loopw [11] (fun v11 wr => ∃ j : Nat, v11 = .int .i64 j ∧ j ≤ la ∧ Hid (Below wb.heap.size wb wr)) (fun v11 _ => la - (intOf v11).toNat)
          case atStart => exact ⟨0, rfl, Nat.zero_le _, Lib.hid (Below.refl _ _)⟩
          case round =>
            obtain ⟨j, rfl, hj, B⟩ := hrel
            rename World => wy
            by_cases hlt : j < la
            · have hl1 : (j : Int) < la := by omega
              obtain ⟨j1, j2, j3⟩ := next_fit hlt (by have := HAL.out; omega)
              have hjE : j < ((gr X').map (·.1)).length := by rw [← HLA.out]; exact hlt
              obtain ⟨b1, o1, c1, e1, hrg⟩ := (HSeen.own OAa.out).at (keys_h32 Ja.out.wf) hjE
              injection e1 with e1 e2 e3
              subst e1
              obtain ⟨x, hx⟩ : ∃ x, x = ((gr X').map (·.1))[j] := ⟨_, rfl⟩
              rw [← hx] at hrg
              have hxm : x ∈ (gr X').map (·.1) := by rw [hx]; exact List.getElem_mem hjE
              have HXS : Hid ((aget x (gr X')).isSome = true) := Lib.hid (mem_keys.1 hxm)
              have HX : Hid (x.length = 32) := Lib.hid (keys_h32 Ja.out.wf x hxm)
              have HRG := Lib.hid hrg
              obtain ⟨nn, hnn1, hnn2, hnn3, hnn4, hnn5⟩ := A8.out.there Ja.out.wf HXS.out
              have HN1 := Lib.hid hnn1
              have hq : decide (nn < 1099511627776) = decide (x ∈ ancs (gr X') mh2) := decide_eq_decide.2 (by rw [A8.out.anc Ja.out.wf]; exact hnn5)
              obtain ⟨q, hqd⟩ : ∃ q, q = decide (x ∈ ancs (gr X') mh2) := ⟨_, rfl⟩
              rw [← hqd] at hq
              have HQD := Lib.hid hqd
              have HQ := Lib.hid hq
              have HID := Lib.hid (id_to (Ja.out.a.kb B.out).im x HX.out)
              rw [hnn1] at HID
              simp only [Option.getD_some, Option.isSome_some] at HID
              have HHS := Lib.hid (fun (V : World) (kb : Below wb.heap.size wb V) => idhash_to V w.heap.size i nb 600 _ _ ms' os' _ (Ja.out.a.kb kb) (fun y hy => Ja.out.inn.h32 Ja.out.wf y (List.mem_append_left _ hy)) (fun y hy => Ja.out.inn.h32 Ja.out.wf y (List.mem_append_right _ hy)) (Ja.out.inn.len Ja.out.wf) nn (by omega) (by unfold split at hnn3; omega))
              rw [hnn4] at HHS
              simp only [Option.getD_some, Option.isSome_some] at HHS
              have HLT := Lib.hid hlt
              have HJ := Lib.hid j1
              have hld0 := hld_range HX.out (hsr_kb hrg (mild_below B.out))
              clear hx hrg hxm hjE hnn1 hnn2 hnn3 hnn4 hnn5 hq hqd hj hlt e2 e3
              go_wp2_with fail
              refine HID.out.mono ?_
              rintro e wc ⟨rfl, bc⟩
              have BC := Lib.hid (B.out.trans (bc.mono B.out.size))
              clear bc HID hld0 B
              go_wp2_with fail
              refine (HHS.out wc BC.out).mono ?_
              rintro e wd ⟨rfl, bd⟩
              have st := hst_cells x HX.out wd
              have hks : (hv x).size = 32 := by rw [hv_size, HX.out]
              have AL := Lib.hid (below_al11 wd (.cells (hv x) 27))
              have HBX := Lib.hid (heap_alloc_last wd (.cells (hv x) 27))
              have BD := Lib.hid ((BC.out.trans (bd.mono BC.out.size)).trans (AL.out.mono (Nat.le_trans BC.out.size bd.size)))
              clear bd BC HHS
              go_upto_region 24 with fail
              clear st
              generalize wd.alloc (.cells (hv x) 27) = we at *
              generalize wd.heap.size = xb at *
              have bq : Below we.heap.size we we.drew := blw_qt _ 1 we
              have HB5 := Lib.hid ((mild_below bq).cells HBX.out)
              have B5 := Lib.hid (BD.out.trans (bq.mono BD.out.size))
              clear bq HBX BD AL
              have hneq := hne_hv HX.out HX.out
              simp only [decide_true, Bool.not_true] at hneq
              have hngd := hne_guard
              have hq := HQ.out
              go_wp2_with fail
              try simp only [List.append]
              refine wp_region_noPanic ?_
              refine wp_region_held_drew (S := (fun V => (hld ⟨xb, 0, none⟩).run Try.prog V = .ok (.agg (hv x)) V ∧ (hld ⟨b1, o1 + j * 32, none⟩).run Try.prog V = .ok (.agg (hv x)) V)) (by kernel_rfl) ⟨hld_row HX.out HB5.out, hld_range HX.out (hsr_kb HRG.out (mild_below B5.out))⟩ (fun hHeld => ?_)
              generalize we.drew = wf at *
              refine wpAnyH_take (i := 0) (v := ?_) (by simp only [List.getElem?_toArray, List.getElem?_cons_zero]; rfl) (by kernel_rfl) (by kernel_rfl) (by kernel_rfl) (fun _ _ _ h => h) (Or.inl ⟨by rfl, ?_⟩) (by assumption) ?_
              rotate_left
              · intro w hSw
                try dsimp only at hSw
                go_simp
                try with_reducible rfl
              try simp only [Act.put, List.setIfInBounds_toArray, List.set_cons_zero, List.set_cons_succ]
              refine wpAnyH_take (i := 1) (v := ?_) (by simp only [List.getElem?_toArray, List.getElem?_cons_succ, List.getElem?_cons_zero]; rfl) (by kernel_rfl) (by kernel_rfl) (by kernel_rfl) (fun _ _ _ h => h) (Or.inl ⟨by rfl, ?_⟩) (by assumption) ?_
              rotate_left
              · intro w hSw
                try dsimp only at hSw
                go_simp
                try with_reducible rfl
              try simp only [Act.put, List.setIfInBounds_toArray, List.set_cons_zero, List.set_cons_succ]
              refine wpAnyH_take (i := 2) (v := ?_) (by simp only [List.getElem?_toArray, List.getElem?_cons_succ, List.getElem?_cons_zero]; rfl) (by kernel_rfl) (by kernel_rfl) (by kernel_rfl) (fun _ _ _ h => h) (Or.inl ⟨by rfl, ?_⟩) (by assumption) ?_
              rotate_left
              · intro w hSw
                try dsimp only at hSw
                go_simp
                try with_reducible rfl
              try simp only [Act.put, List.setIfInBounds_toArray, List.set_cons_zero, List.set_cons_succ]
              refine wpAnyH_take (i := 3) (v := ?_) (by simp only [List.getElem?_toArray, List.getElem?_cons_succ, List.getElem?_cons_zero]; rfl) (by kernel_rfl) (by kernel_rfl) (by kernel_rfl) (fun _ _ _ h => h) (Or.inl ⟨by rfl, ?_⟩) (by assumption) ?_
              rotate_left
              · intro w hSw
                try dsimp only at hSw
                go_simp
                try with_reducible rfl
              try simp only [Act.put, List.setIfInBounds_toArray, List.set_cons_zero, List.set_cons_succ]
              refine wpAnyH_take (i := 4) (v := ?_) (by simp only [List.getElem?_toArray, List.getElem?_cons_succ, List.getElem?_cons_zero]; rfl) (by kernel_rfl) (by kernel_rfl) (by kernel_rfl) (fun _ _ _ h => h) (Or.inl ⟨by rfl, ?_⟩) (by assumption) ?_
              rotate_left
              · intro w hSw
                try dsimp only at hSw
                go_simp
                try with_reducible rfl
              try simp only [Act.put, List.setIfInBounds_toArray, List.set_cons_zero, List.set_cons_succ]
              refine wpAnyH_take (i := 5) (v := ?_) (by simp only [List.getElem?_toArray, List.getElem?_cons_succ, List.getElem?_cons_zero]; rfl) (by kernel_rfl) (by kernel_rfl) (by kernel_rfl) (fun _ _ _ h => h) (Or.inl ⟨by rfl, ?_⟩) (by assumption) ?_
              rotate_left
              · intro w hSw
                try dsimp only at hSw
                go_simp
                try with_reducible rfl
              try simp only [Act.put, List.setIfInBounds_toArray, List.set_cons_zero, List.set_cons_succ]
              refine wpAnyH_take (i := 6) (v := ?_) (by simp only [List.getElem?_toArray, List.getElem?_cons_succ, List.getElem?_cons_zero]; rfl) (by kernel_rfl) (by kernel_rfl) (by kernel_rfl) (fun _ _ _ h => h) (Or.inl ⟨by rfl, ?_⟩) (by assumption) ?_
              rotate_left
              · intro w hSw
                try dsimp only at hSw
                go_simp
                try with_reducible rfl
              try simp only [Act.put, List.setIfInBounds_toArray, List.set_cons_zero, List.set_cons_succ]
              refine wpAnyH_take (i := 7) (v := ?_) (by simp only [List.getElem?_toArray, List.getElem?_cons_succ, List.getElem?_cons_zero]; rfl) (by kernel_rfl) (by kernel_rfl) (by kernel_rfl) (fun _ _ _ h => h) (Or.inl ⟨by rfl, ?_⟩) (by assumption) ?_
              rotate_left
              · intro w hSw
                try dsimp only at hSw
                go_simp
                try with_reducible rfl
              try simp only [Act.put, List.setIfInBounds_toArray, List.set_cons_zero, List.set_cons_succ]
              refine wpAnyH_take (i := 8) (v := ?_) (by simp only [List.getElem?_toArray, List.getElem?_cons_succ, List.getElem?_cons_zero]; rfl) (by kernel_rfl) (by kernel_rfl) (by kernel_rfl) (fun _ _ _ h => h) (Or.inl ⟨by rfl, ?_⟩) (by assumption) ?_
              rotate_left
              · intro w hSw
                try dsimp only at hSw
                go_simp
                try with_reducible rfl
              try simp only [Act.put, List.setIfInBounds_toArray, List.set_cons_zero, List.set_cons_succ]
              refine wpAnyH_take (i := 9) (v := ?_) (by simp only [List.getElem?_toArray, List.getElem?_cons_succ, List.getElem?_cons_zero]; rfl) (by kernel_rfl) (by kernel_rfl) (by kernel_rfl) (fun _ _ _ h => h) (Or.inl ⟨by rfl, ?_⟩) (by assumption) ?_
              rotate_left
              · intro w hSw
                try dsimp only at hSw
                go_simp
                try with_reducible rfl
              try simp only [Act.put, List.setIfInBounds_toArray, List.set_cons_zero, List.set_cons_succ]
              refine wpAnyH_take (i := 10) (v := ?_) (by simp only [List.getElem?_toArray, List.getElem?_cons_succ, List.getElem?_cons_zero]; rfl) (by kernel_rfl) (by kernel_rfl) (by kernel_rfl) (fun _ _ _ h => h) (Or.inl ⟨by rfl, ?_⟩) (by assumption) ?_
              rotate_left
              · intro w hSw
                try dsimp only at hSw
                go_simp
                try with_reducible rfl
              try simp only [Act.put, List.setIfInBounds_toArray, List.set_cons_zero, List.set_cons_succ]
              refine wpAnyH_take (i := 11) (v := ?_) (by simp only [List.getElem?_toArray, List.getElem?_cons_succ, List.getElem?_cons_zero]; rfl) (by kernel_rfl) (by kernel_rfl) (by kernel_rfl) (fun _ _ _ h => h) (Or.inl ⟨by rfl, ?_⟩) (by assumption) ?_
              rotate_left
              · intro w hSw
                try dsimp only at hSw
                go_simp
                try with_reducible rfl
              try simp only [Act.put, List.setIfInBounds_toArray, List.set_cons_zero, List.set_cons_succ]
              refine wpAnyH_take (i := 12) (v := ?_) (by simp only [List.getElem?_toArray, List.getElem?_cons_succ, List.getElem?_cons_zero]; rfl) (by kernel_rfl) (by kernel_rfl) (by kernel_rfl) (fun _ _ _ h => h) (Or.inl ⟨by rfl, ?_⟩) (by assumption) ?_
              rotate_left
              · intro w hSw
                try dsimp only at hSw
                go_simp
                try with_reducible rfl
              try simp only [Act.put, List.setIfInBounds_toArray, List.set_cons_zero, List.set_cons_succ]
              refine wpAnyH_take (i := 13) (v := ?_) (by simp only [List.getElem?_toArray, List.getElem?_cons_succ, List.getElem?_cons_zero]; rfl) (by kernel_rfl) (by kernel_rfl) (by kernel_rfl) (fun _ _ _ h => h) (Or.inl ⟨by rfl, ?_⟩) (by assumption) ?_
              rotate_left
              · intro w hSw
                try dsimp only at hSw
                go_simp
                try with_reducible rfl
              try simp only [Act.put, List.setIfInBounds_toArray, List.set_cons_zero, List.set_cons_succ]
              refine wpAnyH_take (i := 14) (v := ?_) (by simp only [List.getElem?_toArray, List.getElem?_cons_succ, List.getElem?_cons_zero]; rfl) (by kernel_rfl) (by kernel_rfl) (by kernel_rfl) (fun _ _ _ h => h) (Or.inl ⟨by rfl, ?_⟩) (by assumption) ?_
              rotate_left
              · intro w hSw
                try dsimp only at hSw
                go_simp
                try with_reducible rfl
              try simp only [Act.put, List.setIfInBounds_toArray, List.set_cons_zero, List.set_cons_succ]
              refine wpAnyH_take (i := 15) (v := ?_) (by simp only [List.getElem?_toArray, List.getElem?_cons_succ, List.getElem?_cons_zero]; rfl) (by kernel_rfl) (by kernel_rfl) (by kernel_rfl) (fun _ _ _ h => h) (Or.inl ⟨by rfl, ?_⟩) (by assumption) ?_
              rotate_left
              · intro w hSw
                try dsimp only at hSw
                go_simp
                try with_reducible rfl
              try simp only [Act.put, List.setIfInBounds_toArray, List.set_cons_zero, List.set_cons_succ]
              refine wpAnyH_take (i := 16) (v := ?_) (by simp only [List.getElem?_toArray, List.getElem?_cons_succ, List.getElem?_cons_zero]; rfl) (by kernel_rfl) (by kernel_rfl) (by kernel_rfl) (fun _ _ _ h => h) (Or.inl ⟨by rfl, ?_⟩) (by assumption) ?_
              rotate_left
              · intro w hSw
                try dsimp only at hSw
                go_simp
                try with_reducible rfl
              try simp only [Act.put, List.setIfInBounds_toArray, List.set_cons_zero, List.set_cons_succ]
              refine wpAnyH_take (i := 17) (v := ?_) (by simp only [List.getElem?_toArray, List.getElem?_cons_succ, List.getElem?_cons_zero]; rfl) (by kernel_rfl) (by kernel_rfl) (by kernel_rfl) (fun _ _ _ h => h) (Or.inl ⟨by rfl, ?_⟩) (by assumption) ?_
              rotate_left
              · intro w hSw
                try dsimp only at hSw
                go_simp
                try with_reducible rfl
              try simp only [Act.put, List.setIfInBounds_toArray, List.set_cons_zero, List.set_cons_succ]
              refine wpAnyH_take (i := 18) (v := ?_) (by simp only [List.getElem?_toArray, List.getElem?_cons_succ, List.getElem?_cons_zero]; rfl) (by kernel_rfl) (by kernel_rfl) (by kernel_rfl) (fun _ _ _ h => h) (Or.inl ⟨by rfl, ?_⟩) (by assumption) ?_
              rotate_left
              · intro w hSw
                try dsimp only at hSw
                go_simp
                try with_reducible rfl
              try simp only [Act.put, List.setIfInBounds_toArray, List.set_cons_zero, List.set_cons_succ]
              refine wpAnyH_take (i := 19) (v := ?_) (by simp only [List.getElem?_toArray, List.getElem?_cons_succ, List.getElem?_cons_zero]; rfl) (by kernel_rfl) (by kernel_rfl) (by kernel_rfl) (fun _ _ _ h => h) (Or.inl ⟨by rfl, ?_⟩) (by assumption) ?_
              rotate_left
              · intro w hSw
                try dsimp only at hSw
                go_simp
                try with_reducible rfl
              try simp only [Act.put, List.setIfInBounds_toArray, List.set_cons_zero, List.set_cons_succ]
              refine wpAnyH_take (i := 20) (v := ?_) (by simp only [List.getElem?_toArray, List.getElem?_cons_succ, List.getElem?_cons_zero]; rfl) (by kernel_rfl) (by kernel_rfl) (by kernel_rfl) (fun _ _ _ h => h) (Or.inl ⟨by rfl, ?_⟩) (by assumption) ?_
              rotate_left
              · intro w hSw
                try dsimp only at hSw
                go_simp
                try with_reducible rfl
              try simp only [Act.put, List.setIfInBounds_toArray, List.set_cons_zero, List.set_cons_succ]
              refine wpAnyH_take (i := 21) (v := ?_) (by simp only [List.getElem?_toArray, List.getElem?_cons_succ, List.getElem?_cons_zero]; rfl) (by kernel_rfl) (by kernel_rfl) (by kernel_rfl) (fun _ _ _ h => h) (Or.inl ⟨by rfl, ?_⟩) (by assumption) ?_
              rotate_left
              · intro w hSw
                try dsimp only at hSw
                go_simp
                try with_reducible rfl
              try simp only [Act.put, List.setIfInBounds_toArray, List.set_cons_zero, List.set_cons_succ]
              refine wpAnyH_ready (rs := [22]) (by kernel_rfl) (by simp) ?_
              refine AllReadyH.cons (by simp only [List.getElem?_toArray, List.getElem?_cons_succ, List.getElem?_cons_zero]; rfl) (fun K hK => ?_) AllReadyH.nil
              go_simp
              refine (in_any wf (.slice pb n1 cb) (ancs (gr X') mh2) x HX.out ((HSeen.own OB.out).mild (mild_below B5.out)) (fun y hy => keys_h32 Ja.out.wf y (List.mem_filter.1 hy).1) (Nat.le_trans (ancs_len _ _) (Nat.le_trans Ja.out.wf.few (by decide)))).mono ?_
              rintro e wg ⟨rfl, bg⟩
              rw [← HQD.out]
              have B6 := Lib.hid (B5.out.trans (bg.mono B5.out.size))
              have HB6 := Lib.hid ((mild_below bg).cells HB5.out)
              clear bg B5 HB5
              go_wp2_with fail
              refine hK.out _ _ ⟨hld_row HX.out HB6.out, hld_range HX.out (hsr_kb HRG.out (mild_below B6.out))⟩ (fun hHeld => ?_)
              clear hK K
              try simp only [Act.put, List.setIfInBounds_toArray, List.set_cons_zero, List.set_cons_succ]
              refine wpAnyH_take (i := 23) (v := ?_) (by simp only [List.getElem?_toArray, List.getElem?_cons_succ, List.getElem?_cons_zero]; rfl) (by kernel_rfl) (by kernel_rfl) (by kernel_rfl) (fun _ _ _ h => h) (Or.inl ⟨by rfl, ?_⟩) (by assumption) ?_
              rotate_left
              · intro w hSw
                try dsimp only at hSw
                go_simp
                try with_reducible rfl
              try simp only [Act.put, List.setIfInBounds_toArray, List.set_cons_zero, List.set_cons_succ]
              refine wpAnyH_take (i := 24) (v := ?_) (by simp only [List.getElem?_toArray, List.getElem?_cons_succ, List.getElem?_cons_zero]; rfl) (by kernel_rfl) (by kernel_rfl) (by kernel_rfl) (fun _ _ _ h => h) (Or.inl ⟨by rfl, ?_⟩) (by assumption) ?_
              rotate_left
              · intro w hSw
                try dsimp only at hSw
                go_simp
                try with_reducible rfl
              try simp only [Act.put, List.setIfInBounds_toArray, List.set_cons_zero, List.set_cons_succ]
              refine wpAnyH_done (by kernel_rfl) ?_ _
              refine NoPanic.normal ?_
              clear hHeld hneq hngd hq
              have hld0 := hld_range HX.out (hsr_kb HRG.out (mild_below B6.out))
              go_wp2_with fail
              refine (parents_to wg g bm X' x HX.out (Ja.out.kb B6.out).k.ga (Ja.out.wf.parm 1000000 (by decide))).mono ?_
              rintro e wh ⟨vp, rfl, op, bh⟩
              obtain ⟨ps, hps⟩ := Option.isSome_iff_exists.1 HXS.out
              rw [hps] at op ⊢
              simp only [Option.isSome_some, Option.getD_some] at op ⊢
              obtain ⟨pp, lp, cp, rfl, hlp⟩ := own_sh op
              have B7 := Lib.hid (B6.out.trans (bh.mono B6.out.size))
              have OP := Lib.hid op
              have HLP := Lib.hid hlp
              have HPS := Lib.hid hps
              have HPM : Hid ((x, ps) ∈ gr X') := Lib.hid (aget_mem hps)
              clear op hlp hps bh hld0 B6 HB6
              have HP32 : Hid (H32 ps) := Lib.hid (Ja.out.wf.h32 _ HPM.out).2
              have HPL : Hid (lp ≤ 4) := Lib.hid (by rw [HLP.out]; exact (Ja.out.wf.par _ HPM.out).1)
              go_wp2_with fail
              go_loopw [18] (fun v18 wq => ∃ l : Nat, v18 = .int .i64 l ∧ l ≤ lp ∧ Hid (Below wh.heap.size wh wq)) (fun v18 _ => lp - (intOf v18).toNat)
              case atStart => exact ⟨0, rfl, Nat.zero_le _, Lib.hid (Below.refl _ _)⟩
              case round =>
                obtain ⟨l, rfl, hl, B8⟩ := hrel
                rename World => wi
                by_cases hlt : l < lp
                · have hl1 : (l : Int) < lp := by omega
                  obtain ⟨k1, k2, k3⟩ := next_fit hlt (by have := HPL.out; omega)
                  have hlE : l < ps.length := by rw [← HLP.out]; exact hlt
                  obtain ⟨b2, o2, c2, e1, hrx⟩ := ((HSeen.own OP.out).mild (mild_below B8.out)).at HP32.out hlE
                  injection e1 with e1 e2 e3
                  subst e1
                  obtain ⟨y, hy⟩ : ∃ y, y = ps[l] := ⟨_, rfl⟩
                  rw [← hy] at hrx
                  have hym : y ∈ ps := by rw [hy]; exact List.getElem_mem hlE
                  have HY : Hid (y.length = 32) := Lib.hid (HP32.out y hym)
                  obtain ⟨mm, hmm1, hmm2⟩ := A8.out.below Ja.out.wf (x := x) (p := y) (by rw [adj_is HPS.out]; exact hym) HN1.out
                  have HIY := Lib.hid (id_to (Ja.out.a.kb (B7.out.trans (B8.out.mono B7.out.size))).im y HY.out)
                  rw [hmm1] at HIY
                  simp only [Option.getD_some, Option.isSome_some] at HIY
                  have hld0 := hld_range HY.out hrx
                  have HLL := Lib.hid hlt
                  have HK1 := Lib.hid k1
                  have HMM := Lib.hid hmm2
                  clear hy hrx hym hlE hmm1 hmm2 hl hlt e2 e3
                  go_wp2_with fail
                  refine HIY.out.mono ?_
                  rintro e wj ⟨rfl, bj⟩
                  have B9 := Lib.hid (B8.out.trans (bj.mono B8.out.size))
                  have hge : ¬ mm ≥ nn := by have := HMM.out; omega
                  clear bj HIY hld0 B8
                  go_wp2_with fail
                  refine ⟨⟨l + 1, by first | rw [HK1.out] | rfl, HLL.out, B9⟩, ?_⟩
                  first | exact meas_nv HLL.out HK1.out | exact meas_nw HLL.out
                · obtain rfl : l = lp := by omega
                  have hl2 : ¬ (l : Int) < l := by omega
                  have B9 := Lib.hid (B7.out.trans (B8.out.mono B7.out.size))
                  clear hl hlt
                  go_wp2_with fail
                  refine ⟨⟨j + 1, by first | rw [HJ.out] | rfl, HLT.out, B9⟩, ?_⟩
                  first | exact meas_nv HLT.out HJ.out | exact meas_nw HLT.out
            · obtain rfl : j = la := by omega
              have hl2 : ¬ (j : Int) < j := by omega
              clear hj hlt
              go_wp2_with fail
              refine ⟨⟨k + 1, pm2, nm2, cm2, rfl, congrArg _ (by first | rw [HJK.out] | omega), HIN.out, HI8.out, Lib.hid ⟨X', _, _, ms', os', mh2, Ja.out.kb B.out, A8.out, Ma.out.kb B.out, L8.out, GL.out⟩⟩, ?_⟩
              first | (rw [HJK.out]; simp only [intOf]; have := HI8.out; omega) | (simp only [intOf]; have := HI8.out; omega)
      · clear e5
        go_wp2_with fail
        refine ⟨⟨k + 1, pm, nm, cm, rfl, congrArg _ (by first | rw [HJK.out] | omega), HIN.out, HI8.out, Lib.hid ⟨X, mv, ov, ms, os, mh, J5.out, A.out, M5.out, by have := HML.out; omega, by have := HGL.out; omega⟩⟩, ?_⟩
        first | (rw [HJK.out]; simp only [intOf]; have := HI8.out; omega) | (simp only [intOf]; have := HI8.out; omega)
    · have h3m : H32 ms := fun y hy => J.out.inn.h32 J.out.wf y (List.mem_append_left _ hy)
      have h3o : H32 os := fun y hy => J.out.inn.h32 J.out.wf y (List.mem_append_right _ hy)
      have HLS := Lib.hid (listed_to wr w.heap.size i nb 600 mv ov ms os _ J.out.a h3m h3o (J.out.inn.len J.out.wf))
      have H3 : Hid (H32 (ms ++ os) ∧ (ms ++ os).length ≤ 1000000) := Lib.hid ⟨h3m.app h3o, by rw [List.length_append]; have := J.out.inn.len J.out.wf; omega⟩
      rcases (by omega : ¬ k < n ∨ (k < n ∧ ¬ k < 8)) with hq1 | ⟨hq1, hq2⟩
      · have hjl : ¬ (k : Int) < n := by omega
        clear hlt hq1 hk h3m h3o
        go_wp2_with fail
        refine HLS.out.mono ?_
        rintro e w5 ⟨v5, rfl, o5, b5⟩
        obtain ⟨p5, n5, c5, rfl, hn5⟩ := own_sh o5
        have J5 := Lib.hid (J.out.kb b5)
        have O5 := Lib.hid (HSeen.own o5)
        clear o5 hn5 b5 HLS
        go_wp2_with fail
        refine (rising_to w5 g bm X J5.out.k.ga J5.out.wf _ (ms ++ os) O5.out H3.out.1 H3.out.2).mono ?_
        rintro e w6 ⟨bz, rfl, hb, b6⟩
        obtain rfl : bz = true := hb.2 A.out.rises
        have B6 := Lib.hid (J5.out.k.bel.trans (b6.mono J5.out.k.bel.size))
        clear hb b6
        go_wp2_with fail
        go_ret
        exact ⟨rfl, B6.out⟩
      · have hjl : (k : Int) < n := by omega
        have hjl6 : ¬ (k : Int) < 8 := by omega
        clear hlt hq1 hq2 hk h3m h3o
        go_wp2_with fail
        refine HLS.out.mono ?_
        rintro e w5 ⟨v5, rfl, o5, b5⟩
        obtain ⟨p5, n5, c5, rfl, hn5⟩ := own_sh o5
        have J5 := Lib.hid (J.out.kb b5)
        have O5 := Lib.hid (HSeen.own o5)
        clear o5 hn5 b5 HLS
        go_wp2_with fail
        refine (rising_to w5 g bm X J5.out.k.ga J5.out.wf _ (ms ++ os) O5.out H3.out.1 H3.out.2).mono ?_
        rintro e w6 ⟨bz, rfl, hb, b6⟩
        obtain rfl : bz = true := hb.2 A.out.rises
        have B6 := Lib.hid (J5.out.k.bel.trans (b6.mono J5.out.k.bel.size))
        clear hb b6
        go_wp2_with fail
        go_ret
        exact ⟨rfl, B6.out⟩
end Go.Proofs.Ytnpeahbbcolfmaa
namespace Go.Proofs.Ytnpeahbbcolfmaa.idsRiseP
open Go.ChangeShapes Go.WideShapes Go.ChangeAt Go.RowKit
open Go.ChangeMaps (open_string shut_string)
theorem laidOut : laidOutB Try.prog = true := by kernel_rfl
theorem own : ownKnob Try.prog.godebug = none := by kernel_rfl

set_option maxRecDepth 100000 in
theorem lifted (os : Os) (started : os.Started) (H : Type) (enc : TypeId × Value → H) :
    ReturnsInHanded {} Try.checked os 4 .any (Rows.idsRiseSpec.pre6 enc Try.prog Try.f4 Rows.idsRiseRow.domain false) (Rows.idsRiseSpec.post enc Try.prog Try.f4 false true false false) := by
  refine returnsInHanded_of_change_sized (C := Try.checked) own started (by kernel_rfl) Try.func4
    (ChangeSpec.witness6 (enc := enc) (C := Try.checked) false ⟨#[], #[.slice none 0 0], []⟩ 8 (by kernel_rfl) (by kernel_rfl) (by kernel_rfl) (by kernel_rfl)) ?_
  intro W base args ds gs before hval0 hW hcnd hsz0 _
  have hsz : (DataW.weightsEach Try.prog (Try.f4.params.toList ++ Rows.idsRiseSpec.plain.varTypes Try.prog) (ds ++ gs)).all (· ≤ reachBytes) = true := hsz0
  clear hsz0
  have hW' := hW
  obtain ⟨p, q, hA0, hV, rfl, hfz, hnd⟩ := hW
  have hA : DataW.TrodAll enc Try.prog W 0 (fun _ => true) true Try.f4.params.toList args.toList ds p := hA0
  have hval : ∀ (j : Nat) t v, Try.f4.params[j]? = some t → args[j]? = some v → Value.okWide Try.prog W .any base t v := hval0
  rw [Try.params4] at hA hval hsz
  obtain ⟨v0, vs0, d0, ds0, p0, q0, hargs, rfl, rfl, h0, r0⟩ := trodAll_cons hA
  obtain ⟨rfl, rfl, rfl⟩ := trodAll_nil r0
  obtain rfl : args = #[v0] := by cases args; simp_all
  obtain ⟨rfl, rfl⟩ := trodVars_none hV
  obtain ⟨a0, len0, cap0, rfl⟩ := okWide_slice Try.underlying39 (hval 0 39 v0 rfl rfl)
  have k0 := h0
  have lt0 : ∀ x ∈ p0, x.block < W.heap.size := by obtain ⟨m, hm⟩ := k0; exact DataW.trod_lt m _ _ _ hm
  clear hA0 hval0
  obtain ⟨E, hE1, hE2⟩ := (let ⟨_, hf⟩ := h0; rqs_in hf)
  refine (rise_to W a0 len0 cap0 E hE1.symm hE2).mono fun e W' ⟨he, bel⟩ => ?_
  subst he
  exact ⟨_, rfl, _, _, _, [], _, [], hW', trodAll_mk1 (shut_bool Try.underlying4 _), (trodAll_cons_mk (Below.trod laidOut (by kernel_rfl) (of_decide_eq_true (by kernel_rfl)) k0 bel lt0) trodAll_mk0), rfl, bel.frame _, fun h => by cases h⟩

theorem over : Rows.idsRiseRow.holds Try.pinned (OpenSpec.ofChange Rows.idsRiseSpec) :=
  OpenClaim.holds_of_wide 4 Try.f4 rfl rfl rfl rfl rfl rfl rfl ⟨rfl, rfl, rfl, rfl, rfl⟩ rfl rfl rfl rfl rfl (by kernel_rfl) Try.func4 (by kernel_rfl)
    (of_decide_eq_true (by kernel_rfl)) (by unfold Func.isWrapper; first | (rw [if_pos (by decide +kernel)]; kernel_rfl) | (rw [if_neg (by decide +kernel)]; exact ⟨rfl, rfl⟩))
    (fun os started H enc _ => lifted os started H enc)

theorem proved : Rows.IdsRiseSaid := over
#print axioms proved
end Go.Proofs.Ytnpeahbbcolfmaa.idsRiseP
