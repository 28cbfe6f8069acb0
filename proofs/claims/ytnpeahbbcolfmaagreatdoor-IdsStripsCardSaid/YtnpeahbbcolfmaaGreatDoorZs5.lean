/- IdsStrips returns true, whatever the memory holds and whatever the schedule is. No condition. -/
import Derived.Test.YtnpeahbbcolfmaaGreatDoorZs4
import Derived.Deep.CutBlock
import Derived.Deep.CutRange
import Derived.Test.YtnpeahbbcolfmaaGreatDoorRows
import Derived.ProofKit
import Derived.ChangeSame
import Derived.ChangeVars
import Derived.JoinedOf
import Derived.RowKit
import Derived.LaidLaws
import Derived.LaidHandle
import Derived.HandedShaped
import Derived.Stop.Joined
import Derived.Test.YtnpeahbbcolfmaaGreatDoorCards
import Derived.Test.YtnpeahbbcolfmaaGreatDoorTie
import Derived.SevenTiedAt
import Derived.OpenShut
import Derived.SizedLaws
import Derived.ShutString
import Derived.ChangeOld
set_option linter.unusedSimpArgs false
set_option linter.unusedVariables false
namespace Go.Proofs.YtnpeahbbcolfmaaGreatDoor
open Go.RowKit Go.Extern.Stop Go.Stop Go.Extern
open Go.Maps
/-- What Request hands back, told closer. -/
def RqPost72 (w : World) (e : Ending) (w' : World) : Prop :=
  ∃ vc vh g cs hs, e = .returned (.agg #[vc, vh, .int .i64 g]) ∧ CSeen w' vc cs ∧ HSeen w' vh hs ∧ COk cs ∧ H32 hs ∧ (∀ c ∈ cs, c.2.length ≤ 10) ∧ cs.length ≤ 100 ∧ hs.length ≤ 100 ∧ Below w.heap.size w w' ∧ CForm vc cs.length ∧ cs.length ≤ 72 ∧ ∀ (S : Nat → Prop) (V : World), (∀ j, S j → j < w.heap.size) → Only S w' V → CSeen V vc cs ∧ HSeen V vh hs

set_option linter.unusedSimpArgs false in
set_option maxRecDepth 20000 in
set_option maxHeartbeats 16000000 in
attribute [local go_sem ↓] hld_open cld_open in
theorem request72_to (w : World) (vL vH : Value) (grp how : Int) (R : List Rw) (Hs : List Int) (hL : RwSeen w vL R) (hH : ISeen w vH Hs) :
    Calls Tryz.prog 24 #[.agg #[vL, vH, .int .i64 grp, .int .i64 how]] w (RqPost72 w) := by
  obtain ⟨pL, cL, rfl, hLx⟩ := id hL
  obtain ⟨pH, cH, rfl⟩ := hH.shape'
  obtain ⟨nL, hnL⟩ : ∃ n, n = R.length := ⟨_, rfl⟩
  obtain ⟨nH, hnH⟩ : ∃ n, n = Hs.length := ⟨_, rfl⟩
  rw [← hnL] at hL ⊢
  rw [← hnH] at hH ⊢
  have HL := Lib.hid hL
  have HH := Lib.hid hH
  have HNL := Lib.hid hnL
  have HNH := Lib.hid hnH
  clear hL hH hnL hnH hLx
  have HP := Lib.hid (fun W : World => pick_any W grp 2 (by decide) (by decide))
  go_enter Tryz.func24, Tryz.ntmps24
  go_upto_block 0 with (go_at_call 19; refine (HP.out _).mono ?_; rintro e w1 ⟨rfl, rfl⟩)
  generalize hg : 1 + grp % 2 = g at *
  have hbel : Below w.heap.size w (((w.alloc (.cells #[.slice pL nL cL, .slice pH nH cH, .int .i64 grp, .int .i64 how] 64)).alloc (.cells #[.slice none 0 0, .slice none 0 0, .int .i64 0] 37)).alloc (.cells #[.slice none 0 0, .slice none 0 0, .int .i64 g] 37)) :=
    (((Below.refl w.heap.size w).alloc (Nat.le_refl _) _).alloc (by rw [al_size]; omega) _).alloc (by rw [al_size, al_size]; omega) _
  have hr3 := heap_alloc_last ((w.alloc (.cells #[.slice pL nL cL, .slice pH nH cH, .int .i64 grp, .int .i64 how] 64)).alloc (.cells #[.slice none 0 0, .slice none 0 0, .int .i64 0] 37)) (.cells #[.slice none 0 0, .slice none 0 0, .int .i64 g] 37)
  have hr2 := (mild_below (below_al11 ((w.alloc (.cells #[.slice pL nL cL, .slice pH nH cH, .int .i64 grp, .int .i64 how] 64)).alloc (.cells #[.slice none 0 0, .slice none 0 0, .int .i64 0] 37)) (.cells #[.slice none 0 0, .slice none 0 0, .int .i64 g] 37))).cells (heap_alloc_last (w.alloc (.cells #[.slice pL nL cL, .slice pH nH cH, .int .i64 grp, .int .i64 how] 64)) (.cells #[.slice none 0 0, .slice none 0 0, .int .i64 0] 37))
  have hr1 := (mild_below (below_al11 ((w.alloc (.cells #[.slice pL nL cL, .slice pH nH cH, .int .i64 grp, .int .i64 how] 64)).alloc (.cells #[.slice none 0 0, .slice none 0 0, .int .i64 0] 37)) (.cells #[.slice none 0 0, .slice none 0 0, .int .i64 g] 37))).cells ((mild_below (below_al11 (w.alloc (.cells #[.slice pL nL cL, .slice pH nH cH, .int .i64 grp, .int .i64 how] 64)) (.cells #[.slice none 0 0, .slice none 0 0, .int .i64 0] 37))).cells (heap_alloc_last w (.cells #[.slice pL nL cL, .slice pH nH cH, .int .i64 grp, .int .i64 how] 64)))
  rw [al_size, al_size] at hr3
  rw [al_size] at hr2
  obtain ⟨B, hB⟩ : ∃ B, B = w.heap.size := ⟨_, rfl⟩
  have HRZ : Hid (B ≤ w.heap.size + 1) := Lib.hid (by omega)
  have X1 : Hid (XS w (((w.alloc (.cells #[.slice pL nL cL, .slice pH nH cH, .int .i64 grp, .int .i64 how] 64)).alloc (.cells #[.slice none 0 0, .slice none 0 0, .int .i64 0] 37)).alloc (.cells #[.slice none 0 0, .slice none 0 0, .int .i64 g] 37)) B w.heap.size (w.heap.size + 1) (w.heap.size + 1 + 1) (.slice pL nL cL) (.slice pH nH cH) grp how) :=
    Lib.hid ⟨hB ▸ hbel, hB, hr1, hr2, by omega⟩
  have R1 : Hid (RI (((w.alloc (.cells #[.slice pL nL cL, .slice pH nH cH, .int .i64 grp, .int .i64 how] 64)).alloc (.cells #[.slice none 0 0, .slice none 0 0, .int .i64 0] 37)).alloc (.cells #[.slice none 0 0, .slice none 0 0, .int .i64 g] 37)) B (w.heap.size + 1 + 1) (.slice none 0 0) (.slice none 0 0) g [] [] []) :=
    Lib.hid (RI.mk hr3 (by omega) (World.ownsRow_nil _ _ _ _) rfl (fun i c d h => by simp at h) (fun c h => by cases h) (World.ownsRow_nil _ _ _ _) H32.nil)
  clear hr1 hr2 hr3 hbel hB hg
  generalize ((w.alloc (.cells #[.slice pL nL cL, .slice pH nH cH, .int .i64 grp, .int .i64 how] 64)).alloc (.cells #[.slice none 0 0, .slice none 0 0, .int .i64 0] 37)).alloc (.cells #[.slice none 0 0, .slice none 0 0, .int .i64 g] 37) = W1 at *
  generalize w.heap.size + 1 + 1 = rb at *
  generalize w.heap.size + 1 = rz at *
  generalize w.heap.size = bx at *
  go_cut [4, 5, 6, 7, 8, 9, 10] from 24 to 118 (fun _ _ _ _ _ _ _ wr => ∃ (pc : Option Addr) (nC cc : Nat) (C : Cv) (cs : List Cm), nC ≤ 12 ∧ Hid (nC = C.length) ∧ Hid (RI wr B rb (.slice pc nC cc) (.slice none 0 0) g C cs []) ∧ Hid (XS w wr B bx rz rb (.slice pL nL cL) (.slice pH nH cH) grp how))
  case first =>
    go_wp2_with fail
    go_loopw [4] (fun s wr => ∃ (i : Nat) (pc : Option Addr) (nC cc : Nat) (C : Cv) (cs : List Cm), s = .int .i64 i ∧ i ≤ nL ∧ i ≤ 12 ∧ nC ≤ i ∧ Hid (nC = C.length) ∧ Hid (RI wr B rb (.slice pc nC cc) (.slice none 0 0) g C cs []) ∧ Hid (XS w wr B bx rz rb (.slice pL nL cL) (.slice pH nH cH) grp how))
      (fun s _ => 12 - (intOf s).toNat)
    case atStart => exact ⟨0, none, 0, 0, [], [], rfl, Nat.zero_le _, Nat.zero_le _, Nat.le_refl _, Lib.hid rfl, R1, X1⟩
    case round =>
      clear R1 X1
      obtain ⟨i, pc, nC, cc, C, cs, rfl, hi, hi2, hcl, HNC, RR, XX⟩ := hrel
      have HNI := Lib.hid hcl
      clear hcl
      obtain ⟨x0, x1, x2, x3⟩ := XX.out.c
      by_cases hlt : i < nL ∧ i < 12
      · obtain ⟨h1, h2⟩ := hlt
        have hl1 : (i : Int) < nL := by omega
        have hl2 : (i : Int) < 12 := by omega
        have hl0 : (0 : Int) ≤ i := by omega
        have hi1 : wrap64 ((i : Int) + 1) = ((i + 1 : Nat) : Int) := by unfold wrap64; omega
        have NCB : Hid (nC ≤ 1000000) := Lib.hid (by have := HNI.out; omega)
        have HI12 := Lib.hid h2
        have HINL := Lib.hid h1
        obtain ⟨p', cap', e1, hx⟩ := HL.out.kb XX.out.of
        injection e1 with e1 e2 e3
        subst e1
        have hiR : i < R.length := by rw [← HNL.out]; exact h1
        obtain ⟨b, o, rfl, hrg, hps⟩ := hx i _ (List.getElem?_eq_getElem hiR)
        generalize R[i] = y at hrg hps
        obtain ⟨yn, yh, yp, yl⟩ := y
        obtain ⟨c0, c1, c2⟩ := ld_rw hrg
        obtain ⟨q, cq, hq0⟩ := hps.shape'
        obtain ⟨ny, hny⟩ : ∃ n, n = yl.length := ⟨_, rfl⟩
        have hq : yp = .slice q ny cq := by rw [hny]; exact hq0
        clear hq0
        subst hq
        dsimp only at c0 c1 c2
        have hps : ISeen wr (.slice q ny cq) yl := hps
        have HNY := Lib.hid hny
        clear hny
        have HPS := Lib.hid hps
        clear hrg hps e2 e3 hx
        have HPY := Lib.hid (fun W : World => pick_any W yn 60 (by decide) (by decide))
        have hn0 : 0 ≤ yn % 60 := Int.emod_nonneg _ (by decide)
        have hn1 : yn % 60 < 60 := Int.emod_lt_of_pos _ (by decide)
        have RW := Lib.hid XX.out.of
        go_wp2_with (go_at_call 19; refine (HPY.out _).mono ?_; rintro e w1 ⟨rfl, rfl⟩)
        generalize hn60 : yn % 60 = n60 at *
        have HN0 := Lib.hid hn0
        have HN1 := Lib.hid hn1
        clear hn60 hn0 hn1
        have b1 := below_al11 wr (.cells #[.int .i64 yn, .int .i64 yh, .slice q ny cq] 117)
        have hy1 := heap_alloc_last wr (.cells #[.int .i64 yn, .int .i64 yh, .slice q ny cq] 117)
        generalize wr.alloc (.cells #[.int .i64 yn, .int .i64 yh, .slice q ny cq] 117) = w1 at *
        refine (hash_to _ n60).mono ?_
        rintro e w2 ⟨rfl, b2⟩
        obtain ⟨h, hh'⟩ : ∃ h, h = hh n60 := ⟨_, rfl⟩
        have hh32 : h.length = 32 := by rw [hh']; exact hh_length _
        rw [← hh']
        have BB2 : Below wr.heap.size wr w2 := b1.trans (b2.mono b1.size)
        have hy2 := (mild_below b2).cells hy1
        have st := cst_cells h (.slice none 0 0) hh32 rfl w2
        have hks : (cmv h (.slice none 0 0)).size = 33 := cmv_size hh32 _
        have HH32 := Lib.hid hh32
        have Y3 : Hid (Below wr.heap.size wr (w2.alloc (.cells (cmv h (.slice none 0 0)) 34)) ∧ (w2.alloc (.cells (cmv h (.slice none 0 0)) 34)).heap[wr.heap.size]? = some (.cells #[.int .i64 yn, .int .i64 yh, .slice q ny cq] 117 (0, 0)) ∧ CI (w2.alloc (.cells (cmv h (.slice none 0 0)) 34)) wr.heap.size w2.heap.size h (.slice none 0 0) []) :=
          Lib.hid ⟨BB2.alloc BB2.size _, (mild_below (below_al11 w2 _)).cells hy2, heap_alloc_last w2 _, World.ownsRow_nil _ _ _ _, BB2.size, H32.nil, hh32⟩
        clear b1 b2 hh' hy1 hy2 BB2 hh32
        go_wp2_with (refine build_w (t := 34) (vals := #[(0, .agg (hv h))]) (built_commit0 h HH32.out) ?hv ?hw ?_; (case hv => first | rfl | simp [Act.put, Act.eval]); (case hw => first | rfl | simp [Region.wanted, yielded]))
        generalize w2.alloc (.cells (cmv h (.slice none 0 0)) 34) = W2 at *
        generalize w2.heap.size = cb at *
        clear st hks
        refine (ahead_to _ n60 HN0.out HN1.out).mono ?_
        rintro e w3 ⟨v8, l8, rfl, hl8, o8, b3⟩
        obtain ⟨p8, c8, hv8⟩ := (IOwns.seen o8).shape'
        subst hv8
        obtain ⟨n8, hn8⟩ : ∃ n, n = l8.length := ⟨_, rfl⟩
        have Y3B : Hid (YB w3 wr wr.heap.size #[.int .i64 yn, .int .i64 yh, .slice q ny cq] 117 W2.heap.size (.slice p8 l8.length c8) l8) := Lib.hid ⟨Y3.out.1.trans (b3.mono Y3.out.1.size), (mild_below b3).cells Y3.out.2.1, by decide, o8⟩
        have C3 : Hid (CI w3 wr.heap.size cb h (.slice none 0 0) []) := Lib.hid (Y3.out.2.2.kb b3)
        rw [← hn8] at Y3B hl8 ⊢
        have HN8 := Lib.hid hn8
        have HL8 := Lib.hid hl8
        clear Y3 o8 b3 hn8 hl8
        generalize W2.heap.size = B8 at *
        go_wp2_with fail
        have RR0 := Lib.hid RR.out
        have XX0 := Lib.hid XX.out
        generalize wr = W0 at *
        go_loopw [9] (fun s wq => ∃ (j : Nat) (p : Option Addr) (c m : Nat) (ps : List Key), s = .int .i64 j ∧ j ≤ n8 ∧ Hid (m = ps.length) ∧ m ≤ j ∧ Hid (CI wq W0.heap.size cb h (.slice p m c) ps) ∧ Hid (YB wq W0 W0.heap.size #[.int .i64 yn, .int .i64 yh, .slice q ny cq] 117 B8 (.slice p8 n8 c8) l8))
          (fun s _ => n8 - (intOf s).toNat)
        case atStart => exact ⟨0, none, 0, 0, [], rfl, Nat.zero_le _, Lib.hid rfl, Nat.le_refl _, C3, Y3B⟩
        case round =>
          clear C3 Y3B
          obtain ⟨j, p, c, m, ps, rfl, hj, HM, hmj, CC, YY⟩ := hrel
          by_cases hlt : j < n8
          · have HJ := Lib.hid hlt
            have hj1 : wrap64 ((j : Int) + 1) = ((j + 1 : Nat) : Int) := by have := HL8.out; unfold wrap64; omega
            have hjl : (j : Int) < n8 := by omega
            have HMJ := Lib.hid hmj
            have HM2 : Hid (m ≤ 2) := Lib.hid (by have := HL8.out; omega)
            obtain ⟨x, hx⟩ : ∃ x, l8[j]? = some x := ⟨l8[j]'(by rw [← HN8.out]; exact hlt), List.getElem?_eq_getElem _⟩
            obtain ⟨a8, rfl, hc0⟩ := (IOwns.seen YY.out.p).at' hx
            have HX := Lib.hid hx
            clear hx hj hmj
            go_wp2_with fail
            have bq : Below wr.heap.size wr wr.drew := blw_qt _ 1 wr
            have CC := Lib.hid (CC.out.kb bq)
            have YY := Lib.hid (YY.out.kb bq)
            clear bq
            try simp only [List.append]
            refine wp_region_noPanic ?_
            refine wp_region_held_drew (S := (fun V => V.cell? (a8.add j) = some (.int .i64 x))) (by kernel_rfl) ((IOwns.seen YY.out.p).cell' HX.out) (fun hHeld => ?_)
            generalize wr.drew = v1 at *
            refine wpAnyH_take (i := 0) (v := ?_) (by simp only [List.getElem?_toArray, List.getElem?_cons_zero]; rfl) (by kernel_rfl) (by kernel_rfl) (by kernel_rfl) (fun _ _ _ h => h) (Or.inl ⟨by rfl, ?_⟩) (by assumption) ?_
            rotate_left
            · intro w hSw
              try dsimp only at hSw
              go_simp
              try with_reducible rfl
            try simp only [Act.put, List.setIfInBounds_toArray, List.set_cons_zero, List.set_cons_succ]
            refine wpAnyH_take (i := 2) (v := ?_) (by simp only [List.getElem?_toArray, List.getElem?_cons_succ, List.getElem?_cons_zero]; rfl) (by kernel_rfl) (by kernel_rfl) (by kernel_rfl) (fun _ _ _ h => h) (Or.inl ⟨by rfl, ?_⟩) (by assumption) ?_
            rotate_left
            · intro w hSw
              try dsimp only at hSw
              go_simp
              try with_reducible rfl
            try simp only [Act.put, List.setIfInBounds_toArray, List.set_cons_zero, List.set_cons_succ]
            refine wpAnyH_take (i := 3) (v := ?_) (by simp only [List.getElem?_toArray, List.getElem?_cons_succ, List.getElem?_cons_zero]; rfl) (by kernel_rfl) (by kernel_rfl) (by kernel_rfl) (fun _ _ _ h => h) (Or.inl ⟨by rfl, ?_⟩) (by assumption) ?_
            rotate_left
            · intro w hSw
              try dsimp only at hSw
              go_simp
              try with_reducible rfl
            try simp only [Act.put, List.setIfInBounds_toArray, List.set_cons_zero, List.set_cons_succ]
            refine wpAnyH_take (i := 4) (v := ?_) (by simp only [List.getElem?_toArray, List.getElem?_cons_succ, List.getElem?_cons_zero]; rfl) (by kernel_rfl) (by kernel_rfl) (by kernel_rfl) (fun _ _ _ h => h) (Or.inl ⟨by rfl, ?_⟩) (by assumption) ?_
            rotate_left
            · intro w hSw
              try dsimp only at hSw
              go_simp
              try with_reducible rfl
            try simp only [Act.put, List.setIfInBounds_toArray, List.set_cons_zero, List.set_cons_succ]
            refine wpAnyH_take (i := 5) (v := ?_) (by simp only [List.getElem?_toArray, List.getElem?_cons_succ, List.getElem?_cons_zero]; rfl) (by kernel_rfl) (by kernel_rfl) (by kernel_rfl) (fun _ _ _ h => h) (Or.inl ⟨by rfl, ?_⟩) (by assumption) ?_
            rotate_left
            · intro w hSw
              try dsimp only at hSw
              go_simp
              try with_reducible rfl
            try simp only [Act.put, List.setIfInBounds_toArray, List.set_cons_zero, List.set_cons_succ]
            refine wpAnyH_ready (rs := [1, 6]) (by kernel_rfl) (by simp) ?_
            refine (AllReadyH.cons (by simp only [List.getElem?_toArray, List.getElem?_cons_succ, List.getElem?_cons_zero]; rfl) (fun K hK => ?_) (AllReadyH.cons (by simp only [List.getElem?_toArray, List.getElem?_cons_succ, List.getElem?_cons_zero]; rfl) (fun K hK => ?_) AllReadyH.nil))
            · have cL := CC.out.par
              go_simp
              clear cL
              refine hK.out _ _ ((IOwns.seen YY.out.p).cell' HX.out) (fun hHeld => ?_)
              clear hK K
              try simp only [Act.put, List.setIfInBounds_toArray, List.set_cons_zero, List.set_cons_succ]
              refine wpAnyH_ready (rs := [6]) (by kernel_rfl) (by simp) ?_
              refine (AllReadyH.cons (by simp only [List.getElem?_toArray, List.getElem?_cons_succ, List.getElem?_cons_zero]; rfl) (fun K hK => ?_) AllReadyH.nil)
              go_simp
              refine (hash_to _ x).mono ?_
              rintro e v2 ⟨rfl, bb⟩
              have CC := Lib.hid (CC.out.kb bb)
              have YY := Lib.hid (YY.out.kb bb)
              clear bb
              go_wp2_with fail
              refine hK.out _ _ ((IOwns.seen YY.out.p).cell' HX.out) (fun hHeld => ?_)
              clear hK K
              try simp only [Act.put, List.setIfInBounds_toArray, List.set_cons_zero, List.set_cons_succ]
              refine wpAnyH_ready (rs := [7]) (by kernel_rfl) (by simp) ?_
              refine (AllReadyH.cons (by simp only [List.getElem?_toArray, List.getElem?_cons_succ, List.getElem?_cons_zero]; rfl) (fun K hK => ?_) AllReadyH.nil)
              refine step_sl1 (hh x) (hh_length x) (by rfl) (by rfl) ?_
              have HB7 := Lib.hid (heap_alloc_last v2 (.cells (hv (hh x)) 31))
              have CC := Lib.hid (CC.out.kb (below_al11 v2 (.cells (hv (hh x)) 31)))
              have YY := Lib.hid (YY.out.kb (below_al11 v2 (.cells (hv (hh x)) 31)))
              generalize v2.alloc (.cells (hv (hh x)) 31) = v3 at *
              generalize v2.heap.size = b7 at *
              refine hK.out _ _ ((IOwns.seen YY.out.p).cell' HX.out) (fun hHeld => ?_)
              clear hK K
              try simp only [Act.put, List.setIfInBounds_toArray, List.set_cons_zero, List.set_cons_succ]
              refine wpAnyH_ready (rs := [8]) (by kernel_rfl) (by simp) ?_
              refine (AllReadyH.cons (by simp only [List.getElem?_toArray, List.getElem?_cons_succ, List.getElem?_cons_zero]; rfl) (fun K hK => ?_) AllReadyH.nil)
              refine step_pushh rfl _ _ rfl W0.heap.size (.slice p m c) ps b7 (hh x) (hh_length x) (by rfl) CC.out.own (by rfl) HB7.out (by rw [← HM.out]; have := HM2.out; omega) YY.out.bel.size (m + 1) (by rw [HM.out]) ?_
              intro p9 c9 v4 o9 oth9 loc9
              have hpush := CC.out.push o9 oth9 (hh_length x)
              have hc9 := cm_cell CC.out.hh (CC.out.mid oth9)
              have hf9 : v4.frozen? ⟨cb, 32, none⟩ = false := frozen_of_row _ _ _ _ _ (CC.out.mid oth9)
              have YH := Lib.hid (YY.out.half CC.out oth9)
              have CN := Lib.hid hpush.1
              have YN := Lib.hid (YY.out.far CC.out hpush.2)
              clear hpush o9 oth9 loc9
              refine hK.out _ _ ((IOwns.seen YH.out.p).cell' HX.out) (fun hHeld => ?_)
              clear hK K
              try simp only [Act.put, List.setIfInBounds_toArray, List.set_cons_zero, List.set_cons_succ]
              refine wpAnyH_take (i := 9) (v := ?_) (by simp only [List.getElem?_toArray, List.getElem?_cons_succ, List.getElem?_cons_zero]; rfl) (by kernel_rfl) (by kernel_rfl) (by kernel_rfl) (fun _ _ _ h => h) (Or.inl ⟨by rfl, ?_⟩) (by assumption) ?_
              rotate_left
              · intro w hSw
                try dsimp only at hSw
                go_simp
                try with_reducible rfl
              try simp only [Act.put, List.setIfInBounds_toArray, List.set_cons_zero, List.set_cons_succ]
              refine wpAnyH_ready (rs := [10]) (by kernel_rfl) (by simp) ?_
              refine (AllReadyH.cons (by simp only [List.getElem?_toArray, List.getElem?_cons_succ, List.getElem?_cons_zero]; rfl) (fun K hK => ?_) AllReadyH.nil)
              go_simp
              generalize v4.setCell ⟨cb, 32, none⟩ (.slice p9 (m + 1) c9) = v5 at *
              refine hK.out _ _ ((IOwns.seen YN.out.p).cell' HX.out) (fun hHeld => ?_)
              clear hK K
              try simp only [Act.put, List.setIfInBounds_toArray, List.set_cons_zero, List.set_cons_succ]
              refine wpAnyH_done (by kernel_rfl) ?_ _
              refine NoPanic.normal ?_
              go_wp2_with fail
              refine ⟨⟨j + 1, p9, c9, m + 1, ps ++ [hh x], by rw [hj1], HJ.out, Lib.hid (by rw [HM.out, List.length_append]; rfl), Nat.succ_le_succ HMJ.out, CN, YN⟩, ?_⟩
              rw [hj1]; simp only [intOf]; have := HJ.out; omega
            · go_simp
              refine (hash_to _ x).mono ?_
              rintro e v2 ⟨rfl, bb⟩
              have CC := Lib.hid (CC.out.kb bb)
              have YY := Lib.hid (YY.out.kb bb)
              clear bb
              go_wp2_with fail
              refine hK.out _ _ ((IOwns.seen YY.out.p).cell' HX.out) (fun hHeld => ?_)
              clear hK K
              try simp only [Act.put, List.setIfInBounds_toArray, List.set_cons_zero, List.set_cons_succ]
              refine wpAnyH_ready (rs := [1, 7]) (by kernel_rfl) (by simp) ?_
              refine (AllReadyH.cons (by simp only [List.getElem?_toArray, List.getElem?_cons_succ, List.getElem?_cons_zero]; rfl) (fun K hK => ?_) (AllReadyH.cons (by simp only [List.getElem?_toArray, List.getElem?_cons_succ, List.getElem?_cons_zero]; rfl) (fun K hK => ?_) AllReadyH.nil))
              · have cL := CC.out.par
                go_simp
                clear cL
                refine hK.out _ _ ((IOwns.seen YY.out.p).cell' HX.out) (fun hHeld => ?_)
                clear hK K
                try simp only [Act.put, List.setIfInBounds_toArray, List.set_cons_zero, List.set_cons_succ]
                refine wpAnyH_ready (rs := [7]) (by kernel_rfl) (by simp) ?_
                refine (AllReadyH.cons (by simp only [List.getElem?_toArray, List.getElem?_cons_succ, List.getElem?_cons_zero]; rfl) (fun K hK => ?_) AllReadyH.nil)
                refine step_sl1 (hh x) (hh_length x) (by rfl) (by rfl) ?_
                have HB7 := Lib.hid (heap_alloc_last v2 (.cells (hv (hh x)) 31))
                have CC := Lib.hid (CC.out.kb (below_al11 v2 (.cells (hv (hh x)) 31)))
                have YY := Lib.hid (YY.out.kb (below_al11 v2 (.cells (hv (hh x)) 31)))
                generalize v2.alloc (.cells (hv (hh x)) 31) = v3 at *
                generalize v2.heap.size = b7 at *
                refine hK.out _ _ ((IOwns.seen YY.out.p).cell' HX.out) (fun hHeld => ?_)
                clear hK K
                try simp only [Act.put, List.setIfInBounds_toArray, List.set_cons_zero, List.set_cons_succ]
                refine wpAnyH_ready (rs := [8]) (by kernel_rfl) (by simp) ?_
                refine (AllReadyH.cons (by simp only [List.getElem?_toArray, List.getElem?_cons_succ, List.getElem?_cons_zero]; rfl) (fun K hK => ?_) AllReadyH.nil)
                refine step_pushh rfl _ _ rfl W0.heap.size (.slice p m c) ps b7 (hh x) (hh_length x) (by rfl) CC.out.own (by rfl) HB7.out (by rw [← HM.out]; have := HM2.out; omega) YY.out.bel.size (m + 1) (by rw [HM.out]) ?_
                intro p9 c9 v4 o9 oth9 loc9
                have hpush := CC.out.push o9 oth9 (hh_length x)
                have hc9 := cm_cell CC.out.hh (CC.out.mid oth9)
                have hf9 : v4.frozen? ⟨cb, 32, none⟩ = false := frozen_of_row _ _ _ _ _ (CC.out.mid oth9)
                have YH := Lib.hid (YY.out.half CC.out oth9)
                have CN := Lib.hid hpush.1
                have YN := Lib.hid (YY.out.far CC.out hpush.2)
                clear hpush o9 oth9 loc9
                refine hK.out _ _ ((IOwns.seen YH.out.p).cell' HX.out) (fun hHeld => ?_)
                clear hK K
                try simp only [Act.put, List.setIfInBounds_toArray, List.set_cons_zero, List.set_cons_succ]
                refine wpAnyH_take (i := 9) (v := ?_) (by simp only [List.getElem?_toArray, List.getElem?_cons_succ, List.getElem?_cons_zero]; rfl) (by kernel_rfl) (by kernel_rfl) (by kernel_rfl) (fun _ _ _ h => h) (Or.inl ⟨by rfl, ?_⟩) (by assumption) ?_
                rotate_left
                · intro w hSw
                  try dsimp only at hSw
                  go_simp
                  try with_reducible rfl
                try simp only [Act.put, List.setIfInBounds_toArray, List.set_cons_zero, List.set_cons_succ]
                refine wpAnyH_ready (rs := [10]) (by kernel_rfl) (by simp) ?_
                refine (AllReadyH.cons (by simp only [List.getElem?_toArray, List.getElem?_cons_succ, List.getElem?_cons_zero]; rfl) (fun K hK => ?_) AllReadyH.nil)
                go_simp
                generalize v4.setCell ⟨cb, 32, none⟩ (.slice p9 (m + 1) c9) = v5 at *
                refine hK.out _ _ ((IOwns.seen YN.out.p).cell' HX.out) (fun hHeld => ?_)
                clear hK K
                try simp only [Act.put, List.setIfInBounds_toArray, List.set_cons_zero, List.set_cons_succ]
                refine wpAnyH_done (by kernel_rfl) ?_ _
                refine NoPanic.normal ?_
                go_wp2_with fail
                refine ⟨⟨j + 1, p9, c9, m + 1, ps ++ [hh x], by rw [hj1], HJ.out, Lib.hid (by rw [HM.out, List.length_append]; rfl), Nat.succ_le_succ HMJ.out, CN, YN⟩, ?_⟩
                rw [hj1]; simp only [intOf]; have := HJ.out; omega
              · refine step_sl1 (hh x) (hh_length x) (by rfl) (by rfl) ?_
                have HB7 := Lib.hid (heap_alloc_last v2 (.cells (hv (hh x)) 31))
                have CC := Lib.hid (CC.out.kb (below_al11 v2 (.cells (hv (hh x)) 31)))
                have YY := Lib.hid (YY.out.kb (below_al11 v2 (.cells (hv (hh x)) 31)))
                generalize v2.alloc (.cells (hv (hh x)) 31) = v3 at *
                generalize v2.heap.size = b7 at *
                refine hK.out _ _ ((IOwns.seen YY.out.p).cell' HX.out) (fun hHeld => ?_)
                clear hK K
                try simp only [Act.put, List.setIfInBounds_toArray, List.set_cons_zero, List.set_cons_succ]
                refine wpAnyH_ready (rs := [1]) (by kernel_rfl) (by simp) ?_
                refine (AllReadyH.cons (by simp only [List.getElem?_toArray, List.getElem?_cons_succ, List.getElem?_cons_zero]; rfl) (fun K hK => ?_) AllReadyH.nil)
                have cL := CC.out.par
                go_simp
                clear cL
                refine hK.out _ _ ((IOwns.seen YY.out.p).cell' HX.out) (fun hHeld => ?_)
                clear hK K
                try simp only [Act.put, List.setIfInBounds_toArray, List.set_cons_zero, List.set_cons_succ]
                refine wpAnyH_ready (rs := [8]) (by kernel_rfl) (by simp) ?_
                refine (AllReadyH.cons (by simp only [List.getElem?_toArray, List.getElem?_cons_succ, List.getElem?_cons_zero]; rfl) (fun K hK => ?_) AllReadyH.nil)
                refine step_pushh rfl _ _ rfl W0.heap.size (.slice p m c) ps b7 (hh x) (hh_length x) (by rfl) CC.out.own (by rfl) HB7.out (by rw [← HM.out]; have := HM2.out; omega) YY.out.bel.size (m + 1) (by rw [HM.out]) ?_
                intro p9 c9 v4 o9 oth9 loc9
                have hpush := CC.out.push o9 oth9 (hh_length x)
                have hc9 := cm_cell CC.out.hh (CC.out.mid oth9)
                have hf9 : v4.frozen? ⟨cb, 32, none⟩ = false := frozen_of_row _ _ _ _ _ (CC.out.mid oth9)
                have YH := Lib.hid (YY.out.half CC.out oth9)
                have CN := Lib.hid hpush.1
                have YN := Lib.hid (YY.out.far CC.out hpush.2)
                clear hpush o9 oth9 loc9
                refine hK.out _ _ ((IOwns.seen YH.out.p).cell' HX.out) (fun hHeld => ?_)
                clear hK K
                try simp only [Act.put, List.setIfInBounds_toArray, List.set_cons_zero, List.set_cons_succ]
                refine wpAnyH_take (i := 9) (v := ?_) (by simp only [List.getElem?_toArray, List.getElem?_cons_succ, List.getElem?_cons_zero]; rfl) (by kernel_rfl) (by kernel_rfl) (by kernel_rfl) (fun _ _ _ h => h) (Or.inl ⟨by rfl, ?_⟩) (by assumption) ?_
                rotate_left
                · intro w hSw
                  try dsimp only at hSw
                  go_simp
                  try with_reducible rfl
                try simp only [Act.put, List.setIfInBounds_toArray, List.set_cons_zero, List.set_cons_succ]
                refine wpAnyH_ready (rs := [10]) (by kernel_rfl) (by simp) ?_
                refine (AllReadyH.cons (by simp only [List.getElem?_toArray, List.getElem?_cons_succ, List.getElem?_cons_zero]; rfl) (fun K hK => ?_) AllReadyH.nil)
                go_simp
                generalize v4.setCell ⟨cb, 32, none⟩ (.slice p9 (m + 1) c9) = v5 at *
                refine hK.out _ _ ((IOwns.seen YN.out.p).cell' HX.out) (fun hHeld => ?_)
                clear hK K
                try simp only [Act.put, List.setIfInBounds_toArray, List.set_cons_zero, List.set_cons_succ]
                refine wpAnyH_done (by kernel_rfl) ?_ _
                refine NoPanic.normal ?_
                go_wp2_with fail
                refine ⟨⟨j + 1, p9, c9, m + 1, ps ++ [hh x], by rw [hj1], HJ.out, Lib.hid (by rw [HM.out, List.length_append]; rfl), Nat.succ_le_succ HMJ.out, CN, YN⟩, ?_⟩
                rw [hj1]; simp only [intOf]; have := HJ.out; omega
          · have hjl : ¬ (j : Int) < n8 := by omega
            have HM2 : Hid (m ≤ 2) := Lib.hid (by have := HL8.out; omega)
            have HPL : Hid (ps.length ≤ 10) := Lib.hid (by rw [← HM.out]; have := HM2.out; omega)
            obtain ⟨y0, y1, y2⟩ := YY.out.y2
            have hcs : yh % 60 = 0 ∨ yh % 60 = 1 ∨ yh % 60 = 2 ∨ (¬ yh % 60 = 0 ∧ ¬ yh % 60 = 1 ∧ ¬ yh % 60 = 2) := by omega
            clear hmj hlt
            rcases hcs with hc | hc | hc | hc
            · have HPH := Lib.hid (fun W : World => pick_to W yh 60 0 (by decide) (by decide) hc)
              clear hc
              go_wp2_with (go_at_call 19; refine (HPH.out _).mono ?_; rintro e wz ⟨rfl, rfl⟩)
              generalize wr = W3 at *
              clear y0 y1 y2 HPL
              go_loopw [10] (fun s wt => ∃ (j : Nat) (p : Option Addr) (c m : Nat) (ps : List Key), s = .int .i64 j ∧ j ≤ ny ∧ j ≤ 6 ∧ Hid (m = ps.length) ∧ m ≤ 2 + j ∧ Hid (CI wt W0.heap.size cb h (.slice p m c) ps) ∧ Hid (YB wt W0 W0.heap.size #[.int .i64 yn, .int .i64 yh, .slice q ny cq] 117 B8 (.slice p8 n8 c8) l8))
                (fun s _ => 6 - (intOf s).toNat)
              case atStart => exact ⟨0, p, c, m, ps, rfl, Nat.zero_le _, Nat.zero_le _, HM, by have := HM2.out; omega, CC, YY⟩
              case round =>
                clear HM CC YY HM2
                obtain ⟨j, p, c, m, ps, rfl, hjn, hj6, HM, hmj, CC, YY⟩ := hrel
                obtain ⟨y0, y1, y2⟩ := YY.out.y2
                by_cases hlt : j < ny ∧ j < 6
                · obtain ⟨hl1, hl2⟩ := hlt
                  have HJ := Lib.hid hl1
                  have HJ6 := Lib.hid hl2
                  have hj1 : wrap64 ((j : Int) + 1) = ((j + 1 : Nat) : Int) := by unfold wrap64; omega
                  have hjl : (j : Int) < ny := by omega
                  have hjl6 : (j : Int) < 6 := by omega
                  have HMJ := Lib.hid hmj
                  have HM2 : Hid (m ≤ 8) := Lib.hid (by omega)
                  obtain ⟨x, hx⟩ : ∃ x, yl[j]? = some x := ⟨yl[j]'(by rw [← HNY.out]; exact hl1), List.getElem?_eq_getElem _⟩
                  obtain ⟨a8, rfl, hc0⟩ := HPS.out.at' hx
                  have HX := Lib.hid hx
                  clear hx hjn hj6 hmj hc0
                  go_wp2_with fail
                  clear y0 y1 y2
                  have bq : Below wr.heap.size wr wr.drew := blw_qt _ 1 wr
                  have CC := Lib.hid (CC.out.kb bq)
                  have YY := Lib.hid (YY.out.kb bq)
                  clear bq
                  try simp only [List.append]
                  refine wp_region_noPanic ?_
                  refine wp_region_held_drew (S := (fun V => V.cell? ⟨W0.heap.size, 2, none⟩ = some (.slice (some a8) ny cq) ∧ V.cell? (a8.add j) = some (.int .i64 x))) (by kernel_rfl) ⟨YY.out.y2.2.2, (HPS.out.kb' YY.out.bel).cell' HX.out⟩ (fun hHeld => ?_)
                  generalize wr.drew = v1 at *
                  refine wpAnyH_take (i := 0) (v := ?_) (by simp only [List.getElem?_toArray, List.getElem?_cons_zero]; rfl) (by kernel_rfl) (by kernel_rfl) (by kernel_rfl) (fun _ _ _ h => h) (Or.inl ⟨by rfl, ?_⟩) (by assumption) ?_
                  rotate_left
                  · intro w hSw
                    try dsimp only at hSw
                    go_simp
                    try with_reducible rfl
                  try simp only [Act.put, List.setIfInBounds_toArray, List.set_cons_zero, List.set_cons_succ]
                  refine wpAnyH_take (i := 2) (v := ?_) (by simp only [List.getElem?_toArray, List.getElem?_cons_succ, List.getElem?_cons_zero]; rfl) (by kernel_rfl) (by kernel_rfl) (by kernel_rfl) (fun _ _ _ h => h) (Or.inl ⟨by rfl, ?_⟩) (by assumption) ?_
                  rotate_left
                  · intro w hSw
                    try dsimp only at hSw
                    go_simp
                    try with_reducible rfl
                  try simp only [Act.put, List.setIfInBounds_toArray, List.set_cons_zero, List.set_cons_succ]
                  refine wpAnyH_take (i := 3) (v := ?_) (by simp only [List.getElem?_toArray, List.getElem?_cons_succ, List.getElem?_cons_zero]; rfl) (by kernel_rfl) (by kernel_rfl) (by kernel_rfl) (fun _ _ _ h => h) (Or.inl ⟨by rfl, ?_⟩) (by assumption) ?_
                  rotate_left
                  · intro w hSw
                    try dsimp only at hSw
                    go_simp
                    try with_reducible rfl
                  try simp only [Act.put, List.setIfInBounds_toArray, List.set_cons_zero, List.set_cons_succ]
                  refine wpAnyH_take (i := 4) (v := ?_) (by simp only [List.getElem?_toArray, List.getElem?_cons_succ, List.getElem?_cons_zero]; rfl) (by kernel_rfl) (by kernel_rfl) (by kernel_rfl) (fun _ _ _ h => h) (Or.inl ⟨by rfl, ?_⟩) (by assumption) ?_
                  rotate_left
                  · intro w hSw
                    try dsimp only at hSw
                    go_simp
                    try with_reducible rfl
                  try simp only [Act.put, List.setIfInBounds_toArray, List.set_cons_zero, List.set_cons_succ]
                  refine wpAnyH_take (i := 5) (v := ?_) (by simp only [List.getElem?_toArray, List.getElem?_cons_succ, List.getElem?_cons_zero]; rfl) (by kernel_rfl) (by kernel_rfl) (by kernel_rfl) (fun _ _ _ h => h) (Or.inl ⟨by rfl, ?_⟩) (by assumption) ?_
                  rotate_left
                  · intro w hSw
                    try dsimp only at hSw
                    go_simp
                    try with_reducible rfl
                  try simp only [Act.put, List.setIfInBounds_toArray, List.set_cons_zero, List.set_cons_succ]
                  refine wpAnyH_take (i := 6) (v := ?_) (by simp only [List.getElem?_toArray, List.getElem?_cons_succ, List.getElem?_cons_zero]; rfl) (by kernel_rfl) (by kernel_rfl) (by kernel_rfl) (fun _ _ _ h => h) (Or.inl ⟨by rfl, ?_⟩) (by assumption) ?_
                  rotate_left
                  · intro w hSw
                    try dsimp only at hSw
                    go_simp
                    try with_reducible rfl
                  try simp only [Act.put, List.setIfInBounds_toArray, List.set_cons_zero, List.set_cons_succ]
                  refine wpAnyH_ready (rs := [1, 7]) (by kernel_rfl) (by simp) ?_
                  refine (AllReadyH.cons (by simp only [List.getElem?_toArray, List.getElem?_cons_succ, List.getElem?_cons_zero]; rfl) (fun K hK => ?_) (AllReadyH.cons (by simp only [List.getElem?_toArray, List.getElem?_cons_succ, List.getElem?_cons_zero]; rfl) (fun K hK => ?_) AllReadyH.nil))
                  · have cL := CC.out.par
                    go_simp
                    clear cL
                    refine hK.out _ _ ⟨YY.out.y2.2.2, (HPS.out.kb' YY.out.bel).cell' HX.out⟩ (fun hHeld => ?_)
                    clear hK K
                    try simp only [Act.put, List.setIfInBounds_toArray, List.set_cons_zero, List.set_cons_succ]
                    refine wpAnyH_ready (rs := [7]) (by kernel_rfl) (by simp) ?_
                    refine (AllReadyH.cons (by simp only [List.getElem?_toArray, List.getElem?_cons_succ, List.getElem?_cons_zero]; rfl) (fun K hK => ?_) AllReadyH.nil)
                    go_simp
                    refine (hash_to _ x).mono ?_
                    rintro e v2 ⟨rfl, bb⟩
                    have CC := Lib.hid (CC.out.kb bb)
                    have YY := Lib.hid (YY.out.kb bb)
                    clear bb
                    go_wp2_with fail
                    refine hK.out _ _ ⟨YY.out.y2.2.2, (HPS.out.kb' YY.out.bel).cell' HX.out⟩ (fun hHeld => ?_)
                    clear hK K
                    try simp only [Act.put, List.setIfInBounds_toArray, List.set_cons_zero, List.set_cons_succ]
                    refine wpAnyH_ready (rs := [8]) (by kernel_rfl) (by simp) ?_
                    refine (AllReadyH.cons (by simp only [List.getElem?_toArray, List.getElem?_cons_succ, List.getElem?_cons_zero]; rfl) (fun K hK => ?_) AllReadyH.nil)
                    refine step_sl1 (hh x) (hh_length x) (by rfl) (by rfl) ?_
                    have HB7 := Lib.hid (heap_alloc_last v2 (.cells (hv (hh x)) 31))
                    have CC := Lib.hid (CC.out.kb (below_al11 v2 (.cells (hv (hh x)) 31)))
                    have YY := Lib.hid (YY.out.kb (below_al11 v2 (.cells (hv (hh x)) 31)))
                    generalize v2.alloc (.cells (hv (hh x)) 31) = v3 at *
                    generalize v2.heap.size = b7 at *
                    refine hK.out _ _ ⟨YY.out.y2.2.2, (HPS.out.kb' YY.out.bel).cell' HX.out⟩ (fun hHeld => ?_)
                    clear hK K
                    try simp only [Act.put, List.setIfInBounds_toArray, List.set_cons_zero, List.set_cons_succ]
                    refine wpAnyH_ready (rs := [9]) (by kernel_rfl) (by simp) ?_
                    refine (AllReadyH.cons (by simp only [List.getElem?_toArray, List.getElem?_cons_succ, List.getElem?_cons_zero]; rfl) (fun K hK => ?_) AllReadyH.nil)
                    refine step_pushh rfl _ _ rfl W0.heap.size (.slice p m c) ps b7 (hh x) (hh_length x) (by rfl) CC.out.own (by rfl) HB7.out (by rw [← HM.out]; have := HM2.out; omega) YY.out.bel.size (m + 1) (by rw [HM.out]) ?_
                    intro p9 c9 v4 o9 oth9 loc9
                    have hpush := CC.out.push o9 oth9 (hh_length x)
                    have hc9 := cm_cell CC.out.hh (CC.out.mid oth9)
                    have hf9 : v4.frozen? ⟨cb, 32, none⟩ = false := frozen_of_row _ _ _ _ _ (CC.out.mid oth9)
                    have YH := Lib.hid (YY.out.half CC.out oth9)
                    have CN := Lib.hid hpush.1
                    have YN := Lib.hid (YY.out.far CC.out hpush.2)
                    clear hpush o9 oth9 loc9
                    refine hK.out _ _ ⟨YH.out.y2.2.2, (HPS.out.kb' YH.out.bel).cell' HX.out⟩ (fun hHeld => ?_)
                    clear hK K
                    try simp only [Act.put, List.setIfInBounds_toArray, List.set_cons_zero, List.set_cons_succ]
                    refine wpAnyH_take (i := 10) (v := ?_) (by simp only [List.getElem?_toArray, List.getElem?_cons_succ, List.getElem?_cons_zero]; rfl) (by kernel_rfl) (by kernel_rfl) (by kernel_rfl) (fun _ _ _ h => h) (Or.inl ⟨by rfl, ?_⟩) (by assumption) ?_
                    rotate_left
                    · intro w hSw
                      try dsimp only at hSw
                      go_simp
                      try with_reducible rfl
                    try simp only [Act.put, List.setIfInBounds_toArray, List.set_cons_zero, List.set_cons_succ]
                    refine wpAnyH_ready (rs := [11]) (by kernel_rfl) (by simp) ?_
                    refine (AllReadyH.cons (by simp only [List.getElem?_toArray, List.getElem?_cons_succ, List.getElem?_cons_zero]; rfl) (fun K hK => ?_) AllReadyH.nil)
                    go_simp
                    generalize v4.setCell ⟨cb, 32, none⟩ (.slice p9 (m + 1) c9) = v5 at *
                    refine hK.out _ _ ⟨YN.out.y2.2.2, (HPS.out.kb' YN.out.bel).cell' HX.out⟩ (fun hHeld => ?_)
                    clear hK K
                    try simp only [Act.put, List.setIfInBounds_toArray, List.set_cons_zero, List.set_cons_succ]
                    refine wpAnyH_done (by kernel_rfl) ?_ _
                    refine NoPanic.normal ?_
                    go_wp2_with fail
                    refine ⟨⟨j + 1, p9, c9, m + 1, ps ++ [hh x], congrArg _ (by omega), HJ.out, HJ6.out, Lib.hid (by rw [HM.out, List.length_append]; rfl), Nat.succ_le_succ HMJ.out, CN, YN⟩, ?_⟩
                    simp only [intOf]; have := HJ6.out; omega
                  · go_simp
                    refine (hash_to _ x).mono ?_
                    rintro e v2 ⟨rfl, bb⟩
                    have CC := Lib.hid (CC.out.kb bb)
                    have YY := Lib.hid (YY.out.kb bb)
                    clear bb
                    go_wp2_with fail
                    refine hK.out _ _ ⟨YY.out.y2.2.2, (HPS.out.kb' YY.out.bel).cell' HX.out⟩ (fun hHeld => ?_)
                    clear hK K
                    try simp only [Act.put, List.setIfInBounds_toArray, List.set_cons_zero, List.set_cons_succ]
                    refine wpAnyH_ready (rs := [1, 8]) (by kernel_rfl) (by simp) ?_
                    refine (AllReadyH.cons (by simp only [List.getElem?_toArray, List.getElem?_cons_succ, List.getElem?_cons_zero]; rfl) (fun K hK => ?_) (AllReadyH.cons (by simp only [List.getElem?_toArray, List.getElem?_cons_succ, List.getElem?_cons_zero]; rfl) (fun K hK => ?_) AllReadyH.nil))
                    · have cL := CC.out.par
                      go_simp
                      clear cL
                      refine hK.out _ _ ⟨YY.out.y2.2.2, (HPS.out.kb' YY.out.bel).cell' HX.out⟩ (fun hHeld => ?_)
                      clear hK K
                      try simp only [Act.put, List.setIfInBounds_toArray, List.set_cons_zero, List.set_cons_succ]
                      refine wpAnyH_ready (rs := [8]) (by kernel_rfl) (by simp) ?_
                      refine (AllReadyH.cons (by simp only [List.getElem?_toArray, List.getElem?_cons_succ, List.getElem?_cons_zero]; rfl) (fun K hK => ?_) AllReadyH.nil)
                      refine step_sl1 (hh x) (hh_length x) (by rfl) (by rfl) ?_
                      have HB7 := Lib.hid (heap_alloc_last v2 (.cells (hv (hh x)) 31))
                      have CC := Lib.hid (CC.out.kb (below_al11 v2 (.cells (hv (hh x)) 31)))
                      have YY := Lib.hid (YY.out.kb (below_al11 v2 (.cells (hv (hh x)) 31)))
                      generalize v2.alloc (.cells (hv (hh x)) 31) = v3 at *
                      generalize v2.heap.size = b7 at *
                      refine hK.out _ _ ⟨YY.out.y2.2.2, (HPS.out.kb' YY.out.bel).cell' HX.out⟩ (fun hHeld => ?_)
                      clear hK K
                      try simp only [Act.put, List.setIfInBounds_toArray, List.set_cons_zero, List.set_cons_succ]
                      refine wpAnyH_ready (rs := [9]) (by kernel_rfl) (by simp) ?_
                      refine (AllReadyH.cons (by simp only [List.getElem?_toArray, List.getElem?_cons_succ, List.getElem?_cons_zero]; rfl) (fun K hK => ?_) AllReadyH.nil)
                      refine step_pushh rfl _ _ rfl W0.heap.size (.slice p m c) ps b7 (hh x) (hh_length x) (by rfl) CC.out.own (by rfl) HB7.out (by rw [← HM.out]; have := HM2.out; omega) YY.out.bel.size (m + 1) (by rw [HM.out]) ?_
                      intro p9 c9 v4 o9 oth9 loc9
                      have hpush := CC.out.push o9 oth9 (hh_length x)
                      have hc9 := cm_cell CC.out.hh (CC.out.mid oth9)
                      have hf9 : v4.frozen? ⟨cb, 32, none⟩ = false := frozen_of_row _ _ _ _ _ (CC.out.mid oth9)
                      have YH := Lib.hid (YY.out.half CC.out oth9)
                      have CN := Lib.hid hpush.1
                      have YN := Lib.hid (YY.out.far CC.out hpush.2)
                      clear hpush o9 oth9 loc9
                      refine hK.out _ _ ⟨YH.out.y2.2.2, (HPS.out.kb' YH.out.bel).cell' HX.out⟩ (fun hHeld => ?_)
                      clear hK K
                      try simp only [Act.put, List.setIfInBounds_toArray, List.set_cons_zero, List.set_cons_succ]
                      refine wpAnyH_take (i := 10) (v := ?_) (by simp only [List.getElem?_toArray, List.getElem?_cons_succ, List.getElem?_cons_zero]; rfl) (by kernel_rfl) (by kernel_rfl) (by kernel_rfl) (fun _ _ _ h => h) (Or.inl ⟨by rfl, ?_⟩) (by assumption) ?_
                      rotate_left
                      · intro w hSw
                        try dsimp only at hSw
                        go_simp
                        try with_reducible rfl
                      try simp only [Act.put, List.setIfInBounds_toArray, List.set_cons_zero, List.set_cons_succ]
                      refine wpAnyH_ready (rs := [11]) (by kernel_rfl) (by simp) ?_
                      refine (AllReadyH.cons (by simp only [List.getElem?_toArray, List.getElem?_cons_succ, List.getElem?_cons_zero]; rfl) (fun K hK => ?_) AllReadyH.nil)
                      go_simp
                      generalize v4.setCell ⟨cb, 32, none⟩ (.slice p9 (m + 1) c9) = v5 at *
                      refine hK.out _ _ ⟨YN.out.y2.2.2, (HPS.out.kb' YN.out.bel).cell' HX.out⟩ (fun hHeld => ?_)
                      clear hK K
                      try simp only [Act.put, List.setIfInBounds_toArray, List.set_cons_zero, List.set_cons_succ]
                      refine wpAnyH_done (by kernel_rfl) ?_ _
                      refine NoPanic.normal ?_
                      go_wp2_with fail
                      refine ⟨⟨j + 1, p9, c9, m + 1, ps ++ [hh x], congrArg _ (by omega), HJ.out, HJ6.out, Lib.hid (by rw [HM.out, List.length_append]; rfl), Nat.succ_le_succ HMJ.out, CN, YN⟩, ?_⟩
                      simp only [intOf]; have := HJ6.out; omega
                    · refine step_sl1 (hh x) (hh_length x) (by rfl) (by rfl) ?_
                      have HB7 := Lib.hid (heap_alloc_last v2 (.cells (hv (hh x)) 31))
                      have CC := Lib.hid (CC.out.kb (below_al11 v2 (.cells (hv (hh x)) 31)))
                      have YY := Lib.hid (YY.out.kb (below_al11 v2 (.cells (hv (hh x)) 31)))
                      generalize v2.alloc (.cells (hv (hh x)) 31) = v3 at *
                      generalize v2.heap.size = b7 at *
                      refine hK.out _ _ ⟨YY.out.y2.2.2, (HPS.out.kb' YY.out.bel).cell' HX.out⟩ (fun hHeld => ?_)
                      clear hK K
                      try simp only [Act.put, List.setIfInBounds_toArray, List.set_cons_zero, List.set_cons_succ]
                      refine wpAnyH_ready (rs := [1]) (by kernel_rfl) (by simp) ?_
                      refine (AllReadyH.cons (by simp only [List.getElem?_toArray, List.getElem?_cons_succ, List.getElem?_cons_zero]; rfl) (fun K hK => ?_) AllReadyH.nil)
                      have cL := CC.out.par
                      go_simp
                      clear cL
                      refine hK.out _ _ ⟨YY.out.y2.2.2, (HPS.out.kb' YY.out.bel).cell' HX.out⟩ (fun hHeld => ?_)
                      clear hK K
                      try simp only [Act.put, List.setIfInBounds_toArray, List.set_cons_zero, List.set_cons_succ]
                      refine wpAnyH_ready (rs := [9]) (by kernel_rfl) (by simp) ?_
                      refine (AllReadyH.cons (by simp only [List.getElem?_toArray, List.getElem?_cons_succ, List.getElem?_cons_zero]; rfl) (fun K hK => ?_) AllReadyH.nil)
                      refine step_pushh rfl _ _ rfl W0.heap.size (.slice p m c) ps b7 (hh x) (hh_length x) (by rfl) CC.out.own (by rfl) HB7.out (by rw [← HM.out]; have := HM2.out; omega) YY.out.bel.size (m + 1) (by rw [HM.out]) ?_
                      intro p9 c9 v4 o9 oth9 loc9
                      have hpush := CC.out.push o9 oth9 (hh_length x)
                      have hc9 := cm_cell CC.out.hh (CC.out.mid oth9)
                      have hf9 : v4.frozen? ⟨cb, 32, none⟩ = false := frozen_of_row _ _ _ _ _ (CC.out.mid oth9)
                      have YH := Lib.hid (YY.out.half CC.out oth9)
                      have CN := Lib.hid hpush.1
                      have YN := Lib.hid (YY.out.far CC.out hpush.2)
                      clear hpush o9 oth9 loc9
                      refine hK.out _ _ ⟨YH.out.y2.2.2, (HPS.out.kb' YH.out.bel).cell' HX.out⟩ (fun hHeld => ?_)
                      clear hK K
                      try simp only [Act.put, List.setIfInBounds_toArray, List.set_cons_zero, List.set_cons_succ]
                      refine wpAnyH_take (i := 10) (v := ?_) (by simp only [List.getElem?_toArray, List.getElem?_cons_succ, List.getElem?_cons_zero]; rfl) (by kernel_rfl) (by kernel_rfl) (by kernel_rfl) (fun _ _ _ h => h) (Or.inl ⟨by rfl, ?_⟩) (by assumption) ?_
                      rotate_left
                      · intro w hSw
                        try dsimp only at hSw
                        go_simp
                        try with_reducible rfl
                      try simp only [Act.put, List.setIfInBounds_toArray, List.set_cons_zero, List.set_cons_succ]
                      refine wpAnyH_ready (rs := [11]) (by kernel_rfl) (by simp) ?_
                      refine (AllReadyH.cons (by simp only [List.getElem?_toArray, List.getElem?_cons_succ, List.getElem?_cons_zero]; rfl) (fun K hK => ?_) AllReadyH.nil)
                      go_simp
                      generalize v4.setCell ⟨cb, 32, none⟩ (.slice p9 (m + 1) c9) = v5 at *
                      refine hK.out _ _ ⟨YN.out.y2.2.2, (HPS.out.kb' YN.out.bel).cell' HX.out⟩ (fun hHeld => ?_)
                      clear hK K
                      try simp only [Act.put, List.setIfInBounds_toArray, List.set_cons_zero, List.set_cons_succ]
                      refine wpAnyH_done (by kernel_rfl) ?_ _
                      refine NoPanic.normal ?_
                      go_wp2_with fail
                      refine ⟨⟨j + 1, p9, c9, m + 1, ps ++ [hh x], congrArg _ (by omega), HJ.out, HJ6.out, Lib.hid (by rw [HM.out, List.length_append]; rfl), Nat.succ_le_succ HMJ.out, CN, YN⟩, ?_⟩
                      simp only [intOf]; have := HJ6.out; omega
                · have HPL : Hid (ps.length ≤ 10) := Lib.hid (by rw [← HM.out]; omega)
                  rcases (by omega : ¬ j < ny ∨ (j < ny ∧ ¬ j < 6)) with hq1 | ⟨hq1, hq2⟩
                  · have hjl : ¬ (j : Int) < ny := by omega
                    clear hlt hjn hj6 hmj
                    have RT := Lib.hid (RR0.out.kb YY.out.bel)
                    have XT := Lib.hid (XX0.out.kb YY.out.bel)
                    have t0 := RT.out.c0.1
                    have hcl := cld_range (w := wr) (p := cb) (o := 0) (h := h) (u := .slice p m c) CC.out.hh (by have := range_row CC.out.cell; rwa [cmv_list] at this)
                    have BA := Lib.hid (below_al11 wr (.cells (cf [(h, .slice p m c)]).toArray 34))
                    go_wp2_with (first
                      | (go_at_call 19; refine (HPH.out _).mono ?_; rintro e wz ⟨rfl, rfl⟩)
                      | (refine slicec_w (C := [(h, .slice p m c)]) (by simpa using HH32.out) rfl (by simp) (by simp) ?hv ?hw ?_; (case hv => first | rfl | simp [Act.put, Act.eval]); (case hw => first | rfl | simp [Region.wanted, yielded]))
                      | (at_builtin; refine push_comm rfl (.tmp 114) (.tmp 116) rfl (b := wr.heap.size) (h := h) (u := .slice p m c) (ps := ps) (w0 := w) rfl rfl (heap_alloc_last wr _) (RT.out.kb BA.out) HNC.out (XT.out.kb BA.out) HH32.out CC.out.p32 HPL.out (own_mono (own_below CC.out.own BA.out) (XX0.out.hB ▸ XX0.out.bel.size)) (fun j _ h => nomatch h) NCB.out ?_; intro g5 c5 w5 hc5 hf5 R5 X5 o5; have R5 := Lib.hid R5; have X5 := Lib.hid X5; have O5 := Lib.hid o5; clear o5))
                    refine ⟨⟨i + 1, some ⟨g5, 0, none⟩, nC + 1, c5, C ++ [(h, _)], cs ++ [(h, _)], congrArg _ (by omega), HINL.out, HI12.out, Nat.succ_le_succ HNI.out, Lib.hid (by rw [HNC.out, List.length_append]; rfl), R5, X5⟩, ?_⟩
                    simp only [intOf]; have := HI12.out; omega
                  · have hjl : (j : Int) < ny := by omega
                    have hjl6 : ¬ (j : Int) < 6 := by omega
                    clear hlt hjn hj6 hmj
                    have RT := Lib.hid (RR0.out.kb YY.out.bel)
                    have XT := Lib.hid (XX0.out.kb YY.out.bel)
                    have t0 := RT.out.c0.1
                    have hcl := cld_range (w := wr) (p := cb) (o := 0) (h := h) (u := .slice p m c) CC.out.hh (by have := range_row CC.out.cell; rwa [cmv_list] at this)
                    have BA := Lib.hid (below_al11 wr (.cells (cf [(h, .slice p m c)]).toArray 34))
                    go_wp2_with (first
                      | (go_at_call 19; refine (HPH.out _).mono ?_; rintro e wz ⟨rfl, rfl⟩)
                      | (refine slicec_w (C := [(h, .slice p m c)]) (by simpa using HH32.out) rfl (by simp) (by simp) ?hv ?hw ?_; (case hv => first | rfl | simp [Act.put, Act.eval]); (case hw => first | rfl | simp [Region.wanted, yielded]))
                      | (at_builtin; refine push_comm rfl (.tmp 114) (.tmp 116) rfl (b := wr.heap.size) (h := h) (u := .slice p m c) (ps := ps) (w0 := w) rfl rfl (heap_alloc_last wr _) (RT.out.kb BA.out) HNC.out (XT.out.kb BA.out) HH32.out CC.out.p32 HPL.out (own_mono (own_below CC.out.own BA.out) (XX0.out.hB ▸ XX0.out.bel.size)) (fun j _ h => nomatch h) NCB.out ?_; intro g5 c5 w5 hc5 hf5 R5 X5 o5; have R5 := Lib.hid R5; have X5 := Lib.hid X5; have O5 := Lib.hid o5; clear o5))
                    refine ⟨⟨i + 1, some ⟨g5, 0, none⟩, nC + 1, c5, C ++ [(h, _)], cs ++ [(h, _)], congrArg _ (by omega), HINL.out, HI12.out, Nat.succ_le_succ HNI.out, Lib.hid (by rw [HNC.out, List.length_append]; rfl), R5, X5⟩, ?_⟩
                    simp only [intOf]; have := HI12.out; omega
            · have HPH := Lib.hid (fun W : World => pick_to W yh 60 1 (by decide) (by decide) hc)
              have hpar := CC.out.par
              clear hc
              rcases Nat.eq_zero_or_pos m with h0 | h0
              · subst h0
                have RT := Lib.hid (RR0.out.kb YY.out.bel)
                have XT := Lib.hid (XX0.out.kb YY.out.bel)
                have t0 := RT.out.c0.1
                have hcl := cld_range (w := wr) (p := cb) (o := 0) (h := h) (u := .slice p 0 c) CC.out.hh (by have := range_row CC.out.cell; rwa [cmv_list] at this)
                have BA := Lib.hid (below_al11 wr (.cells (cf [(h, .slice p 0 c)]).toArray 34))
                go_wp2_with (first
                  | (go_at_call 19; refine (HPH.out _).mono ?_; rintro e wz ⟨rfl, rfl⟩)
                  | (refine slicec_w (C := [(h, .slice p 0 c)]) (by simpa using HH32.out) rfl (by simp) (by simp) ?hv ?hw ?_; (case hv => first | rfl | simp [Act.put, Act.eval]); (case hw => first | rfl | simp [Region.wanted, yielded]))
                  | (at_builtin; refine push_comm rfl (.tmp 114) (.tmp 116) rfl (b := wr.heap.size) (h := h) (u := .slice p 0 c) (ps := ps) (w0 := w) rfl rfl (heap_alloc_last wr _) (RT.out.kb BA.out) HNC.out (XT.out.kb BA.out) HH32.out CC.out.p32 HPL.out (own_mono (own_below CC.out.own BA.out) (XX0.out.hB ▸ XX0.out.bel.size)) (fun j _ h => nomatch h) NCB.out ?_; intro g5 c5 w5 hc5 hf5 R5 X5 o5; have R5 := Lib.hid R5; have X5 := Lib.hid X5; have O5 := Lib.hid o5; clear o5))
                refine ⟨⟨i + 1, some ⟨g5, 0, none⟩, nC + 1, c5, C ++ [(h, _)], cs ++ [(h, _)], congrArg _ (by omega), HINL.out, HI12.out, Nat.succ_le_succ HNI.out, Lib.hid (by rw [HNC.out, List.length_append]; rfl), R5, X5⟩, ?_⟩
                simp only [intOf]; have := HI12.out; omega
              · have h1 : (0 : Int) < m := by omega
                obtain ⟨x, tl, hps⟩ : ∃ x tl, ps = x :: tl := by
                  cases ps with
                  | nil => have := HM.out; simp at this; omega
                  | cons x tl => exact ⟨x, tl, rfl⟩
                obtain ⟨gp, hgp⟩ := own_first CC.out.own hps
                subst hgp
                have HPX := Lib.hid hps
                have HX32 : Hid (x.length = 32) := Lib.hid (CC.out.p32 x (by rw [hps]; exact List.mem_cons_self))
                clear hps
                go_wp2_with (go_at_call 19; refine (HPH.out _).mono ?_; rintro e wz ⟨rfl, rfl⟩)
                clear hpar y0 y1 y2
                have bq : Below wr.heap.size wr wr.drew := blw_qt _ 1 wr
                have CC := Lib.hid (CC.out.kb bq)
                have YY := Lib.hid (YY.out.kb bq)
                clear bq
                try simp only [List.append]
                refine wp_region_noPanic ?_
                refine wp_region_held_drew (S := (fun _ => True)) (by kernel_rfl) trivial (fun hHeld => ?_)
                generalize wr.drew = v1 at *
                refine wpAnyH_take (i := 0) (v := ?_) (by simp only [List.getElem?_toArray, List.getElem?_cons_zero]; rfl) (by kernel_rfl) (by kernel_rfl) (by kernel_rfl) (fun _ _ _ h => h) (Or.inl ⟨by rfl, ?_⟩) (by assumption) ?_
                rotate_left
                · intro w hSw
                  try dsimp only at hSw
                  go_simp
                  try with_reducible rfl
                try simp only [Act.put, List.setIfInBounds_toArray, List.set_cons_zero, List.set_cons_succ]
                refine wpAnyH_take (i := 2) (v := ?_) (by simp only [List.getElem?_toArray, List.getElem?_cons_succ, List.getElem?_cons_zero]; rfl) (by kernel_rfl) (by kernel_rfl) (by kernel_rfl) (fun _ _ _ h => h) (Or.inl ⟨by rfl, ?_⟩) (by assumption) ?_
                rotate_left
                · intro w hSw
                  try dsimp only at hSw
                  go_simp
                  try with_reducible rfl
                try simp only [Act.put, List.setIfInBounds_toArray, List.set_cons_zero, List.set_cons_succ]
                refine wpAnyH_ready (rs := [1, 3]) (by kernel_rfl) (by simp) ?_
                refine (AllReadyH.cons (by simp only [List.getElem?_toArray, List.getElem?_cons_succ, List.getElem?_cons_zero]; rfl) (fun K hK => ?_) (AllReadyH.cons (by simp only [List.getElem?_toArray, List.getElem?_cons_succ, List.getElem?_cons_zero]; rfl) (fun K hK => ?_) AllReadyH.nil))
                · have cL := CC.out.par
                  go_simp
                  clear cL
                  refine hK.out _ _ trivial (fun hHeld => ?_)
                  clear hK K
                  try simp only [Act.put, List.setIfInBounds_toArray, List.set_cons_zero, List.set_cons_succ]
                  refine wpAnyH_ready (rs := [3]) (by kernel_rfl) (by simp) ?_
                  refine (AllReadyH.cons (by simp only [List.getElem?_toArray, List.getElem?_cons_succ, List.getElem?_cons_zero]; rfl) (fun K hK => ?_) AllReadyH.nil)
                  have cL := CC.out.par
                  go_simp
                  clear cL
                  refine hK.out _ _ trivial (fun hHeld => ?_)
                  clear hK K
                  try simp only [Act.put, List.setIfInBounds_toArray, List.set_cons_zero, List.set_cons_succ]
                  refine wpAnyH_take (i := 4) (v := ?_) (by simp only [List.getElem?_toArray, List.getElem?_cons_succ, List.getElem?_cons_zero]; rfl) (by kernel_rfl) (by kernel_rfl) (by kernel_rfl) (fun _ _ _ h => h) (Or.inl ⟨by rfl, ?_⟩) (by assumption) ?_
                  rotate_left
                  · intro w hSw
                    try dsimp only at hSw
                    go_simp
                    try with_reducible rfl
                  try simp only [Act.put, List.setIfInBounds_toArray, List.set_cons_zero, List.set_cons_succ]
                  refine wpAnyH_ready (rs := [5]) (by kernel_rfl) (by simp) ?_
                  refine (AllReadyH.cons (by simp only [List.getElem?_toArray, List.getElem?_cons_succ, List.getElem?_cons_zero]; rfl) (fun K hK => ?_) AllReadyH.nil)
                  have l5 := hld_range HX32.out (own_first' CC.out.own HPX.out)
                  go_simp
                  clear l5
                  refine hK.out _ _ trivial (fun hHeld => ?_)
                  clear hK K
                  try simp only [Act.put, List.setIfInBounds_toArray, List.set_cons_zero, List.set_cons_succ]
                  refine wpAnyH_ready (rs := [6]) (by kernel_rfl) (by simp) ?_
                  refine (AllReadyH.cons (by simp only [List.getElem?_toArray, List.getElem?_cons_succ, List.getElem?_cons_zero]; rfl) (fun K hK => ?_) AllReadyH.nil)
                  refine step_sl1 x HX32.out (by rfl) (by rfl) ?_
                  have HB7 := Lib.hid (heap_alloc_last v1 (.cells (hv x) 31))
                  have CC := Lib.hid (CC.out.kb (below_al11 v1 (.cells (hv x) 31)))
                  have YY := Lib.hid (YY.out.kb (below_al11 v1 (.cells (hv x) 31)))
                  generalize v1.alloc (.cells (hv x) 31) = v3 at *
                  generalize v1.heap.size = b7 at *
                  refine hK.out _ _ trivial (fun hHeld => ?_)
                  clear hK K
                  try simp only [Act.put, List.setIfInBounds_toArray, List.set_cons_zero, List.set_cons_succ]
                  refine wpAnyH_ready (rs := [7]) (by kernel_rfl) (by simp) ?_
                  refine (AllReadyH.cons (by simp only [List.getElem?_toArray, List.getElem?_cons_succ, List.getElem?_cons_zero]; rfl) (fun K hK => ?_) AllReadyH.nil)
                  refine step_pushh rfl _ _ rfl W0.heap.size (.slice (some ⟨gp, 0, none⟩) m c) ps b7 x HX32.out (by rfl) CC.out.own (by rfl) HB7.out (by rw [← HM.out]; have := HM2.out; omega) YY.out.bel.size (m + 1) (by rw [HM.out]) ?_
                  intro p9 c9 v4 o9 oth9 loc9
                  have hpush := CC.out.push o9 oth9 HX32.out
                  have hc9 := cm_cell CC.out.hh (CC.out.mid oth9)
                  have hf9 : v4.frozen? ⟨cb, 32, none⟩ = false := frozen_of_row _ _ _ _ _ (CC.out.mid oth9)
                  have CN := Lib.hid hpush.1
                  have YN := Lib.hid (YY.out.far CC.out hpush.2)
                  clear hpush o9 oth9 loc9
                  refine hK.out _ _ trivial (fun hHeld => ?_)
                  clear hK K
                  try simp only [Act.put, List.setIfInBounds_toArray, List.set_cons_zero, List.set_cons_succ]
                  refine wpAnyH_take (i := 8) (v := ?_) (by simp only [List.getElem?_toArray, List.getElem?_cons_succ, List.getElem?_cons_zero]; rfl) (by kernel_rfl) (by kernel_rfl) (by kernel_rfl) (fun _ _ _ h => h) (Or.inl ⟨by rfl, ?_⟩) (by assumption) ?_
                  rotate_left
                  · intro w hSw
                    try dsimp only at hSw
                    go_simp
                    try with_reducible rfl
                  try simp only [Act.put, List.setIfInBounds_toArray, List.set_cons_zero, List.set_cons_succ]
                  refine wpAnyH_ready (rs := [9]) (by kernel_rfl) (by simp) ?_
                  refine (AllReadyH.cons (by simp only [List.getElem?_toArray, List.getElem?_cons_succ, List.getElem?_cons_zero]; rfl) (fun K hK => ?_) AllReadyH.nil)
                  go_simp
                  generalize v4.setCell ⟨cb, 32, none⟩ (.slice p9 (m + 1) c9) = v5 at *
                  refine hK.out _ _ trivial (fun hHeld => ?_)
                  clear hK K
                  try simp only [Act.put, List.setIfInBounds_toArray, List.set_cons_zero, List.set_cons_succ]
                  refine wpAnyH_done (by kernel_rfl) ?_ _
                  refine NoPanic.normal ?_
                  have HPL : Hid ((ps ++ [x]).length ≤ 10) := Lib.hid (by rw [List.length_append, ← HM.out]; have := HM2.out; simp; omega)
                  have RT := Lib.hid (RR0.out.kb YN.out.bel)
                  have XT := Lib.hid (XX0.out.kb YN.out.bel)
                  have t0 := RT.out.c0.1
                  have hcl := cld_range (w := v5) (p := cb) (o := 0) (h := h) (u := .slice p9 (m + 1) c9) CN.out.hh (by have := range_row CN.out.cell; rwa [cmv_list] at this)
                  have BA := Lib.hid (below_al11 v5 (.cells (cf [(h, .slice p9 (m + 1) c9)]).toArray 34))
                  go_wp2_with (first
                    | (go_at_call 19; refine (HPH.out _).mono ?_; rintro e wz ⟨rfl, rfl⟩)
                    | (refine slicec_w (C := [(h, .slice p9 (m + 1) c9)]) (by simpa using HH32.out) rfl (by simp) (by simp) ?hv ?hw ?_; (case hv => first | rfl | simp [Act.put, Act.eval]); (case hw => first | rfl | simp [Region.wanted, yielded]))
                    | (at_builtin; refine push_comm rfl (.tmp 114) (.tmp 116) rfl (b := v5.heap.size) (h := h) (u := .slice p9 (m + 1) c9) (ps := (ps ++ [x])) (w0 := w) rfl rfl (heap_alloc_last v5 _) (RT.out.kb BA.out) HNC.out (XT.out.kb BA.out) HH32.out CN.out.p32 HPL.out (own_mono (own_below CN.out.own BA.out) (XX0.out.hB ▸ XX0.out.bel.size)) (fun j _ h => nomatch h) NCB.out ?_; intro g5 c5 w5 hc5 hf5 R5 X5 o5; have R5 := Lib.hid R5; have X5 := Lib.hid X5; have O5 := Lib.hid o5; clear o5))
                  refine ⟨⟨i + 1, some ⟨g5, 0, none⟩, nC + 1, c5, C ++ [(h, _)], cs ++ [(h, _)], congrArg _ (by omega), HINL.out, HI12.out, Nat.succ_le_succ HNI.out, Lib.hid (by rw [HNC.out, List.length_append]; rfl), R5, X5⟩, ?_⟩
                  simp only [intOf]; have := HI12.out; omega
                · have cL := CC.out.par
                  go_simp
                  clear cL
                  refine hK.out _ _ trivial (fun hHeld => ?_)
                  clear hK K
                  try simp only [Act.put, List.setIfInBounds_toArray, List.set_cons_zero, List.set_cons_succ]
                  refine wpAnyH_take (i := 4) (v := ?_) (by simp only [List.getElem?_toArray, List.getElem?_cons_succ, List.getElem?_cons_zero]; rfl) (by kernel_rfl) (by kernel_rfl) (by kernel_rfl) (fun _ _ _ h => h) (Or.inl ⟨by rfl, ?_⟩) (by assumption) ?_
                  rotate_left
                  · intro w hSw
                    try dsimp only at hSw
                    go_simp
                    try with_reducible rfl
                  try simp only [Act.put, List.setIfInBounds_toArray, List.set_cons_zero, List.set_cons_succ]
                  refine wpAnyH_ready (rs := [1, 5]) (by kernel_rfl) (by simp) ?_
                  refine (AllReadyH.cons (by simp only [List.getElem?_toArray, List.getElem?_cons_succ, List.getElem?_cons_zero]; rfl) (fun K hK => ?_) (AllReadyH.cons (by simp only [List.getElem?_toArray, List.getElem?_cons_succ, List.getElem?_cons_zero]; rfl) (fun K hK => ?_) AllReadyH.nil))
                  · have cL := CC.out.par
                    go_simp
                    clear cL
                    refine hK.out _ _ trivial (fun hHeld => ?_)
                    clear hK K
                    try simp only [Act.put, List.setIfInBounds_toArray, List.set_cons_zero, List.set_cons_succ]
                    refine wpAnyH_ready (rs := [5]) (by kernel_rfl) (by simp) ?_
                    refine (AllReadyH.cons (by simp only [List.getElem?_toArray, List.getElem?_cons_succ, List.getElem?_cons_zero]; rfl) (fun K hK => ?_) AllReadyH.nil)
                    have l5 := hld_range HX32.out (own_first' CC.out.own HPX.out)
                    go_simp
                    clear l5
                    refine hK.out _ _ trivial (fun hHeld => ?_)
                    clear hK K
                    try simp only [Act.put, List.setIfInBounds_toArray, List.set_cons_zero, List.set_cons_succ]
                    refine wpAnyH_ready (rs := [6]) (by kernel_rfl) (by simp) ?_
                    refine (AllReadyH.cons (by simp only [List.getElem?_toArray, List.getElem?_cons_succ, List.getElem?_cons_zero]; rfl) (fun K hK => ?_) AllReadyH.nil)
                    refine step_sl1 x HX32.out (by rfl) (by rfl) ?_
                    have HB7 := Lib.hid (heap_alloc_last v1 (.cells (hv x) 31))
                    have CC := Lib.hid (CC.out.kb (below_al11 v1 (.cells (hv x) 31)))
                    have YY := Lib.hid (YY.out.kb (below_al11 v1 (.cells (hv x) 31)))
                    generalize v1.alloc (.cells (hv x) 31) = v3 at *
                    generalize v1.heap.size = b7 at *
                    refine hK.out _ _ trivial (fun hHeld => ?_)
                    clear hK K
                    try simp only [Act.put, List.setIfInBounds_toArray, List.set_cons_zero, List.set_cons_succ]
                    refine wpAnyH_ready (rs := [7]) (by kernel_rfl) (by simp) ?_
                    refine (AllReadyH.cons (by simp only [List.getElem?_toArray, List.getElem?_cons_succ, List.getElem?_cons_zero]; rfl) (fun K hK => ?_) AllReadyH.nil)
                    refine step_pushh rfl _ _ rfl W0.heap.size (.slice (some ⟨gp, 0, none⟩) m c) ps b7 x HX32.out (by rfl) CC.out.own (by rfl) HB7.out (by rw [← HM.out]; have := HM2.out; omega) YY.out.bel.size (m + 1) (by rw [HM.out]) ?_
                    intro p9 c9 v4 o9 oth9 loc9
                    have hpush := CC.out.push o9 oth9 HX32.out
                    have hc9 := cm_cell CC.out.hh (CC.out.mid oth9)
                    have hf9 : v4.frozen? ⟨cb, 32, none⟩ = false := frozen_of_row _ _ _ _ _ (CC.out.mid oth9)
                    have CN := Lib.hid hpush.1
                    have YN := Lib.hid (YY.out.far CC.out hpush.2)
                    clear hpush o9 oth9 loc9
                    refine hK.out _ _ trivial (fun hHeld => ?_)
                    clear hK K
                    try simp only [Act.put, List.setIfInBounds_toArray, List.set_cons_zero, List.set_cons_succ]
                    refine wpAnyH_take (i := 8) (v := ?_) (by simp only [List.getElem?_toArray, List.getElem?_cons_succ, List.getElem?_cons_zero]; rfl) (by kernel_rfl) (by kernel_rfl) (by kernel_rfl) (fun _ _ _ h => h) (Or.inl ⟨by rfl, ?_⟩) (by assumption) ?_
                    rotate_left
                    · intro w hSw
                      try dsimp only at hSw
                      go_simp
                      try with_reducible rfl
                    try simp only [Act.put, List.setIfInBounds_toArray, List.set_cons_zero, List.set_cons_succ]
                    refine wpAnyH_ready (rs := [9]) (by kernel_rfl) (by simp) ?_
                    refine (AllReadyH.cons (by simp only [List.getElem?_toArray, List.getElem?_cons_succ, List.getElem?_cons_zero]; rfl) (fun K hK => ?_) AllReadyH.nil)
                    go_simp
                    generalize v4.setCell ⟨cb, 32, none⟩ (.slice p9 (m + 1) c9) = v5 at *
                    refine hK.out _ _ trivial (fun hHeld => ?_)
                    clear hK K
                    try simp only [Act.put, List.setIfInBounds_toArray, List.set_cons_zero, List.set_cons_succ]
                    refine wpAnyH_done (by kernel_rfl) ?_ _
                    refine NoPanic.normal ?_
                    have HPL : Hid ((ps ++ [x]).length ≤ 10) := Lib.hid (by rw [List.length_append, ← HM.out]; have := HM2.out; simp; omega)
                    have RT := Lib.hid (RR0.out.kb YN.out.bel)
                    have XT := Lib.hid (XX0.out.kb YN.out.bel)
                    have t0 := RT.out.c0.1
                    have hcl := cld_range (w := v5) (p := cb) (o := 0) (h := h) (u := .slice p9 (m + 1) c9) CN.out.hh (by have := range_row CN.out.cell; rwa [cmv_list] at this)
                    have BA := Lib.hid (below_al11 v5 (.cells (cf [(h, .slice p9 (m + 1) c9)]).toArray 34))
                    go_wp2_with (first
                      | (go_at_call 19; refine (HPH.out _).mono ?_; rintro e wz ⟨rfl, rfl⟩)
                      | (refine slicec_w (C := [(h, .slice p9 (m + 1) c9)]) (by simpa using HH32.out) rfl (by simp) (by simp) ?hv ?hw ?_; (case hv => first | rfl | simp [Act.put, Act.eval]); (case hw => first | rfl | simp [Region.wanted, yielded]))
                      | (at_builtin; refine push_comm rfl (.tmp 114) (.tmp 116) rfl (b := v5.heap.size) (h := h) (u := .slice p9 (m + 1) c9) (ps := (ps ++ [x])) (w0 := w) rfl rfl (heap_alloc_last v5 _) (RT.out.kb BA.out) HNC.out (XT.out.kb BA.out) HH32.out CN.out.p32 HPL.out (own_mono (own_below CN.out.own BA.out) (XX0.out.hB ▸ XX0.out.bel.size)) (fun j _ h => nomatch h) NCB.out ?_; intro g5 c5 w5 hc5 hf5 R5 X5 o5; have R5 := Lib.hid R5; have X5 := Lib.hid X5; have O5 := Lib.hid o5; clear o5))
                    refine ⟨⟨i + 1, some ⟨g5, 0, none⟩, nC + 1, c5, C ++ [(h, _)], cs ++ [(h, _)], congrArg _ (by omega), HINL.out, HI12.out, Nat.succ_le_succ HNI.out, Lib.hid (by rw [HNC.out, List.length_append]; rfl), R5, X5⟩, ?_⟩
                    simp only [intOf]; have := HI12.out; omega
                  · have l5 := hld_range HX32.out (own_first' CC.out.own HPX.out)
                    go_simp
                    clear l5
                    refine hK.out _ _ trivial (fun hHeld => ?_)
                    clear hK K
                    try simp only [Act.put, List.setIfInBounds_toArray, List.set_cons_zero, List.set_cons_succ]
                    refine wpAnyH_ready (rs := [1, 6]) (by kernel_rfl) (by simp) ?_
                    refine (AllReadyH.cons (by simp only [List.getElem?_toArray, List.getElem?_cons_succ, List.getElem?_cons_zero]; rfl) (fun K hK => ?_) (AllReadyH.cons (by simp only [List.getElem?_toArray, List.getElem?_cons_succ, List.getElem?_cons_zero]; rfl) (fun K hK => ?_) AllReadyH.nil))
                    · have cL := CC.out.par
                      go_simp
                      clear cL
                      refine hK.out _ _ trivial (fun hHeld => ?_)
                      clear hK K
                      try simp only [Act.put, List.setIfInBounds_toArray, List.set_cons_zero, List.set_cons_succ]
                      refine wpAnyH_ready (rs := [6]) (by kernel_rfl) (by simp) ?_
                      refine (AllReadyH.cons (by simp only [List.getElem?_toArray, List.getElem?_cons_succ, List.getElem?_cons_zero]; rfl) (fun K hK => ?_) AllReadyH.nil)
                      refine step_sl1 x HX32.out (by rfl) (by rfl) ?_
                      have HB7 := Lib.hid (heap_alloc_last v1 (.cells (hv x) 31))
                      have CC := Lib.hid (CC.out.kb (below_al11 v1 (.cells (hv x) 31)))
                      have YY := Lib.hid (YY.out.kb (below_al11 v1 (.cells (hv x) 31)))
                      generalize v1.alloc (.cells (hv x) 31) = v3 at *
                      generalize v1.heap.size = b7 at *
                      refine hK.out _ _ trivial (fun hHeld => ?_)
                      clear hK K
                      try simp only [Act.put, List.setIfInBounds_toArray, List.set_cons_zero, List.set_cons_succ]
                      refine wpAnyH_ready (rs := [7]) (by kernel_rfl) (by simp) ?_
                      refine (AllReadyH.cons (by simp only [List.getElem?_toArray, List.getElem?_cons_succ, List.getElem?_cons_zero]; rfl) (fun K hK => ?_) AllReadyH.nil)
                      refine step_pushh rfl _ _ rfl W0.heap.size (.slice (some ⟨gp, 0, none⟩) m c) ps b7 x HX32.out (by rfl) CC.out.own (by rfl) HB7.out (by rw [← HM.out]; have := HM2.out; omega) YY.out.bel.size (m + 1) (by rw [HM.out]) ?_
                      intro p9 c9 v4 o9 oth9 loc9
                      have hpush := CC.out.push o9 oth9 HX32.out
                      have hc9 := cm_cell CC.out.hh (CC.out.mid oth9)
                      have hf9 : v4.frozen? ⟨cb, 32, none⟩ = false := frozen_of_row _ _ _ _ _ (CC.out.mid oth9)
                      have CN := Lib.hid hpush.1
                      have YN := Lib.hid (YY.out.far CC.out hpush.2)
                      clear hpush o9 oth9 loc9
                      refine hK.out _ _ trivial (fun hHeld => ?_)
                      clear hK K
                      try simp only [Act.put, List.setIfInBounds_toArray, List.set_cons_zero, List.set_cons_succ]
                      refine wpAnyH_take (i := 8) (v := ?_) (by simp only [List.getElem?_toArray, List.getElem?_cons_succ, List.getElem?_cons_zero]; rfl) (by kernel_rfl) (by kernel_rfl) (by kernel_rfl) (fun _ _ _ h => h) (Or.inl ⟨by rfl, ?_⟩) (by assumption) ?_
                      rotate_left
                      · intro w hSw
                        try dsimp only at hSw
                        go_simp
                        try with_reducible rfl
                      try simp only [Act.put, List.setIfInBounds_toArray, List.set_cons_zero, List.set_cons_succ]
                      refine wpAnyH_ready (rs := [9]) (by kernel_rfl) (by simp) ?_
                      refine (AllReadyH.cons (by simp only [List.getElem?_toArray, List.getElem?_cons_succ, List.getElem?_cons_zero]; rfl) (fun K hK => ?_) AllReadyH.nil)
                      go_simp
                      generalize v4.setCell ⟨cb, 32, none⟩ (.slice p9 (m + 1) c9) = v5 at *
                      refine hK.out _ _ trivial (fun hHeld => ?_)
                      clear hK K
                      try simp only [Act.put, List.setIfInBounds_toArray, List.set_cons_zero, List.set_cons_succ]
                      refine wpAnyH_done (by kernel_rfl) ?_ _
                      refine NoPanic.normal ?_
                      have HPL : Hid ((ps ++ [x]).length ≤ 10) := Lib.hid (by rw [List.length_append, ← HM.out]; have := HM2.out; simp; omega)
                      have RT := Lib.hid (RR0.out.kb YN.out.bel)
                      have XT := Lib.hid (XX0.out.kb YN.out.bel)
                      have t0 := RT.out.c0.1
                      have hcl := cld_range (w := v5) (p := cb) (o := 0) (h := h) (u := .slice p9 (m + 1) c9) CN.out.hh (by have := range_row CN.out.cell; rwa [cmv_list] at this)
                      have BA := Lib.hid (below_al11 v5 (.cells (cf [(h, .slice p9 (m + 1) c9)]).toArray 34))
                      go_wp2_with (first
                        | (go_at_call 19; refine (HPH.out _).mono ?_; rintro e wz ⟨rfl, rfl⟩)
                        | (refine slicec_w (C := [(h, .slice p9 (m + 1) c9)]) (by simpa using HH32.out) rfl (by simp) (by simp) ?hv ?hw ?_; (case hv => first | rfl | simp [Act.put, Act.eval]); (case hw => first | rfl | simp [Region.wanted, yielded]))
                        | (at_builtin; refine push_comm rfl (.tmp 114) (.tmp 116) rfl (b := v5.heap.size) (h := h) (u := .slice p9 (m + 1) c9) (ps := (ps ++ [x])) (w0 := w) rfl rfl (heap_alloc_last v5 _) (RT.out.kb BA.out) HNC.out (XT.out.kb BA.out) HH32.out CN.out.p32 HPL.out (own_mono (own_below CN.out.own BA.out) (XX0.out.hB ▸ XX0.out.bel.size)) (fun j _ h => nomatch h) NCB.out ?_; intro g5 c5 w5 hc5 hf5 R5 X5 o5; have R5 := Lib.hid R5; have X5 := Lib.hid X5; have O5 := Lib.hid o5; clear o5))
                      refine ⟨⟨i + 1, some ⟨g5, 0, none⟩, nC + 1, c5, C ++ [(h, _)], cs ++ [(h, _)], congrArg _ (by omega), HINL.out, HI12.out, Nat.succ_le_succ HNI.out, Lib.hid (by rw [HNC.out, List.length_append]; rfl), R5, X5⟩, ?_⟩
                      simp only [intOf]; have := HI12.out; omega
                    · refine step_sl1 x HX32.out (by rfl) (by rfl) ?_
                      have HB7 := Lib.hid (heap_alloc_last v1 (.cells (hv x) 31))
                      have CC := Lib.hid (CC.out.kb (below_al11 v1 (.cells (hv x) 31)))
                      have YY := Lib.hid (YY.out.kb (below_al11 v1 (.cells (hv x) 31)))
                      generalize v1.alloc (.cells (hv x) 31) = v3 at *
                      generalize v1.heap.size = b7 at *
                      refine hK.out _ _ trivial (fun hHeld => ?_)
                      clear hK K
                      try simp only [Act.put, List.setIfInBounds_toArray, List.set_cons_zero, List.set_cons_succ]
                      refine wpAnyH_ready (rs := [1]) (by kernel_rfl) (by simp) ?_
                      refine (AllReadyH.cons (by simp only [List.getElem?_toArray, List.getElem?_cons_succ, List.getElem?_cons_zero]; rfl) (fun K hK => ?_) AllReadyH.nil)
                      have cL := CC.out.par
                      go_simp
                      clear cL
                      refine hK.out _ _ trivial (fun hHeld => ?_)
                      clear hK K
                      try simp only [Act.put, List.setIfInBounds_toArray, List.set_cons_zero, List.set_cons_succ]
                      refine wpAnyH_ready (rs := [7]) (by kernel_rfl) (by simp) ?_
                      refine (AllReadyH.cons (by simp only [List.getElem?_toArray, List.getElem?_cons_succ, List.getElem?_cons_zero]; rfl) (fun K hK => ?_) AllReadyH.nil)
                      refine step_pushh rfl _ _ rfl W0.heap.size (.slice (some ⟨gp, 0, none⟩) m c) ps b7 x HX32.out (by rfl) CC.out.own (by rfl) HB7.out (by rw [← HM.out]; have := HM2.out; omega) YY.out.bel.size (m + 1) (by rw [HM.out]) ?_
                      intro p9 c9 v4 o9 oth9 loc9
                      have hpush := CC.out.push o9 oth9 HX32.out
                      have hc9 := cm_cell CC.out.hh (CC.out.mid oth9)
                      have hf9 : v4.frozen? ⟨cb, 32, none⟩ = false := frozen_of_row _ _ _ _ _ (CC.out.mid oth9)
                      have CN := Lib.hid hpush.1
                      have YN := Lib.hid (YY.out.far CC.out hpush.2)
                      clear hpush o9 oth9 loc9
                      refine hK.out _ _ trivial (fun hHeld => ?_)
                      clear hK K
                      try simp only [Act.put, List.setIfInBounds_toArray, List.set_cons_zero, List.set_cons_succ]
                      refine wpAnyH_take (i := 8) (v := ?_) (by simp only [List.getElem?_toArray, List.getElem?_cons_succ, List.getElem?_cons_zero]; rfl) (by kernel_rfl) (by kernel_rfl) (by kernel_rfl) (fun _ _ _ h => h) (Or.inl ⟨by rfl, ?_⟩) (by assumption) ?_
                      rotate_left
                      · intro w hSw
                        try dsimp only at hSw
                        go_simp
                        try with_reducible rfl
                      try simp only [Act.put, List.setIfInBounds_toArray, List.set_cons_zero, List.set_cons_succ]
                      refine wpAnyH_ready (rs := [9]) (by kernel_rfl) (by simp) ?_
                      refine (AllReadyH.cons (by simp only [List.getElem?_toArray, List.getElem?_cons_succ, List.getElem?_cons_zero]; rfl) (fun K hK => ?_) AllReadyH.nil)
                      go_simp
                      generalize v4.setCell ⟨cb, 32, none⟩ (.slice p9 (m + 1) c9) = v5 at *
                      refine hK.out _ _ trivial (fun hHeld => ?_)
                      clear hK K
                      try simp only [Act.put, List.setIfInBounds_toArray, List.set_cons_zero, List.set_cons_succ]
                      refine wpAnyH_done (by kernel_rfl) ?_ _
                      refine NoPanic.normal ?_
                      have HPL : Hid ((ps ++ [x]).length ≤ 10) := Lib.hid (by rw [List.length_append, ← HM.out]; have := HM2.out; simp; omega)
                      have RT := Lib.hid (RR0.out.kb YN.out.bel)
                      have XT := Lib.hid (XX0.out.kb YN.out.bel)
                      have t0 := RT.out.c0.1
                      have hcl := cld_range (w := v5) (p := cb) (o := 0) (h := h) (u := .slice p9 (m + 1) c9) CN.out.hh (by have := range_row CN.out.cell; rwa [cmv_list] at this)
                      have BA := Lib.hid (below_al11 v5 (.cells (cf [(h, .slice p9 (m + 1) c9)]).toArray 34))
                      go_wp2_with (first
                        | (go_at_call 19; refine (HPH.out _).mono ?_; rintro e wz ⟨rfl, rfl⟩)
                        | (refine slicec_w (C := [(h, .slice p9 (m + 1) c9)]) (by simpa using HH32.out) rfl (by simp) (by simp) ?hv ?hw ?_; (case hv => first | rfl | simp [Act.put, Act.eval]); (case hw => first | rfl | simp [Region.wanted, yielded]))
                        | (at_builtin; refine push_comm rfl (.tmp 114) (.tmp 116) rfl (b := v5.heap.size) (h := h) (u := .slice p9 (m + 1) c9) (ps := (ps ++ [x])) (w0 := w) rfl rfl (heap_alloc_last v5 _) (RT.out.kb BA.out) HNC.out (XT.out.kb BA.out) HH32.out CN.out.p32 HPL.out (own_mono (own_below CN.out.own BA.out) (XX0.out.hB ▸ XX0.out.bel.size)) (fun j _ h => nomatch h) NCB.out ?_; intro g5 c5 w5 hc5 hf5 R5 X5 o5; have R5 := Lib.hid R5; have X5 := Lib.hid X5; have O5 := Lib.hid o5; clear o5))
                      refine ⟨⟨i + 1, some ⟨g5, 0, none⟩, nC + 1, c5, C ++ [(h, _)], cs ++ [(h, _)], congrArg _ (by omega), HINL.out, HI12.out, Nat.succ_le_succ HNI.out, Lib.hid (by rw [HNC.out, List.length_append]; rfl), R5, X5⟩, ?_⟩
                      simp only [intOf]; have := HI12.out; omega
            · have HPH := Lib.hid (fun W : World => pick_to W yh 60 2 (by decide) (by decide) hc)
              clear hc
              go_wp2_with (go_at_call 19; refine (HPH.out _).mono ?_; rintro e wz ⟨rfl, rfl⟩)
              refine (hash_to _ _).mono ?_
              rintro e v2 ⟨rfl, bb⟩
              obtain ⟨x, hx⟩ : ∃ x, x = hh (wrap64 (n60 + 1)) := ⟨_, rfl⟩
              have hx32 : x.length = 32 := by rw [hx]; exact hh_length _
              rw [← hx]
              have CC := Lib.hid (CC.out.kb bb)
              have YY := Lib.hid (YY.out.kb bb)
              have CA := CC.out.kb (below_al11 v2 (.cells (hv x) 31))
              have YA := YY.out.kb (below_al11 v2 (.cells (hv x) 31))
              have hc2 := CA.par
              have hf2 := CA.free
              have CN := Lib.hid (CA.set (own_hash hx32 (heap_alloc_last v2 _) YY.out.bel.size) (H32.one hx32))
              have YN := Lib.hid (YA.far CA ((Only.refl (fun j => j = cb ∨ (Value.slice p m c).ownBlock = some j) (v2.alloc (.cells (hv x) 31))).setCell (p := ⟨cb, 32, none⟩) (.inl rfl) (.slice (some ⟨v2.heap.size, 0, none⟩) 1 1)))
              have HX32 := Lib.hid hx32
              clear hx hx32 CA YA bb
              go_upto_region 24 with (refine build_one x HX32.out rfl ?_)
              generalize (v2.alloc (.cells (hv x) 31)).setCell ⟨cb, 32, none⟩ (.slice (some ⟨v2.heap.size, 0, none⟩) 1 1) = v5 at *
              generalize v2.heap.size = b5 at *
              clear hc2 hf2 y0 y1 y2
              have HPL : Hid ([x].length ≤ 10) := Lib.hid (by simp)
              have RT := Lib.hid (RR0.out.kb YN.out.bel)
              have XT := Lib.hid (XX0.out.kb YN.out.bel)
              have t0 := RT.out.c0.1
              have hcl := cld_range (w := v5) (p := cb) (o := 0) (h := h) (u := .slice (some ⟨b5, 0, none⟩) 1 1) CN.out.hh (by have := range_row CN.out.cell; rwa [cmv_list] at this)
              have BA := Lib.hid (below_al11 v5 (.cells (cf [(h, .slice (some ⟨b5, 0, none⟩) 1 1)]).toArray 34))
              go_wp2_with (first
                | (go_at_call 19; refine (HPH.out _).mono ?_; rintro e wz ⟨rfl, rfl⟩)
                | (refine slicec_w (C := [(h, .slice (some ⟨b5, 0, none⟩) 1 1)]) (by simpa using HH32.out) rfl (by simp) (by simp) ?hv ?hw ?_; (case hv => first | rfl | simp [Act.put, Act.eval]); (case hw => first | rfl | simp [Region.wanted, yielded]))
                | (at_builtin; refine push_comm rfl (.tmp 114) (.tmp 116) rfl (b := v5.heap.size) (h := h) (u := .slice (some ⟨b5, 0, none⟩) 1 1) (ps := [x]) (w0 := w) rfl rfl (heap_alloc_last v5 _) (RT.out.kb BA.out) HNC.out (XT.out.kb BA.out) HH32.out CN.out.p32 HPL.out (own_mono (own_below CN.out.own BA.out) (XX0.out.hB ▸ XX0.out.bel.size)) (fun j _ h => nomatch h) NCB.out ?_; intro g5 c5 w5 hc5 hf5 R5 X5 o5; have R5 := Lib.hid R5; have X5 := Lib.hid X5; have O5 := Lib.hid o5; clear o5))
              refine ⟨⟨i + 1, some ⟨g5, 0, none⟩, nC + 1, c5, C ++ [(h, _)], cs ++ [(h, _)], congrArg _ (by omega), HINL.out, HI12.out, Nat.succ_le_succ HNI.out, Lib.hid (by rw [HNC.out, List.length_append]; rfl), R5, X5⟩, ?_⟩
              simp only [intOf]; have := HI12.out; omega
            · have HPH := Lib.hid (fun W : World => pick_any W yh 60 (by decide) (by decide))
              generalize yh % 60 = r at *
              obtain ⟨hr0, hr1, hr2⟩ := hc
              have RT := Lib.hid (RR0.out.kb YY.out.bel)
              have XT := Lib.hid (XX0.out.kb YY.out.bel)
              have t0 := RT.out.c0.1
              have hcl := cld_range (w := wr) (p := cb) (o := 0) (h := h) (u := .slice p m c) CC.out.hh (by have := range_row CC.out.cell; rwa [cmv_list] at this)
              have BA := Lib.hid (below_al11 wr (.cells (cf [(h, .slice p m c)]).toArray 34))
              go_wp2_with (first
                | (go_at_call 19; refine (HPH.out _).mono ?_; rintro e wz ⟨rfl, rfl⟩)
                | (refine slicec_w (C := [(h, .slice p m c)]) (by simpa using HH32.out) rfl (by simp) (by simp) ?hv ?hw ?_; (case hv => first | rfl | simp [Act.put, Act.eval]); (case hw => first | rfl | simp [Region.wanted, yielded]))
                | (at_builtin; refine push_comm rfl (.tmp 114) (.tmp 116) rfl (b := wr.heap.size) (h := h) (u := .slice p m c) (ps := ps) (w0 := w) rfl rfl (heap_alloc_last wr _) (RT.out.kb BA.out) HNC.out (XT.out.kb BA.out) HH32.out CC.out.p32 HPL.out (own_mono (own_below CC.out.own BA.out) (XX0.out.hB ▸ XX0.out.bel.size)) (fun j _ h => nomatch h) NCB.out ?_; intro g5 c5 w5 hc5 hf5 R5 X5 o5; have R5 := Lib.hid R5; have X5 := Lib.hid X5; have O5 := Lib.hid o5; clear o5))
              refine ⟨⟨i + 1, some ⟨g5, 0, none⟩, nC + 1, c5, C ++ [(h, _)], cs ++ [(h, _)], congrArg _ (by omega), HINL.out, HI12.out, Nat.succ_le_succ HNI.out, Lib.hid (by rw [HNC.out, List.length_append]; rfl), R5, X5⟩, ?_⟩
              simp only [intOf]; have := HI12.out; omega
      · rcases (by omega : ¬ i < nL ∨ (i < nL ∧ ¬ i < 12)) with hq1 | ⟨hq1, hq2⟩
        · have hjl : ¬ (i : Int) < nL := by omega
          clear hlt hq1 hi
          go_wp2_with fail
          go_meet
          case rel => exact ⟨pc, nC, cc, C, cs, Nat.le_trans HNI.out hi2, HNC, RR, XX⟩
        · have hjl : (i : Int) < nL := by omega
          have hjl6 : ¬ (i : Int) < 12 := by omega
          clear hlt hq1 hq2 hi
          go_wp2_with fail
          go_meet
          case rel => exact ⟨pc, nC, cc, C, cs, Nat.le_trans HNI.out hi2, HNC, RR, XX⟩
  case rest =>
    clear R1 X1
    obtain ⟨pc, nC, cc, C, cs, hn12, HNC, RR, XX⟩ := hcut
    have HN12 := Lib.hid hn12
    clear hn12
    go_upto_block 7 with fail
    go_cut [11] from 119 to 140 (fun _ wr => ∃ (ph : Option Addr) (mh ch : Nat) (hs : List Key), mh ≤ 4 ∧ Hid (mh = hs.length) ∧ Hid (RI wr B rb (.slice pc nC cc) (.slice ph mh ch) g C cs hs) ∧ Hid (XS w wr B bx rz rb (.slice pL nL cL) (.slice pH nH cH) grp how))
    case first =>
      go_wp2_with fail
      go_loopw [11] (fun s wq => ∃ (i : Nat) (ph : Option Addr) (ch : Nat) (hs : List Key), s = .int .i64 i ∧ i ≤ nH ∧ i ≤ 4 ∧ Hid (i = hs.length) ∧ Hid (RI wq B rb (.slice pc nC cc) (.slice ph i ch) g C cs hs) ∧ Hid (XS w wq B bx rz rb (.slice pL nL cL) (.slice pH nH cH) grp how))
        (fun s _ => 4 - (intOf s).toNat)
      case atStart => exact ⟨0, none, 0, [], rfl, Nat.zero_le _, Nat.zero_le _, Lib.hid rfl, RR, XX⟩
      case round =>
        clear RR XX
        obtain ⟨i, ph, ch, hs, rfl, hi, hi4, HMH, RR, XX⟩ := hrel
        obtain ⟨x0, x1, x2, x3⟩ := XX.out.c
        by_cases hlt : i < nH ∧ i < 4
        · obtain ⟨h1, h2⟩ := hlt
          have hl1 : (i : Int) < nH := by omega
          have hl2 : (i : Int) < 4 := by omega
          have hl0 : (0 : Int) ≤ i := by omega
          have HI4 := Lib.hid h2
          have HINH := Lib.hid h1
          obtain ⟨x, hx⟩ : ∃ x, Hs[i]? = some x := ⟨Hs[i]'(by rw [← HNH.out]; exact h1), List.getElem?_eq_getElem _⟩
          obtain ⟨aH, rfl, hc0⟩ := (HH.out.kb' XX.out.of).at' hx
          have HX := Lib.hid hx
          clear hx hc0 h1 h2 hi hi4
          go_wp2_with fail
          have bq : Below wr.heap.size wr wr.drew := blw_qt _ 1 wr
          have RR := Lib.hid (RR.out.kb bq)
          have XX := Lib.hid (XX.out.kb bq)
          clear bq x0 x1 x2 x3
          try simp only [List.append]
          refine wp_region_noPanic ?_
          refine wp_region_held_drew (S := (fun V => V.cell? ⟨bx, 1, none⟩ = some (.slice (some aH) nH cH) ∧ V.cell? (aH.add i) = some (.int .i64 x))) (by kernel_rfl) ⟨XX.out.c.2.1, (HH.out.kb' XX.out.of).cell' HX.out⟩ (fun hHeld => ?_)
          generalize wr.drew = v1 at *
          refine wpAnyH_take (i := 0) (v := ?_) (by simp only [List.getElem?_toArray, List.getElem?_cons_zero]; rfl) (by kernel_rfl) (by kernel_rfl) (by kernel_rfl) (fun _ _ _ h => h) (Or.inl ⟨by rfl, ?_⟩) (by assumption) ?_
          rotate_left
          · intro w hSw
            try dsimp only at hSw
            go_simp
            try with_reducible rfl
          try simp only [Act.put, List.setIfInBounds_toArray, List.set_cons_zero, List.set_cons_succ]
          refine wpAnyH_take (i := 2) (v := ?_) (by simp only [List.getElem?_toArray, List.getElem?_cons_succ, List.getElem?_cons_zero]; rfl) (by kernel_rfl) (by kernel_rfl) (by kernel_rfl) (fun _ _ _ h => h) (Or.inl ⟨by rfl, ?_⟩) (by assumption) ?_
          rotate_left
          · intro w hSw
            try dsimp only at hSw
            go_simp
            try with_reducible rfl
          try simp only [Act.put, List.setIfInBounds_toArray, List.set_cons_zero, List.set_cons_succ]
          refine wpAnyH_take (i := 3) (v := ?_) (by simp only [List.getElem?_toArray, List.getElem?_cons_succ, List.getElem?_cons_zero]; rfl) (by kernel_rfl) (by kernel_rfl) (by kernel_rfl) (fun _ _ _ h => h) (Or.inl ⟨by rfl, ?_⟩) (by assumption) ?_
          rotate_left
          · intro w hSw
            try dsimp only at hSw
            go_simp
            try with_reducible rfl
          try simp only [Act.put, List.setIfInBounds_toArray, List.set_cons_zero, List.set_cons_succ]
          refine wpAnyH_take (i := 4) (v := ?_) (by simp only [List.getElem?_toArray, List.getElem?_cons_succ, List.getElem?_cons_zero]; rfl) (by kernel_rfl) (by kernel_rfl) (by kernel_rfl) (fun _ _ _ h => h) (Or.inl ⟨by rfl, ?_⟩) (by assumption) ?_
          rotate_left
          · intro w hSw
            try dsimp only at hSw
            go_simp
            try with_reducible rfl
          try simp only [Act.put, List.setIfInBounds_toArray, List.set_cons_zero, List.set_cons_succ]
          refine wpAnyH_take (i := 5) (v := ?_) (by simp only [List.getElem?_toArray, List.getElem?_cons_succ, List.getElem?_cons_zero]; rfl) (by kernel_rfl) (by kernel_rfl) (by kernel_rfl) (fun _ _ _ h => h) (Or.inl ⟨by rfl, ?_⟩) (by assumption) ?_
          rotate_left
          · intro w hSw
            try dsimp only at hSw
            go_simp
            try with_reducible rfl
          try simp only [Act.put, List.setIfInBounds_toArray, List.set_cons_zero, List.set_cons_succ]
          refine wpAnyH_take (i := 6) (v := ?_) (by simp only [List.getElem?_toArray, List.getElem?_cons_succ, List.getElem?_cons_zero]; rfl) (by kernel_rfl) (by kernel_rfl) (by kernel_rfl) (fun _ _ _ h => h) (Or.inl ⟨by rfl, ?_⟩) (by assumption) ?_
          rotate_left
          · intro w hSw
            try dsimp only at hSw
            go_simp
            try with_reducible rfl
          try simp only [Act.put, List.setIfInBounds_toArray, List.set_cons_zero, List.set_cons_succ]
          refine wpAnyH_ready (rs := [1, 7]) (by kernel_rfl) (by simp) ?_
          refine (AllReadyH.cons (by simp only [List.getElem?_toArray, List.getElem?_cons_succ, List.getElem?_cons_zero]; rfl) (fun K hK => ?_) (AllReadyH.cons (by simp only [List.getElem?_toArray, List.getElem?_cons_succ, List.getElem?_cons_zero]; rfl) (fun K hK => ?_) AllReadyH.nil))
          · have cL := RR.out.c0.2.1
            go_simp
            clear cL
            refine hK.out _ _ ⟨XX.out.c.2.1, (HH.out.kb' XX.out.of).cell' HX.out⟩ (fun hHeld => ?_)
            clear hK K
            try simp only [Act.put, List.setIfInBounds_toArray, List.set_cons_zero, List.set_cons_succ]
            refine wpAnyH_ready (rs := [7]) (by kernel_rfl) (by simp) ?_
            refine (AllReadyH.cons (by simp only [List.getElem?_toArray, List.getElem?_cons_succ, List.getElem?_cons_zero]; rfl) (fun K hK => ?_) AllReadyH.nil)
            go_simp
            refine (hash_to _ x).mono ?_
            rintro e v2 ⟨rfl, bb⟩
            have RR := Lib.hid (RR.out.kb bb)
            have XX := Lib.hid (XX.out.kb bb)
            clear bb
            go_wp2_with fail
            refine hK.out _ _ ⟨XX.out.c.2.1, (HH.out.kb' XX.out.of).cell' HX.out⟩ (fun hHeld => ?_)
            clear hK K
            try simp only [Act.put, List.setIfInBounds_toArray, List.set_cons_zero, List.set_cons_succ]
            refine wpAnyH_ready (rs := [8]) (by kernel_rfl) (by simp) ?_
            refine (AllReadyH.cons (by simp only [List.getElem?_toArray, List.getElem?_cons_succ, List.getElem?_cons_zero]; rfl) (fun K hK => ?_) AllReadyH.nil)
            refine step_sl1 (hh x) (hh_length x) (by rfl) (by rfl) ?_
            have HB7 := Lib.hid (heap_alloc_last v2 (.cells (hv (hh x)) 31))
            have RR := Lib.hid (RR.out.kb (below_al11 v2 (.cells (hv (hh x)) 31)))
            have XX := Lib.hid (XX.out.kb (below_al11 v2 (.cells (hv (hh x)) 31)))
            generalize v2.alloc (.cells (hv (hh x)) 31) = v3 at *
            generalize v2.heap.size = b7 at *
            refine hK.out _ _ ⟨XX.out.c.2.1, (HH.out.kb' XX.out.of).cell' HX.out⟩ (fun hHeld => ?_)
            clear hK K
            try simp only [Act.put, List.setIfInBounds_toArray, List.set_cons_zero, List.set_cons_succ]
            refine wpAnyH_ready (rs := [9]) (by kernel_rfl) (by simp) ?_
            refine (AllReadyH.cons (by simp only [List.getElem?_toArray, List.getElem?_cons_succ, List.getElem?_cons_zero]; rfl) (fun K hK => ?_) AllReadyH.nil)
            refine step_pushh rfl _ _ rfl B (.slice ph i ch) hs b7 (hh x) (hh_length x) (by rfl) RR.out.heads (by rfl) HB7.out (by rw [← HMH.out]; have := HI4.out; omega) (by rw [XX.out.hB]; exact XX.out.bel.size) (i + 1) (by rw [HMH.out]) ?_
            intro p9 c9 v4 o9 oth9 loc9
            have hpush := RR.out.head (hh_length x) o9 oth9 loc9
            have hc9 : v4.cell? ⟨rb, 1, none⟩ = some (.slice ph i ch) := by rw [cell_of_row v4 rb 1 _ _ _ (RR.out.hmid oth9)]; rfl
            have hf9 : v4.frozen? ⟨rb, 1, none⟩ = false := frozen_of_row _ _ _ _ _ (RR.out.hmid oth9)
            have XH := Lib.hid (XX.out.far (oth9.mono (T := fun j => j = rb ∨ (Value.slice ph i ch).ownBlock = some j) fun j _ hj => .inr hj) RR.out.heads (by decide) RR.out.lo RR.out.cell)
            have XN := Lib.hid (XX.out.far hpush.2 RR.out.heads (by decide) RR.out.lo RR.out.cell)
            have RN := Lib.hid hpush.1
            clear hpush o9 oth9 loc9
            refine hK.out _ _ ⟨XH.out.c.2.1, (HH.out.kb' XH.out.of).cell' HX.out⟩ (fun hHeld => ?_)
            clear hK K
            try simp only [Act.put, List.setIfInBounds_toArray, List.set_cons_zero, List.set_cons_succ]
            refine wpAnyH_take (i := 10) (v := ?_) (by simp only [List.getElem?_toArray, List.getElem?_cons_succ, List.getElem?_cons_zero]; rfl) (by kernel_rfl) (by kernel_rfl) (by kernel_rfl) (fun _ _ _ h => h) (Or.inl ⟨by rfl, ?_⟩) (by assumption) ?_
            rotate_left
            · intro w hSw
              try dsimp only at hSw
              go_simp
              try with_reducible rfl
            try simp only [Act.put, List.setIfInBounds_toArray, List.set_cons_zero, List.set_cons_succ]
            refine wpAnyH_ready (rs := [11]) (by kernel_rfl) (by simp) ?_
            refine (AllReadyH.cons (by simp only [List.getElem?_toArray, List.getElem?_cons_succ, List.getElem?_cons_zero]; rfl) (fun K hK => ?_) AllReadyH.nil)
            go_simp
            generalize v4.setCell ⟨rb, 1, none⟩ (.slice p9 (i + 1) c9) = v5 at *
            refine hK.out _ _ ⟨XN.out.c.2.1, (HH.out.kb' XN.out.of).cell' HX.out⟩ (fun hHeld => ?_)
            clear hK K
            try simp only [Act.put, List.setIfInBounds_toArray, List.set_cons_zero, List.set_cons_succ]
            refine wpAnyH_done (by kernel_rfl) ?_ _
            refine NoPanic.normal ?_
            go_wp2_with fail
            refine ⟨⟨i + 1, p9, c9, hs ++ [hh x], congrArg _ (by omega), HINH.out, HI4.out, Lib.hid (by rw [HMH.out, List.length_append]; rfl), RN, XN⟩, ?_⟩
            simp only [intOf]; have := HI4.out; omega
          · go_simp
            refine (hash_to _ x).mono ?_
            rintro e v2 ⟨rfl, bb⟩
            have RR := Lib.hid (RR.out.kb bb)
            have XX := Lib.hid (XX.out.kb bb)
            clear bb
            go_wp2_with fail
            refine hK.out _ _ ⟨XX.out.c.2.1, (HH.out.kb' XX.out.of).cell' HX.out⟩ (fun hHeld => ?_)
            clear hK K
            try simp only [Act.put, List.setIfInBounds_toArray, List.set_cons_zero, List.set_cons_succ]
            refine wpAnyH_ready (rs := [1, 8]) (by kernel_rfl) (by simp) ?_
            refine (AllReadyH.cons (by simp only [List.getElem?_toArray, List.getElem?_cons_succ, List.getElem?_cons_zero]; rfl) (fun K hK => ?_) (AllReadyH.cons (by simp only [List.getElem?_toArray, List.getElem?_cons_succ, List.getElem?_cons_zero]; rfl) (fun K hK => ?_) AllReadyH.nil))
            · have cL := RR.out.c0.2.1
              go_simp
              clear cL
              refine hK.out _ _ ⟨XX.out.c.2.1, (HH.out.kb' XX.out.of).cell' HX.out⟩ (fun hHeld => ?_)
              clear hK K
              try simp only [Act.put, List.setIfInBounds_toArray, List.set_cons_zero, List.set_cons_succ]
              refine wpAnyH_ready (rs := [8]) (by kernel_rfl) (by simp) ?_
              refine (AllReadyH.cons (by simp only [List.getElem?_toArray, List.getElem?_cons_succ, List.getElem?_cons_zero]; rfl) (fun K hK => ?_) AllReadyH.nil)
              refine step_sl1 (hh x) (hh_length x) (by rfl) (by rfl) ?_
              have HB7 := Lib.hid (heap_alloc_last v2 (.cells (hv (hh x)) 31))
              have RR := Lib.hid (RR.out.kb (below_al11 v2 (.cells (hv (hh x)) 31)))
              have XX := Lib.hid (XX.out.kb (below_al11 v2 (.cells (hv (hh x)) 31)))
              generalize v2.alloc (.cells (hv (hh x)) 31) = v3 at *
              generalize v2.heap.size = b7 at *
              refine hK.out _ _ ⟨XX.out.c.2.1, (HH.out.kb' XX.out.of).cell' HX.out⟩ (fun hHeld => ?_)
              clear hK K
              try simp only [Act.put, List.setIfInBounds_toArray, List.set_cons_zero, List.set_cons_succ]
              refine wpAnyH_ready (rs := [9]) (by kernel_rfl) (by simp) ?_
              refine (AllReadyH.cons (by simp only [List.getElem?_toArray, List.getElem?_cons_succ, List.getElem?_cons_zero]; rfl) (fun K hK => ?_) AllReadyH.nil)
              refine step_pushh rfl _ _ rfl B (.slice ph i ch) hs b7 (hh x) (hh_length x) (by rfl) RR.out.heads (by rfl) HB7.out (by rw [← HMH.out]; have := HI4.out; omega) (by rw [XX.out.hB]; exact XX.out.bel.size) (i + 1) (by rw [HMH.out]) ?_
              intro p9 c9 v4 o9 oth9 loc9
              have hpush := RR.out.head (hh_length x) o9 oth9 loc9
              have hc9 : v4.cell? ⟨rb, 1, none⟩ = some (.slice ph i ch) := by rw [cell_of_row v4 rb 1 _ _ _ (RR.out.hmid oth9)]; rfl
              have hf9 : v4.frozen? ⟨rb, 1, none⟩ = false := frozen_of_row _ _ _ _ _ (RR.out.hmid oth9)
              have XH := Lib.hid (XX.out.far (oth9.mono (T := fun j => j = rb ∨ (Value.slice ph i ch).ownBlock = some j) fun j _ hj => .inr hj) RR.out.heads (by decide) RR.out.lo RR.out.cell)
              have XN := Lib.hid (XX.out.far hpush.2 RR.out.heads (by decide) RR.out.lo RR.out.cell)
              have RN := Lib.hid hpush.1
              clear hpush o9 oth9 loc9
              refine hK.out _ _ ⟨XH.out.c.2.1, (HH.out.kb' XH.out.of).cell' HX.out⟩ (fun hHeld => ?_)
              clear hK K
              try simp only [Act.put, List.setIfInBounds_toArray, List.set_cons_zero, List.set_cons_succ]
              refine wpAnyH_take (i := 10) (v := ?_) (by simp only [List.getElem?_toArray, List.getElem?_cons_succ, List.getElem?_cons_zero]; rfl) (by kernel_rfl) (by kernel_rfl) (by kernel_rfl) (fun _ _ _ h => h) (Or.inl ⟨by rfl, ?_⟩) (by assumption) ?_
              rotate_left
              · intro w hSw
                try dsimp only at hSw
                go_simp
                try with_reducible rfl
              try simp only [Act.put, List.setIfInBounds_toArray, List.set_cons_zero, List.set_cons_succ]
              refine wpAnyH_ready (rs := [11]) (by kernel_rfl) (by simp) ?_
              refine (AllReadyH.cons (by simp only [List.getElem?_toArray, List.getElem?_cons_succ, List.getElem?_cons_zero]; rfl) (fun K hK => ?_) AllReadyH.nil)
              go_simp
              generalize v4.setCell ⟨rb, 1, none⟩ (.slice p9 (i + 1) c9) = v5 at *
              refine hK.out _ _ ⟨XN.out.c.2.1, (HH.out.kb' XN.out.of).cell' HX.out⟩ (fun hHeld => ?_)
              clear hK K
              try simp only [Act.put, List.setIfInBounds_toArray, List.set_cons_zero, List.set_cons_succ]
              refine wpAnyH_done (by kernel_rfl) ?_ _
              refine NoPanic.normal ?_
              go_wp2_with fail
              refine ⟨⟨i + 1, p9, c9, hs ++ [hh x], congrArg _ (by omega), HINH.out, HI4.out, Lib.hid (by rw [HMH.out, List.length_append]; rfl), RN, XN⟩, ?_⟩
              simp only [intOf]; have := HI4.out; omega
            · refine step_sl1 (hh x) (hh_length x) (by rfl) (by rfl) ?_
              have HB7 := Lib.hid (heap_alloc_last v2 (.cells (hv (hh x)) 31))
              have RR := Lib.hid (RR.out.kb (below_al11 v2 (.cells (hv (hh x)) 31)))
              have XX := Lib.hid (XX.out.kb (below_al11 v2 (.cells (hv (hh x)) 31)))
              generalize v2.alloc (.cells (hv (hh x)) 31) = v3 at *
              generalize v2.heap.size = b7 at *
              refine hK.out _ _ ⟨XX.out.c.2.1, (HH.out.kb' XX.out.of).cell' HX.out⟩ (fun hHeld => ?_)
              clear hK K
              try simp only [Act.put, List.setIfInBounds_toArray, List.set_cons_zero, List.set_cons_succ]
              refine wpAnyH_ready (rs := [1]) (by kernel_rfl) (by simp) ?_
              refine (AllReadyH.cons (by simp only [List.getElem?_toArray, List.getElem?_cons_succ, List.getElem?_cons_zero]; rfl) (fun K hK => ?_) AllReadyH.nil)
              have cL := RR.out.c0.2.1
              go_simp
              clear cL
              refine hK.out _ _ ⟨XX.out.c.2.1, (HH.out.kb' XX.out.of).cell' HX.out⟩ (fun hHeld => ?_)
              clear hK K
              try simp only [Act.put, List.setIfInBounds_toArray, List.set_cons_zero, List.set_cons_succ]
              refine wpAnyH_ready (rs := [9]) (by kernel_rfl) (by simp) ?_
              refine (AllReadyH.cons (by simp only [List.getElem?_toArray, List.getElem?_cons_succ, List.getElem?_cons_zero]; rfl) (fun K hK => ?_) AllReadyH.nil)
              refine step_pushh rfl _ _ rfl B (.slice ph i ch) hs b7 (hh x) (hh_length x) (by rfl) RR.out.heads (by rfl) HB7.out (by rw [← HMH.out]; have := HI4.out; omega) (by rw [XX.out.hB]; exact XX.out.bel.size) (i + 1) (by rw [HMH.out]) ?_
              intro p9 c9 v4 o9 oth9 loc9
              have hpush := RR.out.head (hh_length x) o9 oth9 loc9
              have hc9 : v4.cell? ⟨rb, 1, none⟩ = some (.slice ph i ch) := by rw [cell_of_row v4 rb 1 _ _ _ (RR.out.hmid oth9)]; rfl
              have hf9 : v4.frozen? ⟨rb, 1, none⟩ = false := frozen_of_row _ _ _ _ _ (RR.out.hmid oth9)
              have XH := Lib.hid (XX.out.far (oth9.mono (T := fun j => j = rb ∨ (Value.slice ph i ch).ownBlock = some j) fun j _ hj => .inr hj) RR.out.heads (by decide) RR.out.lo RR.out.cell)
              have XN := Lib.hid (XX.out.far hpush.2 RR.out.heads (by decide) RR.out.lo RR.out.cell)
              have RN := Lib.hid hpush.1
              clear hpush o9 oth9 loc9
              refine hK.out _ _ ⟨XH.out.c.2.1, (HH.out.kb' XH.out.of).cell' HX.out⟩ (fun hHeld => ?_)
              clear hK K
              try simp only [Act.put, List.setIfInBounds_toArray, List.set_cons_zero, List.set_cons_succ]
              refine wpAnyH_take (i := 10) (v := ?_) (by simp only [List.getElem?_toArray, List.getElem?_cons_succ, List.getElem?_cons_zero]; rfl) (by kernel_rfl) (by kernel_rfl) (by kernel_rfl) (fun _ _ _ h => h) (Or.inl ⟨by rfl, ?_⟩) (by assumption) ?_
              rotate_left
              · intro w hSw
                try dsimp only at hSw
                go_simp
                try with_reducible rfl
              try simp only [Act.put, List.setIfInBounds_toArray, List.set_cons_zero, List.set_cons_succ]
              refine wpAnyH_ready (rs := [11]) (by kernel_rfl) (by simp) ?_
              refine (AllReadyH.cons (by simp only [List.getElem?_toArray, List.getElem?_cons_succ, List.getElem?_cons_zero]; rfl) (fun K hK => ?_) AllReadyH.nil)
              go_simp
              generalize v4.setCell ⟨rb, 1, none⟩ (.slice p9 (i + 1) c9) = v5 at *
              refine hK.out _ _ ⟨XN.out.c.2.1, (HH.out.kb' XN.out.of).cell' HX.out⟩ (fun hHeld => ?_)
              clear hK K
              try simp only [Act.put, List.setIfInBounds_toArray, List.set_cons_zero, List.set_cons_succ]
              refine wpAnyH_done (by kernel_rfl) ?_ _
              refine NoPanic.normal ?_
              go_wp2_with fail
              refine ⟨⟨i + 1, p9, c9, hs ++ [hh x], congrArg _ (by omega), HINH.out, HI4.out, Lib.hid (by rw [HMH.out, List.length_append]; rfl), RN, XN⟩, ?_⟩
              simp only [intOf]; have := HI4.out; omega
        · rcases (by omega : ¬ i < nH ∨ (i < nH ∧ ¬ i < 4)) with hq1 | ⟨hq1, hq2⟩
          · have hjl : ¬ (i : Int) < nH := by omega
            clear hlt hq1 hi
            go_wp2_with fail
            go_meet
            case rel => exact ⟨ph, i, ch, hs, hi4, HMH, RR, XX⟩
          · have hjl : (i : Int) < nH := by omega
            have hjl6 : ¬ (i : Int) < 4 := by omega
            clear hlt hq1 hq2 hi
            go_wp2_with fail
            go_meet
            case rel => exact ⟨ph, i, ch, hs, hi4, HMH, RR, XX⟩
    case rest =>
      clear RR XX
      obtain ⟨ph, mh, ch, hs, hm4, HMH, RR, XX⟩ := hcut
      have HM4 := Lib.hid hm4
      clear hm4
      have HPQ := Lib.hid (fun W : World => pick_any W (wrap64 (how.tdiv 50)) 4 (by decide) (by decide))
      obtain ⟨x0, x1, x2, x3⟩ := XX.out.c
      go_upto_if 145 with (go_at_call 19; refine (HPQ.out _).mono ?_; rintro e wz ⟨rfl, rfl⟩)
      generalize wrap64 (how.tdiv 50) % 4 = k at *
      go_cut [12, 13, 14, 15, 16, 17, 18] from 145 to 229 (fun _ _ _ _ _ _ _ wr => ∃ (pc : Option Addr) (nC cc : Nat) (C : Cv) (cs : List Cm), nC ≤ 72 ∧ Hid (nC = C.length) ∧ Hid (RI wr B rb (.slice pc nC cc) (.slice ph mh ch) g C cs hs) ∧ Hid (XS w wr B bx rz rb (.slice pL nL cL) (.slice pH nH cH) grp how))
      case first =>
        by_cases hk : 0 < k
        · skip
          rename_i J0 K0 hJ0 hK0
          have HJ0 := Lib.hid hJ0
          have HK0 := Lib.hid hK0
          clear hJ0 hK0
          have HIB : Hid (B ≤ wc.heap.size) := Lib.hid (by rw [XX.out.hB]; exact XX.out.bel.size)
          have hk0 : (0 : Int) < k := hk
          clear x0 x1 x2 x3
          go_upto_region 31 with fail
          have HI0 : Hid (InB (wc.alloc (.cells #[.bool false, .bool false, .bool false, .bool false, .bool false, .bool false, .bool false, .bool false, .bool false, .bool false, .bool false, .bool false, .bool false, .bool false, .bool false, .bool false, .bool false, .bool false, .bool false, .bool false, .bool false, .bool false, .bool false, .bool false, .bool false, .bool false, .bool false, .bool false, .bool false, .bool false, .bool false, .bool false, .bool false, .bool false, .bool false, .bool false, .bool false, .bool false, .bool false, .bool false, .bool false, .bool false, .bool false, .bool false, .bool false, .bool false, .bool false, .bool false, .bool false, .bool false, .bool false, .bool false, .bool false, .bool false, .bool false, .bool false, .bool false, .bool false, .bool false, .bool false] 119)) wc.heap.size (List.replicate 60 false)) := Lib.hid ⟨heap_alloc_last wc _, rfl⟩
          have RR := Lib.hid (RR.out.kb (below_al11 wc (.cells #[.bool false, .bool false, .bool false, .bool false, .bool false, .bool false, .bool false, .bool false, .bool false, .bool false, .bool false, .bool false, .bool false, .bool false, .bool false, .bool false, .bool false, .bool false, .bool false, .bool false, .bool false, .bool false, .bool false, .bool false, .bool false, .bool false, .bool false, .bool false, .bool false, .bool false, .bool false, .bool false, .bool false, .bool false, .bool false, .bool false, .bool false, .bool false, .bool false, .bool false, .bool false, .bool false, .bool false, .bool false, .bool false, .bool false, .bool false, .bool false, .bool false, .bool false, .bool false, .bool false, .bool false, .bool false, .bool false, .bool false, .bool false, .bool false, .bool false, .bool false] 119)))
          have XX := Lib.hid (XX.out.kb (below_al11 wc (.cells #[.bool false, .bool false, .bool false, .bool false, .bool false, .bool false, .bool false, .bool false, .bool false, .bool false, .bool false, .bool false, .bool false, .bool false, .bool false, .bool false, .bool false, .bool false, .bool false, .bool false, .bool false, .bool false, .bool false, .bool false, .bool false, .bool false, .bool false, .bool false, .bool false, .bool false, .bool false, .bool false, .bool false, .bool false, .bool false, .bool false, .bool false, .bool false, .bool false, .bool false, .bool false, .bool false, .bool false, .bool false, .bool false, .bool false, .bool false, .bool false, .bool false, .bool false, .bool false, .bool false, .bool false, .bool false, .bool false, .bool false, .bool false, .bool false, .bool false, .bool false] 119)))
          generalize wc.alloc (.cells #[.bool false, .bool false, .bool false, .bool false, .bool false, .bool false, .bool false, .bool false, .bool false, .bool false, .bool false, .bool false, .bool false, .bool false, .bool false, .bool false, .bool false, .bool false, .bool false, .bool false, .bool false, .bool false, .bool false, .bool false, .bool false, .bool false, .bool false, .bool false, .bool false, .bool false, .bool false, .bool false, .bool false, .bool false, .bool false, .bool false, .bool false, .bool false, .bool false, .bool false, .bool false, .bool false, .bool false, .bool false, .bool false, .bool false, .bool false, .bool false, .bool false, .bool false, .bool false, .bool false, .bool false, .bool false, .bool false, .bool false, .bool false, .bool false, .bool false, .bool false] 119) = W4 at *
          generalize wc.heap.size = ib at *
          generalize decide ((0 : Int) < k) = dk at *
          clear hk hk0
          obtain ⟨x0, x1, x2, x3⟩ := XX.out.c
          obtain ⟨m0, hm0⟩ : ∃ m0 : Nat, min (nH : Int) 4 = m0 := ⟨min nH 4, by omega⟩
          have hcH : nH ≤ cH := by
            rcases HH.out with ⟨h1, h2⟩ | ⟨a, cap, h1, h2, _⟩
            · injection h1 with _ h1 _; omega
            · injection h1 with _ h1 h3; omega
          have hb1 : ¬ (cH : Int) < m0 := by omega
          have hb2 : ¬ (m0 : Int) < 0 := by omega
          have hb3 : (m0 : Int) ≤ cH := by omega
          have hb4 : (0 : Int) ≤ m0 := by omega
          have HM0 : Hid (m0 = min nH 4) := Lib.hid (by omega)
          have HM1 : Hid (m0 ≤ nH) := Lib.hid (by omega)
          have HTD0 : Hid (Td W4 B (.slice pH m0 cH) (Hs.take m0)) := Lib.hid (by rw [XX.out.hB]; exact Td.came (HH.out.pre HM1.out) XX.out.of)
          have HTD0 : Hid (Td W4 B (.slice pH m0 cH) (Hs.take m0)) := Lib.hid (by rw [XX.out.hB]; exact Td.came (HH.out.pre HM1.out) XX.out.of)
          go_upto_block 9 with fail
          clear hm0 hcH hb1 hb2 hb3 hb4 x0 x1 x2 x3
          go_cut [13, 14] from 153 to 183 (fun vt _ wr => ∃ (p : Option Addr) (m c : Nat) (td : List Int) (bs : List Bool), vt = .slice p m c ∧ m ≤ 28 ∧ Hid (m = td.length) ∧ Hid (Td wr B (.slice p m c) td) ∧ Hid (InB wr ib bs) ∧ Hid (RI wr B rb (.slice pc nC cc) (.slice ph mh ch) g C cs hs) ∧ Hid (XS w wr B bx rz rb (.slice pL nL cL) (.slice pH nH cH) grp how))
          case first =>
            go_wp2_with fail
            go_loopw [13, 14] (fun vt vi wq => ∃ (i : Nat) (p : Option Addr) (m c : Nat) (td : List Int) (bs : List Bool), vt = .slice p m c ∧ vi = .int .i64 i ∧ i ≤ nL ∧ i ≤ 12 ∧ m ≤ 4 + 2 * i ∧ Hid (m = td.length) ∧ Hid (Td wq B (.slice p m c) td) ∧ Hid (InB wq ib bs) ∧ Hid (RI wq B rb (.slice pc nC cc) (.slice ph mh ch) g C cs hs) ∧ Hid (XS w wq B bx rz rb (.slice pL nL cL) (.slice pH nH cH) grp how)) (fun _ vi _ => 12 - (intOf vi).toNat)
            case atStart => exact ⟨0, pH, m0, cH, Hs.take m0, List.replicate 60 false, rfl, rfl, Nat.zero_le _, Nat.zero_le _, by have := HM0.out; omega, Lib.hid (by rw [List.length_take, ← HNH.out]; have := HM1.out; omega), HTD0, HI0, RR, XX⟩
            case round =>
              clear RR XX HTD0 HI0 HM0 HM1
              obtain ⟨i, p, m, c, td, bs, rfl, rfl, hi, hi12, hm28, HM, HTD, HIN, RR, XX⟩ := hrel
              obtain ⟨x0, x1, x2, x3⟩ := XX.out.c
              by_cases hlt : i < nL ∧ i < 12
              · obtain ⟨h1, h2⟩ := hlt
                have hl1 : (i : Int) < nL := by omega
                have hl2 : (i : Int) < 12 := by omega
                have hl0 : (0 : Int) ≤ i := by omega
                have HI12 := Lib.hid h2
                have HINL := Lib.hid h1
                have HM28 := Lib.hid hm28
                have HMB : Hid (m ≤ 30) := Lib.hid (by omega)
                obtain ⟨p', cap', e1, hx⟩ := id HL.out
                injection e1 with e1 e2 e3
                subst e1
                have hiR : i < R.length := by rw [← HNL.out]; exact h1
                obtain ⟨b, o, rfl, hrg, hps⟩ := hx i _ (List.getElem?_eq_getElem hiR)
                clear hps
                generalize R[i] = y at hrg
                have HRG := Lib.hid hrg
                obtain ⟨c0, _, _⟩ := ld_rw (rng_kb HRG.out XX.out.of)
                have HPY := Lib.hid (fun W : World => pick_any W y.n 60 (by decide) (by decide))
                obtain ⟨n, hn⟩ : ∃ n : Nat, y.n % 60 = n := ⟨(y.n % 60).toNat, by omega⟩
                have hn60 : n < 60 := by omega
                rw [hn] at HPY
                have hnl : (n : Int) < 60 := by omega
                have hn0 : (0 : Int) ≤ n := by omega
                have HN60 := Lib.hid hn60
                obtain ⟨bn, hbn⟩ : ∃ bn, bs[n]? = some bn := ⟨bs[n]'(by rw [HIN.out.2]; exact hn60), List.getElem?_eq_getElem _⟩
                have hcI := HIN.out.cell hbn
                have hfI := HIN.out.free n
                clear hx e2 e3 hn hi hi12 hm28 hrg h1 h2 hiR hn60 hbn
                go_upto_region 36 with (go_at_call 19; refine (HPY.out _).mono ?_; rintro e wz ⟨rfl, rfl⟩)
                have hset := HIN.out.set HN60.out
                have RR := Lib.hid (RR.out.inb HIN.out hset.2)
                have XX := Lib.hid (XX.out.inb HIN.out HIB.out hset.2)
                have HTD := Lib.hid (HTD.out.only hset.2 (fun j hj => by rw [hj]; exact ⟨HIB.out, fun cs e => by rw [HIN.out.1] at e; injection e with e; injection e with _ e _; exact absurd e (by decide)⟩))
                have HIN := Lib.hid hset.1
                clear hset hcI hfI
                generalize wr.setCell ⟨ib, n, none⟩ (.bool true) = W5 at *
                generalize bs.set n true = bs5 at *
                clear c0 x0 x1 x2 x3
                go_wp2_with fail
                have bq : Below W5.heap.size W5 W5.drew := blw_qt _ 1 W5
                have RR := Lib.hid (RR.out.kb bq)
                have XX := Lib.hid (XX.out.kb bq)
                have HTD := Lib.hid (HTD.out.kb bq)
                have HIN := Lib.hid (HIN.out.kb bq)
                clear bq
                try simp only [List.append]
                refine wp_region_noPanic ?_
                refine wp_region_held_drew (S := (fun V => V.cell? ⟨bx, 0, none⟩ = some (.slice (some ⟨b, o, none⟩) nL cL) ∧ V.cell? ⟨b, o + i * 3, none⟩ = some (.int .i64 y.n))) (by kernel_rfl) ⟨XX.out.c.1, (ld_rw (rng_kb HRG.out XX.out.of)).1⟩ (fun hHeld => ?_)
                generalize W5.drew = cw at *
                obtain ⟨v1, hv1⟩ : ∃ V, V = cw := ⟨_, rfl⟩
                have V1 := Lib.hid hv1
                clear hv1
                have RR : Hid (RI v1 B rb (.slice pc nC cc) (.slice ph mh ch) g C cs hs) := Lib.hid (by rw [V1.out]; exact RR.out)
                have XX : Hid (XS w v1 B bx rz rb (.slice (some ⟨b, o, none⟩) nL cL) (.slice pH nH cH) grp how) := Lib.hid (by rw [V1.out]; exact XX.out)
                have HTD : Hid (Td v1 B (.slice p m c) td) := Lib.hid (by rw [V1.out]; exact HTD.out)
                have HIN : Hid (InB v1 ib bs5) := Lib.hid (by rw [V1.out]; exact HIN.out)
                have BV : Hid (Below v1.heap.size v1 cw) := Lib.hid (by rw [V1.out]; exact Below.refl _ _)
                clear V1
                refine wpAnyH_take (i := 1) (v := ?_) (by simp only [List.getElem?_toArray, List.getElem?_cons_succ, List.getElem?_cons_zero]; rfl) (by kernel_rfl) (by kernel_rfl) (by kernel_rfl) (fun _ _ _ h => h) (Or.inl ⟨by rfl, ?_⟩) (by assumption) ?_
                rotate_left
                · intro w hSw
                  try dsimp only at hSw
                  go_simp
                  try with_reducible rfl
                try simp only [Act.put, List.setIfInBounds_toArray, List.set_cons_zero, List.set_cons_succ]
                refine wpAnyH_take (i := 3) (v := ?_) (by simp only [List.getElem?_toArray, List.getElem?_cons_succ, List.getElem?_cons_zero]; rfl) (by kernel_rfl) (by kernel_rfl) (by kernel_rfl) (fun _ _ _ h => h) (Or.inl ⟨by rfl, ?_⟩) (by assumption) ?_
                rotate_left
                · intro w hSw
                  try dsimp only at hSw
                  go_simp
                  try with_reducible rfl
                try simp only [Act.put, List.setIfInBounds_toArray, List.set_cons_zero, List.set_cons_succ]
                refine wpAnyH_take (i := 4) (v := ?_) (by simp only [List.getElem?_toArray, List.getElem?_cons_succ, List.getElem?_cons_zero]; rfl) (by kernel_rfl) (by kernel_rfl) (by kernel_rfl) (fun _ _ _ h => h) (Or.inl ⟨by rfl, ?_⟩) (by assumption) ?_
                rotate_left
                · intro w hSw
                  try dsimp only at hSw
                  go_simp
                  try with_reducible rfl
                try simp only [Act.put, List.setIfInBounds_toArray, List.set_cons_zero, List.set_cons_succ]
                refine wpAnyH_take (i := 5) (v := ?_) (by simp only [List.getElem?_toArray, List.getElem?_cons_succ, List.getElem?_cons_zero]; rfl) (by kernel_rfl) (by kernel_rfl) (by kernel_rfl) (fun _ _ _ h => h) (Or.inl ⟨by rfl, ?_⟩) (by assumption) ?_
                rotate_left
                · intro w hSw
                  try dsimp only at hSw
                  go_simp
                  try with_reducible rfl
                try simp only [Act.put, List.setIfInBounds_toArray, List.set_cons_zero, List.set_cons_succ]
                refine wpAnyH_take (i := 6) (v := ?_) (by simp only [List.getElem?_toArray, List.getElem?_cons_succ, List.getElem?_cons_zero]; rfl) (by kernel_rfl) (by kernel_rfl) (by kernel_rfl) (fun _ _ _ h => h) (Or.inl ⟨by rfl, ?_⟩) (by assumption) ?_
                rotate_left
                · intro w hSw
                  try dsimp only at hSw
                  go_simp
                  try with_reducible rfl
                try simp only [Act.put, List.setIfInBounds_toArray, List.set_cons_zero, List.set_cons_succ]
                refine wpAnyH_take (i := 7) (v := ?_) (by simp only [List.getElem?_toArray, List.getElem?_cons_succ, List.getElem?_cons_zero]; rfl) (by kernel_rfl) (by kernel_rfl) (by kernel_rfl) (fun _ _ _ h => h) (Or.inl ⟨by rfl, ?_⟩) (by assumption) ?_
                rotate_left
                · intro w hSw
                  try dsimp only at hSw
                  go_simp
                  try with_reducible rfl
                try simp only [Act.put, List.setIfInBounds_toArray, List.set_cons_zero, List.set_cons_succ]
                refine wpAnyH_take (i := 8) (v := ?_) (by simp only [List.getElem?_toArray, List.getElem?_cons_succ, List.getElem?_cons_zero]; rfl) (by kernel_rfl) (by kernel_rfl) (by kernel_rfl) (fun _ _ _ h => h) (Or.inl ⟨by rfl, ?_⟩) (by assumption) ?_
                rotate_left
                · intro w hSw
                  try dsimp only at hSw
                  go_simp
                  try with_reducible rfl
                try simp only [Act.put, List.setIfInBounds_toArray, List.set_cons_zero, List.set_cons_succ]
                refine wpAnyH_ready (rs := [0]) (by kernel_rfl) (by simp) ?_
                refine (AllReadyH.cons (by simp only [List.getElem?_toArray, List.getElem?_cons_zero]; rfl) (fun K hK => ?_) AllReadyH.nil)
                refine step_empty_ints rfl rfl ?_
                have E0 : Hid ((cw.alloc (.cells #[] 3)).ownsRow v1.heap.size 3 1 (.slice (some ⟨cw.heap.size, 0, none⟩) 0 0) 0 []) := Lib.hid (own_empty cw _ _ BV.out.size)
                try have N8 : Hid ((Value.slice p8 n8 c8).ownBlock ≠ some cw.heap.size) := Lib.hid (fun hj => by obtain ⟨_, h1, _⟩ := own_type O8.out hj; have := (Array.getElem?_eq_some_iff.1 h1).1; omega)
                try have O8 := Lib.hid (own_below O8.out (below_al11 cw (.cells #[] 3)))
                have BV := Lib.hid (BV.out.alloc BV.out.size (.cells #[] 3))
                generalize cw.alloc (.cells #[] 3) = cx at *
                generalize cw.heap.size = b0 at *
                rename World => cw
                refine hK.out _ _ ⟨(XX.out.kb BV.out).c.1, (ld_rw (rng_kb HRG.out (XX.out.kb BV.out).of)).1⟩ (fun hHeld => ?_)
                clear hK K
                try simp only [Act.put, List.setIfInBounds_toArray, List.set_cons_zero, List.set_cons_succ]
                refine wpAnyH_ready (rs := [2]) (by kernel_rfl) (by simp) ?_
                refine (AllReadyH.cons (by simp only [List.getElem?_toArray, List.getElem?_cons_succ, List.getElem?_cons_zero]; rfl) (fun K hK => ?_) AllReadyH.nil)
                refine step_app_ints rfl _ _ rfl v1.heap.size (.slice (some ⟨b0, 0, none⟩) 0 0) (.slice p m c) 0 m [] td (by simp) (by rfl) E0.out rfl (by rfl) (HTD.out.kb BV.out).seen (by rw [HM.out, Nat.zero_add]) (by have := HMB.out; omega) BV.out.size ?_
                intro g2 c2 cx o2 oth2 loc2
                have O2 : Hid (cx.ownsRow v1.heap.size 3 1 (.slice (some ⟨g2, 0, none⟩) m c2) m (td.map (Value.int .i64))) := Lib.hid o2
                have BV := Lib.hid (BV.out.trans (oth2.below BV.out.size (fun k hk => own_from E0.out k hk)))
                try have O8 := Lib.hid (own_keep O8.out oth2 (fun j hj e => N8.out (hj.trans e.symm)))
                clear o2 oth2 loc2
                rename World => cw
                refine hK.out _ _ ⟨(XX.out.kb BV.out).c.1, (ld_rw (rng_kb HRG.out (XX.out.kb BV.out).of)).1⟩ (fun hHeld => ?_)
                clear hK K
                try simp only [Act.put, List.setIfInBounds_toArray, List.set_cons_zero, List.set_cons_succ]
                refine wpAnyH_ready (rs := [9]) (by kernel_rfl) (by simp) ?_
                refine (AllReadyH.cons (by simp only [List.getElem?_toArray, List.getElem?_cons_succ, List.getElem?_cons_zero]; rfl) (fun K hK => ?_) AllReadyH.nil)
                go_simp
                refine (HPY.out _).mono ?_
                rintro e wz ⟨rfl, rfl⟩
                go_wp2_with fail
                refine hK.out _ _ ⟨(XX.out.kb BV.out).c.1, (ld_rw (rng_kb HRG.out (XX.out.kb BV.out).of)).1⟩ (fun hHeld => ?_)
                clear hK K
                try simp only [Act.put, List.setIfInBounds_toArray, List.set_cons_zero, List.set_cons_succ]
                refine wpAnyH_ready (rs := [10]) (by kernel_rfl) (by simp) ?_
                refine (AllReadyH.cons (by simp only [List.getElem?_toArray, List.getElem?_cons_succ, List.getElem?_cons_zero]; rfl) (fun K hK => ?_) AllReadyH.nil)
                go_simp
                refine (ahead_to cw n hn0 hnl).mono ?_
                rintro e cx ⟨v8, l8, rfl, hl8, o8, b8⟩
                obtain ⟨n8, hn8⟩ : ∃ n, n = l8.length := ⟨_, rfl⟩
                obtain ⟨p8, c8, hv8⟩ := (IOwns.seen o8).shape'
                unfold IOwns at o8
                rw [← hn8] at o8 hl8 hv8
                subst hv8
                have HL8 := Lib.hid hl8
                have HN8 := Lib.hid hn8
                try have N8 : Hid ((Value.slice p8 n8 c8).ownBlock ≠ some b0) := Lib.hid (fun hj => by have h1 := own_from o8 b0 hj; obtain ⟨_, h2, _⟩ := own_type E0.out (j := b0) rfl; have := (Array.getElem?_eq_some_iff.1 h2).1; omega)
                try have E0 := Lib.hid (own_below E0.out b8)
                try have O2 := Lib.hid (own_below O2.out b8)
                have O8 : Hid (cx.ownsRow v1.heap.size 3 1 (.slice p8 n8 c8) n8 (l8.map (Value.int .i64))) := Lib.hid (own_mono o8 BV.out.size)
                have BV := Lib.hid (BV.out.trans (b8.mono BV.out.size))
                clear o8 b8 hl8 hn8
                rename World => cw
                go_wp2_with fail
                refine hK.out _ _ ⟨(XX.out.kb BV.out).c.1, (ld_rw (rng_kb HRG.out (XX.out.kb BV.out).of)).1⟩ (fun hHeld => ?_)
                clear hK K
                try simp only [Act.put, List.setIfInBounds_toArray, List.set_cons_zero, List.set_cons_succ]
                refine wpAnyH_ready (rs := [11]) (by kernel_rfl) (by simp) ?_
                refine (AllReadyH.cons (by simp only [List.getElem?_toArray, List.getElem?_cons_succ, List.getElem?_cons_zero]; rfl) (fun K hK => ?_) AllReadyH.nil)
                refine step_app_ints rfl _ _ rfl v1.heap.size (.slice (some ⟨g2, 0, none⟩) m c2) (.slice p8 n8 c8) m (m + n8) td l8 (by simp) (by rfl) O2.out HM.out (by rfl) (IOwns.seen (show IOwns cw v1.heap.size (.slice p8 n8 c8) l8 by unfold IOwns; rw [← HN8.out]; exact O8.out)) (by rw [HN8.out]) (by have := HMB.out; have := HL8.out; omega) BV.out.size ?_
                intro g3 c3 cx o3 oth3 loc3
                have BV := Lib.hid (BV.out.trans (oth3.below BV.out.size (fun k hk => own_from O2.out k hk)))
                have HTN : Hid (Td cx B (.slice (some ⟨g3, 0, none⟩) (m + n8) c3) (td ++ l8)) := Lib.hid (Td.own (A := v1.heap.size) (by unfold IOwns; rw [List.length_append, ← HM.out, ← HN8.out]; exact o3))
                clear o3 oth3 loc3
                rename World => cw
                refine hK.out _ _ ⟨(XX.out.kb BV.out).c.1, (ld_rw (rng_kb HRG.out (XX.out.kb BV.out).of)).1⟩ (fun hHeld => ?_)
                clear hK K
                try simp only [Act.put, List.setIfInBounds_toArray, List.set_cons_zero, List.set_cons_succ]
                refine wpAnyH_take (i := 12) (v := ?_) (by simp only [List.getElem?_toArray, List.getElem?_cons_succ, List.getElem?_cons_zero]; rfl) (by kernel_rfl) (by kernel_rfl) (by kernel_rfl) (fun _ _ _ h => h) (Or.inl ⟨by rfl, ?_⟩) (by assumption) ?_
                rotate_left
                · intro w hSw
                  try dsimp only at hSw
                  go_simp
                  try with_reducible rfl
                try simp only [Act.put, List.setIfInBounds_toArray, List.set_cons_zero, List.set_cons_succ]
                refine wpAnyH_done (by kernel_rfl) ?_ _
                refine NoPanic.normal ?_
                go_wp2_with fail
                refine ⟨⟨i + 1, some ⟨g3, 0, none⟩, m + n8, c3, td ++ l8, bs5, rfl, congrArg _ (by omega), HINL.out, HI12.out, by have := HM28.out; have := HL8.out; omega, Lib.hid (by rw [List.length_append, ← HM.out, ← HN8.out]), HTN, Lib.hid (HIN.out.kb BV.out), Lib.hid (RR.out.kb BV.out), Lib.hid (XX.out.kb BV.out)⟩, ?_⟩
                simp only [intOf]; have := HI12.out; omega
              · rcases (by omega : ¬ i < nL ∨ (i < nL ∧ ¬ i < 12)) with hq1 | ⟨hq1, hq2⟩
                · have hjl : ¬ (i : Int) < nL := by omega
                  have HM28 : Hid (m ≤ 28) := Lib.hid (by omega)
                  clear hlt hq1 hi hm28
                  go_wp2_with fail
                  go_meet
                  case rel => exact ⟨p, m, c, td, bs, rfl, HM28.out, HM, HTD, HIN, RR, XX⟩
                · have hjl : (i : Int) < nL := by omega
                  have hjl6 : ¬ (i : Int) < 12 := by omega
                  have HM28 : Hid (m ≤ 28) := Lib.hid (by omega)
                  clear hlt hq1 hq2 hi hm28
                  go_wp2_with fail
                  go_meet
                  case rel => exact ⟨p, m, c, td, bs, rfl, HM28.out, HM, HTD, HIN, RR, XX⟩
          case rest =>
            obtain ⟨p, m, c, td, bs, rfl, hm28, HM, HTD, HIN, RR, XX⟩ := hcut
            clear HTD0 HI0 HM0 HM1
            have HM28 := Lib.hid hm28
            clear hm28
            go_wp2_with fail
            go_loopw [13] (fun vt wq => ∃ (p : Option Addr) (m c : Nat) (td : List Int) (bs : List Bool) (pc : Option Addr) (nC cc : Nat) (C : Cv) (cs : List Cm), vt = .slice p m c ∧ Hid (m = td.length) ∧ Hid (m ≤ 28 + 2 * (60 - lft bs)) ∧ Hid (nC + lft bs ≤ 72) ∧ Hid (nC = C.length) ∧ Hid (Td wq B (.slice p m c) td) ∧ Hid (InB wq ib bs) ∧ Hid (RI wq B rb (.slice pc nC cc) (.slice ph mh ch) g C cs hs) ∧ Hid (XS w wq B bx rz rb (.slice pL nL cL) (.slice pH nH cH) grp how))
              (fun vt wq => 3 * lfw wq ib + slen vt)
            case atStart =>
              have h60 := lft_le (bs := bs)
              rw [HIN.out.2] at h60
              exact ⟨p, m, c, td, bs, pc, nC, cc, C, cs, rfl, HM, Lib.hid (by have := HM28.out; omega), Lib.hid (by have := HN12.out; omega), HNC, HTD, HIN, RR, XX⟩
            case round =>
              clear RR XX HTD HIN HM HM28 HNC HN12
              obtain ⟨p, m, c, td, bs, pc, nC, cc, C, cs, rfl, HM, HMB, HN72, HNC, HTD, HIN, RR, XX⟩ := hrel
              rcases Nat.eq_zero_or_pos m with h0 | h0
              · subst h0
                have hJ0 := HJ0.out
                have hK0 := HK0.out
                go_wp2_with fail
                go_meet
                case rel => exact ⟨pc, nC, cc, C, cs, by have := HN72.out; omega, HNC, RR, XX⟩
              · have hm0 : (0 : Int) < m := by omega
                obtain ⟨y, tl, htd⟩ : ∃ y tl, td = y :: tl := by
                  cases td with
                  | nil => have := HM.out; simp at this; omega
                  | cons x tl => exact ⟨x, tl, rfl⟩
                subst htd
                obtain ⟨a, rfl, hc0, hml, hmc⟩ := HTD.out.first
                obtain ⟨m1, hm1⟩ : ∃ m1, m1 = tl.length := ⟨_, rfl⟩
                rw [← hm1] at hml
                subst hml
                have HTR : Hid (Td wr B (.slice (if c = 1 then some a else some ⟨a.block, a.off + 1, none⟩) m1 (c - 1)) tl) := Lib.hid (by have := HTD.out.rest hm1; rwa [show a.add 1 = ⟨a.block, a.off + 1, none⟩ from by simp [Addr.add]] at this)
                have hw1 : ((m1 + 1 : Nat) : Int) - 1 = m1 := by omega
                have hb1 : (1 : Int) ≤ ((m1 + 1 : Nat) : Int) := by omega
                have hb2 : ((m1 + 1 : Nat) : Int) ≤ c := by omega
                have HM1 := Lib.hid hm1
                have HPY := Lib.hid (fun W : World => pick_any W y 60 (by decide) (by decide))
                obtain ⟨n, hn⟩ : ∃ n : Nat, y % 60 = n := ⟨(y % 60).toNat, by omega⟩
                have hn60 : n < 60 := by omega
                rw [hn] at HPY
                have hnl : (n : Int) < 60 := by omega
                have hn0 : (0 : Int) ≤ n := by omega
                have HN60 := Lib.hid hn60
                obtain ⟨bn, hbn⟩ : ∃ bn, bs[n]? = some bn := ⟨bs[n]'(by rw [HIN.out.2]; exact hn60), List.getElem?_eq_getElem _⟩
                have hcI := HIN.out.cell hbn
                have HBN := Lib.hid hbn
                have HLF := Lib.hid HIN.out.lfw
                clear hn hn60 hbn hm1 h0 hmc
                cases bn with
                | true =>
                  go_wp2_with (go_at_call 19; refine (HPY.out _).mono ?_; rintro e wz ⟨rfl, rfl⟩)
                  generalize (if c = 1 then some a else some ⟨a.block, a.off + 1, none⟩) = q at *
                  generalize c - 1 = c1 at *
                  refine ⟨⟨q, m1, c1, tl, bs, pc, nC, cc, C, cs, rfl, HM1, Lib.hid (by have := HMB.out; omega), HN72, HNC, HTR, HIN, RR, XX⟩, ?_⟩
                  simp only [slen]; omega
                | false =>
                  have hfI := HIN.out.free n
                  go_upto_region 42 with (go_at_call 19; refine (HPY.out _).mono ?_; rintro e wz ⟨rfl, rfl⟩)
                  have HLB : Hid (lft bs ≤ 60) := Lib.hid (by have := lft_le (bs := bs); rw [HIN.out.2] at this; exact this)
                  have hset := HIN.out.set HN60.out
                  have RR0 := Lib.hid (RR.out.inb HIN.out hset.2)
                  have XX0 := Lib.hid (XX.out.inb HIN.out HIB.out hset.2)
                  have HTR := Lib.hid (HTR.out.only hset.2 (fun j hj => by rw [hj]; exact ⟨HIB.out, fun cs e => by rw [HIN.out.1] at e; injection e with e; injection e with _ e _; exact absurd e (by decide)⟩))
                  have HLS : Hid (lft (bs.set n true) + 1 = lft bs) := Lib.hid (lft_set HBN.out)
                  have HIN := Lib.hid hset.1
                  clear hset hcI hfI hc0 HBN RR XX HTD hb1 hb2 hw1 hm0
                  generalize wr.setCell ⟨ib, n, none⟩ (.bool true) = W0 at *
                  generalize bs.set n true = bs5 at *
                  generalize (if c = 1 then some a else some ⟨a.block, a.off + 1, none⟩) = q at *
                  generalize c - 1 = c1 at *
                  go_wp2_with fail
                  refine (hash_to _ n).mono ?_
                  rintro e w2 ⟨rfl, b2⟩
                  obtain ⟨h, hh'⟩ : ∃ h, h = hh (n : Int) := ⟨_, rfl⟩
                  have hh32 : h.length = 32 := by rw [hh']; exact hh_length _
                  rw [← hh']
                  have st := cst_cells h (.slice none 0 0) hh32 rfl w2
                  have hks : (cmv h (.slice none 0 0)).size = 33 := cmv_size hh32 _
                  have HH32 := Lib.hid hh32
                  have Y3 : Hid (Below W0.heap.size W0 (w2.alloc (.cells (cmv h (.slice none 0 0)) 34)) ∧ CI (w2.alloc (.cells (cmv h (.slice none 0 0)) 34)) W0.heap.size w2.heap.size h (.slice none 0 0) []) :=
                    Lib.hid ⟨b2.alloc b2.size _, heap_alloc_last w2 _, World.ownsRow_nil _ _ _ _, b2.size, H32.nil, hh32⟩
                  clear b2 hh' hh32
                  go_wp2_with (refine build_w (t := 34) (vals := #[(0, .agg (hv h))]) (built_commit0 h HH32.out) ?hv ?hw ?_; (case hv => first | rfl | simp [Act.put, Act.eval]); (case hw => first | rfl | simp [Region.wanted, yielded]))
                  generalize w2.alloc (.cells (cmv h (.slice none 0 0)) 34) = W2 at *
                  generalize w2.heap.size = cb at *
                  clear st hks
                  refine (ahead_to _ n hn0 hnl).mono ?_
                  rintro e w3 ⟨v8, l8, rfl, hl8, o8, b3⟩
                  obtain ⟨p8, c8, hv8⟩ := (IOwns.seen o8).shape'
                  subst hv8
                  obtain ⟨n8, hn8⟩ : ∃ n, n = l8.length := ⟨_, rfl⟩
                  have Y3B : Hid (YB w3 W0 ib (bs5.map Value.bool).toArray 119 W2.heap.size (.slice p8 l8.length c8) l8) := Lib.hid ⟨Y3.out.1.trans (b3.mono Y3.out.1.size), (HIN.out.kb (Y3.out.1.trans (b3.mono Y3.out.1.size))).1, by decide, o8⟩
                  have C3 : Hid (CI w3 W0.heap.size cb h (.slice none 0 0) []) := Lib.hid (Y3.out.2.kb b3)
                  rw [← hn8] at Y3B hl8 ⊢
                  have HN8 := Lib.hid hn8
                  have HL8 := Lib.hid hl8
                  have NCB : Hid (nC ≤ 1000000) := Lib.hid (by have := HN72.out; omega)
                  have HMB2 : Hid (m1 ≤ 200) := Lib.hid (by have := HMB.out; omega)
                  clear Y3 o8 b3 hn8 hl8
                  generalize W2.heap.size = B8 at *
                  generalize hyc : (bs5.map Value.bool).toArray = yc at *
                  clear hyc
                  go_wp2_with fail
                  go_loopw [18] (fun s wq => ∃ (j : Nat) (p : Option Addr) (c m : Nat) (ps : List Key), s = .int .i64 j ∧ j ≤ n8 ∧ Hid (m = ps.length) ∧ m ≤ j ∧ Hid (CI wq W0.heap.size cb h (.slice p m c) ps) ∧ Hid (YB wq W0 ib yc 119 B8 (.slice p8 n8 c8) l8))
                    (fun s _ => n8 - (intOf s).toNat)
                  case atStart => exact ⟨0, none, 0, 0, [], rfl, Nat.zero_le _, Lib.hid rfl, Nat.le_refl _, C3, Y3B⟩
                  case round =>
                    clear C3 Y3B
                    obtain ⟨j, p, c, m, ps, rfl, hj, HM, hmj, CC, YY⟩ := hrel
                    by_cases hlt : j < n8
                    · have HJ := Lib.hid hlt
                      have hj1 : wrap64 ((j : Int) + 1) = ((j + 1 : Nat) : Int) := by have := HL8.out; unfold wrap64; omega
                      have hjl : (j : Int) < n8 := by omega
                      have HMJ := Lib.hid hmj
                      have HM2 : Hid (m ≤ 2) := Lib.hid (by have := HL8.out; omega)
                      obtain ⟨x, hx⟩ : ∃ x, l8[j]? = some x := ⟨l8[j]'(by rw [← HN8.out]; exact hlt), List.getElem?_eq_getElem _⟩
                      obtain ⟨a8, rfl, hc0⟩ := (IOwns.seen YY.out.p).at' hx
                      have HX := Lib.hid hx
                      clear hx hj hmj
                      go_wp2_with fail
                      have bq : Below wr.heap.size wr wr.drew := blw_qt _ 1 wr
                      have CC := Lib.hid (CC.out.kb bq)
                      have YY := Lib.hid (YY.out.kb bq)
                      clear bq
                      try simp only [List.append]
                      refine wp_region_noPanic ?_
                      refine wp_region_held_drew (S := (fun V => V.cell? (a8.add j) = some (.int .i64 x))) (by kernel_rfl) ((IOwns.seen YY.out.p).cell' HX.out) (fun hHeld => ?_)
                      generalize wr.drew = v1 at *
                      refine wpAnyH_take (i := 0) (v := ?_) (by simp only [List.getElem?_toArray, List.getElem?_cons_zero]; rfl) (by kernel_rfl) (by kernel_rfl) (by kernel_rfl) (fun _ _ _ h => h) (Or.inl ⟨by rfl, ?_⟩) (by assumption) ?_
                      rotate_left
                      · intro w hSw
                        try dsimp only at hSw
                        go_simp
                        try with_reducible rfl
                      try simp only [Act.put, List.setIfInBounds_toArray, List.set_cons_zero, List.set_cons_succ]
                      refine wpAnyH_take (i := 2) (v := ?_) (by simp only [List.getElem?_toArray, List.getElem?_cons_succ, List.getElem?_cons_zero]; rfl) (by kernel_rfl) (by kernel_rfl) (by kernel_rfl) (fun _ _ _ h => h) (Or.inl ⟨by rfl, ?_⟩) (by assumption) ?_
                      rotate_left
                      · intro w hSw
                        try dsimp only at hSw
                        go_simp
                        try with_reducible rfl
                      try simp only [Act.put, List.setIfInBounds_toArray, List.set_cons_zero, List.set_cons_succ]
                      refine wpAnyH_take (i := 3) (v := ?_) (by simp only [List.getElem?_toArray, List.getElem?_cons_succ, List.getElem?_cons_zero]; rfl) (by kernel_rfl) (by kernel_rfl) (by kernel_rfl) (fun _ _ _ h => h) (Or.inl ⟨by rfl, ?_⟩) (by assumption) ?_
                      rotate_left
                      · intro w hSw
                        try dsimp only at hSw
                        go_simp
                        try with_reducible rfl
                      try simp only [Act.put, List.setIfInBounds_toArray, List.set_cons_zero, List.set_cons_succ]
                      refine wpAnyH_take (i := 4) (v := ?_) (by simp only [List.getElem?_toArray, List.getElem?_cons_succ, List.getElem?_cons_zero]; rfl) (by kernel_rfl) (by kernel_rfl) (by kernel_rfl) (fun _ _ _ h => h) (Or.inl ⟨by rfl, ?_⟩) (by assumption) ?_
                      rotate_left
                      · intro w hSw
                        try dsimp only at hSw
                        go_simp
                        try with_reducible rfl
                      try simp only [Act.put, List.setIfInBounds_toArray, List.set_cons_zero, List.set_cons_succ]
                      refine wpAnyH_take (i := 5) (v := ?_) (by simp only [List.getElem?_toArray, List.getElem?_cons_succ, List.getElem?_cons_zero]; rfl) (by kernel_rfl) (by kernel_rfl) (by kernel_rfl) (fun _ _ _ h => h) (Or.inl ⟨by rfl, ?_⟩) (by assumption) ?_
                      rotate_left
                      · intro w hSw
                        try dsimp only at hSw
                        go_simp
                        try with_reducible rfl
                      try simp only [Act.put, List.setIfInBounds_toArray, List.set_cons_zero, List.set_cons_succ]
                      refine wpAnyH_ready (rs := [1, 6]) (by kernel_rfl) (by simp) ?_
                      refine (AllReadyH.cons (by simp only [List.getElem?_toArray, List.getElem?_cons_succ, List.getElem?_cons_zero]; rfl) (fun K hK => ?_) (AllReadyH.cons (by simp only [List.getElem?_toArray, List.getElem?_cons_succ, List.getElem?_cons_zero]; rfl) (fun K hK => ?_) AllReadyH.nil))
                      · have cL := CC.out.par
                        go_simp
                        clear cL
                        refine hK.out _ _ ((IOwns.seen YY.out.p).cell' HX.out) (fun hHeld => ?_)
                        clear hK K
                        try simp only [Act.put, List.setIfInBounds_toArray, List.set_cons_zero, List.set_cons_succ]
                        refine wpAnyH_ready (rs := [6]) (by kernel_rfl) (by simp) ?_
                        refine (AllReadyH.cons (by simp only [List.getElem?_toArray, List.getElem?_cons_succ, List.getElem?_cons_zero]; rfl) (fun K hK => ?_) AllReadyH.nil)
                        go_simp
                        refine (hash_to _ x).mono ?_
                        rintro e v2 ⟨rfl, bb⟩
                        have CC := Lib.hid (CC.out.kb bb)
                        have YY := Lib.hid (YY.out.kb bb)
                        clear bb
                        go_wp2_with fail
                        refine hK.out _ _ ((IOwns.seen YY.out.p).cell' HX.out) (fun hHeld => ?_)
                        clear hK K
                        try simp only [Act.put, List.setIfInBounds_toArray, List.set_cons_zero, List.set_cons_succ]
                        refine wpAnyH_ready (rs := [7]) (by kernel_rfl) (by simp) ?_
                        refine (AllReadyH.cons (by simp only [List.getElem?_toArray, List.getElem?_cons_succ, List.getElem?_cons_zero]; rfl) (fun K hK => ?_) AllReadyH.nil)
                        refine step_sl1 (hh x) (hh_length x) (by rfl) (by rfl) ?_
                        have HB7 := Lib.hid (heap_alloc_last v2 (.cells (hv (hh x)) 31))
                        have CC := Lib.hid (CC.out.kb (below_al11 v2 (.cells (hv (hh x)) 31)))
                        have YY := Lib.hid (YY.out.kb (below_al11 v2 (.cells (hv (hh x)) 31)))
                        generalize v2.alloc (.cells (hv (hh x)) 31) = v3 at *
                        generalize v2.heap.size = b7 at *
                        refine hK.out _ _ ((IOwns.seen YY.out.p).cell' HX.out) (fun hHeld => ?_)
                        clear hK K
                        try simp only [Act.put, List.setIfInBounds_toArray, List.set_cons_zero, List.set_cons_succ]
                        refine wpAnyH_ready (rs := [8]) (by kernel_rfl) (by simp) ?_
                        refine (AllReadyH.cons (by simp only [List.getElem?_toArray, List.getElem?_cons_succ, List.getElem?_cons_zero]; rfl) (fun K hK => ?_) AllReadyH.nil)
                        refine step_pushh rfl _ _ rfl W0.heap.size (.slice p m c) ps b7 (hh x) (hh_length x) (by rfl) CC.out.own (by rfl) HB7.out (by rw [← HM.out]; have := HM2.out; omega) YY.out.bel.size (m + 1) (by rw [HM.out]) ?_
                        intro p9 c9 v4 o9 oth9 loc9
                        have hpush := CC.out.push o9 oth9 (hh_length x)
                        have hc9 := cm_cell CC.out.hh (CC.out.mid oth9)
                        have hf9 : v4.frozen? ⟨cb, 32, none⟩ = false := frozen_of_row _ _ _ _ _ (CC.out.mid oth9)
                        have YH := Lib.hid (YY.out.half CC.out oth9)
                        have CN := Lib.hid hpush.1
                        have YN := Lib.hid (YY.out.far CC.out hpush.2)
                        clear hpush o9 oth9 loc9
                        refine hK.out _ _ ((IOwns.seen YH.out.p).cell' HX.out) (fun hHeld => ?_)
                        clear hK K
                        try simp only [Act.put, List.setIfInBounds_toArray, List.set_cons_zero, List.set_cons_succ]
                        refine wpAnyH_take (i := 9) (v := ?_) (by simp only [List.getElem?_toArray, List.getElem?_cons_succ, List.getElem?_cons_zero]; rfl) (by kernel_rfl) (by kernel_rfl) (by kernel_rfl) (fun _ _ _ h => h) (Or.inl ⟨by rfl, ?_⟩) (by assumption) ?_
                        rotate_left
                        · intro w hSw
                          try dsimp only at hSw
                          go_simp
                          try with_reducible rfl
                        try simp only [Act.put, List.setIfInBounds_toArray, List.set_cons_zero, List.set_cons_succ]
                        refine wpAnyH_ready (rs := [10]) (by kernel_rfl) (by simp) ?_
                        refine (AllReadyH.cons (by simp only [List.getElem?_toArray, List.getElem?_cons_succ, List.getElem?_cons_zero]; rfl) (fun K hK => ?_) AllReadyH.nil)
                        go_simp
                        generalize v4.setCell ⟨cb, 32, none⟩ (.slice p9 (m + 1) c9) = v5 at *
                        refine hK.out _ _ ((IOwns.seen YN.out.p).cell' HX.out) (fun hHeld => ?_)
                        clear hK K
                        try simp only [Act.put, List.setIfInBounds_toArray, List.set_cons_zero, List.set_cons_succ]
                        refine wpAnyH_done (by kernel_rfl) ?_ _
                        refine NoPanic.normal ?_
                        go_wp2_with fail
                        refine ⟨⟨j + 1, p9, c9, m + 1, ps ++ [hh x], by rw [hj1], HJ.out, Lib.hid (by rw [HM.out, List.length_append]; rfl), Nat.succ_le_succ HMJ.out, CN, YN⟩, ?_⟩
                        rw [hj1]; simp only [intOf]; have := HJ.out; omega
                      · go_simp
                        refine (hash_to _ x).mono ?_
                        rintro e v2 ⟨rfl, bb⟩
                        have CC := Lib.hid (CC.out.kb bb)
                        have YY := Lib.hid (YY.out.kb bb)
                        clear bb
                        go_wp2_with fail
                        refine hK.out _ _ ((IOwns.seen YY.out.p).cell' HX.out) (fun hHeld => ?_)
                        clear hK K
                        try simp only [Act.put, List.setIfInBounds_toArray, List.set_cons_zero, List.set_cons_succ]
                        refine wpAnyH_ready (rs := [1, 7]) (by kernel_rfl) (by simp) ?_
                        refine (AllReadyH.cons (by simp only [List.getElem?_toArray, List.getElem?_cons_succ, List.getElem?_cons_zero]; rfl) (fun K hK => ?_) (AllReadyH.cons (by simp only [List.getElem?_toArray, List.getElem?_cons_succ, List.getElem?_cons_zero]; rfl) (fun K hK => ?_) AllReadyH.nil))
                        · have cL := CC.out.par
                          go_simp
                          clear cL
                          refine hK.out _ _ ((IOwns.seen YY.out.p).cell' HX.out) (fun hHeld => ?_)
                          clear hK K
                          try simp only [Act.put, List.setIfInBounds_toArray, List.set_cons_zero, List.set_cons_succ]
                          refine wpAnyH_ready (rs := [7]) (by kernel_rfl) (by simp) ?_
                          refine (AllReadyH.cons (by simp only [List.getElem?_toArray, List.getElem?_cons_succ, List.getElem?_cons_zero]; rfl) (fun K hK => ?_) AllReadyH.nil)
                          refine step_sl1 (hh x) (hh_length x) (by rfl) (by rfl) ?_
                          have HB7 := Lib.hid (heap_alloc_last v2 (.cells (hv (hh x)) 31))
                          have CC := Lib.hid (CC.out.kb (below_al11 v2 (.cells (hv (hh x)) 31)))
                          have YY := Lib.hid (YY.out.kb (below_al11 v2 (.cells (hv (hh x)) 31)))
                          generalize v2.alloc (.cells (hv (hh x)) 31) = v3 at *
                          generalize v2.heap.size = b7 at *
                          refine hK.out _ _ ((IOwns.seen YY.out.p).cell' HX.out) (fun hHeld => ?_)
                          clear hK K
                          try simp only [Act.put, List.setIfInBounds_toArray, List.set_cons_zero, List.set_cons_succ]
                          refine wpAnyH_ready (rs := [8]) (by kernel_rfl) (by simp) ?_
                          refine (AllReadyH.cons (by simp only [List.getElem?_toArray, List.getElem?_cons_succ, List.getElem?_cons_zero]; rfl) (fun K hK => ?_) AllReadyH.nil)
                          refine step_pushh rfl _ _ rfl W0.heap.size (.slice p m c) ps b7 (hh x) (hh_length x) (by rfl) CC.out.own (by rfl) HB7.out (by rw [← HM.out]; have := HM2.out; omega) YY.out.bel.size (m + 1) (by rw [HM.out]) ?_
                          intro p9 c9 v4 o9 oth9 loc9
                          have hpush := CC.out.push o9 oth9 (hh_length x)
                          have hc9 := cm_cell CC.out.hh (CC.out.mid oth9)
                          have hf9 : v4.frozen? ⟨cb, 32, none⟩ = false := frozen_of_row _ _ _ _ _ (CC.out.mid oth9)
                          have YH := Lib.hid (YY.out.half CC.out oth9)
                          have CN := Lib.hid hpush.1
                          have YN := Lib.hid (YY.out.far CC.out hpush.2)
                          clear hpush o9 oth9 loc9
                          refine hK.out _ _ ((IOwns.seen YH.out.p).cell' HX.out) (fun hHeld => ?_)
                          clear hK K
                          try simp only [Act.put, List.setIfInBounds_toArray, List.set_cons_zero, List.set_cons_succ]
                          refine wpAnyH_take (i := 9) (v := ?_) (by simp only [List.getElem?_toArray, List.getElem?_cons_succ, List.getElem?_cons_zero]; rfl) (by kernel_rfl) (by kernel_rfl) (by kernel_rfl) (fun _ _ _ h => h) (Or.inl ⟨by rfl, ?_⟩) (by assumption) ?_
                          rotate_left
                          · intro w hSw
                            try dsimp only at hSw
                            go_simp
                            try with_reducible rfl
                          try simp only [Act.put, List.setIfInBounds_toArray, List.set_cons_zero, List.set_cons_succ]
                          refine wpAnyH_ready (rs := [10]) (by kernel_rfl) (by simp) ?_
                          refine (AllReadyH.cons (by simp only [List.getElem?_toArray, List.getElem?_cons_succ, List.getElem?_cons_zero]; rfl) (fun K hK => ?_) AllReadyH.nil)
                          go_simp
                          generalize v4.setCell ⟨cb, 32, none⟩ (.slice p9 (m + 1) c9) = v5 at *
                          refine hK.out _ _ ((IOwns.seen YN.out.p).cell' HX.out) (fun hHeld => ?_)
                          clear hK K
                          try simp only [Act.put, List.setIfInBounds_toArray, List.set_cons_zero, List.set_cons_succ]
                          refine wpAnyH_done (by kernel_rfl) ?_ _
                          refine NoPanic.normal ?_
                          go_wp2_with fail
                          refine ⟨⟨j + 1, p9, c9, m + 1, ps ++ [hh x], by rw [hj1], HJ.out, Lib.hid (by rw [HM.out, List.length_append]; rfl), Nat.succ_le_succ HMJ.out, CN, YN⟩, ?_⟩
                          rw [hj1]; simp only [intOf]; have := HJ.out; omega
                        · refine step_sl1 (hh x) (hh_length x) (by rfl) (by rfl) ?_
                          have HB7 := Lib.hid (heap_alloc_last v2 (.cells (hv (hh x)) 31))
                          have CC := Lib.hid (CC.out.kb (below_al11 v2 (.cells (hv (hh x)) 31)))
                          have YY := Lib.hid (YY.out.kb (below_al11 v2 (.cells (hv (hh x)) 31)))
                          generalize v2.alloc (.cells (hv (hh x)) 31) = v3 at *
                          generalize v2.heap.size = b7 at *
                          refine hK.out _ _ ((IOwns.seen YY.out.p).cell' HX.out) (fun hHeld => ?_)
                          clear hK K
                          try simp only [Act.put, List.setIfInBounds_toArray, List.set_cons_zero, List.set_cons_succ]
                          refine wpAnyH_ready (rs := [1]) (by kernel_rfl) (by simp) ?_
                          refine (AllReadyH.cons (by simp only [List.getElem?_toArray, List.getElem?_cons_succ, List.getElem?_cons_zero]; rfl) (fun K hK => ?_) AllReadyH.nil)
                          have cL := CC.out.par
                          go_simp
                          clear cL
                          refine hK.out _ _ ((IOwns.seen YY.out.p).cell' HX.out) (fun hHeld => ?_)
                          clear hK K
                          try simp only [Act.put, List.setIfInBounds_toArray, List.set_cons_zero, List.set_cons_succ]
                          refine wpAnyH_ready (rs := [8]) (by kernel_rfl) (by simp) ?_
                          refine (AllReadyH.cons (by simp only [List.getElem?_toArray, List.getElem?_cons_succ, List.getElem?_cons_zero]; rfl) (fun K hK => ?_) AllReadyH.nil)
                          refine step_pushh rfl _ _ rfl W0.heap.size (.slice p m c) ps b7 (hh x) (hh_length x) (by rfl) CC.out.own (by rfl) HB7.out (by rw [← HM.out]; have := HM2.out; omega) YY.out.bel.size (m + 1) (by rw [HM.out]) ?_
                          intro p9 c9 v4 o9 oth9 loc9
                          have hpush := CC.out.push o9 oth9 (hh_length x)
                          have hc9 := cm_cell CC.out.hh (CC.out.mid oth9)
                          have hf9 : v4.frozen? ⟨cb, 32, none⟩ = false := frozen_of_row _ _ _ _ _ (CC.out.mid oth9)
                          have YH := Lib.hid (YY.out.half CC.out oth9)
                          have CN := Lib.hid hpush.1
                          have YN := Lib.hid (YY.out.far CC.out hpush.2)
                          clear hpush o9 oth9 loc9
                          refine hK.out _ _ ((IOwns.seen YH.out.p).cell' HX.out) (fun hHeld => ?_)
                          clear hK K
                          try simp only [Act.put, List.setIfInBounds_toArray, List.set_cons_zero, List.set_cons_succ]
                          refine wpAnyH_take (i := 9) (v := ?_) (by simp only [List.getElem?_toArray, List.getElem?_cons_succ, List.getElem?_cons_zero]; rfl) (by kernel_rfl) (by kernel_rfl) (by kernel_rfl) (fun _ _ _ h => h) (Or.inl ⟨by rfl, ?_⟩) (by assumption) ?_
                          rotate_left
                          · intro w hSw
                            try dsimp only at hSw
                            go_simp
                            try with_reducible rfl
                          try simp only [Act.put, List.setIfInBounds_toArray, List.set_cons_zero, List.set_cons_succ]
                          refine wpAnyH_ready (rs := [10]) (by kernel_rfl) (by simp) ?_
                          refine (AllReadyH.cons (by simp only [List.getElem?_toArray, List.getElem?_cons_succ, List.getElem?_cons_zero]; rfl) (fun K hK => ?_) AllReadyH.nil)
                          go_simp
                          generalize v4.setCell ⟨cb, 32, none⟩ (.slice p9 (m + 1) c9) = v5 at *
                          refine hK.out _ _ ((IOwns.seen YN.out.p).cell' HX.out) (fun hHeld => ?_)
                          clear hK K
                          try simp only [Act.put, List.setIfInBounds_toArray, List.set_cons_zero, List.set_cons_succ]
                          refine wpAnyH_done (by kernel_rfl) ?_ _
                          refine NoPanic.normal ?_
                          go_wp2_with fail
                          refine ⟨⟨j + 1, p9, c9, m + 1, ps ++ [hh x], by rw [hj1], HJ.out, Lib.hid (by rw [HM.out, List.length_append]; rfl), Nat.succ_le_succ HMJ.out, CN, YN⟩, ?_⟩
                          rw [hj1]; simp only [intOf]; have := HJ.out; omega
                    · have hjl : ¬ (j : Int) < n8 := by omega
                      have HM2 : Hid (m ≤ 2) := Lib.hid (by have := HL8.out; omega)
                      have HPL : Hid (ps.length ≤ 10) := Lib.hid (by rw [← HM.out]; have := HM2.out; omega)
                      clear hmj hlt hj
                      have RT := Lib.hid (RR0.out.kb YY.out.bel)
                      have XT := Lib.hid (XX0.out.kb YY.out.bel)
                      have t0 := RT.out.c0.1
                      have hcl := cld_range (w := wr) (p := cb) (o := 0) (h := h) (u := .slice p m c) CC.out.hh (by have := range_row CC.out.cell; rwa [cmv_list] at this)
                      have BA := Lib.hid (below_al11 wr (.cells (cf [(h, .slice p m c)]).toArray 34))
                      have RA := Lib.hid (RT.out.kb BA.out)
                      have SU : Hid (∀ j, (Value.slice p m c).ownBlock = some j → (Value.slice ph mh ch).ownBlock ≠ some j) := Lib.hid (fun j hj e => by
                        have h1 := own_from CC.out.own j hj
                        obtain ⟨_, h2, _⟩ := own_type RR0.out.heads e
                        have := (Array.getElem?_eq_some_iff.1 h2).1
                        omega)
                      go_upto_region 49 with (first
                        | (refine slicec_w (C := [(h, .slice p m c)]) (by simpa using HH32.out) rfl (by simp) (by simp) ?hv ?hw ?_; (case hv => first | rfl | simp [Act.put, Act.eval]); (case hw => first | rfl | simp [Region.wanted, yielded]))
                        | (at_builtin; refine push_comm rfl (.tmp 220) (.tmp 222) rfl (b := wr.heap.size) (h := h) (u := .slice p m c) (ps := ps) (w0 := w) rfl rfl (heap_alloc_last wr _) RA.out HNC.out (XT.out.kb BA.out) HH32.out CC.out.p32 HPL.out (own_mono (own_below CC.out.own BA.out) (XX0.out.hB ▸ XX0.out.bel.size)) SU.out NCB.out ?_; intro g5 c5 w5 hc5 hf5 R5 X5 o5; have R5 := Lib.hid R5; have X5 := Lib.hid X5; have O5 := Lib.hid o5; clear o5))
                      obtain ⟨f1, f2, f3⟩ := RA.out.apart O5.out
                      have HT6 := Lib.hid (f1 _ _ ((HTR.out.kb YY.out.bel).kb BA.out))
                      have HO6 := Lib.hid (f2 _ _ _ _ (own_below YY.out.p BA.out))
                      have HI6 := Lib.hid (f3 _ _ ((HIN.out.kb YY.out.bel).kb BA.out))
                      clear f1 f2 f3 O5 BA RA t0 hcl hc5 hf5
                      generalize w5.setCell ⟨rb, 0, none⟩ (.slice (some ⟨g5, 0, none⟩) (nC + 1) c5) = W6 at *
                      have E0 : Hid ((W6.alloc (.cells #[] 3)).ownsRow W6.heap.size 3 1 (.slice (some ⟨W6.heap.size, 0, none⟩) 0 0) 0 []) := Lib.hid (own_empty W6 _ _ (Nat.le_refl _))
                      have BE := Lib.hid (below_al11 W6 (.cells #[] 3))
                      have HTA := Lib.hid (HT6.out.kb BE.out)
                      have N8 : Hid ((Value.slice p8 n8 c8).ownBlock ≠ some W6.heap.size) := Lib.hid (fun hj => by obtain ⟨_, h1, _⟩ := own_type HO6.out hj; have := (Array.getElem?_eq_some_iff.1 h1).1; omega)
                      have OA := Lib.hid (own_below HO6.out BE.out)
                      go_wp2_with (first
                        | (at_builtin; refine push_app_ints rfl (.tmp 227) (.tmp 228) rfl W6.heap.size (.slice (some ⟨g2, 0, none⟩) m1 c2) (.slice p8 n8 c8) m1 (m1 + n8) tl l8 (by simp) rfl O2.out HM1.out rfl O7.out (by rw [HN8.out]) (by have := HMB2.out; have := HL8.out; omega) BV.out.size ?_; intro g3 c3 w8 o3 oth3 loc3; have B8' := Lib.hid (BV.out.trans (oth3.below BV.out.size (fun k hk => own_from O2.out k hk))); have HTN : Hid (Td w8 B (.slice (some ⟨g3, 0, none⟩) (m1 + n8) c3) (tl ++ l8)) := Lib.hid (Td.own (A := W6.heap.size) (by unfold IOwns; rw [List.length_append, ← HM1.out, ← HN8.out]; exact o3)); clear o3 oth3 loc3)
                        | (at_builtin; refine push_app_ints rfl (.tmp 225) (.tmp 226) rfl W6.heap.size (.slice (some ⟨W6.heap.size, 0, none⟩) 0 0) (.slice q m1 c1) 0 m1 [] tl (by simp) rfl E0.out rfl rfl HTA.out.seen (by rw [HM1.out, Nat.zero_add]) (by have := HMB2.out; omega) BE.out.size ?_; intro g2 c2 w7 o2 oth2 loc2; have O2 : Hid (w7.ownsRow W6.heap.size 3 1 (.slice (some ⟨g2, 0, none⟩) m1 c2) m1 (tl.map (Value.int .i64))) := Lib.hid o2; have BV := Lib.hid (BE.out.trans (oth2.below BE.out.size (fun k hk => own_from E0.out k hk))); have O7 : Hid (ISeen w7 (.slice p8 n8 c8) l8) := Lib.hid (IOwns.seen (B := B8) (by unfold IOwns; rw [← HN8.out]; exact own_keep (by have := OA.out; rwa [← HN8.out] at this) oth2 (fun j hj e => N8.out (hj.trans e.symm)))); clear o2 oth2 loc2)
                        | (refine push_empty rfl rfl ?_))
                      refine ⟨⟨some ⟨g3, 0, none⟩, m1 + n8, c3, tl ++ l8, bs5, some ⟨g5, 0, none⟩, nC + 1, c5, C ++ [(h, .slice p m c)], cs ++ [(h, ps)], rfl, Lib.hid (by rw [List.length_append, ← HM1.out, ← HN8.out]), Lib.hid (by have := HMB.out; have := HLS.out; have := HLB.out; have := HL8.out; omega), Lib.hid (by have := HN72.out; have := HLS.out; omega), Lib.hid (by rw [HNC.out, List.length_append]; rfl), HTN, Lib.hid (HI6.out.kb B8'.out), Lib.hid (R5.out.kb B8'.out), Lib.hid (X5.out.kb B8'.out)⟩, ?_⟩
                      rw [(HI6.out.kb B8'.out).lfw, HLF.out]
                      simp only [slen]; have := HLS.out; have := HL8.out; omega
        · go_wp2_with fail
          go_meet
          case rel => exact ⟨pc, nC, cc, C, cs, Nat.le_trans HN12.out (by decide), HNC, RR, XX⟩
      case rest =>
        clear RR XX
        obtain ⟨pc, nC, cc, C, cs, hn72, HNC, RR, XX⟩ := hcut
        have HN72 := Lib.hid hn72
        clear hn72
        obtain ⟨x0, x1, x2, x3⟩ := XX.out.c
        have hcs : how % 50 = 0 ∨ how % 50 = 1 ∨ (¬ how % 50 = 0 ∧ ¬ how % 50 = 1) := by omega
        rcases hcs with hc | hc | ⟨hc0, hc1⟩
        · have HPW := Lib.hid (fun W : World => pick_to W how 50 0 (by decide) (by decide) hc)
          have hr2 := RR.out.c0.2.2
          have hf2 := RR.out.free 2
          clear hc
          go_upto_region 55 with (go_at_call 19; refine (HPW.out _).mono ?_; rintro e wz ⟨rfl, rfl⟩)
          have RF := Lib.hid (RR.out.grp grp).1
          have XF := Lib.hid (XX.out.far ((RR.out.grp grp).2.mono (T := fun j => j = rb ∨ (Value.slice ph mh ch).ownBlock = some j) fun j _ hj => .inl hj) RR.out.heads (by decide) RR.out.lo RR.out.cell)
          generalize wc.setCell ⟨rb, 2, none⟩ (.int .i64 grp) = W5 at *
          clear x0 x1 x2 x3 hr2 hf2
          obtain ⟨z0, z1, z2⟩ := RF.out.c0
          have zz : ∀ i, W5.frozen? ⟨rz, i, none⟩ = false := fun i => frozen_of_row _ _ _ _ _ XF.out.zero
          have zr : ∀ i u, (#[.slice none 0 0, .slice none 0 0, .int .i64 0] : Array Value)[i]? = some u → W5.cell? ⟨rz, i, none⟩ = some u := fun i u hu => by rw [cell_of_row W5 rz i _ _ _ XF.out.zero]; exact hu
          have q0 := zr 0 _ rfl
          have q1 := zr 1 _ rfl
          have q2 := zr 2 _ rfl
          have y0 := zz 0
          have y1 := zz 1
          have y2 := zz 2
          clear zz zr
          have hd := XF.out.done RF.out HRZ.out (.slice pc nC cc) (.slice ph mh ch) (.int .i64 grp)
          have HD1 := Lib.hid hd.1
          have HD2 := Lib.hid hd.2.1
          have HD3 := Lib.hid hd.2.2
          clear hd
          go_wp2_with fail
          generalize ((W5.setCell ⟨rz, 0, none⟩ (.slice pc nC cc)).setCell ⟨rz, 1, none⟩ (.slice ph mh ch)).setCell ⟨rz, 2, none⟩ (.int .i64 grp) = W6 at *
          have k0 : W6.cell? ⟨rz, 0, none⟩ = some (.slice pc nC cc) := by rw [cell_of_row W6 rz 0 _ _ _ HD1.out]; rfl
          have k1 : W6.cell? ⟨rz, 1, none⟩ = some (.slice ph mh ch) := by rw [cell_of_row W6 rz 1 _ _ _ HD1.out]; rfl
          have k2 : W6.cell? ⟨rz, 2, none⟩ = some (.int .i64 grp) := by rw [cell_of_row W6 rz 2 _ _ _ HD1.out]; rfl
          obtain ⟨s1, s2, s3, s4, s5⟩ := HD2.out.seen
          have S1 := Lib.hid s1
          have S2 := Lib.hid s2
          have S3 := Lib.hid s3
          have S4 := Lib.hid s4
          have S5 := Lib.hid s5
          clear s1 s2 s3 s4 s5
          refine bodyPost_ret (v := .agg #[(.slice pc nC cc), (.slice ph mh ch), .int .i64 grp]) ?_ rfl ?_
          · have hres : Tryz.f24.results = #[.cell 2 37] := by kernel_rfl
            simp only [results, hres]
            go_simp
          exact ⟨_, _, _, cs, hs, rfl, S1.out, S2.out, S3.out, S4.out, S5.out, by rw [← HD2.out.len, ← HNC.out]; have := HN72.out; omega, (by rw [← HMH.out]; have := HM4.out; omega), HD3.out, HD2.out.form, (by rw [← HD2.out.len, ← HNC.out]; have := HN72.out; omega), fun S V hS ho => HD2.out.far (fun j h => by rw [XF.out.hB]; exact hS j h) ho⟩
        · have HPW := Lib.hid (fun W : World => pick_to W how 50 1 (by decide) (by decide) hc)
          clear hc
          have hr1 := RR.out.c0.2.1
          obtain ⟨h9, hb9, hl9⟩ : ∃ h9 : Key, Tryz.prog.built 31 [(0, .int .u8 9)] = some (hv h9) ∧ h9.length = 32 := ⟨kn 9, kn_built 9, rfl⟩
          have HB9 := Lib.hid hb9
          have HL9 := Lib.hid hl9
          clear hb9 hl9
          have RA := Lib.hid (RR.out.kb (below_al11 wc (.cells (hv h9) 31)))
          have XA := Lib.hid (XX.out.kb (below_al11 wc (.cells (hv h9) 31)))
          have HA9 := Lib.hid (heap_alloc_last wc (.cells (hv h9) 31))
          go_upto_region 54 with (go_at_call 19; refine (HPW.out _).mono ?_; rintro e wz ⟨rfl, rfl⟩)
          clear x0 x1 x2 x3
          go_upto_region 55 with (first
            | (at_builtin; refine push_hash11 rfl (.tmp 241) (.tmp 243) rfl B (.slice ph mh ch) hs wc.heap.size h9 HL9.out rfl RA.out.heads rfl HA9.out (by rw [← HMH.out]; have := HM4.out; omega) (by rw [XA.out.hB]; exact XA.out.bel.size) (mh + 1) (by rw [HMH.out]) ?_; intro p9 c9 w9 o9 oth9 loc9; have hc9 : w9.cell? ⟨rb, 1, none⟩ = some (.slice ph mh ch) := (by rw [cell_of_row w9 rb 1 _ _ _ (RA.out.hmid oth9)]; rfl); have hf9 : w9.frozen? ⟨rb, 1, none⟩ = false := frozen_of_row _ _ _ _ _ (RA.out.hmid oth9); have hpush := RA.out.head HL9.out o9 oth9 loc9; have RF := Lib.hid hpush.1; have XF := Lib.hid (XA.out.far hpush.2 RA.out.heads (by decide) RA.out.lo RA.out.cell); clear hpush o9 oth9 loc9; clear hr1; go_upto_region 55 with fail)
            | (refine build_one h9 HL9.out rfl ?_)
            | (refine build_w (t := 31) (vals := #[(0, .int .u8 9)]) HB9.out ?hv ?hw ?_; (case hv => first | rfl | simp [Act.put, Act.eval]); (case hw => first | rfl | simp [Region.wanted, yielded])))
          generalize w9.setCell ⟨rb, 1, none⟩ (.slice p9 (mh + 1) c9) = W5 at *
          clear hc9 hf9
          obtain ⟨z0, z1, z2⟩ := RF.out.c0
          have zz : ∀ i, W5.frozen? ⟨rz, i, none⟩ = false := fun i => frozen_of_row _ _ _ _ _ XF.out.zero
          have zr : ∀ i u, (#[.slice none 0 0, .slice none 0 0, .int .i64 0] : Array Value)[i]? = some u → W5.cell? ⟨rz, i, none⟩ = some u := fun i u hu => by rw [cell_of_row W5 rz i _ _ _ XF.out.zero]; exact hu
          have q0 := zr 0 _ rfl
          have q1 := zr 1 _ rfl
          have q2 := zr 2 _ rfl
          have y0 := zz 0
          have y1 := zz 1
          have y2 := zz 2
          clear zz zr
          have hd := XF.out.done RF.out HRZ.out (.slice pc nC cc) (.slice p9 (mh + 1) c9) (.int .i64 g)
          have HD1 := Lib.hid hd.1
          have HD2 := Lib.hid hd.2.1
          have HD3 := Lib.hid hd.2.2
          clear hd
          go_wp2_with fail
          generalize ((W5.setCell ⟨rz, 0, none⟩ (.slice pc nC cc)).setCell ⟨rz, 1, none⟩ (.slice p9 (mh + 1) c9)).setCell ⟨rz, 2, none⟩ (.int .i64 g) = W6 at *
          have k0 : W6.cell? ⟨rz, 0, none⟩ = some (.slice pc nC cc) := by rw [cell_of_row W6 rz 0 _ _ _ HD1.out]; rfl
          have k1 : W6.cell? ⟨rz, 1, none⟩ = some (.slice p9 (mh + 1) c9) := by rw [cell_of_row W6 rz 1 _ _ _ HD1.out]; rfl
          have k2 : W6.cell? ⟨rz, 2, none⟩ = some (.int .i64 g) := by rw [cell_of_row W6 rz 2 _ _ _ HD1.out]; rfl
          obtain ⟨s1, s2, s3, s4, s5⟩ := HD2.out.seen
          have S1 := Lib.hid s1
          have S2 := Lib.hid s2
          have S3 := Lib.hid s3
          have S4 := Lib.hid s4
          have S5 := Lib.hid s5
          clear s1 s2 s3 s4 s5
          refine bodyPost_ret (v := .agg #[(.slice pc nC cc), (.slice p9 (mh + 1) c9), .int .i64 g]) ?_ rfl ?_
          · have hres : Tryz.f24.results = #[.cell 2 37] := by kernel_rfl
            simp only [results, hres]
            go_simp
          exact ⟨_, _, _, cs, (hs ++ [h9]), rfl, S1.out, S2.out, S3.out, S4.out, S5.out, by rw [← HD2.out.len, ← HNC.out]; have := HN72.out; omega, (by rw [List.length_append, ← HMH.out]; have := HM4.out; simp; omega), HD3.out, HD2.out.form, (by rw [← HD2.out.len, ← HNC.out]; have := HN72.out; omega), fun S V hS ho => HD2.out.far (fun j h => by rw [XF.out.hB]; exact hS j h) ho⟩
        · have HPW := Lib.hid (fun W : World => pick_any W how 50 (by decide) (by decide))
          generalize how % 50 = r at *
          go_upto_region 55 with (go_at_call 19; refine (HPW.out _).mono ?_; rintro e wz ⟨rfl, rfl⟩)
          have RF := RR
          have XF := XX
          clear x0 x1 x2 x3 RR XX
          generalize wc = W5 at *
          obtain ⟨z0, z1, z2⟩ := RF.out.c0
          have zz : ∀ i, W5.frozen? ⟨rz, i, none⟩ = false := fun i => frozen_of_row _ _ _ _ _ XF.out.zero
          have zr : ∀ i u, (#[.slice none 0 0, .slice none 0 0, .int .i64 0] : Array Value)[i]? = some u → W5.cell? ⟨rz, i, none⟩ = some u := fun i u hu => by rw [cell_of_row W5 rz i _ _ _ XF.out.zero]; exact hu
          have q0 := zr 0 _ rfl
          have q1 := zr 1 _ rfl
          have q2 := zr 2 _ rfl
          have y0 := zz 0
          have y1 := zz 1
          have y2 := zz 2
          clear zz zr
          have hd := XF.out.done RF.out HRZ.out (.slice pc nC cc) (.slice ph mh ch) (.int .i64 g)
          have HD1 := Lib.hid hd.1
          have HD2 := Lib.hid hd.2.1
          have HD3 := Lib.hid hd.2.2
          clear hd
          go_wp2_with fail
          generalize ((W5.setCell ⟨rz, 0, none⟩ (.slice pc nC cc)).setCell ⟨rz, 1, none⟩ (.slice ph mh ch)).setCell ⟨rz, 2, none⟩ (.int .i64 g) = W6 at *
          have k0 : W6.cell? ⟨rz, 0, none⟩ = some (.slice pc nC cc) := by rw [cell_of_row W6 rz 0 _ _ _ HD1.out]; rfl
          have k1 : W6.cell? ⟨rz, 1, none⟩ = some (.slice ph mh ch) := by rw [cell_of_row W6 rz 1 _ _ _ HD1.out]; rfl
          have k2 : W6.cell? ⟨rz, 2, none⟩ = some (.int .i64 g) := by rw [cell_of_row W6 rz 2 _ _ _ HD1.out]; rfl
          obtain ⟨s1, s2, s3, s4, s5⟩ := HD2.out.seen
          have S1 := Lib.hid s1
          have S2 := Lib.hid s2
          have S3 := Lib.hid s3
          have S4 := Lib.hid s4
          have S5 := Lib.hid s5
          clear s1 s2 s3 s4 s5
          refine bodyPost_ret (v := .agg #[(.slice pc nC cc), (.slice ph mh ch), .int .i64 g]) ?_ rfl ?_
          · have hres : Tryz.f24.results = #[.cell 2 37] := by kernel_rfl
            simp only [results, hres]
            go_simp
          exact ⟨_, _, _, cs, hs, rfl, S1.out, S2.out, S3.out, S4.out, S5.out, by rw [← HD2.out.len, ← HNC.out]; have := HN72.out; omega, (by rw [← HMH.out]; have := HM4.out; omega), HD3.out, HD2.out.form, (by rw [← HD2.out.len, ← HNC.out]; have := HN72.out; omega), fun S V hS ho => HD2.out.far (fun j h => by rw [XF.out.hB]; exact hS j h) ho⟩
end Go.Proofs.YtnpeahbbcolfmaaGreatDoor
namespace Go.Proofs.YtnpeahbbcolfmaaGreatDoor
open Go.RowKit Go.Extern.Stop Go.Stop Go.Extern
open Go.Maps
/-- Is one of some hashes a master? -/
def anyM (ms : List Key) (L : List Key) : Bool := (L.find? (fun x => decide (x ∈ ms))).isSome
theorem anyM_snoc {ms L : List Key} {k : Nat} {x : Key} (hx : L[k]? = some x) : anyM ms (L.take (k + 1)) = (anyM ms (L.take k) || decide (x ∈ ms)) := by
  unfold anyM
  rw [List.take_add_one, hx, List.find?_append]
  cases (L.take k).find? (fun x => decide (x ∈ ms)) with
  | some y => rfl
  | none =>
    by_cases h : x ∈ ms
    · simp [h]
    · simp [h]
set_option linter.unusedSimpArgs false in
set_option maxRecDepth 20000 in
set_option maxHeartbeats 16000000 in
attribute [local go_sem ↓] hld_open cld_open in
theorem strips_to (w : World) (p : Option Addr) (n cap : Nat) (E : List Rq) (hn : n = E.length) (hE : RqSeen w p E) (pG : Option Addr) (nG cG : Nat) (Gs : List Int) (hnG : nG = Gs.length) (hIG : ISeen w (.slice pG nG cG) Gs) (hg : Glob w) :
    Calls Tryz.prog 5 #[.slice p n cap, .slice pG nG cG] w fun e w' => e = .returned (.bool true) ∧ Below w.heap.size w w' := by
  have HE := Lib.hid hE
  have HN := Lib.hid hn
  have HNG := Lib.hid hnG
  have HIG := Lib.hid hIG
  have HGB := Lib.hid hg
  clear hE hn hnG hIG hg
  have hne := nn_iface
  have hnn := nn_nil
  go_enter Tryz.func5, Tryz.ntmps5
  go_wp2_with fail
  refine (new_to w).mono ?_
  rintro e w1 ⟨rfl, g1, b1⟩
  have K1 : Hid (Ks w w1 [] (w.heap.size + 1) w.heap.size [] []) := Lib.hid (Ks.mk b1 (fun _ h => nomatch h) g1 (Nat.le_refl _) (fun _ h => nomatch h))
  clear b1 g1
  generalize w.heap.size + 1 = g at *
  generalize hmb : w.heap.size = bm at K1
  clear hmb
  have hnp : ∀ w : World, (binOp .eql 22 (gp g) (.pointer none)).run Tryz.prog w = .ok (.bool false) w := fun w => by kernel_rfl
  go_wp2_with fail
  refine (idsnew_to w1 600 (by decide) (by decide)).mono ?_
  rintro e w2 ⟨rfl, i2, b2⟩
  have J2 : Hid (∃ i nb, i = w1.heap.size + 1 ∧ Jo w w2 g bm i nb [] 600 (.slice none 0 0) (.slice none 0 0) [] []) := Lib.hid ⟨_, _, rfl, ⟨K1.out.kb b2, (show (fun _ => none) = idn [] [] from rfl) ▸ i2.lower K1.out.bel.size, Wf.nil, In13.nil _, (fun e => by have := K1.out.ga.at_.mp.lt; omega), fun x hx => by cases hx⟩⟩
  clear i2 b2 K1
  obtain ⟨i, nb, hi, j2⟩ := J2.out
  rw [← hi]
  have J3 := Lib.hid j2
  have hin := ip_nn i
  clear J2 j2 hi
  go_wp2_with fail
  refine (known13_to w2).mono ?_
  rintro e w3 ⟨rfl, b3⟩
  have J4 := Lib.hid (J3.out.kb b3)
  clear b3 J3
  go_upto_block 0 with fail
  go_cut [8] from 42 to 72 (fun _ wz => ∃ (X : Lx) (mv ov : Value) (ms os : List Key), Hid (Jo w wz g bm i nb X 600 mv ov ms os))
  case first =>
    go_wp2_with fail
    go_loopw [8] (fun v8 wr => ∃ (k : Nat), v8 = .int .i64 k ∧ k ≤ n ∧ k ≤ 5 ∧ Hid (∃ X mv ov ms os, Jo w wr g bm i nb X 600 mv ov ms os ∧ (gr X).length ≤ k * 72)) (fun v8 _ => 5 - (intOf v8).toNat)
    case atStart => exact ⟨0, rfl, Nat.zero_le _, Nat.zero_le _, Lib.hid ⟨[], _, _, [], [], J4.out, Nat.zero_le _⟩⟩
    case round =>
      clear J4
      obtain ⟨k, rfl, hk, hk8, HX⟩ := hrel
      obtain ⟨X, mv, ov, ms, os, j0, g0⟩ := HX.out
      have J := Lib.hid j0
      have HGL := Lib.hid g0
      clear HX j0 g0
      by_cases hlt : k < n ∧ k < 5
      · obtain ⟨h1, h2⟩ := hlt
        have hl1 : (k : Int) < n := by omega
        have hl2 : (k : Int) < 5 := by omega
        have hl0 : (0 : Int) ≤ k := by omega
        have HJK : Hid (wrap64 ((k : Int) + 1) = ((k + 1 : Nat) : Int)) := Lib.hid (by unfold wrap64; omega)
        have HI8 := Lib.hid h2
        have HIN := Lib.hid h1
        have hiE : k < E.length := by rw [← HN.out]; exact h1
        obtain ⟨b, o, x, rfl, hxin, c0, c1, c2, c3⟩ := HE.out.get J.out.k.bel hiE
        have HRQ := Lib.hid (request72_to wr x.vL x.vH x.grp x.how x.L x.hs hxin.1 hxin.2)
        clear hiE h1 h2 hk hk8 hxin
        go_wp2_with fail
        refine HRQ.out.mono ?_
        rintro e w3 ⟨vc, vh, gg, cs, hs, rfl, hcs, hhs, hok, h32, hp10, hcl, hhl, b3, _, h72, hkp⟩
        obtain ⟨pc, cc, rfl, _⟩ := id hcs
        obtain ⟨ph, ch, rfl⟩ := hhs.shape
        obtain ⟨m, hm⟩ : ∃ m, m = cs.length := ⟨_, rfl⟩
        obtain ⟨mh0, hmh0⟩ : ∃ m, m = hs.length := ⟨_, rfl⟩
        rw [← hm] at hkp hcs ⊢
        rw [← hmh0] at hkp hhs ⊢
        have AL := below_al11 w3 (.cells #[.slice pc m cc, .slice ph mh0 ch, .int .i64 gg] 37)
        have RB := Lib.hid (heap_alloc_last w3 (.cells #[.slice pc m cc, .slice ph mh0 ch, .int .i64 gg] 37))
        have KP := Lib.hid (fun (V : World) (ho : Only (fun j => j = bm ∨ iS i nb mv ov j) w3 V) => hkp _ V (fun j hj => by
          rcases hj with rfl | hj
          · exact J.out.k.ga.at_.mp.lt
          · exact J.out.a.lt j hj) ho)
        have J4 := Lib.hid ((J.out.kb b3).kb AL)
        have T4 : Hid (Only (fun j => j = bm ∨ iS i nb mv ov j) w3 (w3.alloc (.cells #[.slice pc m cc, .slice ph mh0 ch, .int .i64 gg] 37))) := Lib.hid (Only.of_below (S := fun j => j = bm ∨ iS i nb mv ov j) AL)
        have HOK := Lib.hid hok
        have HH32 := Lib.hid h32
        have HP10 := Lib.hid hp10
        have HCL := Lib.hid h72
        have HHL := Lib.hid hhl
        have HMC := Lib.hid hm
        have HMH := Lib.hid hmh0
        clear hcs hhs hok h32 hp10 hcl hhl h72 hkp b3 hm hmh0 c0 c1 c2 c3 J AL HRQ
        go_upto_region 9 with fail
        generalize w3.alloc (.cells #[.slice pc m cc, .slice ph mh0 ch, .int .i64 gg] 37) = w4 at *
        generalize w3.heap.size = rb at *
        have hr0 := cell_obj RB.out 0 rfl
        have hr1 := cell_obj RB.out 1 rfl
        have hr2 := cell_obj RB.out 2 rfl
        have kp4 := KP.out w4 T4.out
        have HCK := Lib.hid (check_to w4 g bm X (.slice pc m cc) (.slice ph mh0 ch) gg cs hs J4.out.k.ga (J4.out.wf.xlen) (J4.out.wf.parm 1000 (by decide)) kp4.1 kp4.2 HOK.out HH32.out (Nat.le_trans HCL.out (by decide)) (fun c hc => Nat.le_trans (HP10.out c hc) (by decide)) (Nat.le_trans HHL.out (by decide)))
        clear kp4
        go_wp2_with fail
        refine HCK.out.mono ?_
        rintro e w5 ⟨x5, rfl, e5, b5⟩
        have J5 := Lib.hid (J4.out.kb b5)
        have RB5 := Lib.hid ((mild_below b5).cells RB.out)
        have T5 := Lib.hid (T4.out.trans (Only.of_below (S := fun j => j = bm ∨ iS i nb mv ov j) b5) (fun _ h => h) (fun _ _ h => h))
        clear hr0 hr1 hr2 HCK b5 J4 RB T4
        rcases e5.form with ⟨hn5, rfl⟩ | ⟨hs5, t5, y5, rfl⟩
        · have F := Lib.hid (chk_fine.1 hn5)
          have hr0 := cell_obj RB5.out 0 rfl
          clear e5 hn5
          go_wp2_with fail
          refine (add_to w5 g bm X (.slice pc m cc) cs J5.out.k.ga J5.out.wf (KP.out w5 T5.out).1 HOK.out (Nat.le_trans HCL.out (by decide)) (fun c hc => Nat.le_trans (HP10.out c hc) (by decide))).mono ?_
          intro e w6 hp
          have hf2 : chk (gr X) 2 cs [] = none := chk_fine.2 F.out.add
          obtain ⟨x6, X', rfl, k6, _, hX, o6, f6⟩ := J5.out.k.addedF hp
          have ex := k6.err _ List.mem_cons_self
          rw [hf2] at ex
          obtain rfl : x6 = .nilIface := ex
          have hX := hX hf2
          have hWf : Wf (gr X') := by rw [hX]; exact add_wf J5.out.wf HOK.out F.out
          have md : Mild w5 w6 := mild_map J5.out.k.ga.at_.mp o6
          have J6 := Lib.hid (J5.out.grow k6.bare o6 f6 hWf (fun y hy => by rw [hX]; exact adds_old J5.out.wf y hy))
          have RB6 := Lib.hid (md.cells RB5.out)
          have T6 := Lib.hid (T5.out.trans o6 (fun _ h => h) (fun _ _ h => Or.inl h))
          have HX := Lib.hid hX
          have GL : Hid ((gr X').length ≤ (k + 1) * 72) := Lib.hid (by rw [hX]; have h1 := adds_len cs (gr X); have h2 := HGL.out; have h3 := HCL.out; omega)
          clear hp k6 hX o6 f6 hWf md hf2 J5 RB5 T5 hr0
          have hr0 := cell_obj RB6.out 0 rfl
          have hr1 := cell_obj RB6.out 1 rfl
          have hr2 := cell_obj RB6.out 2 rfl
          have HUP := Lib.hid (iupdate_to w6 w.heap.size i nb 600 mv ov ms os J6.out.a g bm X' (fun V ho => J6.out.stay ho) J6.out.wf J6.out.inn (.slice pc m cc) (.slice ph mh0 ch) gg cs hs
            (fun V ho => KP.out V (T6.out.trans ho (fun _ h => h) (fun _ _ h => Or.inr h))) HOK.out HH32.out (Nat.le_trans HCL.out (by decide)) (Nat.le_trans HHL.out (by decide)))
          go_wp2_with fail
          refine HUP.out.mono ?_
          intro e w7 hup
          obtain ⟨rfl, ip7⟩ := up_post hup (by
            rintro ⟨_, h⟩
            have h1 := mup_len J6.out.wf (hs := hs) (List.nodup_append.1 J6.out.inn.nd).1 (fun y hy => J6.out.inn.inG y (List.mem_append_left _ hy))
            have h2 := GL.out
            have h3 := HI8.out
            have h4 : (k + 1) * 72 ≤ 5 * 72 := Nat.mul_le_mul_right _ (by omega)
            omega)
          obtain ⟨mv', ov', j7, t7, l7⟩ := J6.out.turn ip7 (J6.out.inn.new J6.out.wf gg hs cs)
          have J7 := Lib.hid j7
          clear hup ip7 j7 t7 l7 hr0 hr1 hr2 HUP J6 RB6 T6 KP
          go_wp2_with fail
          refine ⟨⟨k + 1, congrArg _ (by first | rw [HJK.out] | omega), HIN.out, HI8.out, Lib.hid ⟨X', mv', ov', _, _, J7.out, GL.out⟩⟩, ?_⟩
          first | (rw [HJK.out]; simp only [intOf]; have := HI8.out; omega) | (simp only [intOf]; have := HI8.out; omega)
        · clear e5
          go_wp2_with fail
          refine ⟨⟨k + 1, congrArg _ (by first | rw [HJK.out] | omega), HIN.out, HI8.out, Lib.hid ⟨X, mv, ov, ms, os, J5.out, by have := HGL.out; omega⟩⟩, ?_⟩
          first | (rw [HJK.out]; simp only [intOf]; have := HI8.out; omega) | (simp only [intOf]; have := HI8.out; omega)
      · rcases (by omega : ¬ k < n ∨ (k < n ∧ ¬ k < 5)) with hq1 | ⟨hq1, hq2⟩
        · have hjl : ¬ (k : Int) < n := by omega
          clear hlt hq1 hk
          go_wp2_with fail
          go_meet
          case rel => exact ⟨X, mv, ov, ms, os, J⟩
        · have hjl : (k : Int) < n := by omega
          have hjl6 : ¬ (k : Int) < 5 := by omega
          clear hlt hq1 hq2 hk
          go_wp2_with fail
          go_meet
          case rel => exact ⟨X, mv, ov, ms, os, J⟩
  case rest =>
    clear J4
    obtain ⟨X, mv, ov, ms, os, J⟩ := hcut
    rename World => w5
    go_upto_block 2 with fail
    go_cut [10] from 73 to 90 (fun v10 wz => ∃ (q : Option Addr) (m c : Nat) (L : List Key), v10 = .slice q m c ∧ Hid (HOwn wz w5.heap.size (.slice q m c) L) ∧ Hid (H32 L ∧ L.length ≤ 3) ∧ Hid (Below w5.heap.size w5 wz))
    case first =>
      go_wp2_with fail
      go_loopw [10, 11] (fun v10 v11 wr => ∃ (q : Option Addr) (m c k : Nat), v10 = .slice q m c ∧ v11 = .int .i64 k ∧ k ≤ nG ∧ k ≤ 3 ∧ Hid (HOwn wr w5.heap.size (.slice q m c) ((Gs.map hh).take k)) ∧ Hid (Below w5.heap.size w5 wr)) (fun _ v11 _ => 3 - (intOf v11).toNat)
      case atStart => exact ⟨none, 0, 0, 0, rfl, rfl, Nat.zero_le _, Nat.zero_le _, Lib.hid (by rw [List.take_zero]; exact World.ownsRow_nil _ _ _ _), Lib.hid (Below.refl _ _)⟩
      case round =>
        obtain ⟨q, m, c, k, rfl, rfl, hk, hk3, OL, BB⟩ := hrel
        by_cases hlt : k < nG ∧ k < 3
        · obtain ⟨h1, h2⟩ := hlt
          have hl1 : (k : Int) < nG := by omega
          have hl2 : (k : Int) < 3 := by omega
          have hl0 : (0 : Int) ≤ k := by omega
          have HI1 : Hid (wrap64 ((k : Int) + 1) = ((k + 1 : Nat) : Int)) := Lib.hid (by unfold wrap64; omega)
          have HK3 := Lib.hid h2
          have HKN := Lib.hid h1
          have hkE : k < Gs.length := by rw [← HNG.out]; exact h1
          obtain ⟨a, ha, hca⟩ := HIG.out.at' (List.getElem?_eq_getElem hkE)
          subst ha
          have htk : (Gs.map hh).take (k + 1) = (Gs.map hh).take k ++ [hh Gs[k]] := by
            rw [List.take_succ_eq_append_getElem (by rw [List.length_map]; exact hkE), List.getElem_map]
          obtain ⟨x, hx⟩ : ∃ x, x = Gs[k] := ⟨_, rfl⟩
          rw [← hx] at hca htk
          have hcx := (mild_below (J.out.k.bel.trans (BB.out.mono J.out.k.bel.size))).cell hca
          obtain ⟨L, hL⟩ : ∃ L, L = (Gs.map hh).take k := ⟨_, rfl⟩
          have HLL : Hid (L.length = k) := Lib.hid (by rw [hL, List.length_take, List.length_map]; omega)
          rw [← hL] at OL htk
          have HTK := Lib.hid htk
          clear hkE hx hca h1 h2 hk hk3 hL htk
          go_wp2_with fail
          refine (hash_to _ x).mono ?_
          rintro e w6 ⟨rfl, b6⟩
          obtain ⟨y, hy⟩ : ∃ y, y = hh x := ⟨_, rfl⟩
          have hy32 : y.length = 32 := by rw [hy]; exact hh_length _
          rw [← hy] at HTK ⊢
          have HY := Lib.hid hy32
          have AL := Lib.hid (below_al11 w6 (.cells (hv y) 31))
          have B7 := Lib.hid ((BB.out.trans (b6.mono BB.out.size)).alloc (Nat.le_trans BB.out.size b6.size) (.cells (hv y) 31))
          have O7 := Lib.hid (own_below (own_below OL.out b6) AL.out)
          have HN7 := Lib.hid (heap_alloc_last w6 (.cells (hv y) 31))
          clear hy hy32 b6 hcx BB OL
          go_wp2_with (first
            | (at_builtin; refine push_loc rfl (.tmp 83) (.tmp 89) rfl w5.heap.size (.slice q m c) L w6.heap.size y HY.out rfl O7.out rfl (by have := range_row HN7.out; rwa [hv_list] at this) (by have := HLL.out; have := HK3.out; omega) B7.out.size ?_; intro v8 w8 o8 oth8 loc8; have O8 := Lib.hid o8; have B8 := Lib.hid (B7.out.trans (oth8.below B7.out.size (fun k hk => own_from O7.out k hk))); clear o8 oth8 loc8)
            | (refine build_one y HY.out rfl ?_))
          obtain ⟨q8, m8, c8, hv8, hn8⟩ := own_sh O8.out
          subst hv8
          clear hn8
          refine ⟨⟨q8, m8, c8, k + 1, rfl, congrArg _ (by first | rw [HI1.out] | rfl), HKN.out, HK3.out, Lib.hid (by rw [HTK.out]; exact O8.out), B8⟩, ?_⟩
          first | exact meas_nv HK3.out HI1.out | exact meas_nw HK3.out
        · have H3L : Hid (H32 ((Gs.map hh).take k) ∧ ((Gs.map hh).take k).length ≤ 3) := Lib.hid ⟨fun y hy => by obtain ⟨z, _, rfl⟩ := List.mem_map.1 (List.mem_of_mem_take hy); exact hh_length _, by rw [List.length_take]; omega⟩
          rcases (by omega : ¬ k < nG ∨ (k < nG ∧ ¬ k < 3)) with hq1 | ⟨hq1, hq2⟩
          · have hjl : ¬ (k : Int) < nG := by omega
            clear hlt hq1 hk
            go_wp2_with fail
            go_meet
            case rel => exact ⟨q, m, c, _, rfl, OL, H3L, BB⟩
          · have hjl : (k : Int) < nG := by omega
            have hjl6 : ¬ (k : Int) < 3 := by omega
            clear hlt hq1 hq2 hk
            go_wp2_with fail
            go_meet
            case rel => exact ⟨q, m, c, _, rfl, OL, H3L, BB⟩
    case rest =>
      obtain ⟨q, m, c, L, rfl, OL, H3L, BB⟩ := hcut
      rename World => w6
      have J6 := Lib.hid (J.out.kb BB.out)
      obtain ⟨q1, n1, d1, rfl, e1⟩ := own_sh J6.out.a.om
      have hm0 : m = L.length := by obtain ⟨p9, c9, e9⟩ := own_shape OL.out; injection e9
      have HML := Lib.hid hm0
      have H32M : Hid (H32 ms ∧ H32 os ∧ ms.length + os.length ≤ 1000) := Lib.hid ⟨fun y hy => J.out.inn.h32 J.out.wf y (List.mem_append_left _ hy), fun y hy => J.out.inn.h32 J.out.wf y (List.mem_append_right _ hy), J.out.inn.len J.out.wf⟩
      have HLT6 := Lib.hid (fun j hj => J6.out.a.lt j hj)
      have heqn : ∀ w : World, (binOp .eql 26 .nilIface .nilIface).run Tryz.prog w = .ok (.bool true) w := fun w => by kernel_rfl
      clear e1 hm0 J BB
      go_wp2_with fail
      refine (listed_to w6 w.heap.size i nb 600 _ ov ms os _ J6.out.a H32M.out.1 H32M.out.2.1 H32M.out.2.2).mono ?_
      rintro e w7 ⟨vw, rfl, ow, b7⟩
      obtain ⟨pw, nw, cw, rfl, hnw⟩ := own_sh ow
      have J7 := Lib.hid (J6.out.kb b7)
      have OL7 := Lib.hid (own_below OL.out b7)
      have OW7 := Lib.hid ow
      have HNW := Lib.hid hnw
      have B7 := Lib.hid b7
      clear ow hnw b7 OL J6
      go_wp2_with fail
      refine (masters_to J7.out.a.im).mono ?_
      rintro e w8 ⟨rfl, rfl⟩
      go_wp2_with fail
      refine (descendants_to _ g bm X _ L J7.out.k.ga (HSeen.own OL7.out) H3L.out.1 (Nat.le_trans H3L.out.2 (by decide)) J7.out.wf.xlen J7.out.wf.clo J7.out.wf.parn).mono ?_
      rintro e w9 ⟨vd, rfl, od, b9⟩
      obtain ⟨S, hS⟩ : ∃ S, S = descs (gr X) L := ⟨_, rfl⟩
      rw [← hS] at od
      obtain ⟨pd, nd, cd, rfl, hnd⟩ := own_sh od
      have HS := Lib.hid hS
      have J9 := Lib.hid (J7.out.kb b9)
      have OL9 := Lib.hid (own_below OL7.out b9)
      have OW9 := Lib.hid (own_below OW7.out b9)
      have OD9 := Lib.hid (own_lower od B7.out.size)
      have HSL : Hid (H32 S ∧ S.length ≤ 1000) := Lib.hid (by rw [hS]; exact ⟨sub_h32 J7.out.wf (descs_sub _ _), Nat.le_trans (descs_len _ _) J7.out.wf.few⟩)
      clear hS od hnd b9 J7 OL7 OW7 B7
      go_wp2_with fail
      go_loopw [15, 16] (fun v15 v16 wr => ∃ k : Nat, v15 = .bool (anyM ms (L.take k)) ∧ v16 = .int .i64 k ∧ k ≤ m ∧ Hid (Below w9.heap.size w9 wr)) (fun _ v16 _ => m - (intOf v16).toNat)
      case atStart => exact ⟨0, rfl, rfl, Nat.zero_le _, Lib.hid (Below.refl _ _)⟩
      case round =>
        obtain ⟨k, rfl, rfl, hk, B⟩ := hrel
        rename World => wy
        by_cases hlt : k < m
        · have hl1 : (k : Int) < m := by omega
          obtain ⟨j1, j2, j3⟩ := next_fit hlt (by have := HML.out; have := H3L.out.2; omega)
          have hkE : k < L.length := by rw [← HML.out]; exact hlt
          obtain ⟨b1, o1, c1, e1, hrg⟩ := ((HSeen.own OL9.out).mild (mild_below B.out)).at H3L.out.1 hkE
          injection e1 with e1 e2 e3
          subst e1
          have hat : L[k]? = some L[k] := List.getElem?_eq_getElem hkE
          obtain ⟨x, hx⟩ : ∃ x, x = L[k] := ⟨_, rfl⟩
          rw [← hx] at hrg hat
          have HX : Hid (x.length = 32) := Lib.hid (by rw [hx]; exact H3L.out.1.at hkE)
          have HNX := Lib.hid (anyM_snoc (ms := ms) hat)
          have hld0 := hld_range HX.out hrg
          have HID := Lib.hid (id_to (J9.out.a.kb B.out).im x HX.out)
          have HLT := Lib.hid hlt
          have HJ := Lib.hid j1
          clear hx hrg hat hkE hk hlt e2 e3
          by_cases hm : x ∈ ms
          · obtain ⟨j, hj⟩ := idx_some hm
            have hjl := idx_lt hj
            rw [idn_m hj] at HID
            simp only [Option.getD_some, Option.isSome_some] at HID
            rw [decide_eq_true hm, Bool.or_true] at HNX
            have hjs : (j : Int) < 1099511627776 := by have := H32M.out.2.2; omega
            clear hm hj hjl
            go_wp2_with fail
            refine HID.out.mono ?_
            rintro e wj ⟨rfl, bj⟩
            have BJ := Lib.hid (B.out.trans (bj.mono B.out.size))
            clear bj hld0 B
            go_wp2_with fail
            refine ⟨⟨k + 1, by rw [HNX.out], by first | rw [HJ.out] | rfl, HLT.out, BJ⟩, ?_⟩
            first | exact meas_nv HLT.out HJ.out | exact meas_nw HLT.out
          · rw [decide_eq_false hm, Bool.or_false] at HNX
            cases hi : idn ms os x with
            | none =>
              rw [hi] at HID
              simp only [Option.getD_none, Option.isSome_none] at HID
              clear hm hi
              go_wp2_with fail
              refine HID.out.mono ?_
              rintro e wj ⟨rfl, bj⟩
              have BJ := Lib.hid (B.out.trans (bj.mono B.out.size))
              clear bj hld0 B
              go_wp2_with fail
              refine ⟨⟨k + 1, by rw [HNX.out], by first | rw [HJ.out] | rfl, HLT.out, BJ⟩, ?_⟩
              first | exact meas_nv HLT.out HJ.out | exact meas_nw HLT.out
            | some nn =>
              have hge : ¬ nn < 1099511627776 := by
                have h1 := isM_idn (ms := ms) (os := os) (by have := H32M.out.2.2; omega) x
                unfold isM at h1
                rw [hi, decide_eq_false hm] at h1
                exact of_decide_eq_false h1
              rw [hi] at HID
              simp only [Option.getD_some, Option.isSome_some] at HID
              clear hm hi
              go_wp2_with fail
              refine HID.out.mono ?_
              rintro e wj ⟨rfl, bj⟩
              have BJ := Lib.hid (B.out.trans (bj.mono B.out.size))
              clear bj hld0 B
              go_wp2_with fail
              refine ⟨⟨k + 1, by rw [HNX.out], by first | rw [HJ.out] | rfl, HLT.out, BJ⟩, ?_⟩
              first | exact meas_nv HLT.out HJ.out | exact meas_nw HLT.out
        · obtain rfl : k = m := by omega
          have hl2 : ¬ (k : Int) < k := by omega
          have HTE : Hid (L.take k = L) := Lib.hid (List.take_of_length_le (by rw [HML.out]; exact Nat.le_refl _))
          rw [HTE.out]
          have JA := Lib.hid (J9.out.kb B.out)
          have OLA := Lib.hid (own_below OL9.out B.out)
          have OWA := Lib.hid (own_below OW9.out B.out)
          have ODA := Lib.hid (own_below OD9.out B.out)
          have HST := Lib.hid (istrip_to wy w.heap.size i nb 600 _ ov ms os JA.out.a g bm X JA.out.k.ga JA.out.wf JA.out.inn _ L (HSeen.own OLA.out) H3L.out.1 (Nat.le_trans H3L.out.2 (by decide)))
          clear hk hlt
          go_wp2_with fail
          refine HST.out.mono ?_
          intro e ws hst
          unfold StPost at hst
          cases hf : L.find? (fun x => decide (x ∈ ms)) with
          | some x =>
            rw [hf] at hst
            obtain ⟨ev, rfl, he, bs⟩ := hst
            have hbad : anyM ms L = true := by unfold anyM; rw [hf]; rfl
            have JS := Lib.hid (JA.out.kb bs)
            have OWS := Lib.hid (own_below OWA.out bs)
            have ES := Lib.hid he
            clear hf he bs HST JA OLA OWA ODA
            go_wp2_with fail
            refine (listed_to ws w.heap.size i nb 600 _ ov ms os _ JS.out.a H32M.out.1 H32M.out.2.1 H32M.out.2.2).mono ?_
            rintro e wt ⟨vt, rfl, ot, bt⟩
            obtain ⟨pt, nt, ct, rfl, hnt⟩ := own_sh ot
            have JT := Lib.hid (JS.out.kb bt)
            have OWT := Lib.hid (own_below OWS.out bt)
            have OT := Lib.hid ot
            have HKI := Lib.hid (kind_to wt ev (some (19, some x)) (HGB.out.kb JT.out.k.bel) (ES.out.kb bt) (fun k o h => by injection h with h; injection h with h _; omega))
            rw [show kindOf (some (19, some x)) = 19 from rfl] at HKI
            clear ot bt hnt JS OWS ES
            go_wp2_with fail
            refine HKI.out.mono ?_
            rintro e wu ⟨rfl, bu⟩
            have BU := Lib.hid (JT.out.k.bel.trans (bu.mono JT.out.k.bel.size))
            have HSM := Lib.hid (same_two wu (.slice pw nw cw) (.slice pt nt ct) (ms ++ os) (ms ++ os) ((HSeen.own OWT.out).mild (mild_below bu)) ((HSeen.own OT.out).mild (mild_below bu)) (H32M.out.1.app H32M.out.2.1) (H32M.out.1.app H32M.out.2.1) (by rw [List.length_append]; have := H32M.out.2.2; omega) (by rw [List.length_append]; have := H32M.out.2.2; omega))
            clear bu HKI JT OWT OT
            go_wp2_with fail
            refine HSM.out.mono ?_
            rintro e wv ⟨rfl, nq, rfl⟩
            simp only [decide_true]
            go_wp2_with fail
            go_ret
            exact ⟨rfl, BU.out.trans ((blw_qt _ nq wu).mono BU.out.size)⟩
          | none =>
            rw [hf] at hst
            obtain ⟨rfl, ips⟩ := hst
            have hbad : anyM ms L = false := by unfold anyM; rw [hf]; rfl
            have HNM : Hid (∀ y ∈ L, y ∉ ms) := Lib.hid (fun y hy hm => by have := List.find?_eq_none.1 hf y hy; simp [hm] at this)
            have HSM : Hid (∀ y ∈ ms, y ∉ S) := Lib.hid (fun y hy hs => by rw [HS.out] at hs; exact JA.out.inn.nom HNM.out y hs hy)
            rw [← HS.out] at ips
            have hin := JA.out.inn.strip L
            rw [← HS.out] at hin
            obtain ⟨mv2, ov2, js, ts, ls⟩ := JA.out.turn ips hin
            have JS := Lib.hid js
            have OWS := Lib.hid (own_keep OWA.out ts (fun j hj h => by have h1 := own_from OWA.out j hj; have h2 := HLT6.out j h; omega))
            have ODS := Lib.hid (own_keep ODA.out ts (fun j hj h => by have h1 := own_from ODA.out j hj; have h2 := HLT6.out j h; omega))
            obtain ⟨os2, hos2⟩ : ∃ os2, os2 = os.filter (out S) := ⟨_, rfl⟩
            rw [← hos2] at JS
            have HOS2 := Lib.hid hos2
            have H32O : Hid (H32 os2 ∧ ms.length + os2.length ≤ 1000) := Lib.hid ⟨fun y hy => H32M.out.2.1 y (by rw [hos2] at hy; exact (List.mem_filter.1 hy).1), by have h1 := List.length_filter_le (out S) os; rw [← hos2] at h1; have := H32M.out.2.2; omega⟩
            clear hf ips hin js ts ls hos2 HST JA OLA OWA ODA
            go_wp2_with fail
            refine (listed_to ws w.heap.size i nb 600 mv2 ov2 ms os2 _ JS.out.a H32M.out.1 H32O.out.1 H32O.out.2).mono ?_
            rintro e wt ⟨vt, rfl, ot, bt⟩
            obtain ⟨pt, nt, ct, rfl, hnt⟩ := own_sh ot
            have JT := Lib.hid (JS.out.kb bt)
            have OWT := Lib.hid (own_below OWS.out bt)
            have ODT := Lib.hid (own_below ODS.out bt)
            have OT := Lib.hid ot
            clear ot bt hnt JS OWS ODS
            go_wp2_with fail
            go_loopw [21, 22] (fun v21 v22 wr => ∃ (q2 : Option Addr) (m2 c2 k : Nat), v21 = .slice q2 m2 c2 ∧ v22 = .int .i64 k ∧ k ≤ nw ∧ Hid (HOwn wr wt.heap.size (.slice q2 m2 c2) (((ms ++ os).take k).filter (out S))) ∧ Hid (Below wt.heap.size wt wr)) (fun _ v22 _ => nw - (intOf v22).toNat)
            case atStart => exact ⟨none, 0, 0, 0, rfl, rfl, Nat.zero_le _, Lib.hid (by rw [List.take_zero]; exact World.ownsRow_nil _ _ _ _), Lib.hid (Below.refl _ _)⟩
            case round =>
              obtain ⟨q2, m2, c2, j, rfl, rfl, hj, OQ, BQ⟩ := hrel
              rename World => wz
              by_cases hlt : j < nw
              · have hl1 : (j : Int) < nw := by omega
                obtain ⟨j1, j2, j3⟩ := next_fit hlt (by have := HNW.out; rw [List.length_append] at this; have := H32M.out.2.2; omega)
                have hjE : j < (ms ++ os).length := by rw [← HNW.out]; exact hlt
                obtain ⟨b1, o1, c1, e1, hrg⟩ := ((HSeen.own OWT.out).mild (mild_below BQ.out)).at (H32M.out.1.app H32M.out.2.1) hjE
                injection e1 with e1 e2 e3
                subst e1
                have hat : (ms ++ os)[j]? = some (ms ++ os)[j] := List.getElem?_eq_getElem hjE
                obtain ⟨x, hx⟩ : ∃ x, x = (ms ++ os)[j] := ⟨_, rfl⟩
                rw [← hx] at hrg hat
                have HX : Hid (x.length = 32) := Lib.hid (by rw [hx]; exact (H32M.out.1.app H32M.out.2.1).at hjE)
                have HFT := Lib.hid (take_flt (F := out S) hat)
                have HRG := Lib.hid hrg
                have hld0 := hld_range HX.out hrg
                have HLT := Lib.hid hlt
                have HJ := Lib.hid j1
                have HLJ : Hid ((((ms ++ os).take j).filter (out S)).length + 1 ≤ 1001) := Lib.hid (by have h1 := List.length_filter_le (out S) ((ms ++ os).take j); rw [List.length_take, List.length_append] at h1; have := H32M.out.2.2; omega)
                clear hx hrg hat hjE hj hlt e2 e3
                go_wp2_with fail
                refine (in_any wz (.slice pd nd cd) S x HX.out ((HSeen.own ODT.out).mild (mild_below BQ.out)) HSL.out.1 (Nat.le_trans HSL.out.2 (by decide))).mono ?_
                rintro e wi ⟨rfl, bi⟩
                have BI := Lib.hid (BQ.out.trans (bi.mono BQ.out.size))
                have OI := Lib.hid (own_below OQ.out bi)
                have hld1 := hld_range HX.out (hsr_kb HRG.out (mild_below bi))
                clear bi hld0 BQ OQ
                by_cases hs : x ∈ S
                · rw [decide_eq_true hs]
                  have HF2 : Hid (((ms ++ os).take (j + 1)).filter (out S) = ((ms ++ os).take j).filter (out S)) := Lib.hid (by rw [HFT.out, if_neg (by simp [out, hs]), List.append_nil])
                  clear hs
                  go_wp2_with fail
                  refine ⟨⟨q2, m2, c2, j + 1, rfl, by first | rw [HJ.out] | rfl, HLT.out, Lib.hid (by rw [HF2.out]; exact OI.out), BI⟩, ?_⟩
                  first | exact meas_nv HLT.out HJ.out | exact meas_nw HLT.out
                · rw [decide_eq_false hs]
                  have HF2 : Hid (((ms ++ os).take (j + 1)).filter (out S) = ((ms ++ os).take j).filter (out S) ++ [x]) := Lib.hid (by rw [HFT.out, if_pos (by simp [out, hs])])
                  obtain ⟨Q, hQ⟩ : ∃ Q, Q = ((ms ++ os).take j).filter (out S) := ⟨_, rfl⟩
                  rw [← hQ] at HF2 OI HLJ
                  have AL := Lib.hid (below_al11 wi (.cells (hv x) 31))
                  have B7 := Lib.hid (BI.out.alloc BI.out.size (.cells (hv x) 31))
                  have O7 := Lib.hid (own_below OI.out AL.out)
                  have HN7 := Lib.hid (heap_alloc_last wi (.cells (hv x) 31))
                  clear hs hQ BI OI
                  go_wp2_with (first
                    | (at_builtin; refine push_loc rfl (.tmp 146) (.tmp 151) rfl wt.heap.size (.slice q2 m2 c2) Q wi.heap.size x HX.out rfl O7.out rfl (by have := range_row HN7.out; rwa [hv_list] at this) (by have := HLJ.out; omega) B7.out.size ?_; intro v8 w8 o8 oth8 loc8; have O8 := Lib.hid o8; have B8 := Lib.hid (B7.out.trans (oth8.below B7.out.size (fun k hk => own_from O7.out k hk))); clear o8 oth8 loc8)
                    | (refine build_one x HX.out rfl ?_))
                  obtain ⟨q8, m8, c8, hv8, hn8⟩ := own_sh O8.out
                  subst hv8
                  clear hn8
                  refine ⟨⟨q8, m8, c8, j + 1, rfl, by first | rw [HJ.out] | rfl, HLT.out, Lib.hid (by rw [HF2.out]; exact O8.out), B8⟩, ?_⟩
                  first | exact meas_nv HLT.out HJ.out | exact meas_nw HLT.out
              · obtain rfl : j = nw := by omega
                have hl2 : ¬ (j : Int) < j := by omega
                have HTQ : Hid (((ms ++ os).take j).filter (out S) = ms ++ os2) := Lib.hid (by
                  rw [List.take_of_length_le (by rw [HNW.out]; exact Nat.le_refl _), List.filter_append, ← HOS2.out, List.filter_eq_self.2 (fun y hy => by simp [out, HSM.out y hy])])
                rw [HTQ.out] at OQ
                have JZ := Lib.hid (JT.out.kb BQ.out)
                have HMM : Hid (mv2 = .slice none 0 0 ∨ True) := Lib.hid (.inr trivial)
                obtain ⟨q9, n9, d9, rfl, e9⟩ := own_sh JZ.out.a.om
                have hn91 : n9 = n1 := by
                  obtain ⟨p8, c8, e8⟩ := own_shape J9.out.a.om
                  injection e8 with _ e8 _
                  rw [e9, e8]
                subst hn91
                have HSM2 := Lib.hid (same_two wz (.slice pt nt ct) (.slice q2 m2 c2) (ms ++ os2) (ms ++ os2) ((HSeen.own OT.out).mild (mild_below BQ.out)) (HSeen.own OQ.out) (H32M.out.1.app H32O.out.1) (H32M.out.1.app H32O.out.1) (by rw [List.length_append]; have := H32O.out.2; omega) (by rw [List.length_append]; have := H32O.out.2; omega))
                clear hlt hj e9 HMM
                go_wp2_with fail
                refine HSM2.out.mono ?_
                rintro e wv ⟨rfl, nq, rfl⟩
                simp only [decide_true]
                have JV := Lib.hid (JZ.out.kb (blw_qt _ nq wz))
                clear HSM2
                go_wp2_with fail
                refine (masters_to JV.out.a.im).mono ?_
                rintro e wx ⟨rfl, rfl⟩
                go_wp2_with fail
                go_ret
                exact ⟨rfl, JV.out.k.bel⟩
end Go.Proofs.YtnpeahbbcolfmaaGreatDoor
namespace Go.Proofs.YtnpeahbbcolfmaaGreatDoor
open Go.ChangeShapes Go.WideShapes Go.RowKit
theorem et : Tryz.prog.globalNamed "errors.errorType" = some 0 := by kernel_rfl
theorem rt : (Tryz.prog.cutTypes.find? (·.1 == "internal/reflectlite.rtype")).map (·.2) = some 174 := by kernel_rfl
theorem oneRow : ((List.range 260).filter fun t => Tryz.prog.rowNamed t [101, 114, 114, 111, 114]) = [26] := by kernel_rfl
theorem tsize : Tryz.prog.types.size = 260 := by kernel_rfl

/-- What the condition gives a walk: the variable's one cell. -/
theorem glob_of_laid {W : World} (h : laidMetH Tryz.prog [("errors.errorType", Rows.laid_errors_errorType)] W) : Glob W := by
  have h' : laidMet Tryz.prog [] W ∧ handlesMet Tryz.prog [("errors.errorType", Rows.laid_errors_errorType)] W := h
  obtain ⟨name, u, ty, e1, e2, e3, e4, e5⟩ := h'.2 _ (List.mem_singleton.2 rfl)
  have en : name = [101, 114, 114, 111, 114] := (Option.some.inj e1).symm
  subst en
  obtain rfl := Option.some.inj (rt.symm.trans e2)
  have hm : ty ∈ (List.range 260).filter fun t => Tryz.prog.rowNamed t [101, 114, 114, 111, 114] := List.mem_filter.2 ⟨List.mem_range.2 (by rw [← tsize]; exact e3), e4⟩
  rw [oneRow] at hm
  obtain rfl := List.mem_singleton.1 hm
  have hh : typeHandle Tryz.prog 26 = hd 26 := by kernel_rfl
  rw [hh] at e5
  unfold Glob
  simpa using World.var?_cell et e5 0

/-- A world that meets the condition: the settled one, the variable's cell laid. -/
noncomputable def laidWorld (os : Os) : World :=
  let w0 := World.holding Tryz.prog os ⟨#[], #[], []⟩
  { w0 with heap := w0.heap.modify 0 fun
      | .cells _ t frozen => .cells #[.iface 174 (.agg #[hd 26])] t frozen
      | o => o }
theorem laidWorld_met (os : Os) (args : Array Value) : laidMetH Tryz.prog [("errors.errorType", Rows.laid_errors_errorType)] ((laidWorld os).forCall (fun _ _ => 0) ⟨#[], args, []⟩).memory :=
  laidMetH_of_parts (laidMet_nil _ _) (by kernel_rfl)

/-- The frame: the listed variables, the sizes, and every variable's shape handed to the walk. -/
theorem handed_and_shaped {H : Type} {enc : TypeId × Value → H} {a : Assume} {C : Checked} {os : Os} {f : FuncId} {fn : Func} {s : ChangeSpec} {conds : List PathCond} {apart fresh handsOn again : Bool} {X : World → Array Value → Prop}
    (hX : ∀ (w w' : World) (args : Array Value), w.heap = w'.heap → X w args → X w' args)
    (own : ownKnob C.prog.godebug = none) (started : os.Started) (noInit : C.prog.inits.idxOf? f = none) (hfn : C.prog.funcs[f]? = some fn)
    (witness : ∃ (w : World) (tape : Tape) (i : Input), w.os = os ∧ (w.forCall tape i).Shaped C.prog ∧ i.vars = [] ∧ Input.okWide C.prog (w.forCall tape i) .any w.heap.size f i ∧
      ((s.pre enc C.prog fn conds apart (w.forCall tape i).memory i.args ∧ X (w.forCall tape i).memory i.args) ∧ sizedMet enc C.prog fn (OpenSpec.ofChange s) apart (w.forCall tape i).memory i.args) ∧ a.holds C.prog (lone (Frame.enter C.prog f i.args .normal) [] (w.forCall tape i)))
    (contract : ∀ (W : World) (base : Nat) (args : Array Value) (ds gs : List (DataW H)) (before : List MemPlace),
      (∀ (j : Nat) t v, fn.params[j]? = some t → args[j]? = some v → Value.okWide C.prog W .any base t v) →
      DataW.Whole enc C.prog fn.params.toList s.vars apart W args.toList ds gs before →
      (DataW.weightsEach C.prog (fn.params.toList ++ s.plain.varTypes C.prog) (ds ++ gs)).all (· ≤ reachBytes) = true → X W args → W.ShapedOpen C.prog →
      Calls C.prog f args W fun e W' => ∃ v, e = .returned v ∧ s.post enc C.prog fn apart fresh handsOn again W args v W') :
    ReturnsInHanded a C os f .any (fun w args => (s.pre enc C.prog fn conds apart w args ∧ X w args) ∧ sizedMet enc C.prog fn (OpenSpec.ofChange s) apart w args) (s.post enc C.prog fn apart fresh handsOn again) := by
  refine returnsInHanded_of_calls own started noInit witness ?_
  intro w tape i _ hsh _ hok hpre _
  obtain ⟨_, _, _, fn', hfn', _, _, _, _, hval⟩ := hok
  obtain rfl : fn' = fn := Option.some.inj (hfn'.symm.trans hfn)
  obtain ⟨⟨⟨ds, gs, before, hw, _⟩, hx⟩, hz⟩ := hpre
  refine (contract (w.forCall tape i) w.heap.size i.args ds gs before hval (DataW.Whole.of_heap (w' := w.forCall tape i) (by rfl) hw) (hz.weights hw) (hX _ _ _ (by rfl) hx) hsh).mono fun e W' ⟨v, he, hp⟩ => ?_
  subst he
  exact ChangeSpec.post_blind hp
end Go.Proofs.YtnpeahbbcolfmaaGreatDoor
namespace Go.Proofs.YtnpeahbbcolfmaaGreatDoor.idsStripsP
open Go.ChangeShapes Go.WideShapes Go.ChangeAt Go.RowKit
open Go.ChangeMaps (open_string shut_string)
theorem laidOut : laidOutB Tryz.prog = true := by kernel_rfl
theorem own : ownKnob Tryz.prog.godebug = none := by kernel_rfl

set_option maxRecDepth 100000 in
theorem lifted (os : Os) (started : os.Started) (H : Type) (enc : TypeId × Value → H) :
    ReturnsInHanded {} Tryz.checked os 5 .any (fun w args => (Rows.idsStripsSpec.pre enc Tryz.prog Tryz.f5 [] false w args ∧ laidMetH Tryz.prog [("errors.errorType", Rows.laid_errors_errorType)] w) ∧ sizedMet enc Tryz.prog Tryz.f5 (OpenSpec.ofChange Rows.idsStripsSpec) false w args)
      (Rows.idsStripsSpec.post enc Tryz.prog Tryz.f5 false true false false) := by
  refine handed_and_shaped (C := Tryz.checked) (X := fun w _ => laidMetH Tryz.prog [("errors.errorType", Rows.laid_errors_errorType)] w) (fun _ _ _ hh h => h.of_heap hh) own started (by kernel_rfl) Tryz.func5
    (ChangeSpec.witness_at (enc := enc) (C := Tryz.checked) (os := os) (X := fun w _ => laidMetH Tryz.prog [("errors.errorType", Rows.laid_errors_errorType)] w) false (laidWorld os) #[.slice none 0 0, .slice none 0 0] 8 rfl (by kernel_rfl) (by kernel_rfl) (by kernel_rfl) (by kernel_rfl) (by kernel_rfl) (laidWorld_met os _)) ?_
  intro W base args ds gs before hval0 hW hsz0 hL hsh
  have hsz : (DataW.weightsEach Tryz.prog (Tryz.f5.params.toList ++ Rows.idsStripsSpec.plain.varTypes Tryz.prog) (ds ++ gs)).all (· ≤ reachBytes) = true := hsz0
  clear hsz0
  have hW' := hW
  obtain ⟨p, q, hA0, hV, rfl, hfz, hnd⟩ := hW
  have hg := glob_of_laid hL
  have hA : DataW.TrodAll enc Tryz.prog W 0 (fun _ => true) true Tryz.f5.params.toList args.toList ds p := hA0
  have hval : ∀ (j : Nat) t v, Tryz.f5.params[j]? = some t → args[j]? = some v → Value.okWide Tryz.prog W .any base t v := hval0
  rw [Tryz.params5] at hA hval hsz
  obtain ⟨v0, vs0, d0, ds0, p0, q0, hargs, rfl, rfl, h0, r0⟩ := trodAll_cons hA
  obtain ⟨v1, vs1, d1, ds1, p1, q1, rfl, rfl, rfl, h1, r1⟩ := trodAll_cons r0
  obtain ⟨rfl, rfl, rfl⟩ := trodAll_nil r1
  obtain rfl : args = #[v0, v1] := by cases args; simp_all
  obtain ⟨rfl, rfl⟩ := trodVars_none hV
  obtain ⟨a0, len0, cap0, rfl⟩ := okWide_slice Tryz.underlying81 (hval 0 81 v0 rfl rfl)
  have k0 := h0
  have lt0 : ∀ x ∈ p0, x.block < W.heap.size := by obtain ⟨m, hm⟩ := k0; exact DataW.trod_lt m _ _ _ hm
  obtain ⟨a1, len1, cap1, rfl⟩ := okWide_slice Tryz.underlying62 (hval 1 62 v1 rfl rfl)
  have k1 := h1
  have lt1 : ∀ x ∈ p1, x.block < W.heap.size := by obtain ⟨m, hm⟩ := k1; exact DataW.trod_lt m _ _ _ hm
  clear hA0 hval0
  obtain ⟨E, hE1, hE2⟩ := (let ⟨_, hf⟩ := h0; rqs_in hf)
  obtain ⟨l1, hl1, hs1⟩ := (let ⟨_, hf⟩ := h1; ints_in hf)
  refine (strips_to W a0 len0 cap0 E hE1.symm hE2 a1 len1 cap1 l1 hl1.symm hs1 hg).mono fun e W' ⟨he, bel⟩ => ?_
  subst he
  exact ⟨_, rfl, _, _, _, [], _, [], hW', trodAll_mk1 (shut_bool Tryz.underlying4 _), (trodAll_cons_mk (Below.trod laidOut (by kernel_rfl) (of_decide_eq_true (by kernel_rfl)) k0 bel lt0) (trodAll_cons_mk (Below.trod laidOut (by kernel_rfl) (of_decide_eq_true (by kernel_rfl)) k1 bel lt1) trodAll_mk0)), rfl, bel.frame _, fun h => by cases h⟩

theorem over : Rows.idsStripsRow.holds Tryz.pinned (OpenSpec.ofChange Rows.idsStripsSpec) :=
  OpenClaim.holds_of_wide 5 Tryz.f5 rfl rfl rfl rfl rfl rfl rfl ⟨rfl, rfl, rfl, rfl, rfl⟩ rfl rfl rfl rfl rfl (by kernel_rfl) Tryz.func5 (by kernel_rfl)
    (of_decide_eq_true (by kernel_rfl)) (by unfold Func.isWrapper; first | (rw [if_pos (by decide +kernel)]; kernel_rfl) | (rw [if_neg (by decide +kernel)]; exact ⟨rfl, rfl⟩))
    (fun os started H enc _ => lifted os started H enc)

theorem proved : Rows.IdsStripsCardSaid :=
  Claim7.holds_tied_plain_at .later [] [.handle] true Rows.idsStripsCard.stood.harness true over (fun _ h => by cases h) (by kernel_rfl) (fun _ h => by cases h) idsStrips_row_tie rfl ⟨rfl, rfl⟩ (by kernel_rfl) rfl
    (fun f fn hf hfn => by
      obtain rfl : f = 5 := Option.some.inj ((show Tryz.prog.funcNamed "taproot/taprootlaw13.IdsStrips" = some 5 by kernel_rfl).symm.trans hf) |>.symm
      obtain rfl : fn = Tryz.f5 := (Option.some.inj (Tryz.func5.symm.trans hfn)).symm
      exact ⟨by kernel_rfl, fun j t ht => by
        have hb : (Tryz.f5.params.toList.all fun t => !(Tryz.prog.wantsStandIn t)) = true := by kernel_rfl
        have := List.all_eq_true.1 hb t (Array.mem_toList_iff.2 (Array.mem_of_getElem? ht))
        exact (by simpa using this : Tryz.prog.wantsStandIn t = false)⟩)
    (by kernel_rfl)
#print axioms proved
end Go.Proofs.YtnpeahbbcolfmaaGreatDoor.idsStripsP
