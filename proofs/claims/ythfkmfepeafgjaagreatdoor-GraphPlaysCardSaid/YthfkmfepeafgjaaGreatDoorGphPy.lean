/- GraphPlays' walk (genply.py wrote it). Condition: errors.errorType holds what its text lays. -/
import Derived.Test.YthfkmfepeafgjaaGreatDoorRgrW
import Derived.Test.YthfkmfepeafgjaaGreatDoorRgrN
import Derived.Test.YthfkmfepeafgjaaGreatDoorHndR
import Derived.Deep.CutBlock
import Derived.Deep.CutRange
namespace Go.Proofs.YthfkmfepeafgjaaGreatDoor
open Go.RowKit Go.Extern.Stop Go.Stop Go.Extern
open Go.Maps

set_option linter.unusedSimpArgs false in
set_option maxRecDepth 20000 in
set_option maxHeartbeats 32000000 in
attribute [local go_sem ↓] hld_open cld_open in
theorem plays_to (w : World) (p : Option Addr) (n cap : Nat) (E : List Rq) (hn : n = E.length) (hE : RqSeen w p E) (pa : Option Addr) (na ca : Nat) (os : List Int) (hna : na = os.length) (hos : ISeen w (.slice pa na ca) os) (hg : Glob w) :
    Calls Tryz.prog 3 #[.slice p n cap, .slice pa na ca] w fun e w' => e = .returned (.bool true) ∧ Below w.heap.size w w' := by
  have HE := Lib.hid hE
  have HG := Lib.hid hg
  have HN := Lib.hid hn
  have HNA := Lib.hid hna
  have HOS := Lib.hid hos
  clear hE hg hn hna hos
  go_enter Tryz.func3, Tryz.ntmps3
  go_wp2_with fail
  refine (new_to w).mono ?_
  rintro e w1 ⟨rfl, g1, b1⟩
  obtain ⟨bm, hbm⟩ : ∃ bm, bm = w.heap.size := ⟨_, rfl⟩
  have K1 : Hid (Ks w w1 [] (w.heap.size + 1) bm [] []) := Lib.hid ⟨b1, (fun p hp => by cases hp), hbm ▸ g1, by omega, (fun p hp => by cases hp)⟩
  have HG1 := Lib.hid (HG.out.kb b1)
  clear g1 b1 hbm
  generalize w.heap.size + 1 = g at *
  have hnp : ∀ w : World, (binOp .eql 24 (gp g) (.pointer none)).run Tryz.prog w = .ok (.bool false) w := fun w => by kernel_rfl
  go_wp2_with fail
  refine (known11_to w1 HG1.out).mono ?_
  rintro e w2 ⟨rfl, b2⟩
  have K2 := Lib.hid (K1.out.kb b2)
  clear b2 K1 HG1
  have KQ : Hid (Kq w (w2.alloc (.cells #[.slice none 0 0] 30)) g bm w2.heap.size [] none 0 0 []) := Lib.hid ⟨K2.out.kb (below_al11 w2 _), rg_new w2, rfl, Wf.nil, K2.out.bel.size⟩
  go_upto_block 0 with fail
  clear K2
  generalize w2.alloc (.cells #[.slice none 0 0] 30) = w3 at *
  generalize w2.heap.size = rg at *
  go_cut [7] from 27 to 97 (fun _ wr => ∃ X p' n' c' T, Hid (Kq w wr g bm rg X p' n' c' T))
  case first =>
    as_aux_lemma =>
      go_wp2_with fail
      go_loopw [7] (fun s wr => ∃ (i : Nat) (X : Lx) (p' : Option Addr) (n' c' : Nat) (T : Lx), s = .int .i64 i ∧ i ≤ n ∧ i ≤ 8 ∧ Hid (Kq w wr g bm rg X p' n' c' T)) (fun s _ => 8 - (intOf s).toNat)
      case atStart => exact ⟨0, [], none, 0, 0, [], rfl, Nat.zero_le _, Nat.zero_le _, KQ⟩
      case round =>
        clear KQ
        obtain ⟨i, X, p', n', c', T, rfl, hi, hi8, K⟩ := hrel
        by_cases hlt : i < n ∧ i < 8
        · obtain ⟨h1, h2⟩ := hlt
          have hl1 : (i : Int) < n := by omega
          have hl2 : (i : Int) < 8 := by omega
          have hl0 : (0 : Int) ≤ i := by omega
          have HI1 : Hid (wrap64 ((i : Int) + 1) = ((i + 1 : Nat) : Int)) := Lib.hid (by unfold wrap64; omega)
          have HI8 := Lib.hid h2
          have HIN := Lib.hid h1
          have hiE : i < E.length := by rw [← HN.out]; exact h1
          obtain ⟨b, o, x, rfl, hin, c0, c1, c2, c3⟩ := HE.out.get K.out.k.bel hiE
          have HRQ := Lib.hid (request_to wr x.vL x.vH x.grp x.how x.L x.hs hin.1 hin.2)
          clear hiE h1 h2 hi hi8 hin
          go_wp2_with fail
          refine HRQ.out.mono ?_
          rintro e w3 ⟨vc, vh, gg, cs, hs, rfl, hcs, hhs, hok, h32, hp10, hcl, hhl, b3, hfm⟩
          obtain ⟨pc, cc, rfl, _⟩ := id hcs
          obtain ⟨ph, ch, rfl⟩ := hhs.shape
          obtain ⟨m, hm⟩ : ∃ m, m = cs.length := ⟨_, rfl⟩
          obtain ⟨mh, hmh⟩ : ∃ mh, mh = hs.length := ⟨_, rfl⟩
          rw [← hm] at hcs
          rw [← hmh] at hhs
          have AL3 := below_al11 w3 (.cells #[.slice pc m cc, .slice ph mh ch, .int .i64 gg] 33)
          have RV : Hid (Rv (w3.alloc (.cells #[.slice pc m cc, .slice ph mh ch, .int .i64 gg] 33)) w3.heap.size pc m cc (.slice ph mh ch) gg cs) :=
            Lib.hid ⟨heap_alloc_last w3 _, hcs.kb AL3, hok, hm, hcl, hp10⟩
          have HHS : Hid (HSeen (w3.alloc (.cells #[.slice pc m cc, .slice ph mh ch, .int .i64 gg] 33)) (.slice ph mh ch) hs) := Lib.hid (hhs.mild (mild_below AL3))
          have K4 := Lib.hid ((K.out.kb b3).kb AL3)
          have HS32 := Lib.hid h32
          have HHL := Lib.hid hhl
          have HR32 := Lib.hid (chk_32 (G := gr X) (grp := gg) hok h32)
          have HR32' := Lib.hid (chk_32 (G := gr X) (grp := 2) hok H32.nil)
          rw [← hm, ← hmh]
          clear hcs hhs hok h32 hp10 hcl hhl hfm b3 hm hmh c0 c1 c2 c3 K AL3
          go_upto_region 9 with fail
          generalize w3.alloc (.cells #[.slice pc m cc, .slice ph mh ch, .int .i64 gg] 33) = w4 at *
          generalize w3.heap.size = rb at *
          have a0 := cell_obj RV.out.cell 0 rfl
          have a1 := cell_obj RV.out.cell 1 rfl
          have a2 := cell_obj RV.out.cell 2 rfl
          obtain ⟨r1, hr1⟩ : ∃ r1, r1 = chk (gr X) gg cs hs := ⟨_, rfl⟩
          have HR1 := Lib.hid hr1
          have HCKR := Lib.hid (rcheck_to w4 rg p' n' c' T K4.out.r K4.out.wft (.slice pc m cc) (.slice ph mh ch) gg cs hs RV.out.seen HHS.out RV.out.ok HS32.out (Nat.le_trans RV.out.few (by decide)) (fun c hc => Nat.le_trans (RV.out.par c hc) (by decide)) (Nat.le_trans HHL.out (by decide)))
          rw [← K4.out.eq, ← hr1] at HCKR
          rw [← hr1] at HR32
          clear hr1
          obtain ⟨k1, hk1⟩ : ∃ k1, k1 = kindOf r1 := ⟨_, rfl⟩
          obtain ⟨q1, hq1⟩ : ∃ q1, q1 = whoH r1 := ⟨_, rfl⟩
          obtain ⟨o1, ho1⟩ : ∃ o1, o1 = whoB r1 := ⟨_, rfl⟩
          rw [← hk1, ← hq1, ← ho1] at HCKR
          have HQ1 : Hid (q1.length = 32) := Lib.hid (by rw [hq1]; exact HR32.out)
          have HKK := Lib.hid hk1
          have HQQ := Lib.hid hq1
          have HOO := Lib.hid ho1
          clear hk1 hq1 ho1
          go_wp2_with fail
          refine HCKR.out.mono ?_
          rintro e w5 ⟨rfl, b5⟩
          have B5 := Lib.hid b5
          have st := hst_cells q1 HQ1.out w5
          have hks : (hv q1).size = 32 := by rw [hv_size, HQ1.out]
          have B6 := Lib.hid (b5.alloc b5.size (.cells (hv q1) 40))
          have HB6 := Lib.hid (heap_alloc_last w5 (.cells (hv q1) 40))
          have HHB : Hid (w4.heap.size ≤ w5.heap.size) := Lib.hid b5.size
          clear b5 a0 a1 a2
          go_upto_region 10 with fail
          clear st
          generalize w5.alloc (.cells (hv q1) 40) = w6 at *
          generalize w5.heap.size = hb at *
          have HL9 := Lib.hid (fun (V : World) (k : Below w4.heap.size w4 V) => (⟨cell_obj (RV.out.kb k).cell 0 rfl, cell_obj (RV.out.kb k).cell 1 rfl, cell_obj (RV.out.kb k).cell 2 rfl⟩ : V.cell? ⟨rb, 0, none⟩ = some (.slice pc m cc) ∧ V.cell? ⟨rb, 1, none⟩ = some (.slice ph mh ch) ∧ V.cell? ⟨rb, 2, none⟩ = some (.int .i64 gg)))
          have BQ : Hid (Below w4.heap.size w4 w6.drew) := Lib.hid (B6.out.trans ((blw_qt w6.heap.size 1 w6).mono B6.out.size))
          have HBQ : Hid (w6.drew.heap[hb]? = some (.cells (hv q1) 40 (0, 0))) := Lib.hid ((mild_below (blw_qt w6.heap.size 1 w6)).cells HB6.out)
          go_wp2_with fail
          try simp only [List.append]
          refine wp_region_noPanic ?_
          refine wp_region_held_drew (S := (fun V => (V.cell? ⟨rb, 0, none⟩ = some (.slice pc m cc) ∧ V.cell? ⟨rb, 1, none⟩ = some (.slice ph mh ch) ∧ V.cell? ⟨rb, 2, none⟩ = some (.int .i64 gg)) ∧ (hld ⟨hb, 0, none⟩).run Tryz.prog V = .ok (.agg (hv q1)) V)) (by kernel_rfl) ⟨HL9.out _ BQ.out, hld_row HQ1.out HBQ.out⟩ (fun hHeld => ?_)
          generalize w6.drew = cw at *
          refine wpAnyH_take (i := 0) (v := ?_) (by simp only [List.getElem?_toArray, List.getElem?_cons_zero]; rfl) (by kernel_rfl) (by kernel_rfl) (by kernel_rfl) (fun _ _ _ h => h) (Or.inl ⟨by rfl, ?_⟩) (by assumption) ?_
          rotate_left
          · intro w hSw
            try dsimp only at hSw
            go_simp
            try with_reducible rfl
          try simp only [Act.put, List.setIfInBounds_toArray, List.set_cons_zero, List.set_cons_succ]
          refine wpAnyH_take (i := 1) (v := ?_) (by simp only [List.getElem?_toArray, List.getElem?_cons_succ, List.getElem?_cons_zero]; rfl) (by kernel_rfl) (by kernel_rfl) (by kernel_rfl) (fun _ _ _ h => h) (Or.inl ⟨by rfl, ?_⟩) (by assumption) ?_
          rotate_left
          · intro w hSw
            try dsimp only at hSw
            go_simp
            try with_reducible rfl
          try simp only [Act.put, List.setIfInBounds_toArray, List.set_cons_zero, List.set_cons_succ]
          refine wpAnyH_take (i := 3) (v := ?_) (by simp only [List.getElem?_toArray, List.getElem?_cons_succ, List.getElem?_cons_zero]; rfl) (by kernel_rfl) (by kernel_rfl) (by kernel_rfl) (fun _ _ _ h => h) (Or.inl ⟨by rfl, ?_⟩) (by assumption) ?_
          rotate_left
          · intro w hSw
            try dsimp only at hSw
            go_simp
            try with_reducible rfl
          try simp only [Act.put, List.setIfInBounds_toArray, List.set_cons_zero, List.set_cons_succ]
          refine wpAnyH_take (i := 4) (v := ?_) (by simp only [List.getElem?_toArray, List.getElem?_cons_succ, List.getElem?_cons_zero]; rfl) (by kernel_rfl) (by kernel_rfl) (by kernel_rfl) (fun _ _ _ h => h) (Or.inl ⟨by rfl, ?_⟩) (by assumption) ?_
          rotate_left
          · intro w hSw
            try dsimp only at hSw
            go_simp
            try with_reducible rfl
          try simp only [Act.put, List.setIfInBounds_toArray, List.set_cons_zero, List.set_cons_succ]
          refine wpAnyH_take (i := 5) (v := ?_) (by simp only [List.getElem?_toArray, List.getElem?_cons_succ, List.getElem?_cons_zero]; rfl) (by kernel_rfl) (by kernel_rfl) (by kernel_rfl) (fun _ _ _ h => h) (Or.inl ⟨by rfl, ?_⟩) (by assumption) ?_
          rotate_left
          · intro w hSw
            try dsimp only at hSw
            go_simp
            try with_reducible rfl
          try simp only [Act.put, List.setIfInBounds_toArray, List.set_cons_zero, List.set_cons_succ]
          refine wpAnyH_ready (rs := [2]) (by kernel_rfl) (by simp) ?_
          refine AllReadyH.cons (by simp only [List.getElem?_toArray, List.getElem?_cons_succ, List.getElem?_cons_zero]; rfl) (fun K hK => ?_) AllReadyH.nil
          go_simp
          refine (check_to cw g bm X (.slice pc m cc) (.slice ph mh ch) gg cs hs (K4.out.k.ga.kb BQ.out) K4.out.wf.xlen (fun x hx => Nat.le_trans (par_of K4.out.wf rfl x hx).1 (by decide)) (RV.out.kb BQ.out).seen (HHS.out.mild (mild_below BQ.out)) RV.out.ok HS32.out (Nat.le_trans RV.out.few (by decide)) (fun c hc => Nat.le_trans (RV.out.par c hc) (by decide)) (Nat.le_trans HHL.out (by decide))).mono ?_
          rintro e cx ⟨y, rfl, ey, bb⟩
          rw [← HR1.out] at ey
          have EY := Lib.hid ey
          have BX := Lib.hid (BQ.out.trans (bb.mono BQ.out.size))
          have HBX := Lib.hid ((mild_below bb).cells HBQ.out)
          clear bb ey
          obtain ⟨z, hz⟩ : ∃ z, z = y := ⟨_, rfl⟩
          rw [← hz]
          have HZY := Lib.hid hz
          clear hz
          go_wp2_with fail
          refine hK.out _ _ ⟨HL9.out _ BX.out, hld_row HQ1.out HBX.out⟩ (fun hHeld => ?_)
          clear hK K
          try simp only [Act.put, List.setIfInBounds_toArray, List.set_cons_zero, List.set_cons_succ]
          rename World => cw
          refine wpAnyH_ready (rs := [6]) (by kernel_rfl) (by simp) ?_
          refine AllReadyH.cons (by simp only [List.getElem?_toArray, List.getElem?_cons_succ, List.getElem?_cons_zero]; rfl) (fun K hK => ?_) AllReadyH.nil
          go_simp
          have hsm := same11_to cw z r1 (HG.out.kb (K4.out.k.bel.trans (BX.out.mono K4.out.k.bel.size))) (by rw [HZY.out]; exact EY.out) (by rw [HR1.out]; exact chk_kind)
          rw [← HKK.out, ← HQQ.out, ← HOO.out] at hsm
          refine hsm.mono ?_
          clear hsm
          rintro e cx ⟨rfl, bb⟩
          have BY := Lib.hid (BX.out.trans (bb.mono BX.out.size))
          have HBY := Lib.hid ((mild_below bb).cells HBX.out)
          clear bb
          go_wp2_with fail
          refine hK.out _ _ ⟨HL9.out _ BY.out, hld_row HQ1.out HBY.out⟩ (fun hHeld => ?_)
          clear hK K
          try simp only [Act.put, List.setIfInBounds_toArray, List.set_cons_zero, List.set_cons_succ]
          refine wpAnyH_take (i := 7) (v := ?_) (by simp only [List.getElem?_toArray, List.getElem?_cons_succ, List.getElem?_cons_zero]; rfl) (by kernel_rfl) (by kernel_rfl) (by kernel_rfl) (fun _ _ _ h => h) (Or.inl ⟨by rfl, ?_⟩) (by assumption) ?_
          rotate_left
          · intro w hSw
            try dsimp only at hSw
            go_simp
            try with_reducible rfl
          try simp only [Act.put, List.setIfInBounds_toArray, List.set_cons_zero, List.set_cons_succ]
          refine wpAnyH_done (by kernel_rfl) ?_ _
          refine NoPanic.normal ?_
          clear hHeld BX HBX BQ HBQ EY HZY
          rename World => w7
          have a0 := (HL9.out _ BY.out).1
          have AL7 := Lib.hid (below_al11 w7 (.cells #[.slice pc m cc, .slice none 0 0, .int .i64 2] 33))
          have HY8 := Lib.hid (heap_alloc_last w7 (.cells #[.slice pc m cc, .slice none 0 0, .int .i64 2] 33))
          have B8 := Lib.hid (BY.out.trans (AL7.out.mono BY.out.size))
          have HB8 := Lib.hid ((mild_below AL7.out).cells HBY.out)
          go_upto_region 13 with fail
          clear a0 AL7
          generalize w7.alloc (.cells #[.slice pc m cc, .slice none 0 0, .int .i64 2] 33) = w8 at *
          generalize w7.heap.size = yb at *
          have a0 := cell_obj HY8.out 0 rfl
          have a1 := cell_obj HY8.out 1 rfl
          have a2 := cell_obj HY8.out 2 rfl
          obtain ⟨r2, hr2⟩ : ∃ r2, r2 = chk (gr X) 2 cs [] := ⟨_, rfl⟩
          have HR2 := Lib.hid hr2
          have K8 := Lib.hid (K4.out.kb B8.out)
          have HCKR2 := Lib.hid (rcheck_to w8 rg p' n' c' T K8.out.r K8.out.wft (.slice pc m cc) (.slice none 0 0) 2 cs [] (RV.out.kb B8.out).seen (.inl ⟨rfl, rfl⟩) RV.out.ok H32.nil (Nat.le_trans RV.out.few (by decide)) (fun c hc => Nat.le_trans (RV.out.par c hc) (by decide)) (by simp))
          rw [← K8.out.eq, ← hr2] at HCKR2
          rw [← hr2] at HR32'
          clear hr2
          obtain ⟨k2, hk2⟩ : ∃ k2, k2 = kindOf r2 := ⟨_, rfl⟩
          obtain ⟨q2, hq2⟩ : ∃ q2, q2 = whoH r2 := ⟨_, rfl⟩
          obtain ⟨o2, ho2⟩ : ∃ o2, o2 = whoB r2 := ⟨_, rfl⟩
          rw [← hk2, ← hq2, ← ho2] at HCKR2
          have HQ2 : Hid (q2.length = 32) := Lib.hid (by rw [hq2]; exact HR32'.out)
          have HKK2 := Lib.hid hk2
          have HQQ2 := Lib.hid hq2
          have HOO2 := Lib.hid ho2
          clear hk2 hq2 ho2
          go_wp2_with fail
          refine HCKR2.out.mono ?_
          rintro e w9 ⟨rfl, b9⟩
          have HB9 := Lib.hid ((mild_below b9).cells HB8.out)
          have B9 := Lib.hid (B8.out.trans (b9.mono B8.out.size))
          have HT9 : Hid (w9.there hb 0 (hv q2).size) := Lib.hid (by rw [hv_size, HQ2.out]; have h9 := there_row HB9.out; rwa [hv_size, HQ1.out] at h9)
          clear b9 a0 a1 a2
          go_upto_region 14 with (refine store_to HT9.out (hinfo (hv q2) (by rw [hv_size, HQ2.out])) (hv_one q2) ?hx ?hy ?_; (case hx => rfl); (case hy => rfl))
          have HBA := Lib.hid (hv_reset HQ1.out HQ2.out HB9.out)
          have BA : Hid (Below w4.heap.size w4 (w9.setCells hb 0 (hv q2).toList)) := Lib.hid (((Only.of_below (S := fun k => w4.heap.size ≤ k) B9.out).setCells (b := hb) HHB.out _ 0).below (Nat.le_refl _) (fun _ h => h))
          try simp only [Act.put]
          generalize w9.setCells hb 0 (hv q2).toList = wa at *
          clear HB9 B9 HT9 HB8 B8 K8 HY8 HBY BY
          have BQ : Hid (Below w4.heap.size w4 wa.drew) := Lib.hid (BA.out.trans ((blw_qt wa.heap.size 1 wa).mono BA.out.size))
          have HBQ : Hid (wa.drew.heap[hb]? = some (.cells (hv q2) 40 (0, 0))) := Lib.hid ((mild_below (blw_qt wa.heap.size 1 wa)).cells HBA.out)
          go_wp2_with fail
          try simp only [List.append]
          refine wp_region_noPanic ?_
          refine wp_region_held_drew (S := (fun V => V.cell? ⟨rb, 0, none⟩ = some (.slice pc m cc) ∧ (hld ⟨hb, 0, none⟩).run Tryz.prog V = .ok (.agg (hv q2)) V)) (by kernel_rfl) ⟨(HL9.out _ BQ.out).1, hld_row HQ2.out HBQ.out⟩ (fun hHeld => ?_)
          generalize wa.drew = cw at *
          refine wpAnyH_take (i := 0) (v := ?_) (by simp only [List.getElem?_toArray, List.getElem?_cons_zero]; rfl) (by kernel_rfl) (by kernel_rfl) (by kernel_rfl) (fun _ _ _ h => h) (Or.inl ⟨by rfl, ?_⟩) (by assumption) ?_
          rotate_left
          · intro w hSw
            try dsimp only at hSw
            go_simp
            try with_reducible rfl
          try simp only [Act.put, List.setIfInBounds_toArray, List.set_cons_zero, List.set_cons_succ]
          refine wpAnyH_take (i := 1) (v := ?_) (by simp only [List.getElem?_toArray, List.getElem?_cons_succ, List.getElem?_cons_zero]; rfl) (by kernel_rfl) (by kernel_rfl) (by kernel_rfl) (fun _ _ _ h => h) (Or.inl ⟨by rfl, ?_⟩) (by assumption) ?_
          rotate_left
          · intro w hSw
            try dsimp only at hSw
            go_simp
            try with_reducible rfl
          try simp only [Act.put, List.setIfInBounds_toArray, List.set_cons_zero, List.set_cons_succ]
          refine wpAnyH_take (i := 2) (v := ?_) (by simp only [List.getElem?_toArray, List.getElem?_cons_succ, List.getElem?_cons_zero]; rfl) (by kernel_rfl) (by kernel_rfl) (by kernel_rfl) (fun _ _ _ h => h) (Or.inl ⟨by rfl, ?_⟩) (by assumption) ?_
          rotate_left
          · intro w hSw
            try dsimp only at hSw
            go_simp
            try with_reducible rfl
          try simp only [Act.put, List.setIfInBounds_toArray, List.set_cons_zero, List.set_cons_succ]
          refine wpAnyH_take (i := 4) (v := ?_) (by simp only [List.getElem?_toArray, List.getElem?_cons_succ, List.getElem?_cons_zero]; rfl) (by kernel_rfl) (by kernel_rfl) (by kernel_rfl) (fun _ _ _ h => h) (Or.inl ⟨by rfl, ?_⟩) (by assumption) ?_
          rotate_left
          · intro w hSw
            try dsimp only at hSw
            go_simp
            try with_reducible rfl
          try simp only [Act.put, List.setIfInBounds_toArray, List.set_cons_zero, List.set_cons_succ]
          refine wpAnyH_take (i := 5) (v := ?_) (by simp only [List.getElem?_toArray, List.getElem?_cons_succ, List.getElem?_cons_zero]; rfl) (by kernel_rfl) (by kernel_rfl) (by kernel_rfl) (fun _ _ _ h => h) (Or.inl ⟨by rfl, ?_⟩) (by assumption) ?_
          rotate_left
          · intro w hSw
            try dsimp only at hSw
            go_simp
            try with_reducible rfl
          try simp only [Act.put, List.setIfInBounds_toArray, List.set_cons_zero, List.set_cons_succ]
          refine wpAnyH_take (i := 6) (v := ?_) (by simp only [List.getElem?_toArray, List.getElem?_cons_succ, List.getElem?_cons_zero]; rfl) (by kernel_rfl) (by kernel_rfl) (by kernel_rfl) (fun _ _ _ h => h) (Or.inl ⟨by rfl, ?_⟩) (by assumption) ?_
          rotate_left
          · intro w hSw
            try dsimp only at hSw
            go_simp
            try with_reducible rfl
          try simp only [Act.put, List.setIfInBounds_toArray, List.set_cons_zero, List.set_cons_succ]
          refine wpAnyH_ready (rs := [3]) (by kernel_rfl) (by simp) ?_
          refine AllReadyH.cons (by simp only [List.getElem?_toArray, List.getElem?_cons_succ, List.getElem?_cons_zero]; rfl) (fun K hK => ?_) AllReadyH.nil
          go_simp
          have KC := Lib.hid (K4.out.kb BQ.out)
          have RVC := Lib.hid (RV.out.kb BQ.out)
          refine (add_to cw g bm X _ cs KC.out.k.ga KC.out.wf RVC.out.seen RVC.out.ok (Nat.le_trans RVC.out.few (by decide)) (fun c hc => Nat.le_trans (RVC.out.par c hc) (by decide))).mono ?_
          intro e cx hadd
          obtain ⟨y, X', he, k6, h61, h62⟩ := KC.out.k.added hadd
          subst he
          obtain ⟨_, _, _, o6, _⟩ := id hadd
          have hm6 := mild_map KC.out.k.ga.at_.mp o6
          rw [← HR2.out] at k6 h61 h62
          have K6 := Lib.hid k6
          have RV6 := Lib.hid (RVC.out.mild hm6)
          have RG6 := Lib.hid (KC.out.r.mild hm6)
          have HB6 := Lib.hid (hm6.cells HBQ.out)
          have EY := Lib.hid (k6.err _ List.mem_cons_self)
          have H61 := Lib.hid h61
          have H62 := Lib.hid h62
          clear hadd k6 hm6 h61 h62 o6 RVC HBQ BQ
          obtain ⟨z, hz⟩ : ∃ z, z = y := ⟨_, rfl⟩
          rw [← hz]
          have HZY := Lib.hid hz
          clear hz
          go_wp2_with fail
          refine hK.out _ _ ⟨RV6.out.c, hld_row HQ2.out HB6.out⟩ (fun hHeld => ?_)
          clear hK K
          try simp only [Act.put, List.setIfInBounds_toArray, List.set_cons_zero, List.set_cons_succ]
          rename World => cw
          refine wpAnyH_ready (rs := [7]) (by kernel_rfl) (by simp) ?_
          refine AllReadyH.cons (by simp only [List.getElem?_toArray, List.getElem?_cons_succ, List.getElem?_cons_zero]; rfl) (fun K hK => ?_) AllReadyH.nil
          go_simp
          have hsm := same11_to cw z r2 (HG.out.kb K6.out.bel) (by rw [HZY.out]; exact EY.out) (by rw [HR2.out]; exact chk_kind)
          rw [← HKK2.out, ← HQQ2.out, ← HOO2.out] at hsm
          refine hsm.mono ?_
          clear hsm
          rintro e cx ⟨rfl, bb⟩
          have RV7 := Lib.hid (RV6.out.kb bb)
          have RG7 := Lib.hid (RG6.out.kb bb)
          have HB7 := Lib.hid ((mild_below bb).cells HB6.out)
          have K7 := Lib.hid (K6.out.bare.kb bb)
          clear bb RV6 RG6 HB6 K6 EY HZY
          go_wp2_with fail
          refine hK.out _ _ ⟨RV7.out.c, hld_row HQ2.out HB7.out⟩ (fun hHeld => ?_)
          clear hK K
          try simp only [Act.put, List.setIfInBounds_toArray, List.set_cons_zero, List.set_cons_succ]
          refine wpAnyH_take (i := 8) (v := ?_) (by simp only [List.getElem?_toArray, List.getElem?_cons_succ, List.getElem?_cons_zero]; rfl) (by kernel_rfl) (by kernel_rfl) (by kernel_rfl) (fun _ _ _ h => h) (Or.inl ⟨by rfl, ?_⟩) (by assumption) ?_
          rotate_left
          · intro w hSw
            try dsimp only at hSw
            go_simp
            try with_reducible rfl
          try simp only [Act.put, List.setIfInBounds_toArray, List.set_cons_zero, List.set_cons_succ]
          refine wpAnyH_done (by kernel_rfl) ?_ _
          refine NoPanic.normal ?_
          clear hHeld
          rename World => wz
          cases hr : r2 with
          | some rr =>
            have HX : Hid (X' = X) := Lib.hid (H61.out (by rw [hr]; rfl))
            have hk0 : ¬ k2 = 0 := by rw [HKK2.out, hr]; obtain ⟨kk, oo⟩ := rr; exact chk_kind kk oo (by rw [← HR2.out]; exact hr)
            have hk1 : decide (k2 = 0) = false := decide_eq_false hk0
            have hk3 : (k2 == 0) = false := by simp [hk0]
            have KZ : Hid (Kq w wz g bm rg X' p' n' c' T) := Lib.hid ⟨K7.out, RG7.out, by rw [HX.out]; exact KC.out.eq, by rw [HX.out]; exact KC.out.wf, KC.out.lo⟩
            clear hr K7 RG7 RV7 KC H61 H62
            obtain ⟨p2, hp2⟩ : ∃ p2, p2 = p' := ⟨_, rfl⟩
            obtain ⟨n2, hn2⟩ : ∃ n2, n2 = n' := ⟨_, rfl⟩
            obtain ⟨cc2, hc2⟩ : ∃ cc2, cc2 = c' := ⟨_, rfl⟩
            obtain ⟨T', hT'⟩ : ∃ T', T' = T := ⟨_, rfl⟩
            rw [← hp2, ← hn2, ← hc2, ← hT'] at KZ
            clear hp2 hn2 hc2 hT'
            go_upto_region 18 with fail
            obtain ⟨KL, hKL⟩ : ∃ KL, KL = (gr X').map (·.1) := ⟨_, rfl⟩
            have HKL := Lib.hid hKL
            have HKLH : Hid (H32 KL ∧ KL.length ≤ 4611686018427387904) := Lib.hid (by rw [hKL]; exact ⟨keys_h32 KZ.out.wf, Nat.le_trans (keys_len KZ.out.wf) (by decide)⟩)
            have HNL : Hid (X'.length = n2) := Lib.hid (by rw [KZ.out.r.len, ← gr_len X', KZ.out.eq, gr_len])
            have KW : Hid (Kq w wz.drew g bm rg X' p2 n2 cc2 T') := Lib.hid (KZ.out.kb (blw_qt wz.heap.size 1 wz))
            clear hKL
            go_wp2_with fail
            try simp only [List.append]
            refine wp_region_noPanic ?_
            refine wp_region_held_drew (S := (fun V => V.cell? ⟨rg, 0, none⟩ = some (.slice p2 n2 cc2))) (by kernel_rfl) (KW.out.r.c) (fun hHeld => ?_)
            generalize wz.drew = cw at *
            refine wpAnyH_take (i := 0) (v := ?_) (by simp only [List.getElem?_toArray, List.getElem?_cons_zero]; rfl) (by kernel_rfl) (by kernel_rfl) (by kernel_rfl) (fun _ _ _ h => h) (Or.inl ⟨by rfl, ?_⟩) (by assumption) ?_
            rotate_left
            · intro w hSw
              try dsimp only at hSw
              go_simp
              try with_reducible rfl
            try simp only [Act.put, List.setIfInBounds_toArray, List.set_cons_zero, List.set_cons_succ]
            refine wpAnyH_take (i := 2) (v := ?_) (by simp only [List.getElem?_toArray, List.getElem?_cons_succ, List.getElem?_cons_zero]; rfl) (by kernel_rfl) (by kernel_rfl) (by kernel_rfl) (fun _ _ _ h => h) (Or.inl ⟨by rfl, ?_⟩) (by assumption) ?_
            rotate_left
            · intro w hSw
              try dsimp only at hSw
              go_simp
              try with_reducible rfl
            try simp only [Act.put, List.setIfInBounds_toArray, List.set_cons_zero, List.set_cons_succ]
            refine wpAnyH_take (i := 3) (v := ?_) (by simp only [List.getElem?_toArray, List.getElem?_cons_succ, List.getElem?_cons_zero]; rfl) (by kernel_rfl) (by kernel_rfl) (by kernel_rfl) (fun _ _ _ h => h) (Or.inl ⟨by rfl, ?_⟩) (by assumption) ?_
            rotate_left
            · intro w hSw
              try dsimp only at hSw
              go_simp
              try with_reducible rfl
            try simp only [Act.put, List.setIfInBounds_toArray, List.set_cons_zero, List.set_cons_succ]
            refine wpAnyH_take (i := 4) (v := ?_) (by simp only [List.getElem?_toArray, List.getElem?_cons_succ, List.getElem?_cons_zero]; rfl) (by kernel_rfl) (by kernel_rfl) (by kernel_rfl) (fun _ _ _ h => h) (Or.inl ⟨by rfl, ?_⟩) (by assumption) ?_
            rotate_left
            · intro w hSw
              try dsimp only at hSw
              go_simp
              try with_reducible rfl
            try simp only [Act.put, List.setIfInBounds_toArray, List.set_cons_zero, List.set_cons_succ]
            refine wpAnyH_take (i := 5) (v := ?_) (by simp only [List.getElem?_toArray, List.getElem?_cons_succ, List.getElem?_cons_zero]; rfl) (by kernel_rfl) (by kernel_rfl) (by kernel_rfl) (fun _ _ _ h => h) (Or.inl ⟨by rfl, ?_⟩) (by assumption) ?_
            rotate_left
            · intro w hSw
              try dsimp only at hSw
              go_simp
              try with_reducible rfl
            try simp only [Act.put, List.setIfInBounds_toArray, List.set_cons_zero, List.set_cons_succ]
            refine wpAnyH_take (i := 6) (v := ?_) (by simp only [List.getElem?_toArray, List.getElem?_cons_succ, List.getElem?_cons_zero]; rfl) (by kernel_rfl) (by kernel_rfl) (by kernel_rfl) (fun _ _ _ h => h) (Or.inl ⟨by rfl, ?_⟩) (by assumption) ?_
            rotate_left
            · intro w hSw
              try dsimp only at hSw
              go_simp
              try with_reducible rfl
            try simp only [Act.put, List.setIfInBounds_toArray, List.set_cons_zero, List.set_cons_succ]
            refine wpAnyH_ready (rs := [1]) (by kernel_rfl) (by simp) ?_
            refine AllReadyH.cons (by simp only [List.getElem?_toArray, List.getElem?_cons_succ, List.getElem?_cons_zero]; rfl) (fun K hK => ?_) AllReadyH.nil
            go_simp
            have hcnt := count_to cw g bm X' KW.out.k.ga
            rw [HNL.out] at hcnt
            refine hcnt.mono ?_
            clear hcnt
            rintro e cx ⟨rfl, rfl⟩
            go_wp2_with fail
            refine hK.out _ _ (KW.out.r.c) (fun hHeld => ?_)
            clear hK K
            try simp only [Act.put, List.setIfInBounds_toArray, List.set_cons_zero, List.set_cons_succ]
            refine wpAnyH_take (i := 7) (v := ?_) (by simp only [List.getElem?_toArray, List.getElem?_cons_succ, List.getElem?_cons_zero]; rfl) (by kernel_rfl) (by kernel_rfl) (by kernel_rfl) (fun _ _ _ h => h) (Or.inl ⟨by rfl, ?_⟩) (by assumption) ?_
            rotate_left
            · intro w hSw
              try dsimp only at hSw
              go_simp
              try with_reducible rfl
            try simp only [Act.put, List.setIfInBounds_toArray, List.set_cons_zero, List.set_cons_succ]
            refine wpAnyH_take (i := 8) (v := ?_) (by simp only [List.getElem?_toArray, List.getElem?_cons_succ, List.getElem?_cons_zero]; rfl) (by kernel_rfl) (by kernel_rfl) (by kernel_rfl) (fun _ _ _ h => h) (Or.inl ⟨by rfl, ?_⟩) (by assumption) ?_
            rotate_left
            · intro w hSw
              try dsimp only at hSw
              go_simp
              try with_reducible rfl
            try simp only [Act.put, List.setIfInBounds_toArray, List.set_cons_zero, List.set_cons_succ]
            refine wpAnyH_take (i := 9) (v := ?_) (by simp only [List.getElem?_toArray, List.getElem?_cons_succ, List.getElem?_cons_zero]; rfl) (by kernel_rfl) (by kernel_rfl) (by kernel_rfl) (fun _ _ _ h => h) (Or.inl ⟨by rfl, ?_⟩) (by assumption) ?_
            rotate_left
            · intro w hSw
              try dsimp only at hSw
              go_simp
              try with_reducible rfl
            try simp only [Act.put, List.setIfInBounds_toArray, List.set_cons_zero, List.set_cons_succ]
            refine wpAnyH_take (i := 11) (v := ?_) (by simp only [List.getElem?_toArray, List.getElem?_cons_succ, List.getElem?_cons_zero]; rfl) (by kernel_rfl) (by kernel_rfl) (by kernel_rfl) (fun _ _ _ h => h) (Or.inl ⟨by rfl, ?_⟩) (by assumption) ?_
            rotate_left
            · intro w hSw
              try dsimp only at hSw
              go_simp
              try with_reducible rfl
            try simp only [Act.put, List.setIfInBounds_toArray, List.set_cons_zero, List.set_cons_succ]
            refine wpAnyH_ready (rs := [10]) (by kernel_rfl) (by simp) ?_
            refine AllReadyH.cons (by simp only [List.getElem?_toArray, List.getElem?_cons_succ, List.getElem?_cons_zero]; rfl) (fun K hK => ?_) AllReadyH.nil
            go_simp
            refine (hashes_to cw g bm X' (Nat.le_trans KW.out.wf.xlen (by decide)) KW.out.k.ga).mono ?_
            rintro e cx ⟨vA, rfl, oA, bk⟩
            rw [← gr_keys, ← HKL.out] at oA
            obtain ⟨pA, nA, cA, rfl, hnA⟩ := own_sh oA
            clear hnA
            have KX := Lib.hid (KW.out.kb bk)
            have OA := Lib.hid oA
            clear bk oA
            go_wp2_with fail
            refine hK.out _ _ (KX.out.r.c) (fun hHeld => ?_)
            clear hK K
            try simp only [Act.put, List.setIfInBounds_toArray, List.set_cons_zero, List.set_cons_succ]
            rename World => cw
            refine wpAnyH_ready (rs := [12]) (by kernel_rfl) (by simp) ?_
            refine AllReadyH.cons (by simp only [List.getElem?_toArray, List.getElem?_cons_succ, List.getElem?_cons_zero]; rfl) (fun K hK => ?_) AllReadyH.nil
            go_simp
            refine (rhashes_to cw rg p2 n2 cc2 T' KX.out.r).mono ?_
            rintro e cx ⟨vB, rfl, oB, bk⟩
            rw [← gr_keys, ← KX.out.eq, ← HKL.out] at oB
            obtain ⟨pB, nB, cB, rfl, hnB⟩ := own_sh oB
            clear hnB
            have KY := Lib.hid (KX.out.kb bk)
            have OB := Lib.hid oB
            have OA2 := Lib.hid (own_below OA.out bk)
            clear bk oB
            go_wp2_with fail
            refine hK.out _ _ (KY.out.r.c) (fun hHeld => ?_)
            clear hK K
            try simp only [Act.put, List.setIfInBounds_toArray, List.set_cons_zero, List.set_cons_succ]
            rename World => cw
            refine wpAnyH_ready (rs := [13]) (by kernel_rfl) (by simp) ?_
            refine AllReadyH.cons (by simp only [List.getElem?_toArray, List.getElem?_cons_succ, List.getElem?_cons_zero]; rfl) (fun K hK => ?_) AllReadyH.nil
            go_simp
            refine (same_any cw _ _ _ _ KL HKLH.out.1 OA2.out OB.out HKLH.out.2).mono ?_
            rintro e cx ⟨rfl, q, rfl⟩
            have KU := Lib.hid (KY.out.kb (blw_qt cw.heap.size q cw))
            go_wp2_with fail
            refine hK.out _ _ (KU.out.r.c) (fun hHeld => ?_)
            clear hK K
            try simp only [Act.put, List.setIfInBounds_toArray, List.set_cons_zero, List.set_cons_succ]
            refine wpAnyH_take (i := 14) (v := ?_) (by simp only [List.getElem?_toArray, List.getElem?_cons_succ, List.getElem?_cons_zero]; rfl) (by kernel_rfl) (by kernel_rfl) (by kernel_rfl) (fun _ _ _ h => h) (Or.inl ⟨by rfl, ?_⟩) (by assumption) ?_
            rotate_left
            · intro w hSw
              try dsimp only at hSw
              go_simp
              try with_reducible rfl
            try simp only [Act.put, List.setIfInBounds_toArray, List.set_cons_zero, List.set_cons_succ]
            refine wpAnyH_take (i := 15) (v := ?_) (by simp only [List.getElem?_toArray, List.getElem?_cons_succ, List.getElem?_cons_zero]; rfl) (by kernel_rfl) (by kernel_rfl) (by kernel_rfl) (fun _ _ _ h => h) (Or.inl ⟨by rfl, ?_⟩) (by assumption) ?_
            rotate_left
            · intro w hSw
              try dsimp only at hSw
              go_simp
              try with_reducible rfl
            try simp only [Act.put, List.setIfInBounds_toArray, List.set_cons_zero, List.set_cons_succ]
            refine wpAnyH_done (by kernel_rfl) ?_ _
            refine NoPanic.normal ?_
            clear hHeld OA OB OA2
            go_wp2_with fail
            refine ⟨⟨i + 1, X', p2, n2, cc2, T', congrArg _ (by first | rw [HI1.out] | rfl), HIN.out, HI8.out, KU⟩, ?_⟩
            first | exact meas_nv HI8.out HI1.out | exact meas_nw HI8.out
          | none =>
            have hG := H62.out hr
            have hk0 : k2 = 0 := by rw [HKK2.out, hr]; rfl
            subst hk0
            have HF : Hid (Fine (gr X) 2 cs []) := Lib.hid (chk_fine.1 (by rw [← HR2.out]; exact hr))
            have HGX := Lib.hid hG
            have a0 := RV7.out.c
            have HAD := Lib.hid (radd_to wz rg p' n' c' T RG7.out (.slice pc m cc) cs RV7.out.seen RV7.out.ok (fun c hc => Nat.le_trans (RV7.out.par c hc) (by decide)) (by have := KC.out.wft.few; rw [gr_len] at this; have := RV7.out.few; omega))
            have HWX : Hid (Wf (gr X')) := Lib.hid (by rw [hG]; exact add_wf KC.out.wf RV7.out.ok HF.out)
            clear hr hG
            go_wp2_with fail
            refine HAD.out.mono ?_
            rintro e wy ⟨rfl, oy, p2, n2, cc2, T', rT, gT⟩
            have KZ : Hid (Kq w wy g bm rg X' p2 n2 cc2 T') := Lib.hid ⟨K7.out.rturn RG7.out oy KC.out.lo, rT, by rw [HGX.out, gT, KC.out.eq], HWX.out, KC.out.lo⟩
            clear oy rT gT K7 RG7 RV7 KC H61 H62 HAD a0 HF
            obtain ⟨w0, hw0⟩ : ∃ w0, w0 = wz := ⟨_, rfl⟩
            clear hw0
            rename World => wz9
            go_upto_region 18 with fail
            obtain ⟨KL, hKL⟩ : ∃ KL, KL = (gr X').map (·.1) := ⟨_, rfl⟩
            have HKL := Lib.hid hKL
            have HKLH : Hid (H32 KL ∧ KL.length ≤ 4611686018427387904) := Lib.hid (by rw [hKL]; exact ⟨keys_h32 KZ.out.wf, Nat.le_trans (keys_len KZ.out.wf) (by decide)⟩)
            have HNL : Hid (X'.length = n2) := Lib.hid (by rw [KZ.out.r.len, ← gr_len X', KZ.out.eq, gr_len])
            have KW : Hid (Kq w wy.drew g bm rg X' p2 n2 cc2 T') := Lib.hid (KZ.out.kb (blw_qt wy.heap.size 1 wy))
            clear hKL
            go_wp2_with fail
            try simp only [List.append]
            refine wp_region_noPanic ?_
            refine wp_region_held_drew (S := (fun V => V.cell? ⟨rg, 0, none⟩ = some (.slice p2 n2 cc2))) (by kernel_rfl) (KW.out.r.c) (fun hHeld => ?_)
            generalize wy.drew = cw at *
            refine wpAnyH_take (i := 0) (v := ?_) (by simp only [List.getElem?_toArray, List.getElem?_cons_zero]; rfl) (by kernel_rfl) (by kernel_rfl) (by kernel_rfl) (fun _ _ _ h => h) (Or.inl ⟨by rfl, ?_⟩) (by assumption) ?_
            rotate_left
            · intro w hSw
              try dsimp only at hSw
              go_simp
              try with_reducible rfl
            try simp only [Act.put, List.setIfInBounds_toArray, List.set_cons_zero, List.set_cons_succ]
            refine wpAnyH_take (i := 2) (v := ?_) (by simp only [List.getElem?_toArray, List.getElem?_cons_succ, List.getElem?_cons_zero]; rfl) (by kernel_rfl) (by kernel_rfl) (by kernel_rfl) (fun _ _ _ h => h) (Or.inl ⟨by rfl, ?_⟩) (by assumption) ?_
            rotate_left
            · intro w hSw
              try dsimp only at hSw
              go_simp
              try with_reducible rfl
            try simp only [Act.put, List.setIfInBounds_toArray, List.set_cons_zero, List.set_cons_succ]
            refine wpAnyH_take (i := 3) (v := ?_) (by simp only [List.getElem?_toArray, List.getElem?_cons_succ, List.getElem?_cons_zero]; rfl) (by kernel_rfl) (by kernel_rfl) (by kernel_rfl) (fun _ _ _ h => h) (Or.inl ⟨by rfl, ?_⟩) (by assumption) ?_
            rotate_left
            · intro w hSw
              try dsimp only at hSw
              go_simp
              try with_reducible rfl
            try simp only [Act.put, List.setIfInBounds_toArray, List.set_cons_zero, List.set_cons_succ]
            refine wpAnyH_take (i := 4) (v := ?_) (by simp only [List.getElem?_toArray, List.getElem?_cons_succ, List.getElem?_cons_zero]; rfl) (by kernel_rfl) (by kernel_rfl) (by kernel_rfl) (fun _ _ _ h => h) (Or.inl ⟨by rfl, ?_⟩) (by assumption) ?_
            rotate_left
            · intro w hSw
              try dsimp only at hSw
              go_simp
              try with_reducible rfl
            try simp only [Act.put, List.setIfInBounds_toArray, List.set_cons_zero, List.set_cons_succ]
            refine wpAnyH_take (i := 5) (v := ?_) (by simp only [List.getElem?_toArray, List.getElem?_cons_succ, List.getElem?_cons_zero]; rfl) (by kernel_rfl) (by kernel_rfl) (by kernel_rfl) (fun _ _ _ h => h) (Or.inl ⟨by rfl, ?_⟩) (by assumption) ?_
            rotate_left
            · intro w hSw
              try dsimp only at hSw
              go_simp
              try with_reducible rfl
            try simp only [Act.put, List.setIfInBounds_toArray, List.set_cons_zero, List.set_cons_succ]
            refine wpAnyH_take (i := 6) (v := ?_) (by simp only [List.getElem?_toArray, List.getElem?_cons_succ, List.getElem?_cons_zero]; rfl) (by kernel_rfl) (by kernel_rfl) (by kernel_rfl) (fun _ _ _ h => h) (Or.inl ⟨by rfl, ?_⟩) (by assumption) ?_
            rotate_left
            · intro w hSw
              try dsimp only at hSw
              go_simp
              try with_reducible rfl
            try simp only [Act.put, List.setIfInBounds_toArray, List.set_cons_zero, List.set_cons_succ]
            refine wpAnyH_ready (rs := [1]) (by kernel_rfl) (by simp) ?_
            refine AllReadyH.cons (by simp only [List.getElem?_toArray, List.getElem?_cons_succ, List.getElem?_cons_zero]; rfl) (fun K hK => ?_) AllReadyH.nil
            go_simp
            have hcnt := count_to cw g bm X' KW.out.k.ga
            rw [HNL.out] at hcnt
            refine hcnt.mono ?_
            clear hcnt
            rintro e cx ⟨rfl, rfl⟩
            go_wp2_with fail
            refine hK.out _ _ (KW.out.r.c) (fun hHeld => ?_)
            clear hK K
            try simp only [Act.put, List.setIfInBounds_toArray, List.set_cons_zero, List.set_cons_succ]
            refine wpAnyH_take (i := 7) (v := ?_) (by simp only [List.getElem?_toArray, List.getElem?_cons_succ, List.getElem?_cons_zero]; rfl) (by kernel_rfl) (by kernel_rfl) (by kernel_rfl) (fun _ _ _ h => h) (Or.inl ⟨by rfl, ?_⟩) (by assumption) ?_
            rotate_left
            · intro w hSw
              try dsimp only at hSw
              go_simp
              try with_reducible rfl
            try simp only [Act.put, List.setIfInBounds_toArray, List.set_cons_zero, List.set_cons_succ]
            refine wpAnyH_take (i := 8) (v := ?_) (by simp only [List.getElem?_toArray, List.getElem?_cons_succ, List.getElem?_cons_zero]; rfl) (by kernel_rfl) (by kernel_rfl) (by kernel_rfl) (fun _ _ _ h => h) (Or.inl ⟨by rfl, ?_⟩) (by assumption) ?_
            rotate_left
            · intro w hSw
              try dsimp only at hSw
              go_simp
              try with_reducible rfl
            try simp only [Act.put, List.setIfInBounds_toArray, List.set_cons_zero, List.set_cons_succ]
            refine wpAnyH_take (i := 9) (v := ?_) (by simp only [List.getElem?_toArray, List.getElem?_cons_succ, List.getElem?_cons_zero]; rfl) (by kernel_rfl) (by kernel_rfl) (by kernel_rfl) (fun _ _ _ h => h) (Or.inl ⟨by rfl, ?_⟩) (by assumption) ?_
            rotate_left
            · intro w hSw
              try dsimp only at hSw
              go_simp
              try with_reducible rfl
            try simp only [Act.put, List.setIfInBounds_toArray, List.set_cons_zero, List.set_cons_succ]
            refine wpAnyH_take (i := 11) (v := ?_) (by simp only [List.getElem?_toArray, List.getElem?_cons_succ, List.getElem?_cons_zero]; rfl) (by kernel_rfl) (by kernel_rfl) (by kernel_rfl) (fun _ _ _ h => h) (Or.inl ⟨by rfl, ?_⟩) (by assumption) ?_
            rotate_left
            · intro w hSw
              try dsimp only at hSw
              go_simp
              try with_reducible rfl
            try simp only [Act.put, List.setIfInBounds_toArray, List.set_cons_zero, List.set_cons_succ]
            refine wpAnyH_ready (rs := [10]) (by kernel_rfl) (by simp) ?_
            refine AllReadyH.cons (by simp only [List.getElem?_toArray, List.getElem?_cons_succ, List.getElem?_cons_zero]; rfl) (fun K hK => ?_) AllReadyH.nil
            go_simp
            refine (hashes_to cw g bm X' (Nat.le_trans KW.out.wf.xlen (by decide)) KW.out.k.ga).mono ?_
            rintro e cx ⟨vA, rfl, oA, bk⟩
            rw [← gr_keys, ← HKL.out] at oA
            obtain ⟨pA, nA, cA, rfl, hnA⟩ := own_sh oA
            clear hnA
            have KX := Lib.hid (KW.out.kb bk)
            have OA := Lib.hid oA
            clear bk oA
            go_wp2_with fail
            refine hK.out _ _ (KX.out.r.c) (fun hHeld => ?_)
            clear hK K
            try simp only [Act.put, List.setIfInBounds_toArray, List.set_cons_zero, List.set_cons_succ]
            rename World => cw
            refine wpAnyH_ready (rs := [12]) (by kernel_rfl) (by simp) ?_
            refine AllReadyH.cons (by simp only [List.getElem?_toArray, List.getElem?_cons_succ, List.getElem?_cons_zero]; rfl) (fun K hK => ?_) AllReadyH.nil
            go_simp
            refine (rhashes_to cw rg p2 n2 cc2 T' KX.out.r).mono ?_
            rintro e cx ⟨vB, rfl, oB, bk⟩
            rw [← gr_keys, ← KX.out.eq, ← HKL.out] at oB
            obtain ⟨pB, nB, cB, rfl, hnB⟩ := own_sh oB
            clear hnB
            have KY := Lib.hid (KX.out.kb bk)
            have OB := Lib.hid oB
            have OA2 := Lib.hid (own_below OA.out bk)
            clear bk oB
            go_wp2_with fail
            refine hK.out _ _ (KY.out.r.c) (fun hHeld => ?_)
            clear hK K
            try simp only [Act.put, List.setIfInBounds_toArray, List.set_cons_zero, List.set_cons_succ]
            rename World => cw
            refine wpAnyH_ready (rs := [13]) (by kernel_rfl) (by simp) ?_
            refine AllReadyH.cons (by simp only [List.getElem?_toArray, List.getElem?_cons_succ, List.getElem?_cons_zero]; rfl) (fun K hK => ?_) AllReadyH.nil
            go_simp
            refine (same_any cw _ _ _ _ KL HKLH.out.1 OA2.out OB.out HKLH.out.2).mono ?_
            rintro e cx ⟨rfl, q, rfl⟩
            have KU := Lib.hid (KY.out.kb (blw_qt cw.heap.size q cw))
            go_wp2_with fail
            refine hK.out _ _ (KU.out.r.c) (fun hHeld => ?_)
            clear hK K
            try simp only [Act.put, List.setIfInBounds_toArray, List.set_cons_zero, List.set_cons_succ]
            refine wpAnyH_take (i := 14) (v := ?_) (by simp only [List.getElem?_toArray, List.getElem?_cons_succ, List.getElem?_cons_zero]; rfl) (by kernel_rfl) (by kernel_rfl) (by kernel_rfl) (fun _ _ _ h => h) (Or.inl ⟨by rfl, ?_⟩) (by assumption) ?_
            rotate_left
            · intro w hSw
              try dsimp only at hSw
              go_simp
              try with_reducible rfl
            try simp only [Act.put, List.setIfInBounds_toArray, List.set_cons_zero, List.set_cons_succ]
            refine wpAnyH_take (i := 15) (v := ?_) (by simp only [List.getElem?_toArray, List.getElem?_cons_succ, List.getElem?_cons_zero]; rfl) (by kernel_rfl) (by kernel_rfl) (by kernel_rfl) (fun _ _ _ h => h) (Or.inl ⟨by rfl, ?_⟩) (by assumption) ?_
            rotate_left
            · intro w hSw
              try dsimp only at hSw
              go_simp
              try with_reducible rfl
            try simp only [Act.put, List.setIfInBounds_toArray, List.set_cons_zero, List.set_cons_succ]
            refine wpAnyH_done (by kernel_rfl) ?_ _
            refine NoPanic.normal ?_
            clear hHeld OA OB OA2
            go_wp2_with fail
            refine ⟨⟨i + 1, X', p2, n2, cc2, T', congrArg _ (by first | rw [HI1.out] | rfl), HIN.out, HI8.out, KU⟩, ?_⟩
            first | exact meas_nv HI8.out HI1.out | exact meas_nw HI8.out
        · rcases (by omega : ¬ i < n ∨ (i < n ∧ ¬ i < 8)) with hq1 | ⟨hq1, hq2⟩
          · have hjl : ¬ (i : Int) < n := by omega
            clear hlt hq1 hi
            go_wp2_with fail
            go_meet
            case rel => exact ⟨X, p', n', c', T, K⟩
          · have hjl : (i : Int) < n := by omega
            have hjl6 : ¬ (i : Int) < 8 := by omega
            clear hlt hq1 hq2 hi
            go_wp2_with fail
            go_meet
            case rel => exact ⟨X, p', n', c', T, K⟩
  case rest =>
    clear KQ
    obtain ⟨X, p', n', c', T, K⟩ := hcut
    rename World => w4
    go_upto_block 2 with fail
    go_cut [13] from 98 to 142 (fun v13 wr => ∃ (q : Option Addr) (m c : Nat) (L : List Key), v13 = .slice q m c ∧ Hid (HOwn wr w4.heap.size (.slice q m c) L) ∧ Hid (H32 L ∧ L.length ≤ 5) ∧ Hid (Below w4.heap.size w4 wr))
    case first =>
      as_aux_lemma =>
        go_wp2_with fail
        go_loopw [13, 14] (fun v13 v14 wr => ∃ (q : Option Addr) (m c k : Nat), v13 = .slice q m c ∧ v14 = .int .i64 k ∧ k ≤ na ∧ k ≤ 5 ∧ Hid (∃ L, HOwn wr w4.heap.size (.slice q m c) L ∧ H32 L ∧ L.length ≤ k) ∧ Hid (Below w4.heap.size w4 wr)) (fun _ v14 _ => 5 - (intOf v14).toNat)
        case atStart => exact ⟨none, 0, 0, 0, rfl, rfl, Nat.zero_le _, Nat.zero_le _, Lib.hid ⟨[], World.ownsRow_nil _ _ _ _, H32.nil, Nat.le_refl _⟩, Lib.hid (Below.refl _ _)⟩
        case round =>
          obtain ⟨q, m, c, k, rfl, rfl, hk, hk5, OL, B⟩ := hrel
          by_cases hlt : k < na ∧ k < 5
          · obtain ⟨h1, h2⟩ := hlt
            have hl1 : (k : Int) < na := by omega
            have hl2 : (k : Int) < 5 := by omega
            have hl0 : (0 : Int) ≤ k := by omega
            have HI1 : Hid (wrap64 ((k : Int) + 1) = ((k + 1 : Nat) : Int)) := Lib.hid (by unfold wrap64; omega)
            have HK5 := Lib.hid h2
            have HKN := Lib.hid h1
            have hkE : k < os.length := by rw [← HNA.out]; exact h1
            obtain ⟨a, ha, hca⟩ := HOS.out.at' (List.getElem?_eq_getElem hkE)
            subst ha
            obtain ⟨x, hx⟩ : ∃ x, x = os[k] := ⟨_, rfl⟩
            rw [← hx] at hca
            have hcx := (mild_below (K.out.k.bel.trans (B.out.mono K.out.k.bel.size))).cell hca
            obtain ⟨L, oL, hL32, hLl⟩ := OL.out
            have OL1 := Lib.hid oL
            have HL32 := Lib.hid hL32
            have HLL := Lib.hid hLl
            have HLO := Lib.hid (own_lt oL)
            clear hkE hx hca h1 h2 hk hk5 OL oL hL32 hLl
            go_wp2_with fail
            refine (hash_to wr x).mono ?_
            rintro e w5 ⟨rfl, b5⟩
            obtain ⟨y, hy⟩ : ∃ y, y = hh x := ⟨_, rfl⟩
            have hy32 : y.length = 32 := by rw [hy]; exact hh_length _
            rw [← hy]
            have HY := Lib.hid hy32
            have st := hst_cells y HY.out w5
            have hks : (hv y).size = 32 := by rw [hv_size, HY.out]
            have B5 := Lib.hid (B.out.trans (b5.mono B.out.size))
            have O5 := Lib.hid (own_below OL1.out b5)
            have B6 := Lib.hid (B5.out.alloc B5.out.size (.cells (hv y) 40))
            have HB6 := Lib.hid (heap_alloc_last w5 (.cells (hv y) 40))
            have O6 := Lib.hid (own_below O5.out (below_al11 w5 (.cells (hv y) 40)))
            have HL5 : Hid (∀ j, (Value.slice q m c).ownBlock = some j → j < w5.heap.size) := Lib.hid (fun j hj => Nat.lt_of_lt_of_le (HLO.out j hj) b5.size)
            clear hy hy32 b5 hcx B OL1
            go_upto_region 25 with fail
            clear st
            generalize w5.alloc (.cells (hv y) 40) = w6 at *
            generalize w5.heap.size = hb at *
            have hld6 := hld_row (w := w6) HY.out HB6.out
            have AL := Lib.hid (below_al11 w6 (.cells (hv y) 40))
            have O7 := Lib.hid (own_below O6.out AL.out)
            have HB7 := Lib.hid ((mild_below AL.out).cells HB6.out)
            have HN7 := Lib.hid (heap_alloc_last w6 (.cells (hv y) 40))
            have B7 := Lib.hid (B6.out.trans (AL.out.mono B6.out.size))
            go_upto_region 26 with (first
              | (at_builtin; refine push_loc rfl (.tmp 113) (.tmp 115) rfl w4.heap.size (.slice q m c) L w6.heap.size y HY.out rfl O7.out rfl (by have := range_row HN7.out; rwa [hv_list] at this) (by have := HLL.out; have := HK5.out; omega) B7.out.size ?_; intro v8 w8 o8 oth8 loc8; have O8 := Lib.hid o8; have OT8 := Lib.hid oth8; clear o8 oth8 loc8)
              | (refine build_one y HY.out rfl ?_))
            have HB8 : Hid (w8.heap[hb]? = some (.cells (hv y) 40 (0, 0))) := Lib.hid ((OT8.out.block hb (Array.getElem?_eq_some_iff.1 HB7.out).1 (fun e => by have := HL5.out hb e; omega)).trans HB7.out)
            have B8 := Lib.hid (B7.out.trans (OT8.out.below B7.out.size (fun k hk => own_from O7.out k hk)))
            obtain ⟨q8, m8, c8, rfl, hn8⟩ := own_sh O8.out
            have HLA : Hid (H32 (L ++ [y]) ∧ (L ++ [y]).length ≤ k + 1) := Lib.hid ⟨HL32.out.app (H32.one HY.out), by have := HLL.out; simp; omega⟩
            clear hn8 OT8 O7 HN7 HB7 O6 HB6 O5 B5 B6 B7 AL hld6 HLO HL5
            generalize L ++ [y] = L8 at *
            have K8 := Lib.hid (K.out.kb B8.out)
            have hld8 := hld_row (w := w8) HY.out HB8.out
            obtain ⟨h0, hh0⟩ : ∃ h0, h0 = (aget y (gr X)).isSome := ⟨_, rfl⟩
            have HH0 := Lib.hid hh0
            have HPA := Lib.hid (parents_to w8 g bm X y HY.out K8.out.k.ga (K8.out.wf.parm 1000000 (by decide)))
            rw [← hh0] at HPA
            clear hh0
            go_wp2_with fail
            refine HPA.out.mono ?_
            rintro e w9 ⟨vp, rfl, op, b9⟩
            obtain ⟨F, hF⟩ : ∃ F, F = (aget y (gr X)).getD [] := ⟨_, rfl⟩
            rw [← hF] at op
            obtain ⟨pp, lp, cp, rfl, hlp⟩ := own_sh op
            have HF := Lib.hid hF
            have HF32 : Hid (H32 F ∧ F.length ≤ 1000000) := Lib.hid (by
              rw [hF, K8.out.eq, gr_get]
              cases hg : aget y T with
              | none => exact ⟨H32.nil, Nat.zero_le _⟩
              | some v => exact K8.out.r.p32 _ (aget_mem hg))
            have OP := Lib.hid (HSeen.own op)
            have B9 := Lib.hid (B8.out.trans (b9.mono B8.out.size))
            have O9 := Lib.hid (own_below O8.out b9)
            have HB9 := Lib.hid ((mild_below b9).cells HB8.out)
            have K9 := Lib.hid (K8.out.kb b9)
            have hld9 := hld_row (w := w9) HY.out HB9.out
            clear hF hlp op b9 hld8 K8 O8 HB8 B8
            go_wp2_with fail
            have HRH := rhas_to w9 rg p' n' c' T y HY.out K9.out.r
            rw [← K9.out.eq, ← HH0.out] at HRH
            refine HRH.mono ?_
            clear HRH
            rintro e wa ⟨rfl, ba⟩
            have BA := Lib.hid (B9.out.trans (ba.mono B9.out.size))
            have OA := Lib.hid (own_below O9.out ba)
            have HBA := Lib.hid ((mild_below ba).cells HB9.out)
            have KA := Lib.hid (K9.out.kb ba)
            have OPA := Lib.hid (OP.out.mild (mild_below ba))
            have hlda := hld_row (w := wa) HY.out HBA.out
            clear ba hld9 K9 O9 HB9 B9 OP
            go_wp2_with fail
            have HRH := has_to wa g bm X y HY.out KA.out.k.ga
            rw [← HH0.out] at HRH
            refine HRH.mono ?_
            clear HRH
            rintro e wb ⟨rfl, ba⟩
            have BB := Lib.hid (BA.out.trans (ba.mono BA.out.size))
            have OB := Lib.hid (own_below OA.out ba)
            have HBB := Lib.hid ((mild_below ba).cells HBA.out)
            have KB := Lib.hid (KA.out.kb ba)
            have OPB := Lib.hid (OPA.out.mild (mild_below ba))
            have hldb := hld_row (w := wb) HY.out HBB.out
            clear ba hlda KA OA HBA BA OPA
            go_wp2_with fail
            refine (rparents_to wb rg p' n' c' T y HY.out KB.out.r).mono ?_
            rintro e wc ⟨vr, rfl, hsr, ba⟩
            rw [← KB.out.eq, ← HF.out] at hsr
            obtain ⟨pr, cr, rfl⟩ := hsr.shape
            have HSR := Lib.hid hsr
            have BC := Lib.hid (BB.out.trans (ba.mono BB.out.size))
            have OC := Lib.hid (own_below OB.out ba)
            have KC := Lib.hid (KB.out.kb ba)
            have OPC := Lib.hid (OPB.out.mild (mild_below ba))
            obtain ⟨lr, hlr⟩ : ∃ lr, lr = F.length := ⟨_, rfl⟩
            rw [← hlr] at HSR ⊢
            clear ba hldb hsr hlr KB OB HBB BB OPB
            go_wp2_with fail
            have HSA := same_two wc (.slice pp lp cp) (.slice pr lr cr) F F OPC.out HSR.out HF32.out.1 HF32.out.1 HF32.out.2 HF32.out.2
            rw [decide_eq_true rfl] at HSA
            refine HSA.mono ?_
            clear HSA
            rintro e wd ⟨rfl, z, rfl⟩
            have BD := Lib.hid (BC.out.trans ((blw_qt wc.heap.size z wc).mono BC.out.size))
            have OD := Lib.hid (own_below OC.out (blw_qt wc.heap.size z wc))
            clear OPC HSR OC BC KC
            generalize wc.drewN z = wd at *
            go_wp2_with fail
            refine ⟨⟨q8, m8, c8, k + 1, rfl, congrArg _ (by first | rw [HI1.out] | rfl), HKN.out, HK5.out, Lib.hid ⟨L8, OD.out, HLA.out.1, HLA.out.2⟩, BD⟩, ?_⟩
            first | exact meas_nv HK5.out HI1.out | exact meas_nw HK5.out
          · rcases (by omega : ¬ k < na ∨ (k < na ∧ ¬ k < 5)) with hq1 | ⟨hq1, hq2⟩
            · have hjl : ¬ (k : Int) < na := by omega
              clear hlt hq1 hk
              go_wp2_with fail
              go_meet
              case rel =>
                obtain ⟨L, h1, h2, h3⟩ := OL.out
                exact ⟨q, m, c, L, rfl, Lib.hid h1, Lib.hid ⟨h2, Nat.le_trans h3 hk5⟩, B⟩
            · have hjl : (k : Int) < na := by omega
              have hjl6 : ¬ (k : Int) < 5 := by omega
              clear hlt hq1 hq2 hk
              go_wp2_with fail
              go_meet
              case rel =>
                obtain ⟨L, h1, h2, h3⟩ := OL.out
                exact ⟨q, m, c, L, rfl, Lib.hid h1, Lib.hid ⟨h2, Nat.le_trans h3 hk5⟩, B⟩
    case rest =>
      obtain ⟨q, m, c, L, rfl, OL, HL, B⟩ := hcut
      rename World => w5
      as_aux_lemma =>
        have KW := Lib.hid (K.out.kb B.out)
        have HSL := Lib.hid (HSeen.own OL.out)
        have HLN : Hid (L.length ≤ 1000000) := Lib.hid (Nat.le_trans HL.out.2 (by decide))
        have HAL : Hid (H32 (ancs (gr X) L) ∧ (ancs (gr X) L).length ≤ 4611686018427387904) := Lib.hid ⟨sub_h32 K.out.wf (ancs_sub _ _), Nat.le_trans (Nat.le_trans (ancs_len _ _) K.out.wf.few) (by decide)⟩
        have HDL : Hid (H32 (descs (gr X) L) ∧ (descs (gr X) L).length ≤ 4611686018427387904) := Lib.hid ⟨sub_h32 K.out.wf (descs_sub _ _), Nat.le_trans (Nat.le_trans (descs_len _ _) K.out.wf.few) (by decide)⟩
        obtain ⟨AL, hAL⟩ : ∃ AL, AL = ancs (gr X) L := ⟨_, rfl⟩
        obtain ⟨DL, hDL⟩ : ∃ DL, DL = descs (gr X) L := ⟨_, rfl⟩
        rw [← hAL] at HAL
        rw [← hDL] at HDL
        have HAE := Lib.hid hAL
        have HDE := Lib.hid hDL
        have HM9 : Hid (L.length + left T (List.replicate n' false) ≤ 900000) := Lib.hid (by
          have h1 := left_le T (List.replicate n' false) 4 (fun x hx => (K.out.wft.par (x.1, x.2.2) (mem_gr.2 ⟨x, hx, rfl⟩)).1)
          have h2 := K.out.wft.few
          rw [gr_len] at h2
          have h3 := HL.out.2
          omega)
        clear hAL hDL
        go_wp2_with fail
        refine (ancestors_to w5 g bm X (.slice q m c) L KW.out.k.ga HSL.out HL.out.1 HLN.out (Nat.le_trans KW.out.wf.xlen (by decide)) KW.out.wf.clo (KW.out.wf.parm 1000 (by decide))).mono ?_
        rintro e w6 ⟨vA, rfl, oA, bk⟩
        rw [← HAE.out] at oA
        obtain ⟨pA, nA, cA, rfl, hnA⟩ := own_sh oA
        clear hnA
        have K6 := Lib.hid (KW.out.kb bk)
        have S6 := Lib.hid (HSL.out.mild (mild_below bk))
        have B6 := Lib.hid (B.out.trans (bk.mono B.out.size))
        have OA := Lib.hid oA
        clear oA bk
        go_wp2_with fail
        refine (ranc_to w6 rg p' n' c' T K6.out.r (.slice q m c) L S6.out HL.out.1 K6.out.wft.clo HM9.out).mono ?_
        rintro e w7 ⟨vB, rfl, oB, bk⟩
        rw [← K6.out.eq, ← HAE.out] at oB
        obtain ⟨pB, nB, cB, rfl, hnB⟩ := own_sh oB
        clear hnB
        have K7 := Lib.hid (K6.out.kb bk)
        have S7 := Lib.hid (S6.out.mild (mild_below bk))
        have B7 := Lib.hid (B6.out.trans (bk.mono B6.out.size))
        have OA7 := Lib.hid (own_below OA.out bk)
        have OB := Lib.hid oB
        clear oB bk
        go_wp2_with fail
        refine (same_any w7 _ _ _ _ AL HAL.out.1 OA7.out OB.out HAL.out.2).mono ?_
        rintro e w8 ⟨rfl, z, rfl⟩
        have K8 := Lib.hid (K7.out.kb (blw_qt w7.heap.size z w7))
        have S8 := Lib.hid (S7.out.mild (mild_below (blw_qt w7.heap.size z w7)))
        have B8 := Lib.hid (B7.out.trans ((blw_qt w7.heap.size z w7).mono B7.out.size))
        clear OA OB OA7 K7 S7 B7 K6 S6 B6
        generalize w7.drewN z = w8 at *
        go_wp2_with fail
        refine (descendants_to w8 g bm X (.slice q m c) L K8.out.k.ga S8.out HL.out.1 HLN.out K8.out.wf.xlen K8.out.wf.clo K8.out.wf.parn).mono ?_
        rintro e w9 ⟨vA, rfl, oA, bk⟩
        rw [← HDE.out] at oA
        obtain ⟨pA, nA, cA, rfl, hnA⟩ := own_sh oA
        clear hnA
        have K9 := Lib.hid (K8.out.kb bk)
        have S9 := Lib.hid (S8.out.mild (mild_below bk))
        have B9 := Lib.hid (B8.out.trans (bk.mono B8.out.size))
        have OA := Lib.hid oA
        clear oA bk
        go_wp2_with fail
        refine (rdesc_to w9 rg p' n' c' T K9.out.r (.slice q m c) L S9.out HL.out.1 HLN.out K9.out.wft.clo).mono ?_
        rintro e wa ⟨vB, rfl, oB, bk⟩
        rw [← K9.out.eq, ← HDE.out] at oB
        obtain ⟨pB, nB, cB, rfl, hnB⟩ := own_sh oB
        clear hnB
        have Ba := Lib.hid (B9.out.trans (bk.mono B9.out.size))
        have OAa := Lib.hid (own_below OA.out bk)
        have OB := Lib.hid oB
        clear oB bk
        go_wp2_with fail
        refine (same_any wa _ _ _ _ DL HDL.out.1 OAa.out OB.out HDL.out.2).mono ?_
        rintro e wb ⟨rfl, z, rfl⟩
        have Bb := Lib.hid (Ba.out.trans ((blw_qt wa.heap.size z wa).mono Ba.out.size))
        generalize wa.drewN z = wb at *
        go_wp2_with fail
        go_ret
        exact ⟨rfl, K.out.k.bel.trans (Bb.out.mono K.out.k.bel.size)⟩
end Go.Proofs.YthfkmfepeafgjaaGreatDoor
