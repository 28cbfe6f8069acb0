/- OopsChains returns true and makes new memory alone. Conditions: errors.errorType holds what its text lays; the table's cells are there; what comes in is not too long. -/
import Derived.Test.YtageblggakfbdaaDoorOopsHnd
import Derived.Deep.RegionWith
import Derived.Deep.RegionHeld3
import Derived.Deep.CutBlock
import Derived.Deep.CutRange
namespace Go.Proofs.YtageblggakfbdaaDoor
open Go.RowKit
attribute [local go_sem ↓] ld_open eq_open

set_option maxRecDepth 100000 in
set_option maxHeartbeats 8000000 in
theorem chains_walk (C : Ctr) (w : World) (kn on : Int) (ao : Option Addr) (len cap : Nat) (X N : Nat → Int) (S : Nat → ByteArray) (hg : Glob w) (ht : Tab w) (hlen : len ≤ 9223372036854775807)
    (hst : Hid (∀ i, i < len → FullLayer w ao i (X i) (N i) (S i))) :
    Calls Tryd.prog 4 #[.int .i64 kn, .slice ao len cap, .int .i64 on] w fun e w' => e = .returned (.bool true) ∧ Below w.heap.size w w' := by
  obtain ⟨kk, hk1, hk2, hk3⟩ : ∃ k, k ≤ len ∧ k ≤ 20 ∧ (len ≤ k ∨ 20 ≤ k) := ⟨min len 20, by omega, by omega, by omega⟩
  have hr0 : 0 ≤ kn % 19 := Int.emod_nonneg _ (by decide)
  have hr1 : kn % 19 < 19 := Int.emod_lt_of_pos _ (by decide)
  have hP := Lib.hid (pick_any w kn 19 (by decide) (by decide))
  generalize kn % 19 = r at *
  have H0 : Hid (Cs w (w.alloc (.cells zeros 23)) w.heap.size (1 + r) [] (.slice none 0 0)) := by
    have b := (Below.refl w.heap.size w).alloc (Nat.le_refl _) (.cells zeros 23)
    exact Lib.hid ⟨b, hg.kb b, ht.kb b, trivial, (fun x hx => by cases hx), World.ownsRow_nil _ _ _ _, range_new w zeros _, there_row (heap_alloc_last w _), ⟨_, heap_alloc_last w _⟩, Nat.le_refl _⟩
  have hne1 : w.heap.size ≠ 0 := Nat.ne_of_gt (World.block_lt_of_cell? w _ hg)
  have hne2 : w.heap.size ≠ 1 := by
    obtain ⟨z, hz⟩ := ht 0 (by decide)
    exact Nat.ne_of_gt (World.block_lt_of_cell? w _ hz)
  clear hg ht
  go_enter Tryd.func4, Tryd.ntmps4
  go_wp2_with fail
  refine hP.out.mono ?_
  rintro e _ ⟨rfl, rfl⟩
  go_upto_block 0 with fail
  go_cut [8, 9, 10, 12] from 27 to 70 (fun t8 t9 t10 t12 wr => ∃ L : List Lnk, t8 = val L (kind (1 + r)) ∧ L.length ≤ 20 ∧ t10 = .int .i64 ((fplace L).getD (-1)) ∧ t12 = .bool (fwhich L).isSome ∧ Hid (Cs w wr w.heap.size (1 + r) L t9))
  case first =>
    go_wp2_with fail
    go_loopw [8, 9, 10, 12, 13] (fun t8 t9 t10 t12 t13 wr => ∃ (j : Nat) (L : List Lnk), j ≤ kk ∧ t13 = .int .i64 j ∧ t8 = val L (kind (1 + r)) ∧ L.length ≤ j ∧ t10 = .int .i64 ((fplace L).getD (-1)) ∧ t12 = .bool (fwhich L).isSome ∧ Hid (Cs w wr w.heap.size (1 + r) L t9)) (fun _ _ _ _ t13 _ => 20 - (intOf t13).toNat)
    case atStart => exact ⟨0, [], Nat.zero_le _, rfl, rfl, Nat.le_refl _, rfl, rfl, H0⟩
    case round =>
      obtain ⟨j, L, hj, rfl, rfl, hLj, rfl, rfl, HC⟩ := hrel
      clear hP H0
      by_cases hlt : j < kk
      · obtain ⟨⟨b, o, rfl, hb, c0, c1, c2⟩, hs⟩ := hst.out j (by omega)
        have c0' := (HC.out.bel.cell (p := ⟨b, o + j * 3, none⟩) hb).trans c0
        have c1' := (HC.out.bel.cell (p := ⟨b, o + j * 3 + 1, none⟩) hb).trans c1
        have c2' := (HC.out.bel.cell (p := ⟨b, o + j * 3 + 2, none⟩) hb).trans c2
        have hj20 : j < 20 := by omega
        have hjl : j < len := by omega
        clear c0 c1 c2 hk3
        generalize X j = x0 at *
        generalize N j = x1 at *
        generalize S j = x2 at *
        have hc3 : x0 % 3 = 0 ∨ x0 % 3 = 1 ∨ x0 % 3 = 2 := by omega
        have hnn := fun t x => nil_iface t x
        have HA := Lib.hid ((Below.refl wr.heap.size wr).alloc (Nat.le_refl _) (.cells #[.int .i64 x0, .int .i64 x1, .string x2] 50))
        have hro := heap_alloc_new wr (.cells #[.int .i64 x0, .int .i64 x1, .string x2] 50)
        have HC1 := Lib.hid (HC.out.kb HA.out)
        have HRO := Lib.hid hro
        clear hro
        rcases hc3 with hr | hr | hr
        all_goals
          have HR := Lib.hid hr
          clear hr
          go_wp2_with fail
          refine (pick_to _ _ 3 _ (by omega) (by omega) HR.out).mono ?_
          rintro e _ ⟨rfl, rfl⟩
          go_wp2_with fail
          generalize wr.alloc (.cells #[.int .i64 x0, .int .i64 x1, .string x2] 50) = w1 at *
        · refine (wrap_ch w1 x2 L (kind (1 + r)) (base_kind _) (meas_kind _ _) HC1.out.ch).mono ?_
          rintro e w2 ⟨rfl, R1, R2, _⟩
          have hcl2 := (R2.cell (p := ⟨wr.heap.size, 2, none⟩) (Array.getElem?_eq_some_iff.1 HRO.out).1).trans (cell_obj HRO.out 2 (u := .string x2) rfl)
          have HC2 := Lib.hid (HC1.out.kb R2)
          have HCh := Lib.hid R1
          have HB := Lib.hid R2
          clear R1 R2
          have hown : (w2.alloc (.cells #[.string x2] 9)).ownsRow w2.heap.size 9 1 (.slice (some ⟨w2.heap.size, 0, none⟩) 1 1) 1 (strs [x2]) := ⟨rfl, .inr ⟨w2.heap.size, 1, #[.string x2], rfl, Nat.le_refl _, heap_alloc_new w2 _, Nat.le_refl _, by simp [maxLen], rfl, rfl⟩⟩
          have HA2 := Lib.hid ((Below.refl w2.heap.size w2).alloc (Nat.le_refl _) (.cells #[.string x2] 9))
          have HO3 := Lib.hid (HC2.out.kb HA2.out).own
          have HNL := Lib.hid (names_length L)
          go_wp2_with (at_builtin; refine append_strs (by rfl) (.tmp 58) (.tmp 59) (by rfl) w2.heap.size w.heap.size _ [x2] (by rfl) hown _ (names L) (by rfl) HO3.out (by have := HNL.out; simp only [List.length_cons, List.length_nil]; omega) HA2.out.size ?_; intro v' w3 R1 R2; have HB3 := Lib.hid (HA2.out.trans (below_row2 R2 HA2.out.size fun k hk => by cases hk; exact Nat.le_refl _)); have HO := Lib.hid (R1.mono HC2.out.bel.size); clear R1 R2)
          exact ⟨⟨j + 1, .step w1.heap.size x2 :: L, by omega, by go_num, rfl, by simp only [List.length_cons]; omega, rfl, rfl, Lib.hid (HC1.out.step (HB.out.trans (HB3.out.mono HB.out.size)) (HCh.out.kb HB3.out) hs HO.out)⟩, by simp [intOf]; omega⟩
        · have hq0 := Int.emod_nonneg x1 (show (1000 : Int) ≠ 0 by decide)
          have hq1 := Int.emod_lt_of_pos x1 (show (0 : Int) < 1000 by decide)
          have HP := Lib.hid (pick_any w1 x1 1000 (by decide) (by decide))
          generalize x1 % 1000 = n at *
          refine HP.out.mono ?_
          rintro e _ ⟨rfl, rfl⟩
          clear HP
          go_wp2_with fail
          refine (at_ch w1 n L (kind (1 + r)) (base_kind _) (meas_kind _ _) HC1.out.ch).mono ?_
          rintro e w2 ⟨rfl, R1, R2, _⟩
          have HC2 := Lib.hid (HC1.out.place R2 R1 ⟨hq0, by omega⟩)
          clear R1 R2
          go_wp2_with fail
          exact ⟨⟨j + 1, .place w1.heap.size n :: L, by omega, by go_num, rfl, by simp only [List.length_cons]; omega, rfl, rfl, HC2⟩, by simp [intOf]; omega⟩
        · refine (hash_any w1 x1).mono ?_
          rintro e w2 ⟨rfl, R⟩
          have HC2 := Lib.hid (HC1.out.kb R)
          have HT := Lib.hid HC2.out.thr
          have HW := Lib.hid (HC2.out.stored (hsh_size x1) hne1 hne2)
          clear R
          go_wp2_with (first
            | (refine load_to HW.out.rng Tryd.underlying23 rfl (size_hash' (hsh x1) rfl) ?hx ?_; (case hx => rfl))
            | (refine store_to HT.out (size_hash (hsh x1) rfl) (hsh_one x1) ?hx ?hy ?_; (case hx => rfl); (case hy => simp [Act.eval])))
          refine (of_ch _ (hsh x1) (hsh_size x1) L (kind (1 + r)) (base_kind _) (meas_kind _ _) HW.out.ch).mono ?_
          rintro e w3 ⟨p, rfl, R1, R2, _⟩
          have HC3 := Lib.hid (HW.out.which R2 R1)
          clear R1 R2 HW HT HC2
          go_wp2_with fail
          exact ⟨⟨j + 1, .which p (hsh x1) :: L, by omega, by go_num, rfl, by simp only [List.length_cons]; omega, rfl, rfl, HC3⟩, by simp [intOf]; omega⟩
      · by_cases hjl : len ≤ j
        · clear hlt hk3
          go_wp2_with fail
          go_meet
          case rel => exact ⟨L, rfl, by omega, rfl, rfl, HC⟩
        · have hj20 : 20 ≤ j := by omega
          have hjl2 : j < len := by omega
          clear hlt hk3 hjl
          go_wp2_with fail
          go_meet
          case rel => exact ⟨L, rfl, by omega, rfl, rfl, HC⟩
  case rest =>
    obtain ⟨L, rfl, hLl, rfl, rfl, HC⟩ := hcut
    clear hP H0 hst hk1 hk2 hk3 hlen
    have hA1 : 1 ≤ 1 + r := by omega
    have hA2 : 1 + r ≤ 19 := by omega
    generalize 1 + r = A at *
    clear hr0 hr1 hne1 hne2
    go_wp2_with fail
    refine (C.steps_any wc L (kind A) (base_kind _) HC.out.glob HC.out.ch (by omega)).mono ?_
    rintro e w3 ⟨vs, rfl, R1, R2⟩
    have HC3 := Lib.hid (HC.out.kb R2)
    have HV3 := Lib.hid R1
    clear R1 R2 HC
    go_wp2_with fail
    refine (known_any C w3 HC3.out.glob).mono ?_
    rintro e w4 ⟨rfl, R⟩
    have HC4 := Lib.hid (HC3.out.kb R)
    have HV4 := Lib.hid (own_kb HV3.out (fun k hk => R.block k (HV3.out.lt k hk).2))
    clear R HV3 HC3
    obtain ⟨a1, c1, rfl⟩ := own_len HV4.out
    obtain ⟨a2, c2, rfl⟩ := own_len HC4.out.own
    have hnl : (names L).length ≤ 20 := Nat.le_trans (names_length L) hLl
    obtain ⟨n, hn⟩ : ∃ n, (names L).length = n := ⟨_, rfl⟩
    have HN := Lib.hid hn
    rw [hn] at HV4 hnl ⊢
    clear hn
    go_wp2_with fail
    go_loopw [16] (fun t16 wr => ∃ i : Nat, i ≤ n ∧ t16 = .int .i64 i ∧ Hid (Cs w wr w.heap.size A L (.slice a2 n c2)) ∧ Hid (wr.ownsRow wc.heap.size 9 1 (.slice a1 n c1) n (strs (names L)))) (fun t16 _ => n - (intOf t16).toNat)
    case atStart => exact ⟨0, Nat.zero_le _, rfl, by rw [← HN.out]; exact HC4, HV4⟩
    case round =>
      obtain ⟨i, hi, rfl, HC5, HV5⟩ := hrel
      clear HC4 HV4
      by_cases hlt : i < n
      · obtain ⟨s, hs⟩ : ∃ s, (names L)[i]? = some s := ⟨_, List.getElem?_eq_getElem (by rw [HN.out]; exact hlt)⟩
        obtain ⟨g1, rfl, hc1, hx1⟩ := own_at HV5.out i hlt hs
        obtain ⟨g2, rfl, hc2, hx2⟩ := own_at (by have h := HC5.out.own; rw [HN.out] at h; exact h) i hlt hs
        have HC6 := Lib.hid (HC5.out.kb (below_drew2 wr))
        have HV6 : Hid (wr.drew.ownsRow wc.heap.size 9 1 (.slice (some ⟨g1, 0, none⟩) n c1) n (strs (names L))) := Lib.hid HV5.out
        clear hs HC5 HV5
        go_wp2_with fail
        go_region
        all_goals
          go_wp2_with fail
          exact ⟨⟨i + 1, by omega, by go_num, HC6, HV6⟩, by simp [intOf]; omega⟩
      have hin : i = n := by omega
      subst hin
      clear hlt HV5 HN hi hnl
      -- TAIL
      rcases hfp : fplace L with _ | m
      · rcases hfw : fwhich L with _ | q
        · have HGD := Lib.hid HC5.out.good
          have hwh := C.where_any wr L (kind A) (base_kind _) HC5.out.glob HC5.out.ch (by omega)
          rw [hfp] at hwh
          simp only [Option.getD_none, Option.isSome_none] at hwh
          simp only [Option.getD_none, Option.isSome_none]
          have HWH := Lib.hid hwh
          clear hwh
          go_wp2_with fail
          refine HWH.out.mono ?_
          rintro e w5 ⟨rfl, R⟩
          have HC6 := Lib.hid (HC5.out.kb R)
          clear R HC5 HWH
          have hws := C.whose_any w5 L (kind A) (base_kind _) HC6.out.glob HC6.out.ch (by omega) (by intro h hh; rw [hfw] at hh; cases hh)
          rw [hfw] at hws
          simp only [Option.getD_none, Option.isSome_none] at hws
          have HWS := Lib.hid hws
          clear hws
          have hst := st_cells zeros rfl zeros_one
          go_wp2_with fail
          refine HWS.out.mono ?_
          rintro e w6 ⟨rfl, R⟩
          have HC7 := Lib.hid (HC6.out.kb R)
          clear R HC6 HWS
          have HA7 := Lib.hid ((Below.refl w6.heap.size w6).alloc (Nat.le_refl _) (.cells zeros 23))
          have HC8 := Lib.hid (HC7.out.kb HA7.out)
          have HRW := Lib.hid (heap_alloc_last w6 (.cells zeros 23))
          have HPO := Lib.hid (pick_any (w6.alloc (.cells zeros 23)) on 19 (by decide) (by decide))
          go_wp2_with fail
          refine HPO.out.mono ?_
          rintro e _ ⟨rfl, rfl⟩
          clear HPO hst HA7
          generalize w6.alloc (.cells zeros 23) = w7 at *
          go_wp2_with fail
          generalize 1 + on % 19 = o1 at *
          have hcomm : (o1 == A) = (A == o1) := beq_comm2 o1 A
          obtain ⟨tt, tx, tf, trv, hv, hme, hcf, hT⟩ := text_of C L A hA1 hA2 HGD.out (by omega)
          have HV := Lib.hid hv
          have HT := Lib.hid hT
          clear hv hT
          refine (C.kind_any w7 L (kind A) (base_kind _) HC8.out.glob HC8.out.ch (by omega)).mono ?_
          rintro e q1 ⟨rfl, R⟩
          rw [show kindOf (kind A) = A from rfl]
          have G1 := Lib.hid (HC8.out.kb R)
          clear R HC7 HC8
          go_wp2_with fail
          refine (is_any q1 L A A G1.out.ch).mono ?_
          rintro e _ ⟨rfl, rfl⟩
          rw [show (A == A) = true from by simp]
          go_wp2_with fail
          refine (is_any q1 L A o1 G1.out.ch).mono ?_
          rintro e _ ⟨rfl, rfl⟩
          obtain ⟨bb, hbb⟩ : ∃ bb, (A == o1) = bb := ⟨_, rfl⟩
          rw [hbb] at hcomm ⊢
          have HBB := Lib.hid hbb
          clear hbb
          rw [HV.out]
          go_wp2_with fail
          refine (HT.out q1 G1.out.glob G1.out.tab G1.out.ch).mono ?_
          rintro e q2 ⟨⟨sx, rfl, hsx⟩, R⟩
          have hnt := nonempty sx hsx
          have HNE := Lib.hid (List.isEmpty_eq_false_iff.2 hnt)
          have G2 := Lib.hid (G1.out.kb R)
          clear R
          go_wp2_with fail
          have hk := khand_ch q2 L A G2.out.glob G2.out.ch
          rw [HV.out] at hk
          refine hk.mono ?_
          rintro e q3 ⟨rfl, R⟩
          have G3 := Lib.hid (G2.out.kb R)
          clear R hk
          go_wp2_with fail
          have hk := athand_ch q3 L A G3.out.glob G3.out.ch
          rw [HV.out, hfp] at hk
          simp only [Option.getD_none] at hk
          refine hk.mono ?_
          rintro e q4 ⟨rfl, R⟩
          have G4 := Lib.hid (G3.out.kb R)
          clear R hk
          go_wp2_with fail
          go_ret
          exact ⟨by show Ending.returned (.bool (!sx.toList.isEmpty)) = _; rw [HNE.out]; rfl, G4.out.bel⟩
        · obtain ⟨nn, rfl⟩ := fwhich_good HC5.out.good q hfw
          have HGD := Lib.hid HC5.out.good
          have hwh := C.where_any wr L (kind A) (base_kind _) HC5.out.glob HC5.out.ch (by omega)
          rw [hfp] at hwh
          simp only [Option.getD_none, Option.isSome_none] at hwh
          simp only [Option.getD_none, Option.isSome_some]
          have HWH := Lib.hid hwh
          clear hwh
          go_wp2_with fail
          refine HWH.out.mono ?_
          rintro e w5 ⟨rfl, R⟩
          have HC6 := Lib.hid (HC5.out.kb R)
          clear R HC5 HWH
          have hws := C.whose_any w5 L (kind A) (base_kind _) HC6.out.glob HC6.out.ch (by omega) (by intro h hh; rw [hfw] at hh; cases hh; exact hsh_one nn)
          rw [hfw] at hws
          simp only [Option.getD_some, Option.isSome_some] at hws
          have HWS := Lib.hid hws
          clear hws
          have hst := st_cells (hsh nn) (hsh_size nn) (hsh_one nn)
          go_wp2_with fail
          refine HWS.out.mono ?_
          rintro e w6 ⟨rfl, R⟩
          have HC7 := Lib.hid (HC6.out.kb R)
          clear R HC6 HWS
          have HA7 := Lib.hid ((Below.refl w6.heap.size w6).alloc (Nat.le_refl _) (.cells (hsh nn) 23))
          have HC8 := Lib.hid (HC7.out.kb HA7.out)
          have HRW := Lib.hid (heap_alloc_last w6 (.cells (hsh nn) 23))
          have HPO := Lib.hid (pick_any (w6.alloc (.cells (hsh nn) 23)) on 19 (by decide) (by decide))
          go_wp2_with fail
          refine HPO.out.mono ?_
          rintro e _ ⟨rfl, rfl⟩
          clear HPO hst HA7
          generalize w6.alloc (.cells (hsh nn) 23) = w7 at *
          go_wp2_with fail
          generalize 1 + on % 19 = o1 at *
          have hcomm : (o1 == A) = (A == o1) := beq_comm2 o1 A
          obtain ⟨tt, tx, tf, trv, hv, hme, hcf, hT⟩ := text_of C L A hA1 hA2 HGD.out (by omega)
          have HV := Lib.hid hv
          have HT := Lib.hid hT
          clear hv hT
          refine (C.kind_any w7 L (kind A) (base_kind _) HC8.out.glob HC8.out.ch (by omega)).mono ?_
          rintro e q1 ⟨rfl, R⟩
          rw [show kindOf (kind A) = A from rfl]
          have G1 := Lib.hid (HC8.out.kb R)
          have hr1 : q1.rangeAt w.heap.size 0 (hsh nn).toList := by have h := G1.out.rng; rw [hfw] at h; exact h
          have hr2 : q1.rangeAt w6.heap.size 0 (hsh nn).toList := range_kept (range_row HRW.out) R
          have hl1 := ld_rng (hsh_size nn) hr1
          have hl2 := ld_rng (hsh_size nn) hr2
          have heq := eq_self (hsh nn) (hsh_byts nn).byt
          have hgd := guard_hash
          clear hr1 hr2
          clear R HC7 HC8
          go_wp2_with fail
          refine (is_any q1 L A A G1.out.ch).mono ?_
          rintro e _ ⟨rfl, rfl⟩
          rw [show (A == A) = true from by simp]
          go_wp2_with fail
          refine (is_any q1 L A o1 G1.out.ch).mono ?_
          rintro e _ ⟨rfl, rfl⟩
          obtain ⟨bb, hbb⟩ : ∃ bb, (A == o1) = bb := ⟨_, rfl⟩
          rw [hbb] at hcomm ⊢
          have HBB := Lib.hid hbb
          clear hbb
          rw [HV.out]
          go_wp2_with fail
          refine (HT.out q1 G1.out.glob G1.out.tab G1.out.ch).mono ?_
          rintro e q2 ⟨⟨sx, rfl, hsx⟩, R⟩
          have hnt := nonempty sx hsx
          have HNE := Lib.hid (List.isEmpty_eq_false_iff.2 hnt)
          have G2 := Lib.hid (G1.out.kb R)
          clear R
          go_wp2_with fail
          have hk := khand_ch q2 L A G2.out.glob G2.out.ch
          rw [HV.out] at hk
          refine hk.mono ?_
          rintro e q3 ⟨rfl, R⟩
          have G3 := Lib.hid (G2.out.kb R)
          clear R hk
          go_wp2_with fail
          have hk := athand_ch q3 L A G3.out.glob G3.out.ch
          rw [HV.out, hfp] at hk
          simp only [Option.getD_none] at hk
          refine hk.mono ?_
          rintro e q4 ⟨rfl, R⟩
          have G4 := Lib.hid (G3.out.kb R)
          clear R hk
          go_wp2_with fail
          go_ret
          exact ⟨by show Ending.returned (.bool (!sx.toList.isEmpty)) = _; rw [HNE.out]; rfl, G4.out.bel⟩
      · rcases hfw : fwhich L with _ | q
        · have hm := fplace_good HC5.out.good m hfp
          have hm0 := hm.1
          have HGD := Lib.hid HC5.out.good
          have hwh := C.where_any wr L (kind A) (base_kind _) HC5.out.glob HC5.out.ch (by omega)
          rw [hfp] at hwh
          simp only [Option.getD_some, Option.isSome_some] at hwh
          simp only [Option.getD_some, Option.isSome_none]
          have HWH := Lib.hid hwh
          clear hwh
          go_wp2_with fail
          refine HWH.out.mono ?_
          rintro e w5 ⟨rfl, R⟩
          have HC6 := Lib.hid (HC5.out.kb R)
          clear R HC5 HWH
          have hws := C.whose_any w5 L (kind A) (base_kind _) HC6.out.glob HC6.out.ch (by omega) (by intro h hh; rw [hfw] at hh; cases hh)
          rw [hfw] at hws
          simp only [Option.getD_none, Option.isSome_none] at hws
          have HWS := Lib.hid hws
          clear hws
          have hst := st_cells zeros rfl zeros_one
          go_wp2_with fail
          refine HWS.out.mono ?_
          rintro e w6 ⟨rfl, R⟩
          have HC7 := Lib.hid (HC6.out.kb R)
          clear R HC6 HWS
          have HA7 := Lib.hid ((Below.refl w6.heap.size w6).alloc (Nat.le_refl _) (.cells zeros 23))
          have HC8 := Lib.hid (HC7.out.kb HA7.out)
          have HRW := Lib.hid (heap_alloc_last w6 (.cells zeros 23))
          have HPO := Lib.hid (pick_any (w6.alloc (.cells zeros 23)) on 19 (by decide) (by decide))
          go_wp2_with fail
          refine HPO.out.mono ?_
          rintro e _ ⟨rfl, rfl⟩
          clear HPO hst HA7
          generalize w6.alloc (.cells zeros 23) = w7 at *
          go_wp2_with fail
          generalize 1 + on % 19 = o1 at *
          have hcomm : (o1 == A) = (A == o1) := beq_comm2 o1 A
          obtain ⟨tt, tx, tf, trv, hv, hme, hcf, hT⟩ := text_of C L A hA1 hA2 HGD.out (by omega)
          have HV := Lib.hid hv
          have HT := Lib.hid hT
          clear hv hT
          refine (C.kind_any w7 L (kind A) (base_kind _) HC8.out.glob HC8.out.ch (by omega)).mono ?_
          rintro e q1 ⟨rfl, R⟩
          rw [show kindOf (kind A) = A from rfl]
          have G1 := Lib.hid (HC8.out.kb R)
          clear R HC7 HC8
          go_wp2_with fail
          refine (is_any q1 L A A G1.out.ch).mono ?_
          rintro e _ ⟨rfl, rfl⟩
          rw [show (A == A) = true from by simp]
          go_wp2_with fail
          refine (is_any q1 L A o1 G1.out.ch).mono ?_
          rintro e _ ⟨rfl, rfl⟩
          obtain ⟨bb, hbb⟩ : ∃ bb, (A == o1) = bb := ⟨_, rfl⟩
          rw [hbb] at hcomm ⊢
          have HBB := Lib.hid hbb
          clear hbb
          rw [HV.out]
          go_wp2_with fail
          refine (HT.out q1 G1.out.glob G1.out.tab G1.out.ch).mono ?_
          rintro e q2 ⟨⟨sx, rfl, hsx⟩, R⟩
          have hnt := nonempty sx hsx
          have HNE := Lib.hid (List.isEmpty_eq_false_iff.2 hnt)
          have G2 := Lib.hid (G1.out.kb R)
          clear R
          go_wp2_with fail
          have hk := khand_ch q2 L A G2.out.glob G2.out.ch
          rw [HV.out] at hk
          refine hk.mono ?_
          rintro e q3 ⟨rfl, R⟩
          have G3 := Lib.hid (G2.out.kb R)
          clear R hk
          go_wp2_with fail
          have hk := athand_ch q3 L A G3.out.glob G3.out.ch
          rw [HV.out, hfp] at hk
          simp only [Option.getD_some] at hk
          refine hk.mono ?_
          rintro e q4 ⟨rfl, R⟩
          have G4 := Lib.hid (G3.out.kb R)
          clear R hk
          go_wp2_with fail
          go_ret
          exact ⟨by show Ending.returned (.bool (!sx.toList.isEmpty)) = _; rw [HNE.out]; rfl, G4.out.bel⟩
        · have hm := fplace_good HC5.out.good m hfp
          have hm0 := hm.1
          obtain ⟨nn, rfl⟩ := fwhich_good HC5.out.good q hfw
          have HGD := Lib.hid HC5.out.good
          have hwh := C.where_any wr L (kind A) (base_kind _) HC5.out.glob HC5.out.ch (by omega)
          rw [hfp] at hwh
          simp only [Option.getD_some, Option.isSome_some] at hwh
          simp only [Option.getD_some, Option.isSome_some]
          have HWH := Lib.hid hwh
          clear hwh
          go_wp2_with fail
          refine HWH.out.mono ?_
          rintro e w5 ⟨rfl, R⟩
          have HC6 := Lib.hid (HC5.out.kb R)
          clear R HC5 HWH
          have hws := C.whose_any w5 L (kind A) (base_kind _) HC6.out.glob HC6.out.ch (by omega) (by intro h hh; rw [hfw] at hh; cases hh; exact hsh_one nn)
          rw [hfw] at hws
          simp only [Option.getD_some, Option.isSome_some] at hws
          have HWS := Lib.hid hws
          clear hws
          have hst := st_cells (hsh nn) (hsh_size nn) (hsh_one nn)
          go_wp2_with fail
          refine HWS.out.mono ?_
          rintro e w6 ⟨rfl, R⟩
          have HC7 := Lib.hid (HC6.out.kb R)
          clear R HC6 HWS
          have HA7 := Lib.hid ((Below.refl w6.heap.size w6).alloc (Nat.le_refl _) (.cells (hsh nn) 23))
          have HC8 := Lib.hid (HC7.out.kb HA7.out)
          have HRW := Lib.hid (heap_alloc_last w6 (.cells (hsh nn) 23))
          have HPO := Lib.hid (pick_any (w6.alloc (.cells (hsh nn) 23)) on 19 (by decide) (by decide))
          go_wp2_with fail
          refine HPO.out.mono ?_
          rintro e _ ⟨rfl, rfl⟩
          clear HPO hst HA7
          generalize w6.alloc (.cells (hsh nn) 23) = w7 at *
          go_wp2_with fail
          generalize 1 + on % 19 = o1 at *
          have hcomm : (o1 == A) = (A == o1) := beq_comm2 o1 A
          obtain ⟨tt, tx, tf, trv, hv, hme, hcf, hT⟩ := text_of C L A hA1 hA2 HGD.out (by omega)
          have HV := Lib.hid hv
          have HT := Lib.hid hT
          clear hv hT
          refine (C.kind_any w7 L (kind A) (base_kind _) HC8.out.glob HC8.out.ch (by omega)).mono ?_
          rintro e q1 ⟨rfl, R⟩
          rw [show kindOf (kind A) = A from rfl]
          have G1 := Lib.hid (HC8.out.kb R)
          have hr1 : q1.rangeAt w.heap.size 0 (hsh nn).toList := by have h := G1.out.rng; rw [hfw] at h; exact h
          have hr2 : q1.rangeAt w6.heap.size 0 (hsh nn).toList := range_kept (range_row HRW.out) R
          have hl1 := ld_rng (hsh_size nn) hr1
          have hl2 := ld_rng (hsh_size nn) hr2
          have heq := eq_self (hsh nn) (hsh_byts nn).byt
          have hgd := guard_hash
          clear hr1 hr2
          clear R HC7 HC8
          go_wp2_with fail
          refine (is_any q1 L A A G1.out.ch).mono ?_
          rintro e _ ⟨rfl, rfl⟩
          rw [show (A == A) = true from by simp]
          go_wp2_with fail
          refine (is_any q1 L A o1 G1.out.ch).mono ?_
          rintro e _ ⟨rfl, rfl⟩
          obtain ⟨bb, hbb⟩ : ∃ bb, (A == o1) = bb := ⟨_, rfl⟩
          rw [hbb] at hcomm ⊢
          have HBB := Lib.hid hbb
          clear hbb
          rw [HV.out]
          go_wp2_with fail
          refine (HT.out q1 G1.out.glob G1.out.tab G1.out.ch).mono ?_
          rintro e q2 ⟨⟨sx, rfl, hsx⟩, R⟩
          have hnt := nonempty sx hsx
          have HNE := Lib.hid (List.isEmpty_eq_false_iff.2 hnt)
          have G2 := Lib.hid (G1.out.kb R)
          clear R
          go_wp2_with fail
          have hk := khand_ch q2 L A G2.out.glob G2.out.ch
          rw [HV.out] at hk
          refine hk.mono ?_
          rintro e q3 ⟨rfl, R⟩
          have G3 := Lib.hid (G2.out.kb R)
          clear R hk
          go_wp2_with fail
          have hk := athand_ch q3 L A G3.out.glob G3.out.ch
          rw [HV.out, hfp] at hk
          simp only [Option.getD_some] at hk
          refine hk.mono ?_
          rintro e q4 ⟨rfl, R⟩
          have G4 := Lib.hid (G3.out.kb R)
          clear R hk
          go_wp2_with fail
          go_ret
          exact ⟨by show Ending.returned (.bool (!sx.toList.isEmpty)) = _; rw [HNE.out]; rfl, G4.out.bel⟩
end Go.Proofs.YtageblggakfbdaaDoor
