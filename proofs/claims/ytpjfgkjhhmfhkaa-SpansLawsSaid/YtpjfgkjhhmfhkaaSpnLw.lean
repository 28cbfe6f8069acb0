/- SpansLaws returns true and makes new memory alone. No condition. -/
import Derived.Test.YtpjfgkjhhmfhkaaSpnZ
namespace Go.Proofs.Ytpjfgkjhhmfhkaa
open Go.RowKit

theorem hasB_bool {l : List Sp} {t : Int} {q : Bool} (h : Has l t ↔ q = true) : (decide (0 ≤ t) && hasB l t) = q := by
  have h2 := (hasB_iff (l := l) (x := t)).trans h
  cases h1 : (decide (0 ≤ t) && hasB l t) with
  | true => exact (h2.1 h1).symm
  | false => cases q with
    | false => rfl
    | true => rw [h2.2 rfl] at h1; exact h1.symm
theorem laws_has {x y : List Sp} {t : Int} (hx : Top topN x) (hy : Top topN y) :
    (decide (0 ≤ t) && hasB (mk (x ++ y)) t) = ((decide (0 ≤ t) && hasB x t) || (decide (0 ≤ t) && hasB y t)) ∧
    (decide (0 ≤ t) && hasB (bo x y) t) = ((decide (0 ≤ t) && hasB x t) && (decide (0 ≤ t) && hasB y t)) ∧
    (decide (0 ≤ t) && hasB (mi topN x y) t) = ((decide (0 ≤ t) && hasB x t) && !(decide (0 ≤ t) && hasB y t)) := by
  refine ⟨hasB_bool ?_, hasB_bool ?_, hasB_bool ?_⟩
  · rw [mk_has, has_app, Bool.or_eq_true, hasB_iff, hasB_iff]
  · rw [bo_has, Bool.and_eq_true, hasB_iff, hasB_iff]
  · rw [mi_has hx hy, Bool.and_eq_true, hasB_iff, Bool.not_eq_true', ← Bool.not_eq_true, hasB_iff]
theorem laws_eqs {x y z : List Sp} (hx : Top topN x) (hy : Top topN y) :
    mk (mi topN x y ++ bo x y) = mk x ∧ bo z (mk (x ++ y)) = mk (bo z x ++ bo z y) ∧ mk (x ++ y) = mk (y ++ x) := by
  refine ⟨mk_congr fun t => ?_, uniq (bo_nrm _ _) (mk_nrm _) fun t => ?_, mk_congr fun t => ?_⟩
  · rw [has_app, mi_has hx hy, bo_has]
    generalize Has x t = A
    generalize Has y t = B
    by_cases A <;> by_cases B <;> simp [*]
  · rw [bo_has, mk_has, mk_has, has_app, has_app, bo_has, bo_has]
    generalize Has x t = A
    generalize Has y t = B
    generalize Has z t = C
    by_cases A <;> by_cases B <;> by_cases C <;> simp [*]
  · rw [has_app, has_app, or_comm]
/-- The counts of the first, the last, all but the first. -/
theorem laws_nums {z : List Sp} {n : Int} (hz : Top 100 z) : ∃ cf cs cz : Int, min (n % 50) cz = cf ∧ wrap64 (cf + cs) = cz ∧
    min (cnt (mk (fir z (n % 50).toNat)) : Int) 9223372036854775807 = cf ∧ min (cnt (mk (las z (n % 50).toNat)) : Int) 9223372036854775807 = cf ∧ min (cnt (mk (ski z (n % 50).toNat)) : Int) 9223372036854775807 = cs ∧ min (cnt (mk z) : Int) 9223372036854775807 = cz ∧
    mk (fir z (n % 50).toNat ++ ski z (n % 50).toNat) = mk z ∧ bo (fir z (n % 50).toNat) (ski z (n % 50).toNat) = [] := by
  have hc := cnt_le (mk_nrm z) (mk_top hz) (by decide)
  have hq : ((n % 50).toNat : Int) = n % 50 := by omega
  obtain ⟨q, hq2⟩ : ∃ q, q = (n % 50).toNat := ⟨_, rfl⟩
  rw [← hq2] at hq ⊢
  have e1 : cnt (mk (fir z q)) = min (cnt (mk z)) q := by
    rw [mk_self (fir_nrm z q)]; unfold cnt; rw [fir_els, List.length_drop]; unfold cnt; omega
  have e2 : cnt (mk (ski z q)) = cnt (mk z) - min (cnt (mk z)) q := by
    rw [mk_self (ski_nrm z q)]; unfold cnt; rw [ski_els, List.length_take]; unfold cnt; omega
  have e3 : cnt (mk (las z q)) = min (cnt (mk z)) q := by
    rw [mk_self (las_nrm z q)]; unfold cnt; rw [las_els, List.length_take]; omega
  have cut : ∀ t, Has (mk z) t ↔ Has (fir z q) t ∨ Has (ski z q) t := fun t => by
    rw [← mem_els (mk_nrm z), ← mem_els (fir_nrm z q), ← mem_els (ski_nrm z q), fir_els, ski_els]
    conv => lhs; rw [← List.take_append_drop (cnt (mk z) - min (cnt (mk z)) q) (els (mk z))]
    rw [List.mem_append, or_comm]
  refine ⟨min (n % 50) (cnt (mk z)), cnt (mk z) - min (cnt (mk z) : Int) (n % 50), cnt (mk z), rfl, ?_, by rw [e1]; omega, by rw [e3]; omega, by rw [e2]; omega, by omega, ?_, ?_⟩
  · unfold wrap64; omega
  · refine mk_congr fun t => ?_
    rw [has_app, ← cut, mk_has]
  · refine (bo_nrm _ _).nil_of fun t h => ?_
    obtain ⟨h1, h2⟩ := (bo_has _ _ t).1 h
    rw [← mem_els (fir_nrm z q), fir_els] at h1
    rw [← mem_els (ski_nrm z q), ski_els] at h2
    have hp := els_asc (mk_nrm z)
    rw [← List.take_append_drop (cnt (mk z) - min (cnt (mk z)) q) (els (mk z)), List.pairwise_append] at hp
    have := hp.2.2 t h2 t h1
    omega
set_option maxRecDepth 20000 in
set_option maxHeartbeats 16000000 in
theorem spansLaws_walk (w : World) (va vb vc : Value) (n : Int) (la lb lc : List Int) (ha : NSeen w va la) (hb : NSeen w vb lb) (hc : NSeen w vc lc) : Calls Try.prog 6 #[va, vb, vc, .int .i64 n] w fun e w' => e = .returned (.bool true) ∧ Below w.heap.size w w' := by
  have HA := Lib.hid ha
  have HB := Lib.hid hb
  have HC := Lib.hid hc
  have K0 := Lib.hid (Kp.start w)
  clear ha hb hc
  go_enter Try.func6, Try.ntmps6
  go_wp2_with fail
  refine (kset K0.out _ la true HA.out).mono ?_
  rintro e w1 ⟨v1, L1, rfl, ok1, k⟩
  have OK1 := Lib.hid ok1
  clear ok1
  have K1 := Lib.hid k
  clear k K0
  go_wp2_with fail
  refine (kset K1.out _ lb true HB.out).mono ?_
  rintro e w2 ⟨v2, L2, rfl, ok2, k⟩
  have OK2 := Lib.hid ok2
  clear ok2
  have K2 := Lib.hid k
  clear k K1
  go_wp2_with fail
  refine (kset K2.out _ lc false HC.out).mono ?_
  rintro e w3 ⟨v3, L3, rfl, ok3, k⟩
  have OK3 := Lib.hid ok3
  clear ok3
  have K3 := Lib.hid k
  clear k K2
  have HM := Lib.hid (laws_eqs (z := L3) OK1.out.top OK2.out.top)
  have HH := Lib.hid (fun t => laws_has (t := t) OK1.out.top OK2.out.top)
  have HN := Lib.hid (laws_nums (n := n) (OK3.out.small rfl))
  go_wp2_with fail
  refine (kunion K3.out 2 1 rfl rfl (by dsimp only; decide)).mono ?_
  rintro e w4 ⟨v4, rfl, k⟩
  have K4 := Lib.hid k
  clear k K3
  go_wp2_with fail
  refine (kboth K4.out 3 2 rfl rfl (by dsimp only; decide)).mono ?_
  rintro e w5 ⟨v5, rfl, k⟩
  have K5 := Lib.hid k
  clear k K4
  go_wp2_with fail
  refine (kminus K5.out 4 3 rfl rfl (by dsimp only; decide)).mono ?_
  rintro e w6 ⟨v6, rfl, k⟩
  have K6 := Lib.hid k
  clear k K5
  go_wp2_with fail
  refine (kknown K6.out).mono ?_
  rintro e w7 ⟨rfl, k⟩
  have K7 := Lib.hid k
  clear k K6
  go_wp2_with fail
  refine (kright K7.out 2 rfl (by dsimp only; decide) (mk_nrm _)).mono ?_
  rintro e w8 ⟨rfl, k⟩
  have K8 := Lib.hid k
  clear k K7
  go_wp2_with fail
  refine (kright K8.out 1 rfl (by dsimp only; decide) (bo_nrm _ _)).mono ?_
  rintro e w9 ⟨rfl, k⟩
  have K9 := Lib.hid k
  clear k K8
  go_wp2_with fail
  refine (kright K9.out 0 rfl (by dsimp only; decide) (mi_nrm _ _ _)).mono ?_
  rintro e w10 ⟨rfl, k⟩
  have K10 := Lib.hid k
  clear k K9
  go_wp2_with fail
  go_loopw [15, 16, 17] (fun i _ _ wr => ∃ t : Int, -2 ≤ t ∧ t ≤ 75 ∧ i = .int .i64 t ∧ Hid (Kp w wr [⟨v6, mi topN L1 L2, 12 * (12 + 1)⟩, ⟨v5, bo L1 L2, 12 * 12⟩, ⟨v4, mk (L1 ++ L2), 12 + 12⟩, ⟨v3, L3, 12⟩, ⟨v2, L2, 12⟩, ⟨v1, L1, 12⟩])) (fun i _ _ _ => (75 - intOf i).toNat)
  case atStart => exact ⟨-2, by decide, by decide, rfl, K10⟩
  case round =>
    obtain ⟨t, ht1, ht2, rfl, KL⟩ := hrel
    by_cases hlt : t < 75
    · have dlt : decide (t < 75) = true := by simpa using hlt
      have hwt : wrap64 (t + 1) = t + 1 := by unfold wrap64; omega
      obtain ⟨hu, hb, hd⟩ := HH.out t
      obtain ⟨qx, hqx⟩ : ∃ q, q = (decide (0 ≤ t) && hasB L1 t) := ⟨_, rfl⟩
      obtain ⟨qy, hqy⟩ : ∃ q, q = (decide (0 ≤ t) && hasB L2 t) := ⟨_, rfl⟩
      rw [← hqx, ← hqy] at hu hb hd
      have HU := Lib.hid hu
      have HBo := Lib.hid hb
      have HD := Lib.hid hd
      have HQX := Lib.hid hqx
      have HQY := Lib.hid hqy
      clear hu hb hd hqx hqy
      go_wp2_with fail
      refine (khas KL.out 5 rfl (by dsimp only; decide) t).mono ?_
      rintro e x1 ⟨rfl, k⟩
      have J1 := Lib.hid k
      clear k KL
      rw [show (decide (0 ≤ t) && hasB (Ent.mk v1 L1 12).l t) = qx from HQX.out.symm]
      go_wp2_with fail
      refine (khas J1.out 4 rfl (by dsimp only; decide) t).mono ?_
      rintro e x2 ⟨rfl, k⟩
      have J2 := Lib.hid k
      clear k J1
      rw [show (decide (0 ≤ t) && hasB (Ent.mk v2 L2 12).l t) = qy from HQY.out.symm]
      go_wp2_with fail
      refine (khas J2.out 2 rfl (by dsimp only; decide) t).mono ?_
      rintro e x3 ⟨rfl, k⟩
      have J3 := Lib.hid k
      clear k J2
      rw [show (decide (0 ≤ t) && hasB (Ent.mk v4 (mk (L1 ++ L2)) (12 + 12)).l t) = (qx || qy) from HU.out]
      cases qx <;> cases qy
      all_goals
        go_wp2_with fail
        refine (khas J3.out 1 rfl (by dsimp only; decide) t).mono ?_
        rintro e x4 ⟨rfl, k⟩
        have J4 := Lib.hid k
        clear k J3
        rw [show (decide (0 ≤ t) && hasB (Ent.mk v5 (bo L1 L2) (12 * 12)).l t) = _ from HBo.out]
        go_wp2_with fail
        refine (khas J4.out 0 rfl (by dsimp only; decide) t).mono ?_
        rintro e x5 ⟨rfl, k⟩
        have J5 := Lib.hid k
        clear k J4
        rw [show (decide (0 ≤ t) && hasB (Ent.mk v6 (mi topN L1 L2) (12 * (12 + 1))).l t) = _ from HD.out]
        go_wp2_with fail
        exact ⟨⟨t + 1, by omega, by omega, rfl, J5⟩, by simp [intOf]; omega⟩
    · obtain rfl : t = 75 := by omega
      have K10 := KL
      clear KL
      go_wp2_with fail
      refine (kunion K10.out 0 1 rfl rfl (by dsimp only; decide)).mono ?_
      rintro e w11 ⟨v11, rfl, k⟩
      have K11 := Lib.hid k
      clear k K10
      go_wp2_with fail
      refine (kmake K11.out 6 rfl (by dsimp only; decide)).mono ?_
      rintro e w12 ⟨v12, rfl, k⟩
      have K12 := Lib.hid k
      clear k K11
      go_wp2_with fail
      refine (ksame K12.out 1 0 rfl rfl (by dsimp only; decide) HM.out.1).mono ?_
      rintro e w13 ⟨rfl, k⟩
      have K13 := Lib.hid k
      clear k K12
      go_wp2_with fail
      refine (kboth K13.out 5 4 rfl rfl (by dsimp only; decide)).mono ?_
      rintro e w14 ⟨v14, rfl, k⟩
      have K14 := Lib.hid k
      clear k K13
      go_wp2_with fail
      refine (kboth K14.out 6 8 rfl rfl (by dsimp only; decide)).mono ?_
      rintro e w15 ⟨v15, rfl, k⟩
      have K15 := Lib.hid k
      clear k K14
      go_wp2_with fail
      refine (kboth K15.out 7 8 rfl rfl (by dsimp only; decide)).mono ?_
      rintro e w16 ⟨v16, rfl, k⟩
      have K16 := Lib.hid k
      clear k K15
      go_wp2_with fail
      refine (kunion K16.out 1 0 rfl rfl (by dsimp only; decide)).mono ?_
      rintro e w17 ⟨v17, rfl, k⟩
      have K17 := Lib.hid k
      clear k K16
      go_wp2_with fail
      refine (ksame K17.out 3 0 rfl rfl (by dsimp only; decide) HM.out.2.1).mono ?_
      rintro e w18 ⟨rfl, k⟩
      have K18 := Lib.hid k
      clear k K17
      go_wp2_with fail
      refine (kunion K18.out 10 11 rfl rfl (by dsimp only; decide)).mono ?_
      rintro e w19 ⟨v19, rfl, k⟩
      have K19 := Lib.hid k
      clear k K18
      go_wp2_with fail
      refine (ksame K19.out 9 0 rfl rfl (by dsimp only; decide) HM.out.2.2).mono ?_
      rintro e w20 ⟨rfl, k⟩
      have K20 := Lib.hid k
      clear k K19
      go_wp2_with fail
      refine (pick_any _ n 50 (by decide) (by decide)).mono ?_
      rintro e wp ⟨rfl, rfl⟩
      have hn50 : n % 50 < 9223372036854775808 := by omega
      go_wp2_with fail
      refine (kfirst K20.out 10 rfl (by dsimp only; decide) (n % 50) hn50).mono ?_
      rintro e w21 ⟨v21, rfl, k⟩
      have K21 := Lib.hid k
      clear k K20
      go_wp2_with fail
      refine (kskip K21.out 11 rfl (by dsimp only; decide) (n % 50) hn50).mono ?_
      rintro e w22 ⟨v22, rfl, k⟩
      have K22 := Lib.hid k
      clear k K21
      go_wp2_with fail
      refine (klast K22.out 12 rfl (by dsimp only; decide) (n % 50) hn50).mono ?_
      rintro e w23 ⟨v23, rfl, k⟩
      have K23 := Lib.hid k
      clear k K22
      obtain ⟨cf, cs, cz, hn1, hn2, hn3, hn4, hn5, hn6, hn7, hn8⟩ := HN.out
      have HN3 := Lib.hid hn3
      have HN4 := Lib.hid hn4
      have HN5 := Lib.hid hn5
      have HN6 := Lib.hid hn6
      have HN7 := Lib.hid hn7
      have HN8 := Lib.hid hn8
      clear hn3 hn4 hn5 hn6 hn7 hn8
      go_wp2_with fail
      refine (kcount K23.out 2 rfl (by dsimp only; decide)).mono ?_
      rintro e w24 ⟨rfl, k⟩
      have K24 := Lib.hid k
      clear k K23
      rw [show (min (cnt (mk (Ent.mk _ (fir L3 (n % 50).toNat) _).l) : Int) 9223372036854775807) = cf from HN3.out]
      go_wp2_with fail
      refine (kcount K24.out 13 rfl (by dsimp only; decide)).mono ?_
      rintro e w25 ⟨rfl, k⟩
      have K25 := Lib.hid k
      clear k K24
      rw [show (min (cnt (mk (Ent.mk _ L3 _).l) : Int) 9223372036854775807) = cz from HN6.out]
      go_wp2_with fail
      refine (kcount K25.out 0 rfl (by dsimp only; decide)).mono ?_
      rintro e w26 ⟨rfl, k⟩
      have K26 := Lib.hid k
      clear k K25
      rw [show (min (cnt (mk (Ent.mk _ (las L3 (n % 50).toNat) _).l) : Int) 9223372036854775807) = cf from HN4.out]
      go_wp2_with fail
      refine (kcount K26.out 2 rfl (by dsimp only; decide)).mono ?_
      rintro e w27 ⟨rfl, k⟩
      have K27 := Lib.hid k
      clear k K26
      rw [show (min (cnt (mk (Ent.mk _ (fir L3 (n % 50).toNat) _).l) : Int) 9223372036854775807) = cf from HN3.out]
      go_wp2_with fail
      refine (kunion K27.out 2 1 rfl rfl (by dsimp only; decide)).mono ?_
      rintro e w28 ⟨v28, rfl, k⟩
      have K28 := Lib.hid k
      clear k K27
      go_wp2_with fail
      refine (kmake K28.out 14 rfl (by dsimp only; decide)).mono ?_
      rintro e w29 ⟨v29, rfl, k⟩
      have K29 := Lib.hid k
      clear k K28
      go_wp2_with fail
      refine (ksame K29.out 1 0 rfl rfl (by dsimp only; decide) HN7.out).mono ?_
      rintro e w30 ⟨rfl, k⟩
      have K30 := Lib.hid k
      clear k K29
      go_wp2_with fail
      refine (kboth_nil K30.out 4 3 rfl rfl (by dsimp only; decide) HN8.out).mono ?_
      rintro e w31 ⟨p31, c31, rfl, k⟩
      have K31 := Lib.hid k
      clear k K30
      go_wp2_with fail
      refine (kcount K31.out 4 rfl (by dsimp only; decide)).mono ?_
      rintro e w32 ⟨rfl, k⟩
      have K32 := Lib.hid k
      clear k K31
      rw [show (min (cnt (mk (Ent.mk _ (fir L3 (n % 50).toNat) _).l) : Int) 9223372036854775807) = cf from HN3.out]
      go_wp2_with fail
      refine (kcount K32.out 3 rfl (by dsimp only; decide)).mono ?_
      rintro e w33 ⟨rfl, k⟩
      have K33 := Lib.hid k
      clear k K32
      rw [show (min (cnt (mk (Ent.mk _ (ski L3 (n % 50).toNat) _).l) : Int) 9223372036854775807) = cs from HN5.out]
      go_wp2_with fail
      refine (kcount K33.out 15 rfl (by dsimp only; decide)).mono ?_
      rintro e w34 ⟨rfl, k⟩
      have K34 := Lib.hid k
      clear k K33
      rw [show (min (cnt (mk (Ent.mk _ L3 _).l) : Int) 9223372036854775807) = cz from HN6.out]
      go_wp2_with fail
      go_ret
      exact ⟨rfl, K34.out.bel⟩
end Go.Proofs.Ytpjfgkjhhmfhkaa
