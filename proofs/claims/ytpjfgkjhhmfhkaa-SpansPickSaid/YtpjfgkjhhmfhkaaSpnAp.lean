/- SpansApart returns true and makes new memory alone. No condition. -/
import Derived.Test.YtpjfgkjhhmfhkaaSpnZ
namespace Go.Proofs.Ytpjfgkjhhmfhkaa
open Go.RowKit

theorem all_top : Top topN [((0, topN) : Sp)] := fun s hs => by
  obtain rfl : s = (0, topN) := by simpa using hs
  exact Int.le_refl _
theorem all_has {z : Int} : Has [((0, topN) : Sp)] z ↔ 0 ≤ z ∧ z ≤ topN := by rw [has_one]; simp only; omega
/-- What the statement says of three sets. -/
theorem apart_eqs {x y z : List Sp} (hx : Top topN x) (hy : Top topN y) (hz : Top topN z) :
    bo (mi topN x y) (mi topN y x) = [] ∧ mk (mk (x ++ y) ++ z) = mk (x ++ mk (z ++ y)) ∧ mi topN (mk (x ++ y)) (bo x y) = mk (mi topN x y ++ mi topN y x) ∧
      mi topN x (mk (y ++ z)) = mi topN (mi topN x z) y ∧ mi topN x x = [] ∧ bo [(0, topN)] x = mk x := by
  have hxy : Top topN (mk (x ++ y)) := mk_top fun s hs => (List.mem_append.1 hs).elim (hx s) (hy s)
  have hyz : Top topN (mk (y ++ z)) := mk_top fun s hs => (List.mem_append.1 hs).elim (hy s) (hz s)
  refine ⟨(bo_nrm _ _).nil_of fun t => ?_, mk_congr fun t => ?_, uniq (mi_nrm _ _ _) (mk_nrm _) fun t => ?_, uniq (mi_nrm _ _ _) (mi_nrm _ _ _) fun t => ?_, (mi_nrm _ _ _).nil_of fun t => ?_, uniq (bo_nrm _ _) (mk_nrm _) fun t => ?_⟩
  · rw [bo_has, mi_has hx hy, mi_has hy hx]
    generalize Has x t = A
    generalize Has y t = B
    by_cases A <;> by_cases B <;> simp [*]
  · rw [has_app, mk_has, has_app, has_app, mk_has, has_app]
    generalize Has x t = A
    generalize Has y t = B
    generalize Has z t = C
    by_cases A <;> by_cases B <;> by_cases C <;> simp [*]
  · rw [mi_has hxy (bo_top _ hx), mk_has, has_app, bo_has, mk_has, has_app, mi_has hx hy, mi_has hy hx]
    generalize Has x t = A
    generalize Has y t = B
    by_cases A <;> by_cases B <;> simp [*]
  · rw [mi_has hx hyz, mi_has (mi_top _ hx) hy, mi_has hx hz, mk_has, has_app]
    generalize Has x t = A
    generalize Has y t = B
    generalize Has z t = C
    by_cases A <;> by_cases B <;> by_cases C <;> simp [*]
  · rw [mi_has hx hx]
    exact fun h => h.2 h.1
  · rw [bo_has, mk_has, all_has]
    exact ⟨fun h => h.2, fun h => ⟨⟨h.1, top_has hx h⟩, h⟩⟩
set_option maxHeartbeats 8000000 in
theorem spansApart_walk (w : World) (va vb vc : Value) (la lb lc : List Int) (ha : NSeen w va la) (hb : NSeen w vb lb) (hc : NSeen w vc lc) : Calls Try.prog 8 #[va, vb, vc] w fun e w' => e = .returned (.bool true) ∧ Below w.heap.size w w' := by
  have HA := Lib.hid ha
  have HB := Lib.hid hb
  have HC := Lib.hid hc
  have K0 := Lib.hid (Kp.start w)
  clear ha hb hc
  go_enter Try.func8, Try.ntmps8
  go_wp2_with fail
  refine (kset K0.out _ la true HA.out).mono ?_
  rintro e w1 ⟨v1, L1, rfl, ok1, k⟩
  have OK1 := Lib.hid ok1
  clear ok1
  have K1 := Lib.hid k
  clear k K0
  go_wp2_with fail
  refine (kset K1.out _ lb true HB.out).mono ?_
  rintro e w2 ⟨v2, L2, rfl, ok2, k⟩
  have OK2 := Lib.hid ok2
  clear ok2
  have K2 := Lib.hid k
  clear k K1
  go_wp2_with fail
  refine (kset K2.out _ lc true HC.out).mono ?_
  rintro e w3 ⟨v3, L3, rfl, ok3, k⟩
  have OK3 := Lib.hid ok3
  clear ok3
  have K3 := Lib.hid k
  clear k K2
  have HM := Lib.hid (apart_eqs OK1.out.top OK2.out.top OK3.out.top)
  go_wp2_with fail
  refine (kminus K3.out 2 1 rfl rfl (by dsimp only; decide)).mono ?_
  rintro e w4 ⟨v4, rfl, k⟩
  have K4 := Lib.hid k
  clear k K3
  go_wp2_with fail
  refine (kminus K4.out 2 3 rfl rfl (by dsimp only; decide)).mono ?_
  rintro e w5 ⟨v5, rfl, k⟩
  have K5 := Lib.hid k
  clear k K4
  go_wp2_with fail
  refine (kknown K5.out).mono ?_
  rintro e w6 ⟨rfl, k⟩
  have K6 := Lib.hid k
  clear k K5
  go_wp2_with fail
  refine (kboth_nil K6.out 1 0 rfl rfl (by dsimp only; decide) HM.out.1).mono ?_
  rintro e w7 ⟨p7, c7, rfl, k⟩
  have K7 := Lib.hid k
  clear k K6
  go_wp2_with fail
  refine (kunion K7.out 4 3 rfl rfl (by dsimp only; decide)).mono ?_
  rintro e w8 ⟨v8, rfl, k⟩
  have K8 := Lib.hid k
  clear k K7
  go_wp2_with fail
  refine (kunion K8.out 0 3 rfl rfl (by dsimp only; decide)).mono ?_
  rintro e w9 ⟨v9, rfl, k⟩
  have K9 := Lib.hid k
  clear k K8
  go_wp2_with fail
  refine (kunion K9.out 4 5 rfl rfl (by dsimp only; decide)).mono ?_
  rintro e w10 ⟨v10, rfl, k⟩
  have K10 := Lib.hid k
  clear k K9
  go_wp2_with fail
  refine (kunion K10.out 7 0 rfl rfl (by dsimp only; decide)).mono ?_
  rintro e w11 ⟨v11, rfl, k⟩
  have K11 := Lib.hid k
  clear k K10
  go_wp2_with fail
  refine (ksame K11.out 2 0 rfl rfl (by dsimp only; decide) HM.out.2.1).mono ?_
  rintro e w12 ⟨rfl, k⟩
  have K12 := Lib.hid k
  clear k K11
  go_wp2_with fail
  refine (kunion K12.out 8 7 rfl rfl (by dsimp only; decide)).mono ?_
  rintro e w13 ⟨v13, rfl, k⟩
  have K13 := Lib.hid k
  clear k K12
  go_wp2_with fail
  refine (kboth K13.out 9 8 rfl rfl (by dsimp only; decide)).mono ?_
  rintro e w14 ⟨v14, rfl, k⟩
  have K14 := Lib.hid k
  clear k K13
  go_wp2_with fail
  refine (kminus K14.out 1 0 rfl rfl (by dsimp only; decide)).mono ?_
  rintro e w15 ⟨v15, rfl, k⟩
  have K15 := Lib.hid k
  clear k K14
  go_wp2_with fail
  refine (kunion K15.out 8 7 rfl rfl (by dsimp only; decide)).mono ?_
  rintro e w16 ⟨v16, rfl, k⟩
  have K16 := Lib.hid k
  clear k K15
  go_wp2_with fail
  refine (ksame K16.out 1 0 rfl rfl (by dsimp only; decide) HM.out.2.2.1).mono ?_
  rintro e w17 ⟨rfl, k⟩
  have K17 := Lib.hid k
  clear k K16
  go_wp2_with fail
  refine (kunion K17.out 11 10 rfl rfl (by dsimp only; decide)).mono ?_
  rintro e w18 ⟨v18, rfl, k⟩
  have K18 := Lib.hid k
  clear k K17
  go_wp2_with fail
  refine (kminus K18.out 13 0 rfl rfl (by dsimp only; decide)).mono ?_
  rintro e w19 ⟨v19, rfl, k⟩
  have K19 := Lib.hid k
  clear k K18
  go_wp2_with fail
  refine (kminus K19.out 14 12 rfl rfl (by dsimp only; decide)).mono ?_
  rintro e w20 ⟨v20, rfl, k⟩
  have K20 := Lib.hid k
  clear k K19
  go_wp2_with fail
  refine (kminus K20.out 0 14 rfl rfl (by dsimp only; decide)).mono ?_
  rintro e w21 ⟨v21, rfl, k⟩
  have K21 := Lib.hid k
  clear k K20
  go_wp2_with fail
  refine (ksame K21.out 2 0 rfl rfl (by dsimp only; decide) HM.out.2.2.2.1).mono ?_
  rintro e w22 ⟨rfl, k⟩
  have K22 := Lib.hid k
  clear k K21
  go_wp2_with fail
  refine (kminus_nil K22.out 16 16 rfl rfl (by dsimp only; decide) HM.out.2.2.2.2.1).mono ?_
  rintro e w23 ⟨p23, c23, rfl, k⟩
  have K23 := Lib.hid k
  clear k K22
  go_wp2_with fail
  have b0 := (Below.refl w23.heap.size w23).alloc (Nat.le_refl _) (.cells #[.int .i64 0, .int .i64 9223372036854775807] 23)
  have KA := Lib.hid ((K23.out.next b0).push (x := ⟨.slice (some ⟨w23.heap.size, 0, none⟩) 1 1, [(0, topN)], 1⟩) (seen_one (s := (0, topN)) (heap_alloc_last w23 _)) (Nat.le_refl _) all_top)
  clear b0 K23
  refine (kboth KA.out 0 17 rfl rfl (by dsimp only; decide)).mono ?_
  rintro e w24 ⟨v24, rfl, k⟩
  have K24 := Lib.hid k
  clear k KA
  go_wp2_with fail
  refine (kmake K24.out 18 rfl (by dsimp only; decide)).mono ?_
  rintro e w25 ⟨v25, rfl, k⟩
  have K25 := Lib.hid k
  clear k K24
  go_wp2_with fail
  refine (ksame K25.out 1 0 rfl rfl (by dsimp only; decide) HM.out.2.2.2.2.2).mono ?_
  rintro e w26 ⟨rfl, k⟩
  have K26 := Lib.hid k
  clear k K25
  go_wp2_with fail
  go_ret
  exact ⟨rfl, K26.out.bel⟩
end Go.Proofs.Ytpjfgkjhhmfhkaa
