/- SpansTwo returns true and makes new memory alone. No condition. -/
import Derived.Test.YtpjfgkjhhmfhkaaSpnXu
import Derived.Test.YtpjfgkjhhmfhkaaSpnXb
import Derived.Test.YtpjfgkjhhmfhkaaSpnXn
import Derived.Deep.CutBlock
import Derived.Deep.CutRange
namespace Go.Proofs.Ytpjfgkjhhmfhkaa
open Go.RowKit

section
variable {w W W' : World} {xs : List Ent} {x y : Ent}
theorem kxmake (K : Kp w W xs) (i : Nat) (hi : xs[i]? = some x) (h : x.n ≤ 100000) : Calls Try.prog 23 #[x.v] W fun e W' => ∃ v', e = .returned v' ∧ Kp w W' (⟨v', mk x.l, x.n⟩ :: xs) := by
  obtain ⟨h1, h2, h3⟩ := K.at hi
  refine (xmake_to W x.v x.l h1 (by omega) h3).mono ?_
  rintro e W' ⟨v', rfl, o, b⟩
  exact ⟨v', rfl, (K.next b).push o.seen (Nat.le_trans (mk_len _) h2) (mk_top h3)⟩
theorem kxunion (K : Kp w W xs) (i j : Nat) (hi : xs[i]? = some x) (hj : xs[j]? = some y) (h : x.n + y.n ≤ 100000) : Calls Try.prog 26 #[x.v, y.v] W fun e W' => ∃ v', e = .returned v' ∧ Kp w W' (⟨v', mk (x.l ++ y.l), x.n + y.n⟩ :: xs) := by
  obtain ⟨h1, h2, h3⟩ := K.at hi
  obtain ⟨g1, g2, g3⟩ := K.at hj
  refine (xunion_to W x.v y.v x.l y.l h1 g1 (by omega) h3 g3).mono ?_
  rintro e W' ⟨v', rfl, o, b⟩
  refine ⟨v', rfl, (K.next b).push o.seen ?_ (mk_top fun s hs => (List.mem_append.1 hs).elim (h3 s) (g3 s))⟩
  have := mk_len (x.l ++ y.l)
  rw [List.length_append] at this
  show (mk (x.l ++ y.l)).length ≤ x.n + y.n
  omega
theorem kxboth (K : Kp w W xs) (i j : Nat) (hi : xs[i]? = some x) (hj : xs[j]? = some y) (h : x.n * y.n ≤ 800000) (ha : x.n ≤ 100000) (hb : y.n ≤ 100000) : Calls Try.prog 28 #[x.v, y.v] W fun e W' => ∃ v', e = .returned v' ∧ Kp w W' (⟨v', bo x.l y.l, x.n * y.n⟩ :: xs) := by
  obtain ⟨h1, h2, h3⟩ := K.at hi
  obtain ⟨g1, g2, g3⟩ := K.at hj
  refine (xboth_to W x.v y.v x.l y.l h1 g1 (Nat.le_trans (Nat.mul_le_mul h2 g2) h) (by omega) (by omega) h3 g3).mono ?_
  rintro e W' ⟨v', rfl, o, b⟩
  exact ⟨v', rfl, (K.next b).push o.seen (Nat.le_trans (bo_len _ _) (Nat.mul_le_mul h2 g2)) (bo_top _ h3)⟩
theorem kxminus (K : Kp w W xs) (i j : Nat) (hi : xs[i]? = some x) (hj : xs[j]? = some y) (h : x.n + y.n ≤ 100000) : Calls Try.prog 29 #[x.v, y.v] W fun e W' => ∃ v', e = .returned v' ∧ Kp w W' (⟨v', mi topN x.l y.l, x.n * (y.n + 1)⟩ :: xs) := by
  obtain ⟨h1, h2, h3⟩ := K.at hi
  obtain ⟨g1, g2, g3⟩ := K.at hj
  refine (xminus_to W x.v y.v x.l y.l h1 g1 (by omega) h3 g3).mono ?_
  rintro e W' ⟨v', rfl, o, b⟩
  exact ⟨v', rfl, (K.next b).push o.seen (Nat.le_trans (mi_len _ _ _) (Nat.mul_le_mul h2 (by omega))) (mi_top _ h3)⟩
theorem kxcount (K : Kp w W xs) (i : Nat) (hi : xs[i]? = some x) (h : x.n ≤ 100000) : Calls Try.prog 30 #[x.v] W fun e W' => e = .returned (.int .i64 (min (cnt (mk x.l) : Int) 9223372036854775807)) ∧ Kp w W' xs := by
  obtain ⟨h1, h2, h3⟩ := K.at hi
  refine (xcount_to W x.v x.l h1 (by omega) h3).mono ?_
  rintro e W' ⟨rfl, b⟩
  exact ⟨rfl, K.next b⟩
theorem krightB (K : Kp w W xs) (i : Nat) (hi : xs[i]? = some x) (h : x.n ≤ 100000) : Calls Try.prog 18 #[x.v] W fun e W' => (∃ b, e = .returned (.bool b) ∧ (b = true ↔ Nrm x.l)) ∧ Kp w W' xs := by
  obtain ⟨h1, h2, h3⟩ := K.at hi
  refine (right_to W x.v x.l h1 h3 (by omega)).mono ?_
  rintro e W' ⟨he, b⟩
  exact ⟨he, K.next b⟩
theorem kxright (K : Kp w W xs) (i : Nat) (hi : xs[i]? = some x) (h : x.n ≤ 100000) : Calls Try.prog 24 #[x.v] W fun e W' => (∃ b, e = .returned (.bool b) ∧ (b = true ↔ Nrm x.l)) ∧ Kp w W' xs := by
  obtain ⟨h1, h2, h3⟩ := K.at hi
  refine (xright_to W x.v x.l h1 (by omega) h3).mono ?_
  rintro e W' ⟨he, b⟩
  exact ⟨he, K.next b⟩
end
/-- The first n of it. -/
theorem SSeen.take {w : World} {p : Option Addr} {n cap m : Nat} {l : List Sp} (h : SSeen w (.slice p n cap) l) (hm : m ≤ l.length) : SSeen w (.slice p m cap) (l.take m) := by
  obtain ⟨p', cap', e, hc, hs⟩ := h
  injection e with e1 e2 e3
  subst e1 e3
  have hlt : (l.take m).length = m := by rw [List.length_take]; omega
  refine ⟨p, cap, by rw [hlt], by omega, fun j x hj => hs j x ?_⟩
  rw [List.getElem?_take] at hj
  split at hj
  · exact hj
  · simp at hj
/-- Two lists at hand. -/
structure XY (w W : World) (v u : Value) (X Y : List Sp) : Prop where
  bel : Below w.heap.size w W
  x : SSeen W v X
  y : SSeen W u Y
  tx : Top topN X
  ty : Top topN Y
theorem XY.kp {w W : World} {v u : Value} {X Y : List Sp} {n m : Nat} (H : XY w W v u X Y) (hx : X.length ≤ n) (hy : Y.length ≤ m) : Kp w W [⟨u, Y, m⟩, ⟨v, X, n⟩] :=
  ⟨H.bel, fun e he => by
    simp at he
    rcases he with rfl | rfl
    · exact ⟨H.y, hy, H.ty⟩
    · exact ⟨H.x, hx, H.tx⟩⟩
set_option maxRecDepth 20000 in
set_option maxHeartbeats 16000000 in
theorem spansTwo_walk (w : World) (va vb vx vy : Value) (wild raw : Bool) (la lb : List Int) (lx ly : List Sp) (ha : NSeen w va la) (hb : NSeen w vb lb) (hx : SSeen w vx lx) (hy : SSeen w vy ly) (tx : Top topN lx) (ty : Top topN ly) :
    Calls Try.prog 4 #[va, vb, .bool wild, vx, vy, .bool raw] w fun e w' => e = .returned (.bool true) ∧ Below w.heap.size w w' := by
  have HA := Lib.hid ha
  have HB := Lib.hid hb
  have HX := Lib.hid hx
  have HY := Lib.hid hy
  have TX := Lib.hid tx
  have TY := Lib.hid ty
  have K0 := Lib.hid (Kp.start w)
  obtain ⟨pa, ca, rfl⟩ := hx.form
  obtain ⟨pb, cb, rfl⟩ := hy.form
  clear ha hb hx hy tx ty
  go_enter Try.func4, Try.ntmps4
  go_wp2_with fail
  refine (kset K0.out _ la wild HA.out).mono ?_
  rintro e w1 ⟨v1, L1, rfl, ok1, k⟩
  have K1 := Lib.hid k
  clear k ok1
  go_wp2_with fail
  refine (kset K1.out _ lb wild HB.out).mono ?_
  rintro e w2 ⟨v2, L2, rfl, ok2, k⟩
  have K2 := Lib.hid k
  clear k ok2 K1
  have X0 : Hid (XY w w2 v1 v2 L1 L2) := Lib.hid ⟨K2.out.bel, (K2.out.at (i := 1) rfl).1, (K2.out.at (i := 0) rfl).1, (K2.out.at (i := 1) rfl).2.2, (K2.out.at (i := 0) rfl).2.2⟩
  go_upto_if 21 with fail
  go_cut [13, 14] from 22 to 33 (fun v u wx => ∃ X Y : List Sp, Hid (XY w wx v u X Y) ∧ Hid (X.length ≤ 12 ∧ Y.length ≤ 12))
  case first =>
    cases raw with
    | true =>
      have hca : lx.length ≤ ca := by obtain ⟨_, _, e, h, _⟩ := HX.out; injection e with _ _ e; omega
      have hcb : ly.length ≤ cb := by obtain ⟨_, _, e, h, _⟩ := HY.out; injection e with _ _ e; omega
      have R0 : Hid (XY w w2 (.slice pa lx.length ca) (.slice pb ly.length cb) lx ly) := Lib.hid ⟨K2.out.bel, HX.out.kb K2.out.bel, HY.out.kb K2.out.bel, TX.out, TY.out⟩
      by_cases h1 : lx.length > 10
      · have d1 : decide ((lx.length : Int) > 10) = true := by simp; omega
        have d1' : decide (10 < (lx.length : Int)) = true := by simp; omega
        by_cases h2 : ly.length > 10
        · have d2 : decide ((ly.length : Int) > 10) = true := by simp; omega
          have d2' : decide (10 < (ly.length : Int)) = true := by simp; omega
          have hx10 : (10 : Int) ≤ (ca : Int) := by omega
          have hy10 : (10 : Int) ≤ (cb : Int) := by omega
          have RL := Lib.hid (XY.mk R0.out.bel (R0.out.x.take (by omega)) (R0.out.y.take (by omega)) (R0.out.tx.take 10) (R0.out.ty.take 10))
          have RB : Hid ((lx.take 10).length ≤ 12 ∧ (ly.take 10).length ≤ 12) := Lib.hid ⟨(by rw [List.length_take]; omega), (by rw [List.length_take]; omega)⟩
          clear h1 h2
          go_wp2_with fail
          go_meet
          case rel => exact ⟨lx.take 10, ly.take 10, RL, RB⟩
        · have d2 : decide ((ly.length : Int) > 10) = false := by simp; omega
          have d2' : decide (10 < (ly.length : Int)) = false := by simp; omega
          have hx10 : (10 : Int) ≤ (ca : Int) := by omega
          have RL := Lib.hid (XY.mk R0.out.bel (R0.out.x.take (by omega)) R0.out.y (R0.out.tx.take 10) R0.out.ty)
          have RB : Hid ((lx.take 10).length ≤ 12 ∧ (ly).length ≤ 12) := Lib.hid ⟨(by rw [List.length_take]; omega), (by omega)⟩
          clear h1 h2
          go_wp2_with fail
          go_meet
          case rel => exact ⟨lx.take 10, ly, RL, RB⟩
      · have d1 : decide ((lx.length : Int) > 10) = false := by simp; omega
        have d1' : decide (10 < (lx.length : Int)) = false := by simp; omega
        by_cases h2 : ly.length > 10
        · have d2 : decide ((ly.length : Int) > 10) = true := by simp; omega
          have d2' : decide (10 < (ly.length : Int)) = true := by simp; omega
          have hy10 : (10 : Int) ≤ (cb : Int) := by omega
          have RL := Lib.hid (XY.mk R0.out.bel R0.out.x (R0.out.y.take (by omega)) R0.out.tx (R0.out.ty.take 10))
          have RB : Hid ((lx).length ≤ 12 ∧ (ly.take 10).length ≤ 12) := Lib.hid ⟨(by omega), (by rw [List.length_take]; omega)⟩
          clear h1 h2
          go_wp2_with fail
          go_meet
          case rel => exact ⟨lx, ly.take 10, RL, RB⟩
        · have d2 : decide ((ly.length : Int) > 10) = false := by simp; omega
          have d2' : decide (10 < (ly.length : Int)) = false := by simp; omega
          have RL := Lib.hid (XY.mk R0.out.bel R0.out.x R0.out.y R0.out.tx R0.out.ty)
          have RB : Hid ((lx).length ≤ 12 ∧ (ly).length ≤ 12) := Lib.hid ⟨(by omega), (by omega)⟩
          clear h1 h2
          go_wp2_with fail
          go_meet
          case rel => exact ⟨lx, ly, RL, RB⟩
    | false =>
      have hl1 := (K2.out.at (i := 1) rfl).2.1
      have hl2 := (K2.out.at (i := 0) rfl).2.1
      dsimp only at hl1 hl2
      obtain ⟨q1, e1, rfl⟩ := X0.out.x.form
      obtain ⟨q2, e2, rfl⟩ := X0.out.y.form
      have hca : L1.length ≤ e1 := by obtain ⟨_, _, e, h, _⟩ := X0.out.x; injection e with _ _ e; omega
      have hcb : L2.length ≤ e2 := by obtain ⟨_, _, e, h, _⟩ := X0.out.y; injection e with _ _ e; omega
      by_cases h1 : L1.length > 10
      · have d1 : decide ((L1.length : Int) > 10) = true := by simp; omega
        have d1' : decide (10 < (L1.length : Int)) = true := by simp; omega
        by_cases h2 : L2.length > 10
        · have d2 : decide ((L2.length : Int) > 10) = true := by simp; omega
          have d2' : decide (10 < (L2.length : Int)) = true := by simp; omega
          have RB : Hid (L1.length ≤ 12 ∧ L2.length ≤ 12) := Lib.hid ⟨hl1, hl2⟩
          clear h1 h2
          go_wp2_with fail
          go_meet
          case rel => exact ⟨L1, L2, X0, RB⟩
        · have d2 : decide ((L2.length : Int) > 10) = false := by simp; omega
          have d2' : decide (10 < (L2.length : Int)) = false := by simp; omega
          have RB : Hid (L1.length ≤ 12 ∧ L2.length ≤ 12) := Lib.hid ⟨hl1, hl2⟩
          clear h1 h2
          go_wp2_with fail
          go_meet
          case rel => exact ⟨L1, L2, X0, RB⟩
      · have d1 : decide ((L1.length : Int) > 10) = false := by simp; omega
        have d1' : decide (10 < (L1.length : Int)) = false := by simp; omega
        by_cases h2 : L2.length > 10
        · have d2 : decide ((L2.length : Int) > 10) = true := by simp; omega
          have d2' : decide (10 < (L2.length : Int)) = true := by simp; omega
          have RB : Hid (L1.length ≤ 12 ∧ L2.length ≤ 12) := Lib.hid ⟨hl1, hl2⟩
          clear h1 h2
          go_wp2_with fail
          go_meet
          case rel => exact ⟨L1, L2, X0, RB⟩
        · have d2 : decide ((L2.length : Int) > 10) = false := by simp; omega
          have d2' : decide (10 < (L2.length : Int)) = false := by simp; omega
          have RB : Hid (L1.length ≤ 12 ∧ L2.length ≤ 12) := Lib.hid ⟨hl1, hl2⟩
          clear h1 h2
          go_wp2_with fail
          go_meet
          case rel => exact ⟨L1, L2, X0, RB⟩
  case rest =>
    clear X0 K2 K0
    obtain ⟨X, Y, H, HLN⟩ := hcut
    have K0 := Lib.hid (H.out.kp HLN.out.1 HLN.out.2)
    clear H HLN
    go_wp2_with fail
    refine (kknown K0.out).mono ?_
    rintro e w1 ⟨rfl, k⟩
    have K1 := Lib.hid k
    clear k K0
    go_wp2_with fail
    refine (kmake K1.out 1 rfl (by dsimp only; decide)).mono ?_
    rintro e w2 ⟨v2, rfl, k⟩
    have K2 := Lib.hid k
    clear k K1
    go_wp2_with fail
    refine (kxmake K2.out 2 rfl (by dsimp only; decide)).mono ?_
    rintro e w3 ⟨v3, rfl, k⟩
    have K3 := Lib.hid k
    clear k K2
    go_wp2_with fail
    refine (ksame K3.out 1 0 rfl rfl (by dsimp only; decide) rfl).mono ?_
    rintro e w4 ⟨rfl, k⟩
    have K4 := Lib.hid k
    clear k K3
    go_wp2_with fail
    refine (krightB K4.out 3 rfl (by dsimp only; decide)).mono ?_
    rintro e wr1 ⟨⟨r1, rfl, hr1⟩, k⟩
    have J1 := Lib.hid k
    have HR1 := Lib.hid hr1
    clear k hr1 K4
    go_wp2_with fail
    refine (kxright J1.out 3 rfl (by dsimp only; decide)).mono ?_
    rintro e wr2 ⟨⟨r2, rfl, hr2⟩, k⟩
    obtain rfl : r1 = r2 := by
      have h := HR1.out.trans hr2.symm
      cases r1 <;> cases r2 <;> simp at h <;> rfl
    have K99 := Lib.hid k
    clear k hr2 J1 HR1
    have hrr : (r1 == r1) = true := by simp
    go_wp2_with fail
    refine (kunion K99.out 3 2 rfl rfl (by dsimp only; decide)).mono ?_
    rintro e w100 ⟨v100, rfl, k⟩
    have K100 := Lib.hid k
    clear k K99
    go_wp2_with fail
    refine (kxunion K100.out 4 3 rfl rfl (by dsimp only; decide)).mono ?_
    rintro e w101 ⟨v101, rfl, k⟩
    have K101 := Lib.hid k
    clear k K100
    go_wp2_with fail
    refine (ksame K101.out 1 0 rfl rfl (by dsimp only; decide) rfl).mono ?_
    rintro e w102 ⟨rfl, k⟩
    have K102 := Lib.hid k
    clear k K101
    go_wp2_with fail
    refine (kboth K102.out 5 4 rfl rfl (by dsimp only; decide)).mono ?_
    rintro e w103 ⟨v103, rfl, k⟩
    have K103 := Lib.hid k
    clear k K102
    go_wp2_with fail
    refine (kxboth K103.out 6 5 rfl rfl (by dsimp only; decide) (by dsimp only; decide) (by dsimp only; decide)).mono ?_
    rintro e w104 ⟨v104, rfl, k⟩
    have K104 := Lib.hid k
    clear k K103
    go_wp2_with fail
    refine (ksame K104.out 1 0 rfl rfl (by dsimp only; decide) rfl).mono ?_
    rintro e w105 ⟨rfl, k⟩
    have K105 := Lib.hid k
    clear k K104
    go_wp2_with fail
    refine (kminus K105.out 7 6 rfl rfl (by dsimp only; decide)).mono ?_
    rintro e w106 ⟨v106, rfl, k⟩
    have K106 := Lib.hid k
    clear k K105
    go_wp2_with fail
    refine (kxminus K106.out 8 7 rfl rfl (by dsimp only; decide)).mono ?_
    rintro e w107 ⟨v107, rfl, k⟩
    have K107 := Lib.hid k
    clear k K106
    go_wp2_with fail
    refine (ksame K107.out 1 0 rfl rfl (by dsimp only; decide) rfl).mono ?_
    rintro e w108 ⟨rfl, k⟩
    have K108 := Lib.hid k
    clear k K107
    go_wp2_with fail
    refine (kcount K108.out 9 rfl (by dsimp only; decide)).mono ?_
    rintro e w109 ⟨rfl, k⟩
    have K109 := Lib.hid k
    clear k K108
    obtain ⟨cc, hcc⟩ : ∃ cc : Int, min (cnt (mk (Ent.mk v1 X 12).l) : Int) 9223372036854775807 = cc := ⟨_, rfl⟩
    dsimp only at hcc ⊢
    rw [hcc]
    go_wp2_with fail
    refine (kxcount K109.out 9 rfl (by dsimp only; decide)).mono ?_
    rintro e w110 ⟨rfl, k⟩
    have K110 := Lib.hid k
    clear k K109
    dsimp only
    rw [hcc]
    clear hcc
    go_wp2_with fail
    go_ret
    exact ⟨by simp, K110.out.bel⟩
end Go.Proofs.Ytpjfgkjhhmfhkaa
