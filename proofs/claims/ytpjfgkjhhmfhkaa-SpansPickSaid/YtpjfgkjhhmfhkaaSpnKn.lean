/- SpansKnown returns true and makes new memory alone. No condition. -/
import Derived.Test.YtpjfgkjhhmfhkaaSpnAp
import Derived.Test.YtpjfgkjhhmfhkaaSpnId
namespace Go.Proofs.Ytpjfgkjhhmfhkaa
open Go.RowKit

theorem seen_two {w : World} {b : Nat} {s t : Sp} {T : TypeId} (h : w.heap[b]? = some (.cells #[.int .i64 s.1, .int .i64 s.2, .int .i64 t.1, .int .i64 t.2] T (0, 0))) : SSeen w (.slice (some ⟨b, 0, none⟩) 2 2) [s, t] := by
  have hc : ∀ i, w.cell? ⟨b, i, none⟩ = (#[Value.int .i64 s.1, .int .i64 s.2, .int .i64 t.1, .int .i64 t.2] : Array Value)[i]? := fun i => cell_of_row w b i _ _ _ h
  refine ⟨_, _, rfl, Nat.le_refl _, fun j u hj => ?_⟩
  match j, hj with
  | 0, hj => obtain rfl : s = u := by simpa using hj
             exact ⟨b, 0, rfl, hc 0, hc 1⟩
  | 1, hj => obtain rfl : t = u := by simpa using hj
             exact ⟨b, 0, rfl, hc 2, hc 3⟩
theorem top_two {s t : Sp} (h1 : s.2 ≤ topN) (h2 : t.2 ≤ topN) : Top topN [s, t] := fun u hu => by
  simp at hu
  rcases hu with rfl | rfl
  · exact h1
  · exact h2
theorem SSeen.one {w : World} {v : Value} {s : Sp} (h : SSeen w v [s]) : ∃ b o c, v = .slice (some ⟨b, o, none⟩) 1 c := by
  obtain ⟨p, c, rfl⟩ := h.form
  obtain ⟨b, o, rfl, _⟩ := h.at (j := 0) (by simp)
  exact ⟨b, o, c, rfl⟩
theorem kn_cnt : cnt (mk [((0, topN) : Sp)]) = 9223372036854775808 := by rw [show mk [((0, topN) : Sp)] = [(0, topN)] by decide +kernel, cnt_one]; decide +kernel
theorem kn_m : mi topN [(0, topN)] [(0, 0), (topN, topN)] = [(1, topN - 1)] := by decide +kernel
theorem kn_f : fir [(0, topN)] (1 : Int).toNat = [(topN, topN)] := by unfold fir; rw [kn_cnt]; decide +kernel
theorem kn_l : las [(0, topN)] (2 : Int).toNat = [(0, 1)] := by decide +kernel
theorem kn_s : ski [(0, topN)] (1 : Int).toNat = [(0, topN - 1)] := by unfold ski; rw [kn_cnt]; decide +kernel
theorem kn_h : hiV (mk [((0, topN) : Sp)]) = (topN, true) := by decide +kernel
theorem kn_c4 : cnt (mk [((0, 2) : Sp), (topN, topN)]) = 4 := by rw [show mk [((0, 2) : Sp), (topN, topN)] = [(0, 2), (topN, topN)] by decide +kernel, cnt_cons, cnt_one]; decide +kernel
theorem kn_i : (els (fir [((0, 2) : Sp), (topN, topN)] (3 : Int).toNat)).reverse = [topN, 2, 1] := by
  have h : fir [((0, 2) : Sp), (topN, topN)] (3 : Int).toNat = [(1, 2), (topN, topN)] := by unfold fir; rw [kn_c4]; decide +kernel
  rw [h]; decide +kernel
theorem kn_c : cnt (fir [((0, 2) : Sp), (topN, topN)] (3 : Int).toNat) ≤ 1000000 := by
  have h : fir [((0, 2) : Sp), (topN, topN)] (3 : Int).toNat = [(1, 2), (topN, topN)] := by unfold fir; rw [kn_c4]; decide +kernel
  rw [h, cnt_cons, cnt_one]; decide +kernel
theorem kn_ca : min (cnt (mk [((0, topN) : Sp)]) : Int) 9223372036854775807 = 9223372036854775807 := by rw [kn_cnt]; decide
theorem kn_cm : min (cnt (mk [((1, topN - 1) : Sp)]) : Int) 9223372036854775807 = 9223372036854775806 := by rw [show mk [((1, topN - 1) : Sp)] = [(1, topN - 1)] by decide +kernel, cnt_one]; decide +kernel
theorem kn_r1 : ¬ Nrm [((0, 1) : Sp), (2, 3)] := fun h => by have := h.2.2.1 (2, 3) (by simp); simp only at this; omega
theorem kn_r2 : ¬ Nrm [((-1, 1) : Sp)] := fun h => by have := h.1; simp only at this; omega
section
variable {w W W' : World} {xs ys : List Ent} {x y : Ent}
theorem Kp.re (K : Kp w W xs) : Kp W W xs := ⟨Below.refl _ _, K.ent⟩
theorem Kp.frm (K : Kp w W xs) (k : Kp W W' ys) : Kp w W' ys := ⟨K.bel.trans (k.bel.mono K.bel.size), k.ent⟩
theorem khigh (K : Kp w W xs) (i : Nat) (hi : xs[i]? = some x) (h : x.n ≤ 900000) : Calls Try.prog 12 #[x.v] W fun e W' => e = .returned (.tuple #[.int .i64 (hiV (mk x.l)).1, .bool (hiV (mk x.l)).2]) ∧ Kp w W' xs := by
  obtain ⟨h1, h2, h3⟩ := K.at hi
  refine (high_to W x.v x.l h1 (by omega) h3).mono ?_
  rintro e W' ⟨rfl, b⟩
  exact ⟨rfl, K.next b⟩
theorem kids (K : Kp w W xs) (i : Nat) (hi : xs[i]? = some x) (h : x.n ≤ 900000) (n : Int) (hn : n < 9223372036854775808) (hc : cnt (fir x.l n.toNat) ≤ 1000000) : Calls Try.prog 14 #[x.v, .int .i64 n] W fun e W' => ∃ v', e = .returned v' ∧ NOwn W' W.heap.size v' (els (fir x.l n.toNat)).reverse ∧ Kp w W' xs := by
  obtain ⟨h1, h2, h3⟩ := K.at hi
  refine (ids_to W x.v x.l n h1 (by omega) h3 hn hc).mono ?_
  rintro e W' ⟨v', rfl, o, b⟩
  exact ⟨v', rfl, o, K.next b⟩
theorem krightN (K : Kp w W xs) (i : Nat) (hi : xs[i]? = some x) (h : x.n ≤ 100000) (hn : ¬ Nrm x.l) : Calls Try.prog 18 #[x.v] W fun e W' => e = .returned (.bool false) ∧ Kp w W' xs := by
  obtain ⟨h1, h2, h3⟩ := K.at hi
  refine (right_to W x.v x.l h1 h3 (by omega)).mono ?_
  rintro e W' ⟨⟨r, rfl, hr⟩, b⟩
  cases r with
  | true => exact absurd (hr.1 rfl) hn
  | false => exact ⟨rfl, K.next b⟩
end
theorem nseen_three {w : World} {b : Nat} {x y z : Int} {T : TypeId} (h : w.heap[b]? = some (.cells #[.int .i64 x, .int .i64 y, .int .i64 z] T (0, 0))) : NSeen w (.slice (some ⟨b, 0, none⟩) 3 3) [x, y, z] := by
  have hc : ∀ i, w.cell? ⟨b, i, none⟩ = (#[Value.int .i64 x, .int .i64 y, .int .i64 z] : Array Value)[i]? := fun i => cell_of_row w b i _ _ _ h
  refine ⟨_, _, rfl, Nat.le_refl _, fun j u hj => ⟨_, rfl, ?_⟩⟩
  rw [Addr.add_lit, Nat.zero_add, hc]
  match j, hj with
  | 0, hj => obtain rfl : x = u := by simpa using hj
             rfl
  | 1, hj => obtain rfl : y = u := by simpa using hj
             rfl
  | 2, hj => obtain rfl : z = u := by simpa using hj
             rfl
set_option maxRecDepth 20000 in
set_option maxHeartbeats 16000000 in
theorem spansKnown_walk (w : World) : Calls Try.prog 3 #[] w fun e w' => e = .returned (.bool true) ∧ Below w.heap.size w w' := by
  go_enter Try.func3, Try.ntmps3
  go_wp2_with fail
  have a0 := (Below.refl w.heap.size w).alloc (Nat.le_refl _) (.cells #[.int .i64 0, .int .i64 9223372036854775807] 23)
  have KA := ((Kp.start w).next a0).push (x := ⟨.slice (some ⟨w.heap.size, 0, none⟩) 1 1, [(0, topN)], 1⟩) (seen_one (s := (0, topN)) (heap_alloc_last w _)) (Nat.le_refl _) all_top
  have hsA : (w.alloc (.cells #[.int .i64 0, .int .i64 9223372036854775807] 23)).heap.size = w.heap.size + 1 := by simp
  generalize hwA : w.alloc (.cells #[.int .i64 0, .int .i64 9223372036854775807] 23) = wA at *
  have a1 := (Below.refl wA.heap.size wA).alloc (Nat.le_refl _) (.cells #[.int .i64 0, .int .i64 0, .int .i64 9223372036854775807, .int .i64 9223372036854775807] 23)
  have KB := (KA.next a1).push (x := ⟨.slice (some ⟨wA.heap.size, 0, none⟩) 2 2, [(0, 0), (topN, topN)], 2⟩) (seen_two (s := (0, 0)) (t := (topN, topN)) (heap_alloc_last wA _)) (Nat.le_refl _) (top_two (by decide) (by decide))
  rw [hsA] at KB
  have K0 := Lib.hid KB
  clear KA KB a0 a1 hwA hsA
  go_wp2_with fail
  refine (kminus K0.out 1 0 rfl rfl (by dsimp only; decide)).mono ?_
  rintro e w1 ⟨v1, rfl, k⟩
  dsimp only at k
  rw [kn_m] at k
  have K1 := Lib.hid k
  clear k K0
  obtain ⟨b1, o1, c1, rfl⟩ := (K1.out.at (i := 0) rfl).1.one
  go_wp2_with fail
  refine (kfirst K1.out 2 rfl (by dsimp only; decide) 1 (by decide)).mono ?_
  rintro e w2 ⟨v2, rfl, k⟩
  dsimp only at k
  rw [kn_f] at k
  have K2 := Lib.hid k
  clear k K1
  obtain ⟨b2, o2, c2, rfl⟩ := (K2.out.at (i := 0) rfl).1.one
  go_wp2_with fail
  refine (klast K2.out 3 rfl (by dsimp only; decide) 2 (by decide)).mono ?_
  rintro e w3 ⟨v3, rfl, k⟩
  dsimp only at k
  rw [kn_l] at k
  have K3 := Lib.hid k
  clear k K2
  obtain ⟨b3, o3, c3, rfl⟩ := (K3.out.at (i := 0) rfl).1.one
  go_wp2_with fail
  refine (khigh K3.out 4 rfl (by dsimp only; decide)).mono ?_
  rintro e w4 ⟨rfl, k⟩
  have K4 := Lib.hid k
  clear k K3
  dsimp only
  rw [kn_h]
  go_wp2_with fail
  refine (low_to w4 _ [] ⟨none, 0, rfl, Nat.le_refl _, fun j s hj => (by simp at hj)⟩ (by decide) (fun s hs => (by simp at hs))).mono ?_
  rintro e w5 ⟨rfl, b⟩
  have K5 := Lib.hid (K4.out.next b)
  clear b K4
  rw [show loV (mk []) = (0, false) from rfl]
  go_wp2_with fail
  have a2 := (Below.refl w5.heap.size w5).alloc (Nat.le_refl _) (.cells #[.int .i64 0, .int .i64 2, .int .i64 9223372036854775807, .int .i64 9223372036854775807] 23)
  have KB := (K5.out.next a2).push (x := ⟨.slice (some ⟨w5.heap.size, 0, none⟩) 2 2, [(0, 2), (topN, topN)], 2⟩) (seen_two (s := (0, 2)) (t := (topN, topN)) (heap_alloc_last w5 _)) (Nat.le_refl _) (top_two (by decide) (by decide))
  have K6 := Lib.hid KB
  clear KB a2 K5
  refine (kids K6.out 0 rfl (by dsimp only; decide) 3 (by decide) kn_c).mono ?_
  rintro e w7 ⟨vi, rfl, oi, k⟩
  rw [show (els (fir [((0, 2) : Sp), (topN, topN)] (3 : Int).toNat)).reverse = [topN, 2, 1] from kn_i] at oi
  obtain ⟨pi, ci, rfl⟩ := oi.seen.form
  have OI := Lib.hid oi.seen
  have K7 := Lib.hid k
  clear k oi K6
  go_wp2_with fail
  refine (known10_to w7).mono ?_
  rintro e w8 ⟨rfl, b⟩
  have OI8 := Lib.hid (OI.out.kb b)
  have K8 := Lib.hid (K7.out.next b)
  clear b K7 OI
  obtain ⟨ql, rl, el, xl, yl⟩ := (K8.out.at (i := 1) rfl).1.at (j := 0) (by simp)
  injection el with el
  injection el with ela elb
  subst ela elb
  obtain ⟨qf, rf, ef, xf, yf⟩ := (K8.out.at (i := 2) rfl).1.at (j := 0) (by simp)
  injection ef with ef
  injection ef with efa efb
  subst efa efb
  obtain ⟨qm, rm, em, xm, ym⟩ := (K8.out.at (i := 3) rfl).1.at (j := 0) (by simp)
  injection em with em
  injection em with ema emb
  subst ema emb
  simp only [Nat.zero_mul, Nat.add_zero, List.getElem_cons_zero, topN] at xl yl xf yf xm ym
  go_wp2_with fail
  refine (kcount (K8.out.re) 5 rfl (by dsimp only; decide)).mono ?_
  rintro e w9 ⟨rfl, k⟩
  have OI9 := Lib.hid (OI8.out.kb k.bel)
  have K9 := Lib.hid (K8.out.frm k)
  clear k K8 OI8
  dsimp only
  rw [kn_ca]
  go_wp2_with fail
  refine (kcount (K9.out.re) 3 rfl (by dsimp only; decide)).mono ?_
  rintro e w10 ⟨rfl, k⟩
  have OI10 := Lib.hid (OI9.out.kb k.bel)
  have K10 := Lib.hid (K9.out.frm k)
  clear k K9 OI9
  dsimp only
  rw [kn_cm]
  go_wp2_with fail
  have a3 := (Below.refl w10.heap.size w10).alloc (Nat.le_refl _) (.cells #[.int .i64 9223372036854775807, .int .i64 2, .int .i64 1] 3)
  have n3 := nseen_three (x := topN) (y := 2) (z := 1) (heap_alloc_last w10 (.cells #[.int .i64 9223372036854775807, .int .i64 2, .int .i64 1] 3))
  refine (sameInts_to _ _ _ [topN, 2, 1] [topN, 2, 1] (OI10.out.kb a3) n3 (by decide)).mono ?_
  rintro e w11 ⟨⟨r, rfl, hr⟩, b⟩
  rw [hr.2 rfl]
  have K11 := Lib.hid ((K10.out.next a3).next b)
  clear a3 n3 b hr K10 OI10
  go_wp2_with fail
  refine (kright K11.out 5 rfl (by dsimp only; decide) (nrm_one (by decide) (by decide))).mono ?_
  rintro e w12 ⟨rfl, k⟩
  have K12 := Lib.hid k
  clear k K11
  go_wp2_with fail
  have a4 := (Below.refl w12.heap.size w12).alloc (Nat.le_refl _) (.cells #[.int .i64 0, .int .i64 1, .int .i64 2, .int .i64 3] 23)
  have KB := (K12.out.next a4).push (x := ⟨.slice (some ⟨w12.heap.size, 0, none⟩) 2 2, [(0, 1), (2, 3)], 2⟩) (seen_two (s := (0, 1)) (t := (2, 3)) (heap_alloc_last w12 _)) (Nat.le_refl _) (top_two (by decide) (by decide))
  have K13 := Lib.hid KB
  clear KB a4 K12
  refine (krightN K13.out 0 rfl (by dsimp only; decide) kn_r1).mono ?_
  rintro e w14 ⟨rfl, k⟩
  have K14 := Lib.hid k
  clear k K13
  go_wp2_with fail
  have a4 := (Below.refl w14.heap.size w14).alloc (Nat.le_refl _) (.cells #[.int .i64 (-1), .int .i64 1] 23)
  have KB := (K14.out.next a4).push (x := ⟨.slice (some ⟨w14.heap.size, 0, none⟩) 1 1, [(-1, 1)], 1⟩) (seen_one (s := (-1, 1)) (heap_alloc_last w14 _)) (Nat.le_refl _) (fun s hs => (by obtain rfl : s = (-1, 1) := (by simpa using hs); decide))
  have K15 := Lib.hid KB
  clear KB a4 K14
  refine (krightN K15.out 0 rfl (by dsimp only; decide) kn_r2).mono ?_
  rintro e w16 ⟨rfl, k⟩
  have K16 := Lib.hid k
  clear k K15
  go_wp2_with fail
  refine (kskip K16.out 7 rfl (by dsimp only; decide) 1 (by decide)).mono ?_
  rintro e wz ⟨vz, rfl, k⟩
  dsimp only at k
  rw [kn_s] at k
  obtain ⟨bz, oz, cz, rfl⟩ := (k.at (i := 0) rfl).1.one
  have KZ := Lib.hid k
  clear k K16
  go_wp2_with fail
  go_ret
  exact ⟨rfl, KZ.out.bel⟩
end Go.Proofs.Ytpjfgkjhhmfhkaa
