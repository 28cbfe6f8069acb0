/- FlatKnown's walk. No condition. -/
import Derived.Test.YtadglppplgeldaaFltBk
import Derived.Test.YtadglppplgeldaaGenRow
namespace Go.Proofs.Ytadglppplgeldaa
open Go.RowKit
set_option maxRecDepth 20000

/-- The example's table. -/
def kM : List (List Int) := [[], [0]]
def kO : List (List Int) := [[1], [1099511627776], [], [1099511627778, 1099511627777]]
def kS : List Sg := [⟨0, 1, [], true, true⟩, ⟨1099511627776, 1099511627777, [1], false, true⟩, ⟨1099511627778, 1099511627778, [], true, false⟩, ⟨1099511627779, 1099511627779, [1099511627778, 1099511627777], false, true⟩]
theorem k_ok : okt kM kO := oktB_iff.1 (by decide)
theorem k_flt : flt kM kO = kS := rfl
theorem k_add : addL kS = some (kM, kO) := rfl
theorem k_f1 : fnd 1099511627777 kS = some 1 := rfl
theorem k_f2 : fnd 2 kS = none := rfl
theorem k_p1 : pars kS 1099511627777 = [1099511627776] := rfl
theorem k_p2 : pars kS 7 = [] := rfl
theorem k_b1 : addL [⟨1, 1, [], false, false⟩] = none := rfl
theorem k_b2 : addL [⟨0, 549755813888, [], true, true⟩] = none := rfl
theorem k_in : ∀ s ∈ kS, (-9223372036854775808 ≤ s.lo ∧ s.lo < 9223372036854775808 ∧ -9223372036854775808 ≤ s.hi ∧ s.hi < 9223372036854775808) ∧ s.par.length ≤ 1000000 := by
  intro s hs
  simp only [kS, List.mem_cons, List.not_mem_nil, or_false] at hs
  rcases hs with rfl | rfl | rfl | rfl <;> decide
theorem k_n1 : ¬ okt [[0]] [] := fun h => absurd (oktB_iff.2 h) (by decide)
theorem k_n2 : ¬ okt [[], [0, 0]] [] := fun h => absurd (oktB_iff.2 h) (by decide)
theorem k_n3 : ¬ okt [[1]] [] := fun h => absurd (oktB_iff.2 h) (by decide)
theorem alc (w : World) (o : Obj) : ∃ W, W = w.alloc o ∧ W.heap[w.heap.size]? = some o ∧ W.heap.size = w.heap.size + 1 ∧ Below w.heap.size w W :=
  ⟨_, rfl, heap_alloc_last _ _, by simp, (Below.refl _ w).alloc (Nat.le_refl _) _⟩
theorem JS.lit2 {B : Nat} {w : World} {b : Nat} {x y : Int} (h : w.heap[b]? = some (.cells #[.int .i64 x, .int .i64 y] 3 (0, 0))) : JS B w (.slice (some ⟨b, 0, none⟩) 2 2) [x, y] :=
  JS.own (B' := b) (show JOwn w b (.slice (some ⟨b, 0, none⟩) 2 2) [x, y] from ⟨rfl, .inr ⟨b, 2, _, rfl, Nat.le_refl _, h, Nat.le_refl _, by decide, rfl, rfl⟩⟩)
theorem GS.lit1 {B : Nat} {w : World} {b : Nat} {s : Sg} (h : w.heap[b]? = some (.cells #[.int .i64 s.lo, .int .i64 s.hi, .slice none 0 0, .bool s.root, .bool s.head] 33 (0, 0))) (hp : s.par = []) : GS B w (.slice (some ⟨b, 0, none⟩) 1 1) [s] := by
  refine ⟨_, 1, rfl, Nat.le_refl _, fun j t hj => ?_⟩
  have hj0 : j = 0 := by have := (List.getElem?_eq_some_iff.1 hj).1; simp at this; omega
  subst hj0
  obtain rfl : s = t := by simpa using hj
  refine ⟨b, 0, .slice none 0 0, rfl, fun i u hi => ?_, by rw [hp]; exact JS.nil _ _⟩
  rw [Nat.zero_mul, Nat.add_zero, Nat.zero_add, cell_of_row w b i _ _ _ h, List.getElem?_toArray]
  exact hi
theorem kworld (w : World) : ∃ W, W = (((((((w.alloc (.cells #[.int .i64 0] 3)).alloc (.cells #[.slice none 0 0, .slice (some ⟨w.heap.size, 0, none⟩) 1 1] 22)).alloc (.cells #[.int .i64 1] 3)).alloc (.cells #[.int .i64 1099511627776] 3)).alloc (.cells #[.int .i64 1099511627778, .int .i64 1099511627777] 3)).alloc (.cells #[.slice (some ⟨w.heap.size + 1 + 1, 0, none⟩) 1 1, .slice (some ⟨w.heap.size + 1 + 1 + 1, 0, none⟩) 1 1, .slice none 0 0, .slice (some ⟨w.heap.size + 1 + 1 + 1 + 1, 0, none⟩) 2 2] 22)).alloc (.cells #[.slice (some ⟨w.heap.size + 1, 0, none⟩) 2 2, .slice (some ⟨w.heap.size + 1 + 1 + 1 + 1 + 1, 0, none⟩) 4 4] 25)) ∧
    LS 0 W (.slice (some ⟨w.heap.size + 1, 0, none⟩) 2 2) kM ∧ LS 0 W (.slice (some ⟨w.heap.size + 1 + 1 + 1 + 1 + 1, 0, none⟩) 4 4) kO ∧ W.heap[w.heap.size + 1 + 1 + 1 + 1 + 1 + 1]? = some (.cells #[.slice (some ⟨w.heap.size + 1, 0, none⟩) 2 2, .slice (some ⟨w.heap.size + 1 + 1 + 1 + 1 + 1, 0, none⟩) 4 4] 25 (0, 0)) ∧ Below w.heap.size w W := by
  obtain ⟨w1, e1, f1, s1, b1⟩ := alc w (.cells #[.int .i64 0] 3)
  obtain ⟨w2, e2, f2, s2, b2⟩ := alc w1 (.cells #[.slice none 0 0, .slice (some ⟨w.heap.size, 0, none⟩) 1 1] 22)
  obtain ⟨w3, e3, f3, s3, b3⟩ := alc w2 (.cells #[.int .i64 1] 3)
  obtain ⟨w4, e4, f4, s4, b4⟩ := alc w3 (.cells #[.int .i64 1099511627776] 3)
  obtain ⟨w5, e5, f5, s5, b5⟩ := alc w4 (.cells #[.int .i64 1099511627778, .int .i64 1099511627777] 3)
  obtain ⟨w6, e6, f6, s6, b6⟩ := alc w5 (.cells #[.slice (some ⟨w.heap.size + 1 + 1, 0, none⟩) 1 1, .slice (some ⟨w.heap.size + 1 + 1 + 1, 0, none⟩) 1 1, .slice none 0 0, .slice (some ⟨w.heap.size + 1 + 1 + 1 + 1, 0, none⟩) 2 2] 22)
  obtain ⟨w7, e7, f7, s7, b7⟩ := alc w6 (.cells #[.slice (some ⟨w.heap.size + 1, 0, none⟩) 2 2, .slice (some ⟨w.heap.size + 1 + 1 + 1 + 1 + 1, 0, none⟩) 4 4] 25)
  rw [s1] at f2
  rw [s2, s1] at f3
  rw [s3, s2, s1] at f4
  rw [s4, s3, s2, s1] at f5
  rw [s5, s4, s3, s2, s1] at f6
  rw [s6, s5, s4, s3, s2, s1] at f7
  have j1 := (JS.lit1 (B := 0) f1)
  have m1 := LS.lit (B := 0) [(.slice none 0 0, []), (.slice (some ⟨w.heap.size, 0, none⟩) 1 1, [0])] f2 (fun x hx => by
    simp only [List.mem_cons, List.not_mem_nil, or_false] at hx
    rcases hx with rfl | rfl
    · exact JS.nil _ _
    · exact j1.kb b2)
  have j3 := (JS.lit1 (B := 0) f3)
  have j4 := (JS.lit1 (B := 0) f4)
  have j5 := (JS.lit2 (B := 0) f5)
  have o1 := LS.lit (B := 0) [(.slice (some ⟨w.heap.size + 1 + 1, 0, none⟩) 1 1, [1]), (.slice (some ⟨w.heap.size + 1 + 1 + 1, 0, none⟩) 1 1, [1099511627776]), (.slice none 0 0, []), (.slice (some ⟨w.heap.size + 1 + 1 + 1 + 1, 0, none⟩) 2 2, [1099511627778, 1099511627777])] f6 (fun x hx => by
    simp only [List.mem_cons, List.not_mem_nil, or_false] at hx
    rcases hx with rfl | rfl | rfl | rfl
    · exact ((j3.kb b4).kb b5).kb b6
    · exact (j4.kb b5).kb b6
    · exact JS.nil _ _
    · exact j5.kb b6)
  refine ⟨w7, by rw [e7, e6, e5, e4, e3, e2, e1], ((((m1.kb b3).kb b4).kb b5).kb b6).kb b7, o1.kb b7, f7, ?_⟩
  have c2 := b1.trans (b2.mono (by omega))
  have c3 := c2.trans (b3.mono (by omega))
  have c4 := c3.trans (b4.mono (by omega))
  have c5 := c4.trans (b5.mono (by omega))
  have c6 := c5.trans (b6.mono (by omega))
  exact c6.trans (b7.mono (by omega))
/-- What the statement keeps at hand. -/
structure KI (w W : World) (tb mb ob bb : Nat) (p1 : Option Addr) (c1 : Nat) (u q : Value) : Prop where
  m : LS 0 W (.slice (some ⟨mb, 0, none⟩) 2 2) kM
  o : LS 0 W (.slice (some ⟨ob, 0, none⟩) 4 4) kO
  t : W.heap[tb]? = some (.cells #[.slice (some ⟨mb, 0, none⟩) 2 2, .slice (some ⟨ob, 0, none⟩) 4 4] 25 (0, 0))
  g : GS 0 W (.slice p1 4 c1) kS
  b : W.heap[bb]? = some (.cells #[u, q] 25 (0, 0))
  bel : Below w.heap.size w W
theorem KI.kb {w W W' : World} {tb mb ob bb : Nat} {p1 : Option Addr} {c1 : Nat} {u q : Value} (h : KI w W tb mb ob bb p1 c1 u q) (k : Below W.heap.size W W') : KI w W' tb mb ob bb p1 c1 u q :=
  ⟨h.m.kb k, h.o.kb k, (k.block _ (Array.getElem?_eq_some_iff.1 h.t).1).trans h.t, h.g.kb k, (k.block _ (Array.getElem?_eq_some_iff.1 h.b).1).trans h.b, h.bel.trans (k.mono h.bel.size)⟩
theorem back_no {w : World} {B : Nat} {l : List Sg} {e : Ending} {w' : World} (h : BkPost w B l e w') (hn : addL l = none) : e = .returned (.tuple #[tv none 0 0 none 0 0, .bool false]) ∧ Below w.heap.size w w' := by
  obtain ⟨h1, h2⟩ := h
  rcases h2 with ⟨_, _, _, _, _, _, X, Z, _, _, _, h3⟩ | ⟨h3, _⟩
  · have h4 := h3.1
    rw [hn] at h4; cases h4
  · exact ⟨h3, h1⟩
theorem lit_one (w : World) (x : Int) : LS 0 ((w.alloc (.cells #[.int .i64 x] 3)).alloc (.cells #[.slice (some ⟨w.heap.size, 0, none⟩) 1 1] 22)) (.slice (some ⟨w.heap.size + 1, 0, none⟩) 1 1) [[x]] ∧ Below w.heap.size w ((w.alloc (.cells #[.int .i64 x] 3)).alloc (.cells #[.slice (some ⟨w.heap.size, 0, none⟩) 1 1] 22)) := by
  obtain ⟨w1, e1, f1, s1, b1⟩ := alc w (.cells #[.int .i64 x] 3)
  obtain ⟨w2, e2, f2, s2, b2⟩ := alc w1 (.cells #[.slice (some ⟨w.heap.size, 0, none⟩) 1 1] 22)
  rw [s1] at f2
  rw [← e1, ← e2]
  refine ⟨LS.lit (B := 0) [(.slice (some ⟨w.heap.size, 0, none⟩) 1 1, [x])] f2 (fun y hy => ?_), b1.trans (b2.mono (by omega))⟩
  rw [List.mem_singleton.1 hy]
  exact (JS.lit1 (B := 0) f1).kb b2
theorem lit_two (w : World) : LS 0 ((w.alloc (.cells #[.int .i64 0, .int .i64 0] 3)).alloc (.cells #[.slice none 0 0, .slice (some ⟨w.heap.size, 0, none⟩) 2 2] 22)) (.slice (some ⟨w.heap.size + 1, 0, none⟩) 2 2) [[], [0, 0]] ∧ Below w.heap.size w ((w.alloc (.cells #[.int .i64 0, .int .i64 0] 3)).alloc (.cells #[.slice none 0 0, .slice (some ⟨w.heap.size, 0, none⟩) 2 2] 22)) := by
  obtain ⟨w1, e1, f1, s1, b1⟩ := alc w (.cells #[.int .i64 0, .int .i64 0] 3)
  obtain ⟨w2, e2, f2, s2, b2⟩ := alc w1 (.cells #[.slice none 0 0, .slice (some ⟨w.heap.size, 0, none⟩) 2 2] 22)
  rw [s1] at f2
  rw [← e1, ← e2]
  refine ⟨LS.lit (B := 0) [(.slice none 0 0, []), (.slice (some ⟨w.heap.size, 0, none⟩) 2 2, [0, 0])] f2 (fun y hy => ?_), b1.trans (b2.mono (by omega))⟩
  simp only [List.mem_cons, List.not_mem_nil, or_false] at hy
  rcases hy with rfl | rfl
  · exact JS.nil _ _
  · exact (JS.lit2 (B := 0) f1).kb b2
theorem k_par : ∀ s ∈ kS, s.par.length ≤ 1000000 := fun s hs => (k_in s hs).2
set_option maxHeartbeats 16000000 in
theorem known14w_to (w : World) : Calls Try.prog 3 #[] w fun e w' => e = .returned (.bool true) ∧ Below w.heap.size w w' := by
  obtain ⟨W, hW, hM, hO, hT, hb⟩ := kworld w
  have HW := Lib.hid hW
  have HB := Lib.hid hb
  have HM := Lib.hid hM
  have HO := Lib.hid hO
  have HT := Lib.hid hT
  clear hW hM hO hT hb
  go_enter Try.func3, Try.ntmps3
  go_wp2_with fail
  rw [← HW.out]
  generalize w.heap.size + 1 + 1 + 1 + 1 + 1 + 1 = tb at *
  generalize w.heap.size + 1 + 1 + 1 + 1 + 1 = ob at *
  generalize w.heap.size + 1 = mb at *
  refine (build_to5 W 0 (Nat.zero_le _) kM kO _ _ 2 2 4 4 HM.out HO.out (by decide) (by decide)).mono ?_
  rintro e w1 ⟨v1, Y, rfl, g1, hy1, hn1, b1⟩
  have g2 := g1.seen
  rw [hy1 k_ok, k_flt] at g2
  obtain ⟨p1, n1, c1, rfl, hn⟩ := g1.shape
  obtain rfl : n1 = 4 := by obtain ⟨_, _, e, _⟩ := g2; injection e
  have G1 := Lib.hid g2
  have HM1 := Lib.hid (HM.out.kb b1)
  have HO1 := Lib.hid (HO.out.kb b1)
  have HT1 := Lib.hid ((b1.block _ (Array.getElem?_eq_some_iff.1 HT.out).1).trans HT.out)
  have B1 := Lib.hid (HB.out.trans (b1.mono HB.out.size))
  clear g1 hy1 hn1 b1 g2 hn HM HO HT HB HW
  go_wp2_with fail
  refine (find5_to w1 0 _ kS 1099511627777 G1.out (by decide)).mono ?_
  rw [k_f1]
  rintro e w2 ⟨rfl, b2⟩
  have G2 := Lib.hid (G1.out.kb b2)
  have HM2 := Lib.hid (HM1.out.kb b2)
  have HO2 := Lib.hid (HO1.out.kb b2)
  have HT2 := Lib.hid ((b2.block _ (Array.getElem?_eq_some_iff.1 HT1.out).1).trans HT1.out)
  have B2 := Lib.hid (B1.out.trans (b2.mono B1.out.size))
  clear b2 HM1 HO1 HT1 B1 G1
  go_wp2_with fail
  refine (find5_to w2 0 _ kS 2 G2.out (by decide)).mono ?_
  rw [k_f2]
  rintro e w3 ⟨rfl, b3⟩
  have G3 := Lib.hid (G2.out.kb b3)
  have HM3 := Lib.hid (HM2.out.kb b3)
  have HO3 := Lib.hid (HO2.out.kb b3)
  have HT3 := Lib.hid ((b3.block _ (Array.getElem?_eq_some_iff.1 HT2.out).1).trans HT2.out)
  have B3 := Lib.hid (B2.out.trans (b3.mono B2.out.size))
  clear b3 HM2 HO2 HT2 B2 G2
  go_wp2_with fail
  refine (back_to w3 0 (Nat.zero_le _) _ kS G3.out (by decide) k_in).mono ?_
  rintro e w4 ⟨b4, h4⟩
  obtain ⟨p, n, c, q, m, d, X, Z, rfl, l1, l2, hbk⟩ : ∃ p n c q m d X Z, e = .returned (.tuple #[tv p n c q m d, .bool true]) ∧ LO 0 w3.heap.size w4 (.slice p n c) X ∧ LO 0 w3.heap.size w4 (.slice q m d) Z ∧ BkOf kS (X.map (·.2)) (Z.map (·.2)) := by
    rcases h4 with h4 | ⟨_, h4⟩
    · exact h4
    · exact absurd ⟨k_add, k_ok, k_flt⟩ (h4 kM kO)
  obtain rfl : m = 4 := by
    obtain ⟨_, _, _, e, h5⟩ := l2.shape
    injection e with _ e _
    have h6 := hbk.1
    rw [k_add] at h6
    injection h6 with h6
    injection h6 with _ h6
    have := congrArg List.length h6
    rw [List.length_map] at this
    rw [e, h5, ← this]; rfl
  have A4 := (Below.refl w4.heap.size w4).alloc (Nat.le_refl _) (.cells #[.slice p n c, .slice q 4 d] 25)
  have c4 := b4.trans (A4.mono b4.size)
  have K4 : Hid (KI w (w4.alloc (.cells #[.slice p n c, .slice q 4 d] 25)) tb mb ob w4.heap.size p1 c1 (.slice p n c) (.slice q 4 d)) := Lib.hid ⟨HM3.out.kb c4, HO3.out.kb c4, (c4.block _ (Array.getElem?_eq_some_iff.1 HT3.out).1).trans HT3.out, G3.out.kb c4, heap_alloc_last _ _, B3.out.trans (c4.mono B3.out.size)⟩
  obtain ⟨w5, hw5⟩ : ∃ w5, w5 = w4.alloc (.cells #[.slice p n c, .slice q 4 d] 25) := ⟨_, rfl⟩
  obtain ⟨bb, hbb⟩ : ∃ bb, bb = w4.heap.size := ⟨_, rfl⟩
  have hs5 : w4.heap.size + 1 = w5.heap.size := by rw [hw5]; simp
  rw [← hw5, ← hbb] at K4
  have HW5 := Lib.hid hw5
  have HBB := Lib.hid hbb
  have HS5 := Lib.hid hs5
  clear h4 l1 l2 hbk b4 HM3 HO3 HT3 B3 G3 A4 c4 hw5 hbb hs5
  go_wp2_with fail
  rw [HS5.out, ← HW5.out, ← HBB.out]
  have A5 := (Below.refl w5.heap.size w5).alloc (Nat.le_refl _) (.cells #[.int .i64 1, .int .i64 1, .slice none 0 0, .bool false, .bool false] 33)
  have HK5 := Lib.hid (K4.out.kb A5)
  refine (back_to _ 0 (Nat.zero_le _) _ [⟨1, 1, [], false, false⟩] (GS.lit1 (heap_alloc_last w5 _) rfl) (by decide) (fun s hs => by rw [List.mem_singleton.1 hs]; decide)).mono ?_
  intro e w6 h6
  obtain ⟨rfl, b6⟩ := back_no h6 k_b1
  have K6 := Lib.hid (HK5.out.kb b6)
  clear h6 b6 HK5 A5 K4
  go_wp2_with fail
  have A6 := (Below.refl w6.heap.size w6).alloc (Nat.le_refl _) (.cells #[.slice none 0 0, .slice none 0 0] 25)
  have A7 := A6.alloc (by simp) (.cells #[.int .i64 0, .int .i64 549755813888, .slice none 0 0, .bool true, .bool true] 33)
  have HK7 := Lib.hid (K6.out.kb A7)
  have hs7 : w6.heap.size + 1 = (w6.alloc (.cells #[.slice none 0 0, .slice none 0 0] 25)).heap.size := by simp
  rw [hs7]
  refine (back_to _ 0 (Nat.zero_le _) _ [⟨0, 549755813888, [], true, true⟩] (GS.lit1 (heap_alloc_last _ _) rfl) (by decide) (fun s hs => by rw [List.mem_singleton.1 hs]; decide)).mono ?_
  intro e w8 h8
  obtain ⟨rfl, b8⟩ := back_no h8 k_b2
  have K8 := Lib.hid (HK7.out.kb b8)
  clear h8 b8 HK7 A6 A7 K6 hs7
  go_wp2_with fail
  have A8 := (Below.refl w8.heap.size w8).alloc (Nat.le_refl _) (.cells #[.slice none 0 0, .slice none 0 0] 25)
  have HK9 := Lib.hid (K8.out.kb A8)
  clear A8 K8
  refine (known14_to _).mono ?_
  rintro e w10 ⟨rfl, b10⟩
  have K10 := Lib.hid (HK9.out.kb b10)
  clear b10 HK9
  obtain ⟨bx1, ox1, xv1, ex1, r1, jx1⟩ := K10.out.g.at (j := 1) (by decide)
  obtain ⟨bx2, ox2, xv2, ex2, r2, jx2⟩ := K10.out.g.at (j := 2) (by decide)
  obtain ⟨bx3, ox3, xv3, ex3, r3, jx3⟩ := K10.out.g.at (j := 3) (by decide)
  subst ex1
  injection ex2 with ex2
  injection ex2 with e20 e21 _
  subst e20 e21
  injection ex3 with ex3
  injection ex3 with e30 e31 _
  subst e30 e31
  obtain ⟨a0, a1, _, a3, a4⟩ := sg_cells r1
  obtain ⟨d0, d1, _, d3, d4⟩ := sg_cells r2
  obtain ⟨f0, f1, _, f3, f4⟩ := sg_cells r3
  simp only [show kS[1] = ⟨1099511627776, 1099511627777, [1], false, true⟩ from rfl, show kS[2] = ⟨1099511627778, 1099511627778, [], true, false⟩ from rfl, show kS[3] = ⟨1099511627779, 1099511627779, [1099511627778, 1099511627777], false, true⟩ from rfl, Nat.reduceMul] at a0 a1 a3 a4 d0 d1 d3 d4 f0 f1 f3 f4
  have hb1 := cell_ob5 K10.out.b 1 rfl
  have ht0 := cell_ob5 K10.out.t 0 rfl
  have ht1 := cell_ob5 K10.out.t 1 rfl
  have hgs := gsize
  clear r1 r2 r3 jx1 jx2 jx3
  go_wp2_with fail
  refine (right5_to w10 0 kM kO _ _ 2 2 4 4 K10.out.m K10.out.o (by decide) (by decide)).mono ?_
  rintro e w11 ⟨⟨r, rfl, hr⟩, b11⟩
  obtain rfl : r = true := hr.2 k_ok
  have K11 := Lib.hid (K10.out.kb b11)
  clear hr b11 K10 a0 a1 a3 a4 d0 d1 d3 d4 f0 f1 f3 f4 hb1 ht0 ht1
  go_wp2_with fail
  obtain ⟨L1, A1⟩ := lit_one w11 0
  have HK1 := Lib.hid (K11.out.kb A1)
  refine (right5_to _ 0 [[0]] [] _ none 1 1 0 0 L1 (LS.nil _ _) (by decide) (by decide)).mono ?_
  rintro e w12 ⟨⟨r, rfl, hr⟩, b12⟩
  obtain rfl : r = false := by cases r with | false => rfl | true => exact absurd (hr.1 rfl) k_n1
  have K12 := Lib.hid (HK1.out.kb b12)
  clear hr b12 HK1 K11 L1 A1
  go_wp2_with fail
  obtain ⟨L1, A1⟩ := lit_two w12
  have HK1 := Lib.hid (K12.out.kb A1)
  refine (right5_to _ 0 [[], [0, 0]] [] _ none 2 2 0 0 L1 (LS.nil _ _) (by decide) (by decide)).mono ?_
  rintro e w13 ⟨⟨r, rfl, hr⟩, b13⟩
  obtain rfl : r = false := by cases r with | false => rfl | true => exact absurd (hr.1 rfl) k_n2
  have K13 := Lib.hid (HK1.out.kb b13)
  clear hr b13 HK1 K12 L1 A1
  go_wp2_with fail
  obtain ⟨L1, A1⟩ := lit_one w13 1
  have HK1 := Lib.hid (K13.out.kb A1)
  refine (build_to5 _ 0 (Nat.zero_le _) [[1]] [] _ none 1 1 0 0 L1 (LS.nil _ _) (by decide) (by decide)).mono ?_
  rintro e w14 ⟨v14, Y14, rfl, g14, hy14, hn14, b14⟩
  obtain rfl : Y14 = [] := hn14 k_n3
  obtain ⟨p14, n14, c14, rfl, hn⟩ := g14.shape
  obtain rfl : n14 = 0 := hn
  have K14 := Lib.hid (HK1.out.kb b14)
  clear g14 hy14 hn14 b14 HK1 K13 L1 A1
  go_wp2_with fail
  refine (pars_to w14 0 _ kS 1099511627777 K14.out.g (by decide) (by decide) k_par).mono ?_
  rintro e w15 ⟨v15, rfl, o15, b15⟩
  rw [k_p1] at o15
  obtain ⟨p15, n15, c15, rfl, hn⟩ := o15.shape
  obtain rfl : n15 = 1 := hn
  have K15 := Lib.hid (K14.out.kb b15)
  have O15 := Lib.hid o15
  clear o15 b15 K14
  go_wp2_with fail
  have A1 := (Below.refl w15.heap.size w15).alloc (Nat.le_refl _) (.cells #[.int .i64 1099511627776] 3)
  have HK1 := Lib.hid (K15.out.kb A1)
  refine (sameInts_to _ _ _ [1099511627776] [1099511627776] ((JOwn.seen O15.out).kb A1) (JS.lit1 (B := 0) (heap_alloc_last w15 _)).1 (by decide)).mono ?_
  rintro e w16 ⟨⟨r, rfl, hr⟩, b16⟩
  obtain rfl : r = true := hr.2 rfl
  have K16 := Lib.hid (HK1.out.kb b16)
  clear hr b16 HK1 K15 A1 O15
  go_wp2_with fail
  refine (pars_to w16 0 _ kS 7 K16.out.g (by decide) (by decide) k_par).mono ?_
  rintro e w17 ⟨v17, rfl, o17, b17⟩
  rw [k_p2] at o17
  obtain ⟨p17, n17, c17, rfl, hn⟩ := o17.shape
  obtain rfl : n17 = 0 := hn
  have K17 := Lib.hid (K16.out.kb b17)
  clear o17 b17 K16
  go_wp2_with fail
  go_ret
  exact ⟨by first | rfl | simp, K17.out.bel⟩
end Go.Proofs.Ytadglppplgeldaa
