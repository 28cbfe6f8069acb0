/- Package flat: (*Table).add. Conditions: no more than a thousand IDs; numbers as Go has them. -/
import Derived.Test.YtadglppplgeldaaFltD
import Derived.Test.YtadglppplgeldaaFltW
import Derived.Test.YtadglppplgeldaaFltN
namespace Go.Proofs.Ytadglppplgeldaa
open Go.RowKit
set_option maxRecDepth 20000

theorem drewN_blw (w : World) (n : Nat) : Below w.heap.size w (w.drewN n) := ⟨rfl, rfl, rfl, Nat.le_refl _, fun _ _ => rfl⟩
/-- The IDs behind the first one of a segment: each stands on the one before it. -/
def lineK (lo : Int) (t : Nat) : List (List Int) := (List.range t).map fun i : Nat => [lo + (i : Int)]
theorem lineK_snoc (lo : Int) (t : Nat) : lineK lo (t + 1) = lineK lo t ++ [[lo + (t : Int)]] := by unfold lineK; rw [List.range_succ, List.map_append]; rfl
theorem lineK_len (lo : Int) (t : Nat) : (lineK lo t).length = t := by unfold lineK; simp
/-- A segment more: the lists of both groups, or none. -/
def addP (M O : List (List Int)) (s : Sg) : Option (List (List Int) × List (List Int)) :=
  if s.lo ≠ (if spl ≤ s.lo then spl + (O.length : Int) else (M.length : Int)) ∨ s.hi < s.lo ∨ 1000 - (M.length : Int) - (O.length : Int) ≤ s.hi - s.lo ∨ 4 < s.par.length then none
  else if spl ≤ s.lo then some (M, O ++ s.par :: lineK s.lo (s.hi - s.lo).toNat) else some (M ++ s.par :: lineK s.lo (s.hi - s.lo).toNat, O)
/-- A table in a variable of the program's. -/
structure TB (W : World) (B R tb : Nat) (p : Option Addr) (n c : Nat) (q : Option Addr) (m d : Nat) (X Z : List (Value × List Int)) : Prop where
  cell : W.heap[tb]? = some (.cells #[.slice p n c, .slice q m d] 25 (0, 0))
  lm : LO B R W (.slice p n c) X
  lo : LO B R W (.slice q m d) Z
  ap : ∀ j, (Value.slice p n c).ownBlock = some j → (Value.slice q m d).ownBlock ≠ some j
  lt : tb < R
  low : B ≤ tb
  size : R ≤ W.heap.size
section
variable {W W' : World} {B R tb : Nat} {p : Option Addr} {n c : Nat} {q : Option Addr} {m d : Nat} {X Z : List (Value × List Int)}
theorem TB.kb (h : TB W B R tb p n c q m d X Z) (k : Below W.heap.size W W') : TB W' B R tb p n c q m d X Z :=
  ⟨(k.block _ (Array.getElem?_eq_some_iff.1 h.cell).1).trans h.cell, h.lm.kb k, h.lo.kb k, h.ap, h.lt, h.low, Nat.le_trans h.size k.size⟩
theorem TB.len (h : TB W B R tb p n c q m d X Z) : n = X.length ∧ m = Z.length := by
  obtain ⟨_, _, _, e, h1⟩ := h.lm.shape
  obtain ⟨_, _, _, e', h2⟩ := h.lo.shape
  injection e with _ e _
  injection e' with _ e' _
  exact ⟨by rw [e]; exact h1, by rw [e']; exact h2⟩
theorem ftab_mi {w : World} {B b : Nat} {cs : Array Value} {j : Nat} {u : Value} (h : w.heap[b]? = some (.cells cs 25 (0, 0))) (hB : B ≤ b) : Mi B w (w.setCell ⟨b, j, none⟩ u) :=
  Mi.of h (by decide) hB ((Only.refl (fun k => k = b) w).setCell (p := ⟨b, j, none⟩) rfl _)
/-- A block of another type is not a row of lists. -/
theorem LO.far {v : Value} {Y : List (Value × List Int)} {b : Nat} {cs : Array Value} {t : TypeId} {f : Nat × Nat} (h : LO B R W v Y) (hb : W.heap[b]? = some (.cells cs t f)) (ht : t ≠ 22) : some b ≠ v.ownBlock := fun e => by
  rcases h.row.2 with ⟨h1, _⟩ | ⟨g, cap, cur, h1, _, hg, _⟩
  · rw [h1] at e; cases e
  · rw [h1] at e
    obtain rfl : b = g := by simpa [Value.ownBlock] using e
    rw [hg] at hb
    injection hb with hb
    injection hb with _ hb _
    exact ht hb.symm
theorem TB.setM {g cap sb : Nat} {y : Value × List Int} {cs : Array Value} (h : TB W B R tb p n c q m d X Z) (hy : JS B W y.1 y.2) (own : W'.ownsRow R 22 1 (.slice (some ⟨g, 0, none⟩) (X.length + 1) cap) (X.length + 1) (X.map (·.1) ++ [y.1])) (grw : W.grownBy W' (Value.slice p n c).ownBlock) (hat : (Value.slice p n c).ownBlock = some g ∨ g = W.heap.size) (hsb : W.heap[sb]? = some (.cells cs 33 (0, 0))) :
    W'.heap[tb]? = some (.cells #[.slice p n c, .slice q m d] 25 (0, 0)) ∧ W'.heap[sb]? = some (.cells cs 33 (0, 0)) ∧ (W'.setCell ⟨tb, 0, none⟩ (.slice (some ⟨g, 0, none⟩) (X.length + 1) cap)).heap[sb]? = some (.cells cs 33 (0, 0)) ∧
    TB (W'.setCell ⟨tb, 0, none⟩ (.slice (some ⟨g, 0, none⟩) (X.length + 1) cap)) B R tb (some ⟨g, 0, none⟩) (X.length + 1) cap q m d (X ++ [y]) Z ∧ Below tb W (W'.setCell ⟨tb, 0, none⟩ (.slice (some ⟨g, 0, none⟩) (X.length + 1) cap)) ∧ Mi B W (W'.setCell ⟨tb, 0, none⟩ (.slice (some ⟨g, 0, none⟩) (X.length + 1) cap)) := by
  have hs := h.size
  have hlt := h.lt
  have t0 : W'.heap[tb]? = some (.cells [.slice p n c, .slice q m d].toArray 25 (0, 0)) := (grw.block tb (by omega) (h.lm.far h.cell (by decide))).trans h.cell
  have s0 := (grw.block sb (Array.getElem?_eq_some_iff.1 hsb).1 (h.lm.far hsb (by decide))).trans hsb
  have m1 := grw_mi h.lm (by have := h.low; omega) grw
  have lm1 := h.lm.push hy (by have := h.low; omega) own grw
  have o1 : Only (fun k => (Value.slice p n c).ownBlock = some k) W W' := (Only.refl _ W).grown grw (fun k _ e => e)
  have lo1 := h.lo.keep m1 o1 (fun k e e2 => h.ap k e2 e)
  have o2 : Only (fun k => k = tb) W' (W'.setCell ⟨tb, 0, none⟩ (.slice (some ⟨g, 0, none⟩) (X.length + 1) cap)) := (Only.refl (fun k => k = tb) W').setCell (p := ⟨tb, 0, none⟩) rfl _
  have m2 : Mi B W' (W'.setCell ⟨tb, 0, none⟩ (.slice (some ⟨g, 0, none⟩) (X.length + 1) cap)) := ftab_mi t0 h.low
  have hb1 := o1.below (B := tb) (by omega) (fun k e => by have := (h.lm.row.lt k e).1; omega)
  have s1 := (o2.block sb (Array.getElem?_eq_some_iff.1 s0).1 (fun e => by rw [e, t0] at s0; injection s0 with s0; injection s0 with _ s0 _; exact absurd s0 (by decide))).trans s0
  refine ⟨t0, s0, s1, ⟨cells_set (j := 0) t0 _, ?_, ?_, fun j e e2 => ?_, h.lt, h.low, by have := grw.size; simp; omega⟩, hb1.setCell (p := ⟨tb, 0, none⟩) (Nat.le_refl _) _, m1.trans m2⟩
  · exact lm1.keep m2 o2 (fun k e e2 => by have := (lm1.row.lt k e).1; omega)
  · exact lo1.keep m2 o2 (fun k e e2 => by have := (lo1.row.lt k e).1; omega)
  · obtain rfl : g = j := by simpa [Value.ownBlock] using e
    rcases hat with e3 | e3
    · exact h.ap g e3 e2
    · have := (h.lo.row.lt g e2).2; omega
theorem TB.setO {g cap sb : Nat} {y : Value × List Int} {cs : Array Value} (h : TB W B R tb p n c q m d X Z) (hy : JS B W y.1 y.2) (own : W'.ownsRow R 22 1 (.slice (some ⟨g, 0, none⟩) (Z.length + 1) cap) (Z.length + 1) (Z.map (·.1) ++ [y.1])) (grw : W.grownBy W' (Value.slice q m d).ownBlock) (hat : (Value.slice q m d).ownBlock = some g ∨ g = W.heap.size) (hsb : W.heap[sb]? = some (.cells cs 33 (0, 0))) :
    W'.heap[tb]? = some (.cells #[.slice p n c, .slice q m d] 25 (0, 0)) ∧ W'.heap[sb]? = some (.cells cs 33 (0, 0)) ∧ (W'.setCell ⟨tb, 1, none⟩ (.slice (some ⟨g, 0, none⟩) (Z.length + 1) cap)).heap[sb]? = some (.cells cs 33 (0, 0)) ∧
    TB (W'.setCell ⟨tb, 1, none⟩ (.slice (some ⟨g, 0, none⟩) (Z.length + 1) cap)) B R tb p n c (some ⟨g, 0, none⟩) (Z.length + 1) cap X (Z ++ [y]) ∧ Below tb W (W'.setCell ⟨tb, 1, none⟩ (.slice (some ⟨g, 0, none⟩) (Z.length + 1) cap)) ∧ Mi B W (W'.setCell ⟨tb, 1, none⟩ (.slice (some ⟨g, 0, none⟩) (Z.length + 1) cap)) := by
  have hs := h.size
  have hlt := h.lt
  have t0 : W'.heap[tb]? = some (.cells [.slice p n c, .slice q m d].toArray 25 (0, 0)) := (grw.block tb (by omega) (h.lo.far h.cell (by decide))).trans h.cell
  have s0 := (grw.block sb (Array.getElem?_eq_some_iff.1 hsb).1 (h.lo.far hsb (by decide))).trans hsb
  have m1 := grw_mi h.lo (by have := h.low; omega) grw
  have lm1 := h.lo.push hy (by have := h.low; omega) own grw
  have o1 : Only (fun k => (Value.slice q m d).ownBlock = some k) W W' := (Only.refl _ W).grown grw (fun k _ e => e)
  have lo1 := h.lm.keep m1 o1 (fun k e e2 => h.ap k e e2)
  have o2 : Only (fun k => k = tb) W' (W'.setCell ⟨tb, 1, none⟩ (.slice (some ⟨g, 0, none⟩) (Z.length + 1) cap)) := (Only.refl (fun k => k = tb) W').setCell (p := ⟨tb, 1, none⟩) rfl _
  have m2 : Mi B W' (W'.setCell ⟨tb, 1, none⟩ (.slice (some ⟨g, 0, none⟩) (Z.length + 1) cap)) := ftab_mi t0 h.low
  have hb1 := o1.below (B := tb) (by omega) (fun k e => by have := (h.lo.row.lt k e).1; omega)
  have s1 := (o2.block sb (Array.getElem?_eq_some_iff.1 s0).1 (fun e => by rw [e, t0] at s0; injection s0 with s0; injection s0 with _ s0 _; exact absurd s0 (by decide))).trans s0
  refine ⟨t0, s0, s1, ⟨cells_set (j := 1) t0 _, ?_, ?_, fun j e e2 => ?_, h.lt, h.low, by have := grw.size; simp; omega⟩, hb1.setCell (p := ⟨tb, 1, none⟩) (Nat.le_refl _) _, m1.trans m2⟩
  · exact lo1.keep m2 o2 (fun k e e2 => by have := (lo1.row.lt k e).1; omega)
  · exact lm1.keep m2 o2 (fun k e e2 => by have := (lm1.row.lt k e).1; omega)
  · obtain rfl : g = j := by simpa [Value.ownBlock] using e2
    rcases hat with e3 | e3
    · exact h.ap g e e3
    · have := (h.lm.row.lt g e).2; omega
end
section
variable {ops : Array Oper} {rest : List Oper} {o : Oper} {a : Act} {w : World} {Q : Exit → Act → World → Prop}
/-- append of one list at a plain operation. -/
theorem push_list (hgd : o.guard = none) (s x : Operand) (ho : o.op = .call { callee := .builtin .append, args := #[s, x], argTypes := #[23, 23] })
    (B R : Nat) (v : Value) (Y : List (Value × List Int)) (hs : a.eval s = v) (G : LO B R w v Y) (b : Nat) (hx : a.eval x = .slice (some ⟨b, 0, none⟩) 1 1) (y : Value × List Int) (hb : w.heap[b]? = some (.cells #[y.1] 22 (0, 0)))
    (hy : JS B w y.1 y.2) (hR : R ≤ w.heap.size) (hl : Y.length ≤ 1000000)
    (h : ∀ g cap w', w'.ownsRow R 22 1 (.slice (some ⟨g, 0, none⟩) (Y.length + 1) cap) (Y.length + 1) (Y.map (·.1) ++ [y.1]) → w.grownBy w' v.ownBlock → (v.ownBlock = some g ∨ g = w.heap.size) → wpList Try.prog ops Q rest (a.put o.dst (.slice (some ⟨g, 0, none⟩) (Y.length + 1) cap)) w') :
    wpList Try.prog ops Q (o :: rest) a w := by
  refine wpList_plain hgd fun K hK => ?_
  have h9 := step_push_list (K := K) (Q := Q) (X := True) (ops := ops) hgd s x ho B R v Y hs G b hx y hb hy hR hl (fun g cap w' a1 a2 a3 => hK _ _ (h g cap w' a1 a2 a3))
  rwa [if_pos (by simp [Region.wanted, hgd])] at h9
end
theorem meas_hi {lo hi : Int} {K t : Nat} (e : hi = lo + (K : Int)) (h : t < K) : (hi - intOf (.int .i64 (lo + ((t + 1 : Nat) : Int)))).toNat < (hi - intOf (.int .i64 (lo + (t : Int)))).toNat := by simp only [intOf]; omega
set_option maxHeartbeats 16000000 in
theorem add5_to (w : World) (B R tb : Nat) (p : Option Addr) (n c : Nat) (q : Option Addr) (m d : Nat) (X Z : List (Value × List Int)) (H : TB w B R tb p n c q m d X Z) (hl : X.length + Z.length ≤ 1000) (x : Value) (s : Sg) (hx : JS B w x s.par) (hb : -9223372036854775808 ≤ s.lo ∧ s.lo < 9223372036854775808 ∧ -9223372036854775808 ≤ s.hi ∧ s.hi < 9223372036854775808) (hpl : s.par.length ≤ 1000000) :
    Calls Try.prog 32 #[hp tb, sgv x s] w fun e w' => ∃ p' n' c' q' m' d' X' Z', e = .returned (.bool (addP (X.map (·.2)) (Z.map (·.2)) s).isSome) ∧ TB w' B R tb p' n' c' q' m' d' X' Z' ∧ Below tb w w' ∧ (addP (X.map (·.2)) (Z.map (·.2)) s).getD (X.map (·.2), Z.map (·.2)) = (X'.map (·.2), Z'.map (·.2)) := by
  obtain ⟨px, cx, rfl⟩ := hx.form
  obtain ⟨np, hnp⟩ : ∃ np, np = s.par.length := ⟨_, rfl⟩
  rw [← hnp] at hx hpl
  have e0 : (Value.slice px s.par.length cx) = .slice px np cx := by rw [hnp]
  rw [e0]
  have AL := (Below.refl w.heap.size w).alloc (Nat.le_refl _) (.cells #[.int .i64 s.lo, .int .i64 s.hi, .slice px np cx, .bool s.root, .bool s.head] 33)
  have T0 := Lib.hid (H.kb AL)
  have SB0 := Lib.hid (heap_alloc_last w (.cells #[.int .i64 s.lo, .int .i64 s.hi, .slice px np cx, .bool s.root, .bool s.head] 33))
  have JX0 := Lib.hid (hx.kb AL)
  have HNP := Lib.hid hnp
  have HPL := Lib.hid hpl
  have HB := Lib.hid hb
  have HL := Lib.hid hl
  have HLN := Lib.hid H.len
  have BB0 := Lib.hid (AL.mono (show tb ≤ w.heap.size by have := H.lt; have := H.size; omega))
  obtain ⟨M, hM⟩ : ∃ M, M = X.map (·.2) := ⟨_, rfl⟩
  obtain ⟨O, hO⟩ : ∃ O, O = Z.map (·.2) := ⟨_, rfl⟩
  rw [← hM, ← hO]
  have HMO := Lib.hid (And.intro hM hO)
  have HML : Hid (n = M.length ∧ m = O.length) := Lib.hid (by rw [hM, hO, List.length_map, List.length_map]; exact H.len)
  clear hM hO H hx hnp hpl hb hl AL e0
  obtain ⟨rm, hrm⟩ : ∃ rm : Int, rm = 1000 - (n : Int) - (m : Int) := ⟨_, rfl⟩
  have hr1 : wrap64 (1000 - (n : Int)) = 1000 - (n : Int) := by have := HL.out; have := HLN.out; unfold wrap64; omega
  have hr2 : wrap64 (1000 - (n : Int) - (m : Int)) = rm := by have := HL.out; have := HLN.out; unfold wrap64; omega
  have hr3 : wrap64 (1099511627776 + (m : Int)) = 1099511627776 + (m : Int) := by have := HL.out; have := HLN.out; unfold wrap64; omega
  have HRM := Lib.hid hrm
  clear hrm
  go_enter Try.func32, Try.ntmps32
  go_wp2_with fail
  generalize w.alloc (.cells #[.int .i64 s.lo, .int .i64 s.hi, .slice px np cx, .bool s.root, .bool s.head] 33) = cw at *
  generalize w.heap.size = sb at *
  have hc0 := fun k => cell_ob5 (show (cw.drewN k).heap[tb]? = _ from T0.out.cell) 0 rfl
  have hc1 := fun k => cell_ob5 (show (cw.drewN k).heap[tb]? = _ from T0.out.cell) 1 rfl
  have hs0 := cell_ob5 SB0.out 0 rfl
  have hs1 := cell_ob5 SB0.out 1 rfl
  have hs2 := cell_ob5 SB0.out 2 rfl
  go_quiet (fail)
  rename_i nq
  have bq := drewN_blw cw nq
  have T1 := Lib.hid (T0.out.kb bq)
  have SB1 := Lib.hid ((bq.block _ (Array.getElem?_eq_some_iff.1 SB0.out).1).trans SB0.out)
  have JX1 := Lib.hid (JX0.out.kb bq)
  have BB1 := Lib.hid (BB0.out.trans (bq.mono (show tb ≤ cw.heap.size by have := T0.out.lt; have := T0.out.size; omega)))
  clear bq T0 SB0 JX0 BB0 hc0 hc1 hs0 hs1 hs2
  generalize cw.drewN nq = cx at *
  rename World => cw
  have hc0 := fun k => cell_ob5 (show (cw.drewN k).heap[tb]? = _ from T1.out.cell) 0 rfl
  have hc1 := fun k => cell_ob5 (show (cw.drewN k).heap[tb]? = _ from T1.out.cell) 1 rfl
  have hs0 := cell_ob5 SB1.out 0 rfl
  have hs1 := cell_ob5 SB1.out 1 rfl
  have hs2 := cell_ob5 SB1.out 2 rfl
  by_cases hsp : spl ≤ s.lo
  · have d1 : decide (s.lo ≥ 1099511627776) = true := by simpa [spl] using hsp
    have d1' : decide (1099511627776 ≤ s.lo) = true := by simpa [spl] using hsp
    go_wp2_with fail
    go_quiet (fail)
    rename_i nq
    have bq := drewN_blw cw nq
    have T2 := Lib.hid (T1.out.kb bq)
    have SB2 := Lib.hid ((bq.block _ (Array.getElem?_eq_some_iff.1 SB1.out).1).trans SB1.out)
    have JX2 := Lib.hid (JX1.out.kb bq)
    have BB2 := Lib.hid (BB1.out.trans (bq.mono (show tb ≤ cw.heap.size by have := T1.out.lt; have := T1.out.size; omega)))
    clear bq T1 SB1 JX1 BB1 hc0 hc1 hs0 hs1 hs2
    generalize cw.drewN nq = cx at *
    rename World => cw
    have hc0 := fun k => cell_ob5 (show (cw.drewN k).heap[tb]? = _ from T2.out.cell) 0 rfl
    have hc1 := fun k => cell_ob5 (show (cw.drewN k).heap[tb]? = _ from T2.out.cell) 1 rfl
    have hs0 := cell_ob5 SB2.out 0 rfl
    have hs1 := cell_ob5 SB2.out 1 rfl
    have hs2 := cell_ob5 SB2.out 2 rfl
    go_wp2_with fail
    go_quiet (fail)
    rename_i nq
    have bq := drewN_blw cw nq
    have T3 := Lib.hid (T2.out.kb bq)
    have SB3 := Lib.hid ((bq.block _ (Array.getElem?_eq_some_iff.1 SB2.out).1).trans SB2.out)
    have JX3 := Lib.hid (JX2.out.kb bq)
    have BB3 := Lib.hid (BB2.out.trans (bq.mono (show tb ≤ cw.heap.size by have := T2.out.lt; have := T2.out.size; omega)))
    clear bq T2 SB2 JX2 BB2 hc0 hc1 hs0 hs1 hs2
    generalize cw.drewN nq = cx at *
    rename World => cw
    have hc0 := fun k => cell_ob5 (show (cw.drewN k).heap[tb]? = _ from T3.out.cell) 0 rfl
    have hc1 := fun k => cell_ob5 (show (cw.drewN k).heap[tb]? = _ from T3.out.cell) 1 rfl
    have hs0 := cell_ob5 SB3.out 0 rfl
    have hs1 := cell_ob5 SB3.out 1 rfl
    have hs2 := cell_ob5 SB3.out 2 rfl
    have hnx : (if spl ≤ s.lo then spl + (O.length : Int) else (M.length : Int)) = (1099511627776 + (m : Int)) := by rw [if_pos hsp, HML.out.2]; rfl
    by_cases c1 : s.lo = (1099511627776 + (m : Int))
    · have e1 : (s.lo != (1099511627776 + (m : Int))) = false := by simpa using c1
      by_cases c2 : s.hi < s.lo
      · have e2 : decide (s.hi < s.lo) = true := by simpa using c2
        have HAD : Hid (addP M O s = none) := Lib.hid (by unfold addP; rw [if_pos (.inr (.inl c2))])
        clear c1 c2 hnx hsp
        go_wp2_with fail
        go_ret
        exact ⟨p, n, c, q, m, d, X, Z, by rw [HAD.out]; rfl, T3.out, BB3.out, by rw [HAD.out]; exact (by rw [HMO.out.1, HMO.out.2]; rfl)⟩
      · have e2 : decide (s.hi < s.lo) = false := by simpa using c2
        have e3 : wrap64 (s.hi - s.lo) = s.hi - s.lo := by have := HB.out; unfold wrap64; omega
        by_cases c3 : rm ≤ s.hi - s.lo
        · have e4 : decide (s.hi - s.lo ≥ rm) = true := by simpa using c3
          have e4' : decide (rm ≤ s.hi - s.lo) = true := by simpa using c3
          have HAD : Hid (addP M O s = none) := Lib.hid (by unfold addP; rw [if_pos (.inr (.inr (.inl (by have := HRM.out; have := HML.out; omega))))])
          clear c1 c2 c3 hnx hsp
          go_wp2_with fail
          go_ret
          exact ⟨p, n, c, q, m, d, X, Z, by rw [HAD.out]; rfl, T3.out, BB3.out, by rw [HAD.out]; exact (by rw [HMO.out.1, HMO.out.2]; rfl)⟩
        · have e4 : decide (s.hi - s.lo ≥ rm) = false := by simpa using c3
          have e4' : decide (rm ≤ s.hi - s.lo) = false := by simpa using c3
          by_cases c4 : 4 < np
          · have e5 : decide ((np : Int) > 4) = true := by simp; omega
            have e5' : decide ((4 : Int) < np) = true := by simp; omega
            have e5'' : decide (4 < np) = true := by simp; omega
            have HAD : Hid (addP M O s = none) := Lib.hid (by unfold addP; rw [if_pos (.inr (.inr (.inr (by rw [← HNP.out]; exact c4))))])
            clear c1 c2 c3 c4 hnx hsp
            go_wp2_with fail
            go_ret
            exact ⟨p, n, c, q, m, d, X, Z, by rw [HAD.out]; rfl, T3.out, BB3.out, by rw [HAD.out]; exact (by rw [HMO.out.1, HMO.out.2]; rfl)⟩
          · have e5 : decide ((np : Int) > 4) = false := by simp; omega
            have e5' : decide ((4 : Int) < np) = false := by simp; omega
            have e5'' : decide (4 < np) = false := by simp; omega
            obtain ⟨K, hK⟩ : ∃ K, K = (s.hi - s.lo).toNat := ⟨_, rfl⟩
            have HAD : Hid (addP M O s = some (M, O ++ s.par :: lineK s.lo K)) := Lib.hid (by
              unfold addP
              rw [if_neg (by rw [hnx, ← HNP.out]; have := HRM.out; have := HML.out; rintro (h | h | h | h); exact h c1; omega; omega; exact c4 h), if_pos hsp, ← hK])
            have HKK : Hid (s.hi = s.lo + (K : Int) ∧ (K : Int) < 1000 - (n : Int) - (m : Int) ∧ 0 ≤ s.lo ∧ s.lo ≤ 2199023255552) := Lib.hid (by have := HRM.out; have := HL.out; have := HLN.out; omega)
            have bq := drew_below cw
            have TD := Lib.hid (T3.out.kb bq)
            have SD := Lib.hid ((bq.block _ (Array.getElem?_eq_some_iff.1 SB3.out).1).trans SB3.out)
            have JD := Lib.hid (JX3.out.kb bq)
            have BD := Lib.hid (BB3.out.trans (bq.mono (show tb ≤ cw.heap.size by have := T3.out.lt; have := T3.out.size; omega)))
            clear c1 c2 c3 c4 hnx hsp hK bq T3 SB3 JX3 BB3
            go_wp2_with fail
            clear hc0 hc1 hs0 hs1 hs2
            try simp only [List.append]
            refine wp_region_noPanic ?_
            refine wp_region_held_drew (S := (fun V => V.cell? ⟨sb, 2, none⟩ = some (.slice px np cx))) (by kernel_rfl) (cell_ob5 SD.out 2 rfl) (fun hHeld => ?_)
            generalize cw.drew = cv at *
            rename World => cw
            refine wpAnyH_take (i := 0) (v := ?_) (by simp only [List.getElem?_toArray, List.getElem?_cons_zero]; rfl) (by kernel_rfl) (by kernel_rfl) (by kernel_rfl) (fun _ _ _ h => h) (Or.inl ⟨by rfl, ?_⟩) (by assumption) ?_
            rotate_left
            · intro w hSw
              try dsimp only at hSw
              go_simp
              try with_reducible rfl
            try simp only [Act.put, List.setIfInBounds_toArray, List.set_cons_zero, List.set_cons_succ]
            refine wpAnyH_take (i := 1) (v := ?_) (by simp only [List.getElem?_toArray, List.getElem?_cons_succ, List.getElem?_cons_zero]; rfl) (by kernel_rfl) (by kernel_rfl) (by kernel_rfl) (fun _ _ _ h => h) (Or.inl ⟨by rfl, ?_⟩) (by assumption) ?_
            rotate_left
            · intro w hSw
              try dsimp only at hSw
              go_simp
              try with_reducible rfl
            try simp only [Act.put, List.setIfInBounds_toArray, List.set_cons_zero, List.set_cons_succ]
            refine wpAnyH_take (i := 2) (v := ?_) (by simp only [List.getElem?_toArray, List.getElem?_cons_succ, List.getElem?_cons_zero]; rfl) (by kernel_rfl) (by kernel_rfl) (by kernel_rfl) (fun _ _ _ h => h) (Or.inl ⟨by rfl, ?_⟩) (by assumption) ?_
            rotate_left
            · intro w hSw
              try dsimp only at hSw
              go_simp
              try with_reducible rfl
            try simp only [Act.put, List.setIfInBounds_toArray, List.set_cons_zero, List.set_cons_succ]
            refine wpAnyH_take (i := 4) (v := ?_) (by simp only [List.getElem?_toArray, List.getElem?_cons_succ, List.getElem?_cons_zero]; rfl) (by kernel_rfl) (by kernel_rfl) (by kernel_rfl) (fun _ _ _ h => h) (Or.inl ⟨by rfl, ?_⟩) (by assumption) ?_
            rotate_left
            · intro w hSw
              try dsimp only at hSw
              go_simp
              try with_reducible rfl
            try simp only [Act.put, List.setIfInBounds_toArray, List.set_cons_zero, List.set_cons_succ]
            refine wpAnyH_take (i := 5) (v := ?_) (by simp only [List.getElem?_toArray, List.getElem?_cons_succ, List.getElem?_cons_zero]; rfl) (by kernel_rfl) (by kernel_rfl) (by kernel_rfl) (fun _ _ _ h => h) (Or.inl ⟨by rfl, ?_⟩) (by assumption) ?_
            rotate_left
            · intro w hSw
              try dsimp only at hSw
              go_simp
              try with_reducible rfl
            try simp only [Act.put, List.setIfInBounds_toArray, List.set_cons_zero, List.set_cons_succ]
            refine wpAnyH_ready (rs := [3, 6]) (by kernel_rfl) (by simp) ?_
            refine (AllReadyH.cons (by simp only [List.getElem?_toArray, List.getElem?_cons_succ, List.getElem?_cons_zero]; rfl) (fun K hK => ?_) (AllReadyH.cons (by simp only [List.getElem?_toArray, List.getElem?_cons_succ, List.getElem?_cons_zero]; rfl) (fun K hK => ?_) AllReadyH.nil))
            · have hc := cell_ob5 TD.out.cell 1 rfl
              go_simp
              clear hc
              refine hK.out _ _ (cell_ob5 SD.out 2 rfl) (fun hHeld => ?_)
              clear hK K
              try simp only [Act.put, List.setIfInBounds_toArray, List.set_cons_zero, List.set_cons_succ]
              refine wpAnyH_ready (rs := [6]) (by kernel_rfl) (by simp) ?_
              refine (AllReadyH.cons (by simp only [List.getElem?_toArray, List.getElem?_cons_succ, List.getElem?_cons_zero]; rfl) (fun K hK => ?_) AllReadyH.nil)
              go_simp
              refine (nclone_to cw _ s.par JD.out.1 (by rw [← HNP.out]; exact HPL.out)).mono ?_
              rintro e cx2 ⟨v9, rfl, o9, b9⟩
              obtain ⟨p9, n9, c9, rfl⟩ := jown_sh o9
              have O9 := Lib.hid (JS.own (B := B) o9)
              have BD := Lib.hid (BD.out.trans (b9.mono (show tb ≤ cw.heap.size by have := TD.out.lt; have := TD.out.size; omega)))
              have TD := Lib.hid (TD.out.kb b9)
              have SD := Lib.hid ((b9.block _ (Array.getElem?_eq_some_iff.1 SD.out).1).trans SD.out)
              clear o9 b9
              rename World => cw
              go_wp2_with fail
              refine hK.out _ _ (cell_ob5 SD.out 2 rfl) (fun hHeld => ?_)
              clear hK K
              try simp only [Act.put, List.setIfInBounds_toArray, List.set_cons_zero, List.set_cons_succ]
              refine wpAnyH_ready (rs := [7]) (by kernel_rfl) (by simp) ?_
              refine (AllReadyH.cons (by simp only [List.getElem?_toArray, List.getElem?_cons_succ, List.getElem?_cons_zero]; rfl) (fun K hK => ?_) AllReadyH.nil)
              refine step_build_list (y := .slice p9 n9 c9) (by rfl) (by rfl) (by rfl) (by simp [Act.eval]) ?_
              have AL := (Below.refl cw.heap.size cw).alloc (Nat.le_refl _) (.cells #[.slice p9 n9 c9] 22)
              have HB10 := Lib.hid (heap_alloc_last cw (.cells #[.slice p9 n9 c9] 22))
              have O10 := Lib.hid (O9.out.kb AL)
              have BD := Lib.hid (BD.out.trans (AL.mono (show tb ≤ cw.heap.size by have := TD.out.lt; have := TD.out.size; omega)))
              have TD := Lib.hid (TD.out.kb AL)
              have SD := Lib.hid ((AL.block _ (Array.getElem?_eq_some_iff.1 SD.out).1).trans SD.out)
              clear AL
              generalize cw.alloc (.cells #[.slice p9 n9 c9] 22) = cx2 at *
              generalize cw.heap.size = nb at *
              rename World => cw
              refine hK.out _ _ (cell_ob5 SD.out 2 rfl) (fun hHeld => ?_)
              clear hK K
              try simp only [Act.put, List.setIfInBounds_toArray, List.set_cons_zero, List.set_cons_succ]
              refine wpAnyH_ready (rs := [8]) (by kernel_rfl) (by simp) ?_
              refine (AllReadyH.cons (by simp only [List.getElem?_toArray, List.getElem?_cons_succ, List.getElem?_cons_zero]; rfl) (fun K hK => ?_) AllReadyH.nil)
              refine step_push_list (by rfl) _ _ (by rfl) B R _ Z (by rfl) TD.out.lo nb (by rfl) (.slice p9 n9 c9, s.par) HB10.out O10.out TD.out.size (by have := HL.out; omega) ?_
              intro g6 cap6 cx2 own6 grw6 hat6
              have HS := Lib.hid (TD.out.setO (y := (.slice p9 n9 c9, s.par)) O10.out own6 grw6 hat6 SD.out)
              clear own6 grw6 hat6
              rename World => cw
              refine hK.out _ _ (cell_ob5 HS.out.2.1 2 rfl) (fun hHeld => ?_)
              clear hK K
              try simp only [Act.put, List.setIfInBounds_toArray, List.set_cons_zero, List.set_cons_succ]
              refine wpAnyH_take (i := 9) (v := ?_) (by simp only [List.getElem?_toArray, List.getElem?_cons_succ, List.getElem?_cons_zero]; rfl) (by kernel_rfl) (by kernel_rfl) (by kernel_rfl) (fun _ _ _ h => h) (Or.inl ⟨by rfl, ?_⟩) (by assumption) ?_
              rotate_left
              · intro w hSw
                try dsimp only at hSw
                go_simp
                try with_reducible rfl
              try simp only [Act.put, List.setIfInBounds_toArray, List.set_cons_zero, List.set_cons_succ]
              refine wpAnyH_ready (rs := [10]) (by kernel_rfl) (by simp) ?_
              refine (AllReadyH.cons (by simp only [List.getElem?_toArray, List.getElem?_cons_succ, List.getElem?_cons_zero]; rfl) (fun K hK => ?_) AllReadyH.nil)
              have hc := cell_ob5 HS.out.1 1 rfl
              have hf : cw.frozen? ⟨tb, 1, none⟩ = false := frozen_of_row _ _ _ _ _ HS.out.1
              go_simp
              clear hc hf
              refine hK.out _ _ (cell_ob5 HS.out.2.2.1 2 rfl) (fun hHeld => ?_)
              clear hK K
              try simp only [Act.put, List.setIfInBounds_toArray, List.set_cons_zero, List.set_cons_succ]
              refine wpAnyH_done (by kernel_rfl) ?_ _
              refine NoPanic.normal ?_
              clear hHeld
              have BE := Lib.hid (BD.out.trans HS.out.2.2.2.2.1)
              have TE := Lib.hid HS.out.2.2.2.1
              have SE := Lib.hid HS.out.2.2.1
              clear HS
              generalize cw.setCell ⟨tb, 1, none⟩ (.slice (some ⟨g6, 0, none⟩) (Z.length + 1) cap6) = w8 at *
              have HEQ : Hid ((Z ++ [((.slice p9 n9 c9 : Value), s.par)]).map (·.2) = O ++ s.par :: lineK s.lo 0) := Lib.hid (by rw [List.map_append, ← HMO.out.2]; rfl)
              generalize Z ++ [((.slice p9 n9 c9 : Value), s.par)] = X8 at *
              generalize Z.length + 1 = n8 at *
              have hs0 := cell_ob5 SE.out 0 rfl
              go_wp2_with fail
              clear hs0
              go_loopw [8] (fun v8 wr => ∃ (t : Nat) (p5 : Option Addr) (n5 c5 : Nat) (X5 : List (Value × List Int)), t ≤ K ∧ v8 = .int .i64 (s.lo + (t : Int)) ∧ Hid (TB wr B R tb p n c p5 n5 c5 X X5) ∧ Hid (X5.map (·.2) = O ++ s.par :: lineK s.lo t) ∧ Hid (wr.heap[sb]? = some (.cells #[.int .i64 s.lo, .int .i64 s.hi, .slice px np cx, .bool s.root, .bool s.head] 33 (0, 0))) ∧ Hid (Below tb w wr)) (fun v8 _ => (s.hi - intOf v8).toNat)
              case atStart => exact ⟨0, _, _, _, X8, Nat.zero_le _, by simp, TE, HEQ, SE, BE⟩
              case round =>
                clear TE HEQ SE BE
                obtain ⟨t, p5, n5, c5, X5, ht, rfl, T5, HE5, S5, B5⟩ := hrel
                have hs1 := cell_ob5 S5.out 1 rfl
                rw [show (#[Value.int .i64 s.lo, .int .i64 s.hi, .slice px np cx, .bool s.root, .bool s.head] : Array Value)[1] = .int .i64 (s.lo + (K : Int)) by show Value.int .i64 s.hi = _; rw [HKK.out.1]] at hs1
                by_cases hlt : t < K
                · have d0 : decide (s.lo + (t : Int) < s.lo + (K : Int)) = true := by simp; omega
                  have d0' : decide ((t : Int) < (K : Int)) = true := by simp; omega
                  have d0'' : decide (t < K) = true := by simp; omega
                  have HID : Hid (wrap64 (s.lo + (t : Int) + 1) = s.lo + ((t + 1 : Nat) : Int)) := Lib.hid (by have := HKK.out; unfold wrap64; omega)
                  have HME := Lib.hid (meas_hi HKK.out.1 hlt)
                  have hid := HID.out
                  have hg := cell_ob5 T5.out.cell 1 rfl
                  have A1 := (Below.refl wr.heap.size wr).alloc (Nat.le_refl _) (.cells #[.int .i64 (s.lo + (t : Int))] 3)
                  have A2 := A1.alloc (by simp) (.cells #[.slice (some ⟨wr.heap.size, 0, none⟩) 1 1] 22)
                  have T6 := Lib.hid (T5.out.kb A2)
                  have S6 := Lib.hid ((A2.block _ (Array.getElem?_eq_some_iff.1 S5.out).1).trans S5.out)
                  have B6 := Lib.hid (B5.out.trans (A2.mono (show tb ≤ wr.heap.size by have := T5.out.lt; have := T5.out.size; omega)))
                  have J6 : Hid (JS B ((wr.alloc (.cells #[.int .i64 (s.lo + (t : Int))] 3)).alloc (.cells #[.slice (some ⟨wr.heap.size, 0, none⟩) 1 1] 22)) (.slice (some ⟨wr.heap.size, 0, none⟩) 1 1) [s.lo + (t : Int)]) := Lib.hid (JS.lit1 (by rw [heap_alloc_old _ _ (by simp)]; exact heap_alloc_last _ _))
                  have HB6 := Lib.hid (heap_alloc_last (wr.alloc (.cells #[.int .i64 (s.lo + (t : Int))] 3)) (.cells #[.slice (some ⟨wr.heap.size, 0, none⟩) 1 1] 22))
                  have HLE : Hid (X5.length ≤ 1000000) := Lib.hid (by have := congrArg List.length HE5.out; rw [List.length_map, List.length_append, List.length_cons, lineK_len] at this; have := HKK.out; have := HML.out; omega)
                  have HLT := Lib.hid hlt
                  clear A1 A2 hlt ht
                  go_wp2_with (at_builtin; refine push_list (by rfl) (.tmp 88) (.tmp 91) (by rfl) B R _ X5 (by rfl) T6.out.lo (wr.alloc (.cells #[.int .i64 (s.lo + (t : Int))] 3)).heap.size (by simp [Act.eval]) (.slice (some ⟨wr.heap.size, 0, none⟩) 1 1, [s.lo + (t : Int)]) HB6.out J6.out T6.out.size HLE.out ?_; intro g7 cap7 w7 own7 grw7 hat7; have HS := Lib.hid (T6.out.setO (y := (.slice (some ⟨wr.heap.size, 0, none⟩) 1 1, [s.lo + (t : Int)])) J6.out own7 grw7 hat7 S6.out); have hc7 := cell_ob5 HS.out.1 1 rfl; have hf7 : w7.frozen? ⟨tb, 1, none⟩ = false := frozen_of_row _ _ _ _ _ HS.out.1; clear own7 grw7 hat7)
                  refine ⟨⟨t + 1, _, _, _, X5 ++ [(.slice (some ⟨wr.heap.size, 0, none⟩) 1 1, [s.lo + (t : Int)])], HLT.out, by first | rw [HID.out] | rfl, Lib.hid HS.out.2.2.2.1, Lib.hid (by rw [List.map_append, HE5.out, lineK_snoc]; simp), Lib.hid HS.out.2.2.1, Lib.hid (B6.out.trans HS.out.2.2.2.2.1)⟩, ?_⟩
                  first | (rw [HID.out]; exact HME.out) | exact HME.out
                · obtain rfl : t = K := Nat.le_antisymm ht (Nat.le_of_not_lt hlt)
                  have d0 : decide (s.lo + (t : Int) < s.lo + (t : Int)) = false := by simp
                  clear hlt
                  go_wp2_with fail
                  go_ret
                  exact ⟨p, n, c, p5, n5, c5, X, X5, by rw [HAD.out]; rfl, T5.out, B5.out, by rw [HAD.out, HE5.out, ← HMO.out.1]; rfl⟩
            · go_simp
              refine (nclone_to cw _ s.par JD.out.1 (by rw [← HNP.out]; exact HPL.out)).mono ?_
              rintro e cx2 ⟨v9, rfl, o9, b9⟩
              obtain ⟨p9, n9, c9, rfl⟩ := jown_sh o9
              have O9 := Lib.hid (JS.own (B := B) o9)
              have BD := Lib.hid (BD.out.trans (b9.mono (show tb ≤ cw.heap.size by have := TD.out.lt; have := TD.out.size; omega)))
              have TD := Lib.hid (TD.out.kb b9)
              have SD := Lib.hid ((b9.block _ (Array.getElem?_eq_some_iff.1 SD.out).1).trans SD.out)
              clear o9 b9
              rename World => cw
              go_wp2_with fail
              refine hK.out _ _ (cell_ob5 SD.out 2 rfl) (fun hHeld => ?_)
              clear hK K
              try simp only [Act.put, List.setIfInBounds_toArray, List.set_cons_zero, List.set_cons_succ]
              refine wpAnyH_ready (rs := [3, 7]) (by kernel_rfl) (by simp) ?_
              refine (AllReadyH.cons (by simp only [List.getElem?_toArray, List.getElem?_cons_succ, List.getElem?_cons_zero]; rfl) (fun K hK => ?_) (AllReadyH.cons (by simp only [List.getElem?_toArray, List.getElem?_cons_succ, List.getElem?_cons_zero]; rfl) (fun K hK => ?_) AllReadyH.nil))
              · have hc := cell_ob5 TD.out.cell 1 rfl
                go_simp
                clear hc
                refine hK.out _ _ (cell_ob5 SD.out 2 rfl) (fun hHeld => ?_)
                clear hK K
                try simp only [Act.put, List.setIfInBounds_toArray, List.set_cons_zero, List.set_cons_succ]
                refine wpAnyH_ready (rs := [7]) (by kernel_rfl) (by simp) ?_
                refine (AllReadyH.cons (by simp only [List.getElem?_toArray, List.getElem?_cons_succ, List.getElem?_cons_zero]; rfl) (fun K hK => ?_) AllReadyH.nil)
                refine step_build_list (y := .slice p9 n9 c9) (by rfl) (by rfl) (by rfl) (by simp [Act.eval]) ?_
                have AL := (Below.refl cw.heap.size cw).alloc (Nat.le_refl _) (.cells #[.slice p9 n9 c9] 22)
                have HB10 := Lib.hid (heap_alloc_last cw (.cells #[.slice p9 n9 c9] 22))
                have O10 := Lib.hid (O9.out.kb AL)
                have BD := Lib.hid (BD.out.trans (AL.mono (show tb ≤ cw.heap.size by have := TD.out.lt; have := TD.out.size; omega)))
                have TD := Lib.hid (TD.out.kb AL)
                have SD := Lib.hid ((AL.block _ (Array.getElem?_eq_some_iff.1 SD.out).1).trans SD.out)
                clear AL
                generalize cw.alloc (.cells #[.slice p9 n9 c9] 22) = cx2 at *
                generalize cw.heap.size = nb at *
                rename World => cw
                refine hK.out _ _ (cell_ob5 SD.out 2 rfl) (fun hHeld => ?_)
                clear hK K
                try simp only [Act.put, List.setIfInBounds_toArray, List.set_cons_zero, List.set_cons_succ]
                refine wpAnyH_ready (rs := [8]) (by kernel_rfl) (by simp) ?_
                refine (AllReadyH.cons (by simp only [List.getElem?_toArray, List.getElem?_cons_succ, List.getElem?_cons_zero]; rfl) (fun K hK => ?_) AllReadyH.nil)
                refine step_push_list (by rfl) _ _ (by rfl) B R _ Z (by rfl) TD.out.lo nb (by rfl) (.slice p9 n9 c9, s.par) HB10.out O10.out TD.out.size (by have := HL.out; omega) ?_
                intro g6 cap6 cx2 own6 grw6 hat6
                have HS := Lib.hid (TD.out.setO (y := (.slice p9 n9 c9, s.par)) O10.out own6 grw6 hat6 SD.out)
                clear own6 grw6 hat6
                rename World => cw
                refine hK.out _ _ (cell_ob5 HS.out.2.1 2 rfl) (fun hHeld => ?_)
                clear hK K
                try simp only [Act.put, List.setIfInBounds_toArray, List.set_cons_zero, List.set_cons_succ]
                refine wpAnyH_take (i := 9) (v := ?_) (by simp only [List.getElem?_toArray, List.getElem?_cons_succ, List.getElem?_cons_zero]; rfl) (by kernel_rfl) (by kernel_rfl) (by kernel_rfl) (fun _ _ _ h => h) (Or.inl ⟨by rfl, ?_⟩) (by assumption) ?_
                rotate_left
                · intro w hSw
                  try dsimp only at hSw
                  go_simp
                  try with_reducible rfl
                try simp only [Act.put, List.setIfInBounds_toArray, List.set_cons_zero, List.set_cons_succ]
                refine wpAnyH_ready (rs := [10]) (by kernel_rfl) (by simp) ?_
                refine (AllReadyH.cons (by simp only [List.getElem?_toArray, List.getElem?_cons_succ, List.getElem?_cons_zero]; rfl) (fun K hK => ?_) AllReadyH.nil)
                have hc := cell_ob5 HS.out.1 1 rfl
                have hf : cw.frozen? ⟨tb, 1, none⟩ = false := frozen_of_row _ _ _ _ _ HS.out.1
                go_simp
                clear hc hf
                refine hK.out _ _ (cell_ob5 HS.out.2.2.1 2 rfl) (fun hHeld => ?_)
                clear hK K
                try simp only [Act.put, List.setIfInBounds_toArray, List.set_cons_zero, List.set_cons_succ]
                refine wpAnyH_done (by kernel_rfl) ?_ _
                refine NoPanic.normal ?_
                clear hHeld
                have BE := Lib.hid (BD.out.trans HS.out.2.2.2.2.1)
                have TE := Lib.hid HS.out.2.2.2.1
                have SE := Lib.hid HS.out.2.2.1
                clear HS
                generalize cw.setCell ⟨tb, 1, none⟩ (.slice (some ⟨g6, 0, none⟩) (Z.length + 1) cap6) = w8 at *
                have HEQ : Hid ((Z ++ [((.slice p9 n9 c9 : Value), s.par)]).map (·.2) = O ++ s.par :: lineK s.lo 0) := Lib.hid (by rw [List.map_append, ← HMO.out.2]; rfl)
                generalize Z ++ [((.slice p9 n9 c9 : Value), s.par)] = X8 at *
                generalize Z.length + 1 = n8 at *
                have hs0 := cell_ob5 SE.out 0 rfl
                go_wp2_with fail
                clear hs0
                go_loopw [8] (fun v8 wr => ∃ (t : Nat) (p5 : Option Addr) (n5 c5 : Nat) (X5 : List (Value × List Int)), t ≤ K ∧ v8 = .int .i64 (s.lo + (t : Int)) ∧ Hid (TB wr B R tb p n c p5 n5 c5 X X5) ∧ Hid (X5.map (·.2) = O ++ s.par :: lineK s.lo t) ∧ Hid (wr.heap[sb]? = some (.cells #[.int .i64 s.lo, .int .i64 s.hi, .slice px np cx, .bool s.root, .bool s.head] 33 (0, 0))) ∧ Hid (Below tb w wr)) (fun v8 _ => (s.hi - intOf v8).toNat)
                case atStart => exact ⟨0, _, _, _, X8, Nat.zero_le _, by simp, TE, HEQ, SE, BE⟩
                case round =>
                  clear TE HEQ SE BE
                  obtain ⟨t, p5, n5, c5, X5, ht, rfl, T5, HE5, S5, B5⟩ := hrel
                  have hs1 := cell_ob5 S5.out 1 rfl
                  rw [show (#[Value.int .i64 s.lo, .int .i64 s.hi, .slice px np cx, .bool s.root, .bool s.head] : Array Value)[1] = .int .i64 (s.lo + (K : Int)) by show Value.int .i64 s.hi = _; rw [HKK.out.1]] at hs1
                  by_cases hlt : t < K
                  · have d0 : decide (s.lo + (t : Int) < s.lo + (K : Int)) = true := by simp; omega
                    have d0' : decide ((t : Int) < (K : Int)) = true := by simp; omega
                    have d0'' : decide (t < K) = true := by simp; omega
                    have HID : Hid (wrap64 (s.lo + (t : Int) + 1) = s.lo + ((t + 1 : Nat) : Int)) := Lib.hid (by have := HKK.out; unfold wrap64; omega)
                    have HME := Lib.hid (meas_hi HKK.out.1 hlt)
                    have hid := HID.out
                    have hg := cell_ob5 T5.out.cell 1 rfl
                    have A1 := (Below.refl wr.heap.size wr).alloc (Nat.le_refl _) (.cells #[.int .i64 (s.lo + (t : Int))] 3)
                    have A2 := A1.alloc (by simp) (.cells #[.slice (some ⟨wr.heap.size, 0, none⟩) 1 1] 22)
                    have T6 := Lib.hid (T5.out.kb A2)
                    have S6 := Lib.hid ((A2.block _ (Array.getElem?_eq_some_iff.1 S5.out).1).trans S5.out)
                    have B6 := Lib.hid (B5.out.trans (A2.mono (show tb ≤ wr.heap.size by have := T5.out.lt; have := T5.out.size; omega)))
                    have J6 : Hid (JS B ((wr.alloc (.cells #[.int .i64 (s.lo + (t : Int))] 3)).alloc (.cells #[.slice (some ⟨wr.heap.size, 0, none⟩) 1 1] 22)) (.slice (some ⟨wr.heap.size, 0, none⟩) 1 1) [s.lo + (t : Int)]) := Lib.hid (JS.lit1 (by rw [heap_alloc_old _ _ (by simp)]; exact heap_alloc_last _ _))
                    have HB6 := Lib.hid (heap_alloc_last (wr.alloc (.cells #[.int .i64 (s.lo + (t : Int))] 3)) (.cells #[.slice (some ⟨wr.heap.size, 0, none⟩) 1 1] 22))
                    have HLE : Hid (X5.length ≤ 1000000) := Lib.hid (by have := congrArg List.length HE5.out; rw [List.length_map, List.length_append, List.length_cons, lineK_len] at this; have := HKK.out; have := HML.out; omega)
                    have HLT := Lib.hid hlt
                    clear A1 A2 hlt ht
                    go_wp2_with (at_builtin; refine push_list (by rfl) (.tmp 88) (.tmp 91) (by rfl) B R _ X5 (by rfl) T6.out.lo (wr.alloc (.cells #[.int .i64 (s.lo + (t : Int))] 3)).heap.size (by simp [Act.eval]) (.slice (some ⟨wr.heap.size, 0, none⟩) 1 1, [s.lo + (t : Int)]) HB6.out J6.out T6.out.size HLE.out ?_; intro g7 cap7 w7 own7 grw7 hat7; have HS := Lib.hid (T6.out.setO (y := (.slice (some ⟨wr.heap.size, 0, none⟩) 1 1, [s.lo + (t : Int)])) J6.out own7 grw7 hat7 S6.out); have hc7 := cell_ob5 HS.out.1 1 rfl; have hf7 : w7.frozen? ⟨tb, 1, none⟩ = false := frozen_of_row _ _ _ _ _ HS.out.1; clear own7 grw7 hat7)
                    refine ⟨⟨t + 1, _, _, _, X5 ++ [(.slice (some ⟨wr.heap.size, 0, none⟩) 1 1, [s.lo + (t : Int)])], HLT.out, by first | rw [HID.out] | rfl, Lib.hid HS.out.2.2.2.1, Lib.hid (by rw [List.map_append, HE5.out, lineK_snoc]; simp), Lib.hid HS.out.2.2.1, Lib.hid (B6.out.trans HS.out.2.2.2.2.1)⟩, ?_⟩
                    first | (rw [HID.out]; exact HME.out) | exact HME.out
                  · obtain rfl : t = K := Nat.le_antisymm ht (Nat.le_of_not_lt hlt)
                    have d0 : decide (s.lo + (t : Int) < s.lo + (t : Int)) = false := by simp
                    clear hlt
                    go_wp2_with fail
                    go_ret
                    exact ⟨p, n, c, p5, n5, c5, X, X5, by rw [HAD.out]; rfl, T5.out, B5.out, by rw [HAD.out, HE5.out, ← HMO.out.1]; rfl⟩
              · refine step_build_list (y := .slice p9 n9 c9) (by rfl) (by rfl) (by rfl) (by simp [Act.eval]) ?_
                have AL := (Below.refl cw.heap.size cw).alloc (Nat.le_refl _) (.cells #[.slice p9 n9 c9] 22)
                have HB10 := Lib.hid (heap_alloc_last cw (.cells #[.slice p9 n9 c9] 22))
                have O10 := Lib.hid (O9.out.kb AL)
                have BD := Lib.hid (BD.out.trans (AL.mono (show tb ≤ cw.heap.size by have := TD.out.lt; have := TD.out.size; omega)))
                have TD := Lib.hid (TD.out.kb AL)
                have SD := Lib.hid ((AL.block _ (Array.getElem?_eq_some_iff.1 SD.out).1).trans SD.out)
                clear AL
                generalize cw.alloc (.cells #[.slice p9 n9 c9] 22) = cx2 at *
                generalize cw.heap.size = nb at *
                rename World => cw
                refine hK.out _ _ (cell_ob5 SD.out 2 rfl) (fun hHeld => ?_)
                clear hK K
                try simp only [Act.put, List.setIfInBounds_toArray, List.set_cons_zero, List.set_cons_succ]
                refine wpAnyH_ready (rs := [3]) (by kernel_rfl) (by simp) ?_
                refine (AllReadyH.cons (by simp only [List.getElem?_toArray, List.getElem?_cons_succ, List.getElem?_cons_zero]; rfl) (fun K hK => ?_) AllReadyH.nil)
                have hc := cell_ob5 TD.out.cell 1 rfl
                go_simp
                clear hc
                refine hK.out _ _ (cell_ob5 SD.out 2 rfl) (fun hHeld => ?_)
                clear hK K
                try simp only [Act.put, List.setIfInBounds_toArray, List.set_cons_zero, List.set_cons_succ]
                refine wpAnyH_ready (rs := [8]) (by kernel_rfl) (by simp) ?_
                refine (AllReadyH.cons (by simp only [List.getElem?_toArray, List.getElem?_cons_succ, List.getElem?_cons_zero]; rfl) (fun K hK => ?_) AllReadyH.nil)
                refine step_push_list (by rfl) _ _ (by rfl) B R _ Z (by rfl) TD.out.lo nb (by rfl) (.slice p9 n9 c9, s.par) HB10.out O10.out TD.out.size (by have := HL.out; omega) ?_
                intro g6 cap6 cx2 own6 grw6 hat6
                have HS := Lib.hid (TD.out.setO (y := (.slice p9 n9 c9, s.par)) O10.out own6 grw6 hat6 SD.out)
                clear own6 grw6 hat6
                rename World => cw
                refine hK.out _ _ (cell_ob5 HS.out.2.1 2 rfl) (fun hHeld => ?_)
                clear hK K
                try simp only [Act.put, List.setIfInBounds_toArray, List.set_cons_zero, List.set_cons_succ]
                refine wpAnyH_take (i := 9) (v := ?_) (by simp only [List.getElem?_toArray, List.getElem?_cons_succ, List.getElem?_cons_zero]; rfl) (by kernel_rfl) (by kernel_rfl) (by kernel_rfl) (fun _ _ _ h => h) (Or.inl ⟨by rfl, ?_⟩) (by assumption) ?_
                rotate_left
                · intro w hSw
                  try dsimp only at hSw
                  go_simp
                  try with_reducible rfl
                try simp only [Act.put, List.setIfInBounds_toArray, List.set_cons_zero, List.set_cons_succ]
                refine wpAnyH_ready (rs := [10]) (by kernel_rfl) (by simp) ?_
                refine (AllReadyH.cons (by simp only [List.getElem?_toArray, List.getElem?_cons_succ, List.getElem?_cons_zero]; rfl) (fun K hK => ?_) AllReadyH.nil)
                have hc := cell_ob5 HS.out.1 1 rfl
                have hf : cw.frozen? ⟨tb, 1, none⟩ = false := frozen_of_row _ _ _ _ _ HS.out.1
                go_simp
                clear hc hf
                refine hK.out _ _ (cell_ob5 HS.out.2.2.1 2 rfl) (fun hHeld => ?_)
                clear hK K
                try simp only [Act.put, List.setIfInBounds_toArray, List.set_cons_zero, List.set_cons_succ]
                refine wpAnyH_done (by kernel_rfl) ?_ _
                refine NoPanic.normal ?_
                clear hHeld
                have BE := Lib.hid (BD.out.trans HS.out.2.2.2.2.1)
                have TE := Lib.hid HS.out.2.2.2.1
                have SE := Lib.hid HS.out.2.2.1
                clear HS
                generalize cw.setCell ⟨tb, 1, none⟩ (.slice (some ⟨g6, 0, none⟩) (Z.length + 1) cap6) = w8 at *
                have HEQ : Hid ((Z ++ [((.slice p9 n9 c9 : Value), s.par)]).map (·.2) = O ++ s.par :: lineK s.lo 0) := Lib.hid (by rw [List.map_append, ← HMO.out.2]; rfl)
                generalize Z ++ [((.slice p9 n9 c9 : Value), s.par)] = X8 at *
                generalize Z.length + 1 = n8 at *
                have hs0 := cell_ob5 SE.out 0 rfl
                go_wp2_with fail
                clear hs0
                go_loopw [8] (fun v8 wr => ∃ (t : Nat) (p5 : Option Addr) (n5 c5 : Nat) (X5 : List (Value × List Int)), t ≤ K ∧ v8 = .int .i64 (s.lo + (t : Int)) ∧ Hid (TB wr B R tb p n c p5 n5 c5 X X5) ∧ Hid (X5.map (·.2) = O ++ s.par :: lineK s.lo t) ∧ Hid (wr.heap[sb]? = some (.cells #[.int .i64 s.lo, .int .i64 s.hi, .slice px np cx, .bool s.root, .bool s.head] 33 (0, 0))) ∧ Hid (Below tb w wr)) (fun v8 _ => (s.hi - intOf v8).toNat)
                case atStart => exact ⟨0, _, _, _, X8, Nat.zero_le _, by simp, TE, HEQ, SE, BE⟩
                case round =>
                  clear TE HEQ SE BE
                  obtain ⟨t, p5, n5, c5, X5, ht, rfl, T5, HE5, S5, B5⟩ := hrel
                  have hs1 := cell_ob5 S5.out 1 rfl
                  rw [show (#[Value.int .i64 s.lo, .int .i64 s.hi, .slice px np cx, .bool s.root, .bool s.head] : Array Value)[1] = .int .i64 (s.lo + (K : Int)) by show Value.int .i64 s.hi = _; rw [HKK.out.1]] at hs1
                  by_cases hlt : t < K
                  · have d0 : decide (s.lo + (t : Int) < s.lo + (K : Int)) = true := by simp; omega
                    have d0' : decide ((t : Int) < (K : Int)) = true := by simp; omega
                    have d0'' : decide (t < K) = true := by simp; omega
                    have HID : Hid (wrap64 (s.lo + (t : Int) + 1) = s.lo + ((t + 1 : Nat) : Int)) := Lib.hid (by have := HKK.out; unfold wrap64; omega)
                    have HME := Lib.hid (meas_hi HKK.out.1 hlt)
                    have hid := HID.out
                    have hg := cell_ob5 T5.out.cell 1 rfl
                    have A1 := (Below.refl wr.heap.size wr).alloc (Nat.le_refl _) (.cells #[.int .i64 (s.lo + (t : Int))] 3)
                    have A2 := A1.alloc (by simp) (.cells #[.slice (some ⟨wr.heap.size, 0, none⟩) 1 1] 22)
                    have T6 := Lib.hid (T5.out.kb A2)
                    have S6 := Lib.hid ((A2.block _ (Array.getElem?_eq_some_iff.1 S5.out).1).trans S5.out)
                    have B6 := Lib.hid (B5.out.trans (A2.mono (show tb ≤ wr.heap.size by have := T5.out.lt; have := T5.out.size; omega)))
                    have J6 : Hid (JS B ((wr.alloc (.cells #[.int .i64 (s.lo + (t : Int))] 3)).alloc (.cells #[.slice (some ⟨wr.heap.size, 0, none⟩) 1 1] 22)) (.slice (some ⟨wr.heap.size, 0, none⟩) 1 1) [s.lo + (t : Int)]) := Lib.hid (JS.lit1 (by rw [heap_alloc_old _ _ (by simp)]; exact heap_alloc_last _ _))
                    have HB6 := Lib.hid (heap_alloc_last (wr.alloc (.cells #[.int .i64 (s.lo + (t : Int))] 3)) (.cells #[.slice (some ⟨wr.heap.size, 0, none⟩) 1 1] 22))
                    have HLE : Hid (X5.length ≤ 1000000) := Lib.hid (by have := congrArg List.length HE5.out; rw [List.length_map, List.length_append, List.length_cons, lineK_len] at this; have := HKK.out; have := HML.out; omega)
                    have HLT := Lib.hid hlt
                    clear A1 A2 hlt ht
                    go_wp2_with (at_builtin; refine push_list (by rfl) (.tmp 88) (.tmp 91) (by rfl) B R _ X5 (by rfl) T6.out.lo (wr.alloc (.cells #[.int .i64 (s.lo + (t : Int))] 3)).heap.size (by simp [Act.eval]) (.slice (some ⟨wr.heap.size, 0, none⟩) 1 1, [s.lo + (t : Int)]) HB6.out J6.out T6.out.size HLE.out ?_; intro g7 cap7 w7 own7 grw7 hat7; have HS := Lib.hid (T6.out.setO (y := (.slice (some ⟨wr.heap.size, 0, none⟩) 1 1, [s.lo + (t : Int)])) J6.out own7 grw7 hat7 S6.out); have hc7 := cell_ob5 HS.out.1 1 rfl; have hf7 : w7.frozen? ⟨tb, 1, none⟩ = false := frozen_of_row _ _ _ _ _ HS.out.1; clear own7 grw7 hat7)
                    refine ⟨⟨t + 1, _, _, _, X5 ++ [(.slice (some ⟨wr.heap.size, 0, none⟩) 1 1, [s.lo + (t : Int)])], HLT.out, by first | rw [HID.out] | rfl, Lib.hid HS.out.2.2.2.1, Lib.hid (by rw [List.map_append, HE5.out, lineK_snoc]; simp), Lib.hid HS.out.2.2.1, Lib.hid (B6.out.trans HS.out.2.2.2.2.1)⟩, ?_⟩
                    first | (rw [HID.out]; exact HME.out) | exact HME.out
                  · obtain rfl : t = K := Nat.le_antisymm ht (Nat.le_of_not_lt hlt)
                    have d0 : decide (s.lo + (t : Int) < s.lo + (t : Int)) = false := by simp
                    clear hlt
                    go_wp2_with fail
                    go_ret
                    exact ⟨p, n, c, p5, n5, c5, X, X5, by rw [HAD.out]; rfl, T5.out, B5.out, by rw [HAD.out, HE5.out, ← HMO.out.1]; rfl⟩
    · have e1 : (s.lo != (1099511627776 + (m : Int))) = true := by simpa using c1
      have HAD : Hid (addP M O s = none) := Lib.hid (by unfold addP; rw [if_pos (.inl (by rw [hnx]; exact c1))])
      clear c1 hnx hsp
      go_wp2_with fail
      go_ret
      exact ⟨p, n, c, q, m, d, X, Z, by rw [HAD.out]; rfl, T3.out, BB3.out, by rw [HAD.out]; exact (by rw [HMO.out.1, HMO.out.2]; rfl)⟩
  · have d1 : decide (s.lo ≥ 1099511627776) = false := by simpa [spl] using hsp
    have d1' : decide (1099511627776 ≤ s.lo) = false := by simpa [spl] using hsp
    go_wp2_with fail
    go_quiet (fail)
    rename_i nq
    have bq := drewN_blw cw nq
    have T2 := Lib.hid (T1.out.kb bq)
    have SB2 := Lib.hid ((bq.block _ (Array.getElem?_eq_some_iff.1 SB1.out).1).trans SB1.out)
    have JX2 := Lib.hid (JX1.out.kb bq)
    have BB2 := Lib.hid (BB1.out.trans (bq.mono (show tb ≤ cw.heap.size by have := T1.out.lt; have := T1.out.size; omega)))
    clear bq T1 SB1 JX1 BB1 hc0 hc1 hs0 hs1 hs2
    generalize cw.drewN nq = cx at *
    rename World => cw
    have hc0 := fun k => cell_ob5 (show (cw.drewN k).heap[tb]? = _ from T2.out.cell) 0 rfl
    have hc1 := fun k => cell_ob5 (show (cw.drewN k).heap[tb]? = _ from T2.out.cell) 1 rfl
    have hs0 := cell_ob5 SB2.out 0 rfl
    have hs1 := cell_ob5 SB2.out 1 rfl
    have hs2 := cell_ob5 SB2.out 2 rfl
    have hnx : (if spl ≤ s.lo then spl + (O.length : Int) else (M.length : Int)) = (n : Int) := by rw [if_neg (Int.not_le.2 hsp), HML.out.1]
    by_cases c1 : s.lo = (n : Int)
    · have e1 : (s.lo != (n : Int)) = false := by simpa using c1
      by_cases c2 : s.hi < s.lo
      · have e2 : decide (s.hi < s.lo) = true := by simpa using c2
        have HAD : Hid (addP M O s = none) := Lib.hid (by unfold addP; rw [if_pos (.inr (.inl c2))])
        clear c1 c2 hnx hsp
        go_wp2_with fail
        go_ret
        exact ⟨p, n, c, q, m, d, X, Z, by rw [HAD.out]; rfl, T2.out, BB2.out, by rw [HAD.out]; exact (by rw [HMO.out.1, HMO.out.2]; rfl)⟩
      · have e2 : decide (s.hi < s.lo) = false := by simpa using c2
        have e3 : wrap64 (s.hi - s.lo) = s.hi - s.lo := by have := HB.out; unfold wrap64; omega
        by_cases c3 : rm ≤ s.hi - s.lo
        · have e4 : decide (s.hi - s.lo ≥ rm) = true := by simpa using c3
          have e4' : decide (rm ≤ s.hi - s.lo) = true := by simpa using c3
          have HAD : Hid (addP M O s = none) := Lib.hid (by unfold addP; rw [if_pos (.inr (.inr (.inl (by have := HRM.out; have := HML.out; omega))))])
          clear c1 c2 c3 hnx hsp
          go_wp2_with fail
          go_ret
          exact ⟨p, n, c, q, m, d, X, Z, by rw [HAD.out]; rfl, T2.out, BB2.out, by rw [HAD.out]; exact (by rw [HMO.out.1, HMO.out.2]; rfl)⟩
        · have e4 : decide (s.hi - s.lo ≥ rm) = false := by simpa using c3
          have e4' : decide (rm ≤ s.hi - s.lo) = false := by simpa using c3
          by_cases c4 : 4 < np
          · have e5 : decide ((np : Int) > 4) = true := by simp; omega
            have e5' : decide ((4 : Int) < np) = true := by simp; omega
            have e5'' : decide (4 < np) = true := by simp; omega
            have HAD : Hid (addP M O s = none) := Lib.hid (by unfold addP; rw [if_pos (.inr (.inr (.inr (by rw [← HNP.out]; exact c4))))])
            clear c1 c2 c3 c4 hnx hsp
            go_wp2_with fail
            go_ret
            exact ⟨p, n, c, q, m, d, X, Z, by rw [HAD.out]; rfl, T2.out, BB2.out, by rw [HAD.out]; exact (by rw [HMO.out.1, HMO.out.2]; rfl)⟩
          · have e5 : decide ((np : Int) > 4) = false := by simp; omega
            have e5' : decide ((4 : Int) < np) = false := by simp; omega
            have e5'' : decide (4 < np) = false := by simp; omega
            obtain ⟨K, hK⟩ : ∃ K, K = (s.hi - s.lo).toNat := ⟨_, rfl⟩
            have HAD : Hid (addP M O s = some (M ++ s.par :: lineK s.lo K, O)) := Lib.hid (by
              unfold addP
              rw [if_neg (by rw [hnx, ← HNP.out]; have := HRM.out; have := HML.out; rintro (h | h | h | h); exact h c1; omega; omega; exact c4 h), if_neg (Int.not_le.2 hsp), ← hK])
            have HKK : Hid (s.hi = s.lo + (K : Int) ∧ (K : Int) < 1000 - (n : Int) - (m : Int) ∧ 0 ≤ s.lo ∧ s.lo ≤ 2199023255552) := Lib.hid (by have := HRM.out; have := HL.out; have := HLN.out; omega)
            have bq := drew_below cw
            have TD := Lib.hid (T2.out.kb bq)
            have SD := Lib.hid ((bq.block _ (Array.getElem?_eq_some_iff.1 SB2.out).1).trans SB2.out)
            have JD := Lib.hid (JX2.out.kb bq)
            have BD := Lib.hid (BB2.out.trans (bq.mono (show tb ≤ cw.heap.size by have := T2.out.lt; have := T2.out.size; omega)))
            clear c1 c2 c3 c4 hnx hsp hK bq T2 SB2 JX2 BB2
            go_wp2_with fail
            clear hc0 hc1 hs0 hs1 hs2
            try simp only [List.append]
            refine wp_region_noPanic ?_
            refine wp_region_held_drew (S := (fun V => V.cell? ⟨sb, 2, none⟩ = some (.slice px np cx))) (by kernel_rfl) (cell_ob5 SD.out 2 rfl) (fun hHeld => ?_)
            generalize cw.drew = cv at *
            rename World => cw
            refine wpAnyH_take (i := 0) (v := ?_) (by simp only [List.getElem?_toArray, List.getElem?_cons_zero]; rfl) (by kernel_rfl) (by kernel_rfl) (by kernel_rfl) (fun _ _ _ h => h) (Or.inl ⟨by rfl, ?_⟩) (by assumption) ?_
            rotate_left
            · intro w hSw
              try dsimp only at hSw
              go_simp
              try with_reducible rfl
            try simp only [Act.put, List.setIfInBounds_toArray, List.set_cons_zero, List.set_cons_succ]
            refine wpAnyH_take (i := 1) (v := ?_) (by simp only [List.getElem?_toArray, List.getElem?_cons_succ, List.getElem?_cons_zero]; rfl) (by kernel_rfl) (by kernel_rfl) (by kernel_rfl) (fun _ _ _ h => h) (Or.inl ⟨by rfl, ?_⟩) (by assumption) ?_
            rotate_left
            · intro w hSw
              try dsimp only at hSw
              go_simp
              try with_reducible rfl
            try simp only [Act.put, List.setIfInBounds_toArray, List.set_cons_zero, List.set_cons_succ]
            refine wpAnyH_take (i := 2) (v := ?_) (by simp only [List.getElem?_toArray, List.getElem?_cons_succ, List.getElem?_cons_zero]; rfl) (by kernel_rfl) (by kernel_rfl) (by kernel_rfl) (fun _ _ _ h => h) (Or.inl ⟨by rfl, ?_⟩) (by assumption) ?_
            rotate_left
            · intro w hSw
              try dsimp only at hSw
              go_simp
              try with_reducible rfl
            try simp only [Act.put, List.setIfInBounds_toArray, List.set_cons_zero, List.set_cons_succ]
            refine wpAnyH_take (i := 4) (v := ?_) (by simp only [List.getElem?_toArray, List.getElem?_cons_succ, List.getElem?_cons_zero]; rfl) (by kernel_rfl) (by kernel_rfl) (by kernel_rfl) (fun _ _ _ h => h) (Or.inl ⟨by rfl, ?_⟩) (by assumption) ?_
            rotate_left
            · intro w hSw
              try dsimp only at hSw
              go_simp
              try with_reducible rfl
            try simp only [Act.put, List.setIfInBounds_toArray, List.set_cons_zero, List.set_cons_succ]
            refine wpAnyH_take (i := 5) (v := ?_) (by simp only [List.getElem?_toArray, List.getElem?_cons_succ, List.getElem?_cons_zero]; rfl) (by kernel_rfl) (by kernel_rfl) (by kernel_rfl) (fun _ _ _ h => h) (Or.inl ⟨by rfl, ?_⟩) (by assumption) ?_
            rotate_left
            · intro w hSw
              try dsimp only at hSw
              go_simp
              try with_reducible rfl
            try simp only [Act.put, List.setIfInBounds_toArray, List.set_cons_zero, List.set_cons_succ]
            refine wpAnyH_ready (rs := [3, 6]) (by kernel_rfl) (by simp) ?_
            refine (AllReadyH.cons (by simp only [List.getElem?_toArray, List.getElem?_cons_succ, List.getElem?_cons_zero]; rfl) (fun K hK => ?_) (AllReadyH.cons (by simp only [List.getElem?_toArray, List.getElem?_cons_succ, List.getElem?_cons_zero]; rfl) (fun K hK => ?_) AllReadyH.nil))
            · have hc := cell_ob5 TD.out.cell 0 rfl
              go_simp
              clear hc
              refine hK.out _ _ (cell_ob5 SD.out 2 rfl) (fun hHeld => ?_)
              clear hK K
              try simp only [Act.put, List.setIfInBounds_toArray, List.set_cons_zero, List.set_cons_succ]
              refine wpAnyH_ready (rs := [6]) (by kernel_rfl) (by simp) ?_
              refine (AllReadyH.cons (by simp only [List.getElem?_toArray, List.getElem?_cons_succ, List.getElem?_cons_zero]; rfl) (fun K hK => ?_) AllReadyH.nil)
              go_simp
              refine (nclone_to cw _ s.par JD.out.1 (by rw [← HNP.out]; exact HPL.out)).mono ?_
              rintro e cx2 ⟨v9, rfl, o9, b9⟩
              obtain ⟨p9, n9, c9, rfl⟩ := jown_sh o9
              have O9 := Lib.hid (JS.own (B := B) o9)
              have BD := Lib.hid (BD.out.trans (b9.mono (show tb ≤ cw.heap.size by have := TD.out.lt; have := TD.out.size; omega)))
              have TD := Lib.hid (TD.out.kb b9)
              have SD := Lib.hid ((b9.block _ (Array.getElem?_eq_some_iff.1 SD.out).1).trans SD.out)
              clear o9 b9
              rename World => cw
              go_wp2_with fail
              refine hK.out _ _ (cell_ob5 SD.out 2 rfl) (fun hHeld => ?_)
              clear hK K
              try simp only [Act.put, List.setIfInBounds_toArray, List.set_cons_zero, List.set_cons_succ]
              refine wpAnyH_ready (rs := [7]) (by kernel_rfl) (by simp) ?_
              refine (AllReadyH.cons (by simp only [List.getElem?_toArray, List.getElem?_cons_succ, List.getElem?_cons_zero]; rfl) (fun K hK => ?_) AllReadyH.nil)
              refine step_build_list (y := .slice p9 n9 c9) (by rfl) (by rfl) (by rfl) (by simp [Act.eval]) ?_
              have AL := (Below.refl cw.heap.size cw).alloc (Nat.le_refl _) (.cells #[.slice p9 n9 c9] 22)
              have HB10 := Lib.hid (heap_alloc_last cw (.cells #[.slice p9 n9 c9] 22))
              have O10 := Lib.hid (O9.out.kb AL)
              have BD := Lib.hid (BD.out.trans (AL.mono (show tb ≤ cw.heap.size by have := TD.out.lt; have := TD.out.size; omega)))
              have TD := Lib.hid (TD.out.kb AL)
              have SD := Lib.hid ((AL.block _ (Array.getElem?_eq_some_iff.1 SD.out).1).trans SD.out)
              clear AL
              generalize cw.alloc (.cells #[.slice p9 n9 c9] 22) = cx2 at *
              generalize cw.heap.size = nb at *
              rename World => cw
              refine hK.out _ _ (cell_ob5 SD.out 2 rfl) (fun hHeld => ?_)
              clear hK K
              try simp only [Act.put, List.setIfInBounds_toArray, List.set_cons_zero, List.set_cons_succ]
              refine wpAnyH_ready (rs := [8]) (by kernel_rfl) (by simp) ?_
              refine (AllReadyH.cons (by simp only [List.getElem?_toArray, List.getElem?_cons_succ, List.getElem?_cons_zero]; rfl) (fun K hK => ?_) AllReadyH.nil)
              refine step_push_list (by rfl) _ _ (by rfl) B R _ X (by rfl) TD.out.lm nb (by rfl) (.slice p9 n9 c9, s.par) HB10.out O10.out TD.out.size (by have := HL.out; omega) ?_
              intro g6 cap6 cx2 own6 grw6 hat6
              have HS := Lib.hid (TD.out.setM (y := (.slice p9 n9 c9, s.par)) O10.out own6 grw6 hat6 SD.out)
              clear own6 grw6 hat6
              rename World => cw
              refine hK.out _ _ (cell_ob5 HS.out.2.1 2 rfl) (fun hHeld => ?_)
              clear hK K
              try simp only [Act.put, List.setIfInBounds_toArray, List.set_cons_zero, List.set_cons_succ]
              refine wpAnyH_take (i := 9) (v := ?_) (by simp only [List.getElem?_toArray, List.getElem?_cons_succ, List.getElem?_cons_zero]; rfl) (by kernel_rfl) (by kernel_rfl) (by kernel_rfl) (fun _ _ _ h => h) (Or.inl ⟨by rfl, ?_⟩) (by assumption) ?_
              rotate_left
              · intro w hSw
                try dsimp only at hSw
                go_simp
                try with_reducible rfl
              try simp only [Act.put, List.setIfInBounds_toArray, List.set_cons_zero, List.set_cons_succ]
              refine wpAnyH_ready (rs := [10]) (by kernel_rfl) (by simp) ?_
              refine (AllReadyH.cons (by simp only [List.getElem?_toArray, List.getElem?_cons_succ, List.getElem?_cons_zero]; rfl) (fun K hK => ?_) AllReadyH.nil)
              have hc := cell_ob5 HS.out.1 0 rfl
              have hf : cw.frozen? ⟨tb, 0, none⟩ = false := frozen_of_row _ _ _ _ _ HS.out.1
              go_simp
              clear hc hf
              refine hK.out _ _ (cell_ob5 HS.out.2.2.1 2 rfl) (fun hHeld => ?_)
              clear hK K
              try simp only [Act.put, List.setIfInBounds_toArray, List.set_cons_zero, List.set_cons_succ]
              refine wpAnyH_done (by kernel_rfl) ?_ _
              refine NoPanic.normal ?_
              clear hHeld
              have BE := Lib.hid (BD.out.trans HS.out.2.2.2.2.1)
              have TE := Lib.hid HS.out.2.2.2.1
              have SE := Lib.hid HS.out.2.2.1
              clear HS
              generalize cw.setCell ⟨tb, 0, none⟩ (.slice (some ⟨g6, 0, none⟩) (X.length + 1) cap6) = w8 at *
              have HEQ : Hid ((X ++ [((.slice p9 n9 c9 : Value), s.par)]).map (·.2) = M ++ s.par :: lineK s.lo 0) := Lib.hid (by rw [List.map_append, ← HMO.out.1]; rfl)
              generalize X ++ [((.slice p9 n9 c9 : Value), s.par)] = X8 at *
              generalize X.length + 1 = n8 at *
              have hs0 := cell_ob5 SE.out 0 rfl
              go_wp2_with fail
              clear hs0
              go_loopw [8] (fun v8 wr => ∃ (t : Nat) (p5 : Option Addr) (n5 c5 : Nat) (X5 : List (Value × List Int)), t ≤ K ∧ v8 = .int .i64 (s.lo + (t : Int)) ∧ Hid (TB wr B R tb p5 n5 c5 q m d X5 Z) ∧ Hid (X5.map (·.2) = M ++ s.par :: lineK s.lo t) ∧ Hid (wr.heap[sb]? = some (.cells #[.int .i64 s.lo, .int .i64 s.hi, .slice px np cx, .bool s.root, .bool s.head] 33 (0, 0))) ∧ Hid (Below tb w wr)) (fun v8 _ => (s.hi - intOf v8).toNat)
              case atStart => exact ⟨0, _, _, _, X8, Nat.zero_le _, by simp, TE, HEQ, SE, BE⟩
              case round =>
                clear TE HEQ SE BE
                obtain ⟨t, p5, n5, c5, X5, ht, rfl, T5, HE5, S5, B5⟩ := hrel
                have hs1 := cell_ob5 S5.out 1 rfl
                rw [show (#[Value.int .i64 s.lo, .int .i64 s.hi, .slice px np cx, .bool s.root, .bool s.head] : Array Value)[1] = .int .i64 (s.lo + (K : Int)) by show Value.int .i64 s.hi = _; rw [HKK.out.1]] at hs1
                by_cases hlt : t < K
                · have d0 : decide (s.lo + (t : Int) < s.lo + (K : Int)) = true := by simp; omega
                  have d0' : decide ((t : Int) < (K : Int)) = true := by simp; omega
                  have d0'' : decide (t < K) = true := by simp; omega
                  have HID : Hid (wrap64 (s.lo + (t : Int) + 1) = s.lo + ((t + 1 : Nat) : Int)) := Lib.hid (by have := HKK.out; unfold wrap64; omega)
                  have HME := Lib.hid (meas_hi HKK.out.1 hlt)
                  have hid := HID.out
                  have hg := cell_ob5 T5.out.cell 0 rfl
                  have A1 := (Below.refl wr.heap.size wr).alloc (Nat.le_refl _) (.cells #[.int .i64 (s.lo + (t : Int))] 3)
                  have A2 := A1.alloc (by simp) (.cells #[.slice (some ⟨wr.heap.size, 0, none⟩) 1 1] 22)
                  have T6 := Lib.hid (T5.out.kb A2)
                  have S6 := Lib.hid ((A2.block _ (Array.getElem?_eq_some_iff.1 S5.out).1).trans S5.out)
                  have B6 := Lib.hid (B5.out.trans (A2.mono (show tb ≤ wr.heap.size by have := T5.out.lt; have := T5.out.size; omega)))
                  have J6 : Hid (JS B ((wr.alloc (.cells #[.int .i64 (s.lo + (t : Int))] 3)).alloc (.cells #[.slice (some ⟨wr.heap.size, 0, none⟩) 1 1] 22)) (.slice (some ⟨wr.heap.size, 0, none⟩) 1 1) [s.lo + (t : Int)]) := Lib.hid (JS.lit1 (by rw [heap_alloc_old _ _ (by simp)]; exact heap_alloc_last _ _))
                  have HB6 := Lib.hid (heap_alloc_last (wr.alloc (.cells #[.int .i64 (s.lo + (t : Int))] 3)) (.cells #[.slice (some ⟨wr.heap.size, 0, none⟩) 1 1] 22))
                  have HLE : Hid (X5.length ≤ 1000000) := Lib.hid (by have := congrArg List.length HE5.out; rw [List.length_map, List.length_append, List.length_cons, lineK_len] at this; have := HKK.out; have := HML.out; omega)
                  have HLT := Lib.hid hlt
                  clear A1 A2 hlt ht
                  go_wp2_with (at_builtin; refine push_list (by rfl) (.tmp 88) (.tmp 91) (by rfl) B R _ X5 (by rfl) T6.out.lm (wr.alloc (.cells #[.int .i64 (s.lo + (t : Int))] 3)).heap.size (by simp [Act.eval]) (.slice (some ⟨wr.heap.size, 0, none⟩) 1 1, [s.lo + (t : Int)]) HB6.out J6.out T6.out.size HLE.out ?_; intro g7 cap7 w7 own7 grw7 hat7; have HS := Lib.hid (T6.out.setM (y := (.slice (some ⟨wr.heap.size, 0, none⟩) 1 1, [s.lo + (t : Int)])) J6.out own7 grw7 hat7 S6.out); have hc7 := cell_ob5 HS.out.1 0 rfl; have hf7 : w7.frozen? ⟨tb, 0, none⟩ = false := frozen_of_row _ _ _ _ _ HS.out.1; clear own7 grw7 hat7)
                  refine ⟨⟨t + 1, _, _, _, X5 ++ [(.slice (some ⟨wr.heap.size, 0, none⟩) 1 1, [s.lo + (t : Int)])], HLT.out, by first | rw [HID.out] | rfl, Lib.hid HS.out.2.2.2.1, Lib.hid (by rw [List.map_append, HE5.out, lineK_snoc]; simp), Lib.hid HS.out.2.2.1, Lib.hid (B6.out.trans HS.out.2.2.2.2.1)⟩, ?_⟩
                  first | (rw [HID.out]; exact HME.out) | exact HME.out
                · obtain rfl : t = K := Nat.le_antisymm ht (Nat.le_of_not_lt hlt)
                  have d0 : decide (s.lo + (t : Int) < s.lo + (t : Int)) = false := by simp
                  clear hlt
                  go_wp2_with fail
                  go_ret
                  exact ⟨p5, n5, c5, q, m, d, X5, Z, by rw [HAD.out]; rfl, T5.out, B5.out, by rw [HAD.out, HE5.out, ← HMO.out.2]; rfl⟩
            · go_simp
              refine (nclone_to cw _ s.par JD.out.1 (by rw [← HNP.out]; exact HPL.out)).mono ?_
              rintro e cx2 ⟨v9, rfl, o9, b9⟩
              obtain ⟨p9, n9, c9, rfl⟩ := jown_sh o9
              have O9 := Lib.hid (JS.own (B := B) o9)
              have BD := Lib.hid (BD.out.trans (b9.mono (show tb ≤ cw.heap.size by have := TD.out.lt; have := TD.out.size; omega)))
              have TD := Lib.hid (TD.out.kb b9)
              have SD := Lib.hid ((b9.block _ (Array.getElem?_eq_some_iff.1 SD.out).1).trans SD.out)
              clear o9 b9
              rename World => cw
              go_wp2_with fail
              refine hK.out _ _ (cell_ob5 SD.out 2 rfl) (fun hHeld => ?_)
              clear hK K
              try simp only [Act.put, List.setIfInBounds_toArray, List.set_cons_zero, List.set_cons_succ]
              refine wpAnyH_ready (rs := [3, 7]) (by kernel_rfl) (by simp) ?_
              refine (AllReadyH.cons (by simp only [List.getElem?_toArray, List.getElem?_cons_succ, List.getElem?_cons_zero]; rfl) (fun K hK => ?_) (AllReadyH.cons (by simp only [List.getElem?_toArray, List.getElem?_cons_succ, List.getElem?_cons_zero]; rfl) (fun K hK => ?_) AllReadyH.nil))
              · have hc := cell_ob5 TD.out.cell 0 rfl
                go_simp
                clear hc
                refine hK.out _ _ (cell_ob5 SD.out 2 rfl) (fun hHeld => ?_)
                clear hK K
                try simp only [Act.put, List.setIfInBounds_toArray, List.set_cons_zero, List.set_cons_succ]
                refine wpAnyH_ready (rs := [7]) (by kernel_rfl) (by simp) ?_
                refine (AllReadyH.cons (by simp only [List.getElem?_toArray, List.getElem?_cons_succ, List.getElem?_cons_zero]; rfl) (fun K hK => ?_) AllReadyH.nil)
                refine step_build_list (y := .slice p9 n9 c9) (by rfl) (by rfl) (by rfl) (by simp [Act.eval]) ?_
                have AL := (Below.refl cw.heap.size cw).alloc (Nat.le_refl _) (.cells #[.slice p9 n9 c9] 22)
                have HB10 := Lib.hid (heap_alloc_last cw (.cells #[.slice p9 n9 c9] 22))
                have O10 := Lib.hid (O9.out.kb AL)
                have BD := Lib.hid (BD.out.trans (AL.mono (show tb ≤ cw.heap.size by have := TD.out.lt; have := TD.out.size; omega)))
                have TD := Lib.hid (TD.out.kb AL)
                have SD := Lib.hid ((AL.block _ (Array.getElem?_eq_some_iff.1 SD.out).1).trans SD.out)
                clear AL
                generalize cw.alloc (.cells #[.slice p9 n9 c9] 22) = cx2 at *
                generalize cw.heap.size = nb at *
                rename World => cw
                refine hK.out _ _ (cell_ob5 SD.out 2 rfl) (fun hHeld => ?_)
                clear hK K
                try simp only [Act.put, List.setIfInBounds_toArray, List.set_cons_zero, List.set_cons_succ]
                refine wpAnyH_ready (rs := [8]) (by kernel_rfl) (by simp) ?_
                refine (AllReadyH.cons (by simp only [List.getElem?_toArray, List.getElem?_cons_succ, List.getElem?_cons_zero]; rfl) (fun K hK => ?_) AllReadyH.nil)
                refine step_push_list (by rfl) _ _ (by rfl) B R _ X (by rfl) TD.out.lm nb (by rfl) (.slice p9 n9 c9, s.par) HB10.out O10.out TD.out.size (by have := HL.out; omega) ?_
                intro g6 cap6 cx2 own6 grw6 hat6
                have HS := Lib.hid (TD.out.setM (y := (.slice p9 n9 c9, s.par)) O10.out own6 grw6 hat6 SD.out)
                clear own6 grw6 hat6
                rename World => cw
                refine hK.out _ _ (cell_ob5 HS.out.2.1 2 rfl) (fun hHeld => ?_)
                clear hK K
                try simp only [Act.put, List.setIfInBounds_toArray, List.set_cons_zero, List.set_cons_succ]
                refine wpAnyH_take (i := 9) (v := ?_) (by simp only [List.getElem?_toArray, List.getElem?_cons_succ, List.getElem?_cons_zero]; rfl) (by kernel_rfl) (by kernel_rfl) (by kernel_rfl) (fun _ _ _ h => h) (Or.inl ⟨by rfl, ?_⟩) (by assumption) ?_
                rotate_left
                · intro w hSw
                  try dsimp only at hSw
                  go_simp
                  try with_reducible rfl
                try simp only [Act.put, List.setIfInBounds_toArray, List.set_cons_zero, List.set_cons_succ]
                refine wpAnyH_ready (rs := [10]) (by kernel_rfl) (by simp) ?_
                refine (AllReadyH.cons (by simp only [List.getElem?_toArray, List.getElem?_cons_succ, List.getElem?_cons_zero]; rfl) (fun K hK => ?_) AllReadyH.nil)
                have hc := cell_ob5 HS.out.1 0 rfl
                have hf : cw.frozen? ⟨tb, 0, none⟩ = false := frozen_of_row _ _ _ _ _ HS.out.1
                go_simp
                clear hc hf
                refine hK.out _ _ (cell_ob5 HS.out.2.2.1 2 rfl) (fun hHeld => ?_)
                clear hK K
                try simp only [Act.put, List.setIfInBounds_toArray, List.set_cons_zero, List.set_cons_succ]
                refine wpAnyH_done (by kernel_rfl) ?_ _
                refine NoPanic.normal ?_
                clear hHeld
                have BE := Lib.hid (BD.out.trans HS.out.2.2.2.2.1)
                have TE := Lib.hid HS.out.2.2.2.1
                have SE := Lib.hid HS.out.2.2.1
                clear HS
                generalize cw.setCell ⟨tb, 0, none⟩ (.slice (some ⟨g6, 0, none⟩) (X.length + 1) cap6) = w8 at *
                have HEQ : Hid ((X ++ [((.slice p9 n9 c9 : Value), s.par)]).map (·.2) = M ++ s.par :: lineK s.lo 0) := Lib.hid (by rw [List.map_append, ← HMO.out.1]; rfl)
                generalize X ++ [((.slice p9 n9 c9 : Value), s.par)] = X8 at *
                generalize X.length + 1 = n8 at *
                have hs0 := cell_ob5 SE.out 0 rfl
                go_wp2_with fail
                clear hs0
                go_loopw [8] (fun v8 wr => ∃ (t : Nat) (p5 : Option Addr) (n5 c5 : Nat) (X5 : List (Value × List Int)), t ≤ K ∧ v8 = .int .i64 (s.lo + (t : Int)) ∧ Hid (TB wr B R tb p5 n5 c5 q m d X5 Z) ∧ Hid (X5.map (·.2) = M ++ s.par :: lineK s.lo t) ∧ Hid (wr.heap[sb]? = some (.cells #[.int .i64 s.lo, .int .i64 s.hi, .slice px np cx, .bool s.root, .bool s.head] 33 (0, 0))) ∧ Hid (Below tb w wr)) (fun v8 _ => (s.hi - intOf v8).toNat)
                case atStart => exact ⟨0, _, _, _, X8, Nat.zero_le _, by simp, TE, HEQ, SE, BE⟩
                case round =>
                  clear TE HEQ SE BE
                  obtain ⟨t, p5, n5, c5, X5, ht, rfl, T5, HE5, S5, B5⟩ := hrel
                  have hs1 := cell_ob5 S5.out 1 rfl
                  rw [show (#[Value.int .i64 s.lo, .int .i64 s.hi, .slice px np cx, .bool s.root, .bool s.head] : Array Value)[1] = .int .i64 (s.lo + (K : Int)) by show Value.int .i64 s.hi = _; rw [HKK.out.1]] at hs1
                  by_cases hlt : t < K
                  · have d0 : decide (s.lo + (t : Int) < s.lo + (K : Int)) = true := by simp; omega
                    have d0' : decide ((t : Int) < (K : Int)) = true := by simp; omega
                    have d0'' : decide (t < K) = true := by simp; omega
                    have HID : Hid (wrap64 (s.lo + (t : Int) + 1) = s.lo + ((t + 1 : Nat) : Int)) := Lib.hid (by have := HKK.out; unfold wrap64; omega)
                    have HME := Lib.hid (meas_hi HKK.out.1 hlt)
                    have hid := HID.out
                    have hg := cell_ob5 T5.out.cell 0 rfl
                    have A1 := (Below.refl wr.heap.size wr).alloc (Nat.le_refl _) (.cells #[.int .i64 (s.lo + (t : Int))] 3)
                    have A2 := A1.alloc (by simp) (.cells #[.slice (some ⟨wr.heap.size, 0, none⟩) 1 1] 22)
                    have T6 := Lib.hid (T5.out.kb A2)
                    have S6 := Lib.hid ((A2.block _ (Array.getElem?_eq_some_iff.1 S5.out).1).trans S5.out)
                    have B6 := Lib.hid (B5.out.trans (A2.mono (show tb ≤ wr.heap.size by have := T5.out.lt; have := T5.out.size; omega)))
                    have J6 : Hid (JS B ((wr.alloc (.cells #[.int .i64 (s.lo + (t : Int))] 3)).alloc (.cells #[.slice (some ⟨wr.heap.size, 0, none⟩) 1 1] 22)) (.slice (some ⟨wr.heap.size, 0, none⟩) 1 1) [s.lo + (t : Int)]) := Lib.hid (JS.lit1 (by rw [heap_alloc_old _ _ (by simp)]; exact heap_alloc_last _ _))
                    have HB6 := Lib.hid (heap_alloc_last (wr.alloc (.cells #[.int .i64 (s.lo + (t : Int))] 3)) (.cells #[.slice (some ⟨wr.heap.size, 0, none⟩) 1 1] 22))
                    have HLE : Hid (X5.length ≤ 1000000) := Lib.hid (by have := congrArg List.length HE5.out; rw [List.length_map, List.length_append, List.length_cons, lineK_len] at this; have := HKK.out; have := HML.out; omega)
                    have HLT := Lib.hid hlt
                    clear A1 A2 hlt ht
                    go_wp2_with (at_builtin; refine push_list (by rfl) (.tmp 88) (.tmp 91) (by rfl) B R _ X5 (by rfl) T6.out.lm (wr.alloc (.cells #[.int .i64 (s.lo + (t : Int))] 3)).heap.size (by simp [Act.eval]) (.slice (some ⟨wr.heap.size, 0, none⟩) 1 1, [s.lo + (t : Int)]) HB6.out J6.out T6.out.size HLE.out ?_; intro g7 cap7 w7 own7 grw7 hat7; have HS := Lib.hid (T6.out.setM (y := (.slice (some ⟨wr.heap.size, 0, none⟩) 1 1, [s.lo + (t : Int)])) J6.out own7 grw7 hat7 S6.out); have hc7 := cell_ob5 HS.out.1 0 rfl; have hf7 : w7.frozen? ⟨tb, 0, none⟩ = false := frozen_of_row _ _ _ _ _ HS.out.1; clear own7 grw7 hat7)
                    refine ⟨⟨t + 1, _, _, _, X5 ++ [(.slice (some ⟨wr.heap.size, 0, none⟩) 1 1, [s.lo + (t : Int)])], HLT.out, by first | rw [HID.out] | rfl, Lib.hid HS.out.2.2.2.1, Lib.hid (by rw [List.map_append, HE5.out, lineK_snoc]; simp), Lib.hid HS.out.2.2.1, Lib.hid (B6.out.trans HS.out.2.2.2.2.1)⟩, ?_⟩
                    first | (rw [HID.out]; exact HME.out) | exact HME.out
                  · obtain rfl : t = K := Nat.le_antisymm ht (Nat.le_of_not_lt hlt)
                    have d0 : decide (s.lo + (t : Int) < s.lo + (t : Int)) = false := by simp
                    clear hlt
                    go_wp2_with fail
                    go_ret
                    exact ⟨p5, n5, c5, q, m, d, X5, Z, by rw [HAD.out]; rfl, T5.out, B5.out, by rw [HAD.out, HE5.out, ← HMO.out.2]; rfl⟩
              · refine step_build_list (y := .slice p9 n9 c9) (by rfl) (by rfl) (by rfl) (by simp [Act.eval]) ?_
                have AL := (Below.refl cw.heap.size cw).alloc (Nat.le_refl _) (.cells #[.slice p9 n9 c9] 22)
                have HB10 := Lib.hid (heap_alloc_last cw (.cells #[.slice p9 n9 c9] 22))
                have O10 := Lib.hid (O9.out.kb AL)
                have BD := Lib.hid (BD.out.trans (AL.mono (show tb ≤ cw.heap.size by have := TD.out.lt; have := TD.out.size; omega)))
                have TD := Lib.hid (TD.out.kb AL)
                have SD := Lib.hid ((AL.block _ (Array.getElem?_eq_some_iff.1 SD.out).1).trans SD.out)
                clear AL
                generalize cw.alloc (.cells #[.slice p9 n9 c9] 22) = cx2 at *
                generalize cw.heap.size = nb at *
                rename World => cw
                refine hK.out _ _ (cell_ob5 SD.out 2 rfl) (fun hHeld => ?_)
                clear hK K
                try simp only [Act.put, List.setIfInBounds_toArray, List.set_cons_zero, List.set_cons_succ]
                refine wpAnyH_ready (rs := [3]) (by kernel_rfl) (by simp) ?_
                refine (AllReadyH.cons (by simp only [List.getElem?_toArray, List.getElem?_cons_succ, List.getElem?_cons_zero]; rfl) (fun K hK => ?_) AllReadyH.nil)
                have hc := cell_ob5 TD.out.cell 0 rfl
                go_simp
                clear hc
                refine hK.out _ _ (cell_ob5 SD.out 2 rfl) (fun hHeld => ?_)
                clear hK K
                try simp only [Act.put, List.setIfInBounds_toArray, List.set_cons_zero, List.set_cons_succ]
                refine wpAnyH_ready (rs := [8]) (by kernel_rfl) (by simp) ?_
                refine (AllReadyH.cons (by simp only [List.getElem?_toArray, List.getElem?_cons_succ, List.getElem?_cons_zero]; rfl) (fun K hK => ?_) AllReadyH.nil)
                refine step_push_list (by rfl) _ _ (by rfl) B R _ X (by rfl) TD.out.lm nb (by rfl) (.slice p9 n9 c9, s.par) HB10.out O10.out TD.out.size (by have := HL.out; omega) ?_
                intro g6 cap6 cx2 own6 grw6 hat6
                have HS := Lib.hid (TD.out.setM (y := (.slice p9 n9 c9, s.par)) O10.out own6 grw6 hat6 SD.out)
                clear own6 grw6 hat6
                rename World => cw
                refine hK.out _ _ (cell_ob5 HS.out.2.1 2 rfl) (fun hHeld => ?_)
                clear hK K
                try simp only [Act.put, List.setIfInBounds_toArray, List.set_cons_zero, List.set_cons_succ]
                refine wpAnyH_take (i := 9) (v := ?_) (by simp only [List.getElem?_toArray, List.getElem?_cons_succ, List.getElem?_cons_zero]; rfl) (by kernel_rfl) (by kernel_rfl) (by kernel_rfl) (fun _ _ _ h => h) (Or.inl ⟨by rfl, ?_⟩) (by assumption) ?_
                rotate_left
                · intro w hSw
                  try dsimp only at hSw
                  go_simp
                  try with_reducible rfl
                try simp only [Act.put, List.setIfInBounds_toArray, List.set_cons_zero, List.set_cons_succ]
                refine wpAnyH_ready (rs := [10]) (by kernel_rfl) (by simp) ?_
                refine (AllReadyH.cons (by simp only [List.getElem?_toArray, List.getElem?_cons_succ, List.getElem?_cons_zero]; rfl) (fun K hK => ?_) AllReadyH.nil)
                have hc := cell_ob5 HS.out.1 0 rfl
                have hf : cw.frozen? ⟨tb, 0, none⟩ = false := frozen_of_row _ _ _ _ _ HS.out.1
                go_simp
                clear hc hf
                refine hK.out _ _ (cell_ob5 HS.out.2.2.1 2 rfl) (fun hHeld => ?_)
                clear hK K
                try simp only [Act.put, List.setIfInBounds_toArray, List.set_cons_zero, List.set_cons_succ]
                refine wpAnyH_done (by kernel_rfl) ?_ _
                refine NoPanic.normal ?_
                clear hHeld
                have BE := Lib.hid (BD.out.trans HS.out.2.2.2.2.1)
                have TE := Lib.hid HS.out.2.2.2.1
                have SE := Lib.hid HS.out.2.2.1
                clear HS
                generalize cw.setCell ⟨tb, 0, none⟩ (.slice (some ⟨g6, 0, none⟩) (X.length + 1) cap6) = w8 at *
                have HEQ : Hid ((X ++ [((.slice p9 n9 c9 : Value), s.par)]).map (·.2) = M ++ s.par :: lineK s.lo 0) := Lib.hid (by rw [List.map_append, ← HMO.out.1]; rfl)
                generalize X ++ [((.slice p9 n9 c9 : Value), s.par)] = X8 at *
                generalize X.length + 1 = n8 at *
                have hs0 := cell_ob5 SE.out 0 rfl
                go_wp2_with fail
                clear hs0
                go_loopw [8] (fun v8 wr => ∃ (t : Nat) (p5 : Option Addr) (n5 c5 : Nat) (X5 : List (Value × List Int)), t ≤ K ∧ v8 = .int .i64 (s.lo + (t : Int)) ∧ Hid (TB wr B R tb p5 n5 c5 q m d X5 Z) ∧ Hid (X5.map (·.2) = M ++ s.par :: lineK s.lo t) ∧ Hid (wr.heap[sb]? = some (.cells #[.int .i64 s.lo, .int .i64 s.hi, .slice px np cx, .bool s.root, .bool s.head] 33 (0, 0))) ∧ Hid (Below tb w wr)) (fun v8 _ => (s.hi - intOf v8).toNat)
                case atStart => exact ⟨0, _, _, _, X8, Nat.zero_le _, by simp, TE, HEQ, SE, BE⟩
                case round =>
                  clear TE HEQ SE BE
                  obtain ⟨t, p5, n5, c5, X5, ht, rfl, T5, HE5, S5, B5⟩ := hrel
                  have hs1 := cell_ob5 S5.out 1 rfl
                  rw [show (#[Value.int .i64 s.lo, .int .i64 s.hi, .slice px np cx, .bool s.root, .bool s.head] : Array Value)[1] = .int .i64 (s.lo + (K : Int)) by show Value.int .i64 s.hi = _; rw [HKK.out.1]] at hs1
                  by_cases hlt : t < K
                  · have d0 : decide (s.lo + (t : Int) < s.lo + (K : Int)) = true := by simp; omega
                    have d0' : decide ((t : Int) < (K : Int)) = true := by simp; omega
                    have d0'' : decide (t < K) = true := by simp; omega
                    have HID : Hid (wrap64 (s.lo + (t : Int) + 1) = s.lo + ((t + 1 : Nat) : Int)) := Lib.hid (by have := HKK.out; unfold wrap64; omega)
                    have HME := Lib.hid (meas_hi HKK.out.1 hlt)
                    have hid := HID.out
                    have hg := cell_ob5 T5.out.cell 0 rfl
                    have A1 := (Below.refl wr.heap.size wr).alloc (Nat.le_refl _) (.cells #[.int .i64 (s.lo + (t : Int))] 3)
                    have A2 := A1.alloc (by simp) (.cells #[.slice (some ⟨wr.heap.size, 0, none⟩) 1 1] 22)
                    have T6 := Lib.hid (T5.out.kb A2)
                    have S6 := Lib.hid ((A2.block _ (Array.getElem?_eq_some_iff.1 S5.out).1).trans S5.out)
                    have B6 := Lib.hid (B5.out.trans (A2.mono (show tb ≤ wr.heap.size by have := T5.out.lt; have := T5.out.size; omega)))
                    have J6 : Hid (JS B ((wr.alloc (.cells #[.int .i64 (s.lo + (t : Int))] 3)).alloc (.cells #[.slice (some ⟨wr.heap.size, 0, none⟩) 1 1] 22)) (.slice (some ⟨wr.heap.size, 0, none⟩) 1 1) [s.lo + (t : Int)]) := Lib.hid (JS.lit1 (by rw [heap_alloc_old _ _ (by simp)]; exact heap_alloc_last _ _))
                    have HB6 := Lib.hid (heap_alloc_last (wr.alloc (.cells #[.int .i64 (s.lo + (t : Int))] 3)) (.cells #[.slice (some ⟨wr.heap.size, 0, none⟩) 1 1] 22))
                    have HLE : Hid (X5.length ≤ 1000000) := Lib.hid (by have := congrArg List.length HE5.out; rw [List.length_map, List.length_append, List.length_cons, lineK_len] at this; have := HKK.out; have := HML.out; omega)
                    have HLT := Lib.hid hlt
                    clear A1 A2 hlt ht
                    go_wp2_with (at_builtin; refine push_list (by rfl) (.tmp 88) (.tmp 91) (by rfl) B R _ X5 (by rfl) T6.out.lm (wr.alloc (.cells #[.int .i64 (s.lo + (t : Int))] 3)).heap.size (by simp [Act.eval]) (.slice (some ⟨wr.heap.size, 0, none⟩) 1 1, [s.lo + (t : Int)]) HB6.out J6.out T6.out.size HLE.out ?_; intro g7 cap7 w7 own7 grw7 hat7; have HS := Lib.hid (T6.out.setM (y := (.slice (some ⟨wr.heap.size, 0, none⟩) 1 1, [s.lo + (t : Int)])) J6.out own7 grw7 hat7 S6.out); have hc7 := cell_ob5 HS.out.1 0 rfl; have hf7 : w7.frozen? ⟨tb, 0, none⟩ = false := frozen_of_row _ _ _ _ _ HS.out.1; clear own7 grw7 hat7)
                    refine ⟨⟨t + 1, _, _, _, X5 ++ [(.slice (some ⟨wr.heap.size, 0, none⟩) 1 1, [s.lo + (t : Int)])], HLT.out, by first | rw [HID.out] | rfl, Lib.hid HS.out.2.2.2.1, Lib.hid (by rw [List.map_append, HE5.out, lineK_snoc]; simp), Lib.hid HS.out.2.2.1, Lib.hid (B6.out.trans HS.out.2.2.2.2.1)⟩, ?_⟩
                    first | (rw [HID.out]; exact HME.out) | exact HME.out
                  · obtain rfl : t = K := Nat.le_antisymm ht (Nat.le_of_not_lt hlt)
                    have d0 : decide (s.lo + (t : Int) < s.lo + (t : Int)) = false := by simp
                    clear hlt
                    go_wp2_with fail
                    go_ret
                    exact ⟨p5, n5, c5, q, m, d, X5, Z, by rw [HAD.out]; rfl, T5.out, B5.out, by rw [HAD.out, HE5.out, ← HMO.out.2]; rfl⟩
    · have e1 : (s.lo != (n : Int)) = true := by simpa using c1
      have HAD : Hid (addP M O s = none) := Lib.hid (by unfold addP; rw [if_pos (.inl (by rw [hnx]; exact c1))])
      clear c1 hnx hsp
      go_wp2_with fail
      go_ret
      exact ⟨p, n, c, q, m, d, X, Z, by rw [HAD.out]; rfl, T2.out, BB2.out, by rw [HAD.out]; exact (by rw [HMO.out.1, HMO.out.2]; rfl)⟩
end Go.Proofs.Ytadglppplgeldaa
