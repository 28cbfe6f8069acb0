/- The statements' tables of raw numbers. Conditions: numbers as Go has them. -/
import Derived.Test.YtadglppplgeldaaFltV
import Derived.Test.YtadglppplgeldaaFltT
import Derived.Great.FillDense
import Derived.Great.BuildSlice
namespace Go.Proofs.Ytadglppplgeldaa
open Go.RowKit
set_option maxRecDepth 20000

/-- The lists of parents that raw numbers give, when f tells the IDs that are there. -/
def tbG (f : Nat → List Int) (xs : List Int) : List (List Int) := xs.foldl (fun L x => L ++ [prn x (f L.length)]) []
theorem tbG_len (f : Nat → List Int) (xs : List Int) : (tbG f xs).length = xs.length := by
  refine snoc_ind (P := fun xs => (tbG f xs).length = xs.length) rfl (fun L x ih => ?_) xs
  unfold tbG at ih ⊢
  rw [List.foldl_append, List.length_append]
  show (_ ++ [_]).length = _
  rw [List.length_append, ih]; rfl
theorem tbG_snoc (f : Nat → List Int) (xs : List Int) (x : Int) : tbG f (xs ++ [x]) = tbG f xs ++ [prn x (f xs.length)] := by
  have e : tbG f (xs ++ [x]) = tbG f xs ++ [prn x (f (tbG f xs).length)] := by unfold tbG; rw [List.foldl_append]; rfl
  rw [e, tbG_len]
theorem tbG_take {f : Nat → List Int} {xs : List Int} {k : Nat} {x : Int} (h : xs[k]? = some x) : tbG f (xs.take (k + 1)) = tbG f (xs.take k) ++ [prn x (f k)] := by
  rw [List.take_add_one, h]
  show tbG f (xs.take k ++ [x]) = _
  rw [tbG_snoc, List.length_take, Nat.min_eq_left (Nat.le_of_lt (List.getElem?_eq_some_iff.1 h).1)]
section
variable {ops : Array Oper} {o : Oper} {a : Act} {w : World} {K : Act → World → Prop} {Q : Exit → Act → World → Prop} {X : Prop}
/-- append of one list, at a step of a region that draws. -/
theorem step_push_list (hgd : o.guard = none) (s x : Operand) (ho : o.op = .call { callee := .builtin .append, args := #[s, x], argTypes := #[23, 23] })
    (B R : Nat) (v : Value) (Y : List (Value × List Int)) (hs : a.eval s = v) (G : LO B R w v Y) (b : Nat) (hx : a.eval x = .slice (some ⟨b, 0, none⟩) 1 1) (y : Value × List Int) (hb : w.heap[b]? = some (.cells #[y.1] 22 (0, 0)))
    (hy : JS B w y.1 y.2) (hR : R ≤ w.heap.size) (hl : Y.length ≤ 1000000)
    (h : ∀ g cap w', w'.ownsRow R 22 1 (.slice (some ⟨g, 0, none⟩) (Y.length + 1) cap) (Y.length + 1) (Y.map (·.1) ++ [y.1]) → w.grownBy w' v.ownBlock → (v.ownBlock = some g ∨ g = w.heap.size) → K (a.put o.dst (.slice (some ⟨g, 0, none⟩) (Y.length + 1) cap)) w') :
    if Region.wanted o (yielded ops a.tmps) = true then Oper.wp Try.prog o a w K Q else X := by
  obtain ⟨i0, hi0, hz0, hz1, hz2⟩ := info_parts linfo
  refine step_append_lies _ hgd s x _ ho R 22 i0 _ 1 24 Try.underlying23 hi0 hz0 hz1 hz2 rfl (by decide) v Y.length _ hs G.row ⟨b, 0, none⟩ 1 1 [y.1] hx (by rfl) (World.news_of_block hb) (fun u hu => by rw [List.mem_singleton.1 hu]; exact hy.one) (by decide) (by unfold maxLen; omega) (by omega) hR _ rfl ?_
  intro g cap w' own grw hat _
  exact h g cap w' own grw hat
theorem step_build_list {y : Value} {parts : Array (Nat × Operand)} (hgd : o.guard = none) (ho : o.op = .buildSlice 23 1 parts) (hy : y.cells = #[y])
    (hv' : (parts.map fun (i, x) => (i, a.eval x)).toList = [(0, y)])
    (h : K (a.put o.dst (.slice (some ⟨w.heap.size, 0, none⟩) 1 1)) (w.alloc (.cells #[y] 22))) :
    if Region.wanted o (yielded ops a.tmps) = true then Oper.wp Try.prog o a w K Q else X := by
  rw [if_pos (by simp [Region.wanted, hgd])]
  obtain ⟨i0, hi0, hz0, hz1, hz2⟩ := info_parts linfo
  refine wp_buildSlice 23 22 1 parts ho #[y] i0 (.slice none 0 0) Try.underlying23 hi0 hz0 (by rw [hz1]; decide) (by rw [hz1]; decide) ?_ h
  rw [hv', hz1]
  exact Great.fill_flat [y] _ (fun v hv => by rw [List.mem_singleton.1 hv]; exact hy) (by simp)
end
theorem LO.keep {B R : Nat} {w w' : World} {v : Value} {X : List (Value × List Int)} {S : Nat → Prop} (h : LO B R w v X) (m : Mi B w w') (o : Only S w w') (hS : ∀ k, v.ownBlock = some k → ¬ S k) : LO B R w' v X := by
  refine ⟨⟨h.row.1, ?_⟩, fun y hy => (h.lit y hy).mi m⟩
  rcases h.row.2 with h1 | ⟨g, cap, cur, h1, h2, hg, h3⟩
  · exact .inl h1
  · exact .inr ⟨g, cap, cur, h1, h2, (o.block g (Array.getElem?_eq_some_iff.1 hg).1 (hS g (by rw [h1]; rfl))).trans hg, h3⟩
/-- A table that is put together, and what stands beside it. -/
structure TI (w W : World) (B b : Nat) (u1 u2 : Value) (p : Option Addr) (n c : Nat) (q : Option Addr) (m d : Nat) (X Z : List (Value × List Int)) : Prop where
  xcell : W.heap[b]? = some (.cells #[u1, u2] 39 (0, 0))
  rcell : W.heap[b + 1]? = some (.cells #[.slice none 0 0, .slice none 0 0] 41 (0, 0))
  tcell : W.heap[b + 2]? = some (.cells #[.slice p n c, .slice q m d] 41 (0, 0))
  lm : LO B (b + 3) W (.slice p n c) X
  lo : LO B (b + 3) W (.slice q m d) Z
  ap : ∀ j, (Value.slice p n c).ownBlock = some j → (Value.slice q m d).ownBlock ≠ some j
  bel : Below b w W
  size : b + 3 ≤ W.heap.size
  low : B ≤ b
  at_ : b = w.heap.size
section
variable {w W : World} {B b : Nat} {u1 u2 : Value} {p : Option Addr} {n c : Nat} {q : Option Addr} {m d : Nat} {X Z : List (Value × List Int)}
theorem TI.kb {W' : World} (h : TI w W B b u1 u2 p n c q m d X Z) (k : Below W.heap.size W W') : TI w W' B b u1 u2 p n c q m d X Z :=
  ⟨(k.block _ (Array.getElem?_eq_some_iff.1 h.xcell).1).trans h.xcell, (k.block _ (Array.getElem?_eq_some_iff.1 h.rcell).1).trans h.rcell, (k.block _ (Array.getElem?_eq_some_iff.1 h.tcell).1).trans h.tcell, h.lm.kb k, h.lo.kb k, h.ap, h.bel.trans (k.mono (by have := h.size; omega)), Nat.le_trans h.size k.size, h.low, h.at_⟩
theorem grw_mi {w' : World} {v : Value} {R : Nat} (h : LO B R w v X) (hB : B ≤ R) (g : w.grownBy w' v.ownBlock) : Mi B w w' := by
  rcases h.row.2 with ⟨rfl, _⟩ | ⟨g', cap, cur, rfl, hR, hg', _⟩
  · exact ⟨(Only.refl _ w).grown g (fun k _ e => by cases e)⟩
  · exact Mi.of hg' (by decide) (Nat.le_trans hB hR) ((Only.refl _ w).grown g (fun k _ e => by simpa [Value.ownBlock] using e.symm))
theorem tab_mi {w : World} {B b : Nat} {cs : Array Value} {j : Nat} {u : Value} (h : w.heap[b]? = some (.cells cs 41 (0, 0))) (hB : B ≤ b) : Mi B w (w.setCell ⟨b, j, none⟩ u) :=
  Mi.of h (by decide) hB ((Only.refl (fun k => k = b) w).setCell (p := ⟨b, j, none⟩) rfl _)
/-- One list more for the masters. -/
theorem TI.setM {W' : World} {g cap : Nat} {y : Value × List Int} (h : TI w W B b u1 u2 p n c q m d X Z) (hy : JS B W y.1 y.2) (own : W'.ownsRow (b + 3) 22 1 (.slice (some ⟨g, 0, none⟩) (X.length + 1) cap) (X.length + 1) (X.map (·.1) ++ [y.1])) (grw : W.grownBy W' (Value.slice p n c).ownBlock) (hat : (Value.slice p n c).ownBlock = some g ∨ g = W.heap.size) :
    W'.heap[b + 2]? = some (.cells #[.slice p n c, .slice q m d] 41 (0, 0)) ∧ W'.heap[b]? = some (.cells #[u1, u2] 39 (0, 0)) ∧ Below b w W' ∧ (W'.setCell ⟨b + 2, 0, none⟩ (.slice (some ⟨g, 0, none⟩) (X.length + 1) cap)).heap[b]? = some (.cells #[u1, u2] 39 (0, 0)) ∧
    TI w (W'.setCell ⟨b + 2, 0, none⟩ (.slice (some ⟨g, 0, none⟩) (X.length + 1) cap)) B b u1 u2 (some ⟨g, 0, none⟩) (X.length + 1) cap q m d (X ++ [y]) Z := by
  have hs := h.size
  have hne : ∀ k, k < b + 3 → some k ≠ (Value.slice p n c).ownBlock := fun k hk e => by
    have := (h.lm.row.lt k e.symm).1; omega
  have t2 : W'.heap[b + 2]? = some (.cells [.slice p n c, .slice q m d].toArray 41 (0, 0)) := (grw.block (b + 2) (by omega) (hne _ (by omega))).trans h.tcell
  have t1 := (grw.block (b + 1) (by omega) (hne _ (by omega))).trans h.rcell
  have t0 := (grw.block b (by omega) (hne _ (by omega))).trans h.xcell
  have m1 := grw_mi h.lm (by have := h.low; omega) grw
  have lm1 := h.lm.push hy (by have := h.low; omega) own grw
  have o1 : Only (fun k => (Value.slice p n c).ownBlock = some k) W W' := (Only.refl _ W).grown grw (fun k _ e => e)
  have lo1 := h.lo.keep m1 o1 (fun k e e2 => h.ap k e2 e)
  have o2 : Only (fun k => k = b + 2) W' (W'.setCell ⟨b + 2, 0, none⟩ (.slice (some ⟨g, 0, none⟩) (X.length + 1) cap)) := (Only.refl (fun k => k = b + 2) W').setCell (p := ⟨b + 2, 0, none⟩) rfl _
  have m2 : Mi B W' (W'.setCell ⟨b + 2, 0, none⟩ (.slice (some ⟨g, 0, none⟩) (X.length + 1) cap)) := tab_mi t2 (by have := h.low; omega)
  have hb1 := h.bel.trans (o1.below (by omega) (fun k e => by have := (h.lm.row.lt k e).1; omega))
  have hx0 := (o2.block b (by have := grw.size; omega) (by omega)).trans t0
  refine ⟨t2, t0, hb1, hx0, ⟨hx0, (o2.block (b + 1) (by have := grw.size; omega) (by omega)).trans t1, cells_set (j := 0) t2 _, lm1.keep m2 o2 (fun k e e2 => by have := (lm1.row.lt k e).1; omega), lo1.keep m2 o2 (fun k e e2 => by have := (lo1.row.lt k e).1; omega), fun j e e2 => ?_, hb1.setCell (p := ⟨b + 2, 0, none⟩) (show b ≤ b + 2 by omega) _, by have := grw.size; simp; omega, h.low, h.at_⟩⟩
  obtain rfl : g = j := by simpa [Value.ownBlock] using e
  rcases hat with e3 | e3
  · exact h.ap g e3 e2
  · have := (h.lo.row.lt g e2).2; omega
theorem TI.setO {W' : World} {g cap : Nat} {y : Value × List Int} (h : TI w W B b u1 u2 p n c q m d X Z) (hy : JS B W y.1 y.2) (own : W'.ownsRow (b + 3) 22 1 (.slice (some ⟨g, 0, none⟩) (Z.length + 1) cap) (Z.length + 1) (Z.map (·.1) ++ [y.1])) (grw : W.grownBy W' (Value.slice q m d).ownBlock) (hat : (Value.slice q m d).ownBlock = some g ∨ g = W.heap.size) :
    W'.heap[b + 2]? = some (.cells #[.slice p n c, .slice q m d] 41 (0, 0)) ∧ W'.heap[b]? = some (.cells #[u1, u2] 39 (0, 0)) ∧ Below b w W' ∧ (W'.setCell ⟨b + 2, 1, none⟩ (.slice (some ⟨g, 0, none⟩) (Z.length + 1) cap)).heap[b]? = some (.cells #[u1, u2] 39 (0, 0)) ∧
    TI w (W'.setCell ⟨b + 2, 1, none⟩ (.slice (some ⟨g, 0, none⟩) (Z.length + 1) cap)) B b u1 u2 p n c (some ⟨g, 0, none⟩) (Z.length + 1) cap X (Z ++ [y]) := by
  have hs := h.size
  have hne : ∀ k, k < b + 3 → some k ≠ (Value.slice q m d).ownBlock := fun k hk e => by
    have := (h.lo.row.lt k e.symm).1; omega
  have t2 : W'.heap[b + 2]? = some (.cells [.slice p n c, .slice q m d].toArray 41 (0, 0)) := (grw.block (b + 2) (by omega) (hne _ (by omega))).trans h.tcell
  have t1 := (grw.block (b + 1) (by omega) (hne _ (by omega))).trans h.rcell
  have t0 := (grw.block b (by omega) (hne _ (by omega))).trans h.xcell
  have m1 := grw_mi h.lo (by have := h.low; omega) grw
  have lm1 := h.lo.push hy (by have := h.low; omega) own grw
  have o1 : Only (fun k => (Value.slice q m d).ownBlock = some k) W W' := (Only.refl _ W).grown grw (fun k _ e => e)
  have lo1 := h.lm.keep m1 o1 (fun k e e2 => h.ap k e e2)
  have o2 : Only (fun k => k = b + 2) W' (W'.setCell ⟨b + 2, 1, none⟩ (.slice (some ⟨g, 0, none⟩) (Z.length + 1) cap)) := (Only.refl (fun k => k = b + 2) W').setCell (p := ⟨b + 2, 1, none⟩) rfl _
  have m2 : Mi B W' (W'.setCell ⟨b + 2, 1, none⟩ (.slice (some ⟨g, 0, none⟩) (Z.length + 1) cap)) := tab_mi t2 (by have := h.low; omega)
  have hb1 := h.bel.trans (o1.below (by omega) (fun k e => by have := (h.lo.row.lt k e).1; omega))
  have hx0 := (o2.block b (by have := grw.size; omega) (by omega)).trans t0
  refine ⟨t2, t0, hb1, hx0, ⟨hx0, (o2.block (b + 1) (by have := grw.size; omega) (by omega)).trans t1, cells_set (j := 1) t2 _, lo1.keep m2 o2 (fun k e e2 => by have := (lo1.row.lt k e).1; omega), lm1.keep m2 o2 (fun k e e2 => by have := (lm1.row.lt k e).1; omega), fun j e e2 => ?_, hb1.setCell (p := ⟨b + 2, 1, none⟩) (show b ≤ b + 2 by omega) _, by have := grw.size; simp; omega, h.low, h.at_⟩⟩
  obtain rfl : g = j := by simpa [Value.ownBlock] using e2
  rcases hat with e3 | e3
  · exact h.ap g e e3
  · have := (h.lm.row.lt g e).2; omega
end
/-- A cell below is as it was behind an append to the rows. -/
theorem TI.farM {w W W' : World} {B b : Nat} {u1 u2 : Value} {p : Option Addr} {n c : Nat} {q : Option Addr} {m d : Nat} {X Z : List (Value × List Int)} (h : TI w W B b u1 u2 p n c q m d X Z) (g : W.grownBy W' (Value.slice p n c).ownBlock) {a : Addr} (ha : a.block < b) : W'.cell? a = W.cell? a :=
  World.cell?_of_block (w := W) (g.block a.block (by have := h.size; omega) (fun e => by have := (h.lm.row.lt _ e.symm).1; omega))
theorem TI.farO {w W W' : World} {B b : Nat} {u1 u2 : Value} {p : Option Addr} {n c : Nat} {q : Option Addr} {m d : Nat} {X Z : List (Value × List Int)} (h : TI w W B b u1 u2 p n c q m d X Z) (g : W.grownBy W' (Value.slice q m d).ownBlock) {a : Addr} (ha : a.block < b) : W'.cell? a = W.cell? a :=
  World.cell?_of_block (w := W) (g.block a.block (by have := h.size; omega) (fun e => by have := (h.lo.row.lt _ e.symm).1; omega))
/-- What a raw number list is: read, and as Go has it. -/
def RawN (W : World) (p : Option Addr) (n c : Nat) (xs : List Int) : Prop := n = xs.length ∧ NSeen W (.slice p n c) xs ∧ ∀ x ∈ xs, -9223372036854775808 ≤ x ∧ x < 9223372036854775808
theorem TI.new (w : World) (B : Nat) (hB : B ≤ w.heap.size) (u1 u2 : Value) : TI w (((w.alloc (.cells #[u1, u2] 39)).alloc (.cells #[.slice none 0 0, .slice none 0 0] 41)).alloc (.cells #[.slice none 0 0, .slice none 0 0] 41)) B w.heap.size u1 u2 none 0 0 none 0 0 [] [] := by
  have e1 : (w.alloc (.cells #[u1, u2] 39)).heap.size = w.heap.size + 1 := by simp
  have e2 : ((w.alloc (.cells #[u1, u2] 39)).alloc (.cells #[.slice none 0 0, .slice none 0 0] 41)).heap.size = w.heap.size + 2 := by simp
  have h0 := heap_alloc_last w (.cells #[u1, u2] 39)
  have h1 := heap_alloc_last (w.alloc (.cells #[u1, u2] 39)) (.cells #[.slice none 0 0, .slice none 0 0] 41)
  have h2 := heap_alloc_last ((w.alloc (.cells #[u1, u2] 39)).alloc (.cells #[.slice none 0 0, .slice none 0 0] 41)) (.cells #[.slice none 0 0, .slice none 0 0] 41)
  rw [e1] at h1
  rw [e2] at h2
  refine ⟨?_, ?_, h2, LO.nil _ _ _, LO.nil _ _ _, (fun j e => (by cases e)), (((Below.refl _ w).alloc (Nat.le_refl _) _).alloc (by simp) _).alloc (by simp; omega) _, by simp, hB, rfl⟩
  · rw [heap_alloc_old _ _ (by omega), heap_alloc_old _ _ (by omega)]; exact h0
  · rw [heap_alloc_old _ _ (by omega)]; exact h1
/-- What is handed back. -/
theorem TI.fin {w W : World} {B b : Nat} {u1 u2 : Value} {p : Option Addr} {n c : Nat} {q : Option Addr} {m d : Nat} {X Z : List (Value × List Int)} (h : TI w W B b u1 u2 p n c q m d X Z) :
    (W.setCells (b + 1) 0 [.slice p n c, .slice q m d]).heap[b + 1]? = some (.cells #[.slice p n c, .slice q m d] 41 (0, 0)) ∧ LO B b (W.setCells (b + 1) 0 [.slice p n c, .slice q m d]) (.slice p n c) X ∧ LO B b (W.setCells (b + 1) 0 [.slice p n c, .slice q m d]) (.slice q m d) Z ∧ Below b w (W.setCells (b + 1) 0 [.slice p n c, .slice q m d]) := by
  have o := setCells_only (w := W) (b := b + 1) [.slice p n c, .slice q m d]
  have m : Mi B W (W.setCells (b + 1) 0 [.slice p n c, .slice q m d]) := Mi.of h.rcell (by decide) (by have := h.low; omega) o
  have l1 := h.lm.keep m o (fun k e e2 => by have := (h.lm.row.lt k e).1; omega)
  have l2 := h.lo.keep m o (fun k e e2 => by have := (h.lo.row.lt k e).1; omega)
  have s := h.size
  refine ⟨set3T h.rcell, ⟨l1.row.mono (by omega), l1.lit⟩, ⟨l2.row.mono (by omega), l2.lit⟩, h.bel.trans (o.below (by omega) (fun k e => by omega))⟩
theorem TI.c0 {w W : World} {B b : Nat} {u1 u2 : Value} {p : Option Addr} {n c : Nat} {q : Option Addr} {m d : Nat} {X Z : List (Value × List Int)} (h : TI w W B b u1 u2 p n c q m d X Z) : W.cell? ⟨b, 0, none⟩ = some u1 ∧ W.cell? ⟨b, 1, none⟩ = some u2 ∧ W.cell? ⟨b + 2, 0, none⟩ = some (.slice p n c) ∧ W.cell? ⟨b + 2, 1, none⟩ = some (.slice q m d) :=
  ⟨cell_ob5 h.xcell 0 rfl, cell_ob5 h.xcell 1 rfl, cell_ob5 h.tcell 0 rfl, cell_ob5 h.tcell 1 rfl⟩
theorem RawN.at {w W : World} {p : Option Addr} {n c k : Nat} {xs : List Int} (h : RawN w p n c xs) (b : Below w.heap.size w W) (hk : k < n) : ∃ a x, p = some a ∧ xs[k]? = some x ∧ W.cell? (a.add k) = some (.int .i64 x) ∧ -9223372036854775808 ≤ x ∧ x < 9223372036854775808 := by
  have hkl : k < xs.length := by rw [← h.1]; exact hk
  obtain ⟨a, e, g⟩ := (h.2.1.kb b).at hkl
  exact ⟨a, xs[k], e, List.getElem?_eq_getElem hkl, g, (h.2.2 _ (List.getElem_mem hkl)).1, (h.2.2 _ (List.getElem_mem hkl)).2⟩
theorem meas25 {k : Nat} (h : k < 25) : 25 - (intOf (.int .i64 ((k + 1 : Nat) : Int))).toNat < 25 - (intOf (.int .i64 (k : Int))).toNat := by simp only [intOf]; omega
theorem take25 {n k : Nat} {xs : List Int} (h : n = xs.length) (hk : k ≤ n) (hk2 : k ≤ 25) (hc : ¬ (k < n ∧ k < 25)) : xs.take k = xs.take 25 := by
  rcases Nat.lt_or_ge k 25 with h2 | h2
  · have : k = n := by omega
    rw [List.take_of_length_le (by omega), List.take_of_length_le (by omega)]
  · rw [show k = 25 by omega]
set_option maxHeartbeats 16000000 in
theorem table_to (w : World) (B : Nat) (hB : B ≤ w.heap.size) (pm : Option Addr) (nm cm : Nat) (po : Option Addr) (no co : Nat) (xs ys : List Int) (hx : RawN w pm nm cm xs) (hy : RawN w po no co ys) :
    Calls Try.prog 15 #[tv pm nm cm po no co] w fun e w' => ∃ p n c q m d X Z, e = .returned (tv p n c q m d) ∧ LO B w.heap.size w' (.slice p n c) X ∧ LO B w.heap.size w' (.slice q m d) Z ∧ X.map (·.2) = tbG (fun j => alls j 0) (xs.take 25) ∧ Z.map (·.2) = tbG (alls X.length) (ys.take 25) ∧ Below w.heap.size w w' := by
  have HT0 := Lib.hid (TI.new w B hB (.slice pm nm cm) (.slice po no co))
  obtain ⟨R, hR⟩ : ∃ R, R = w.heap.size := ⟨_, rfl⟩
  have HX := Lib.hid hx
  have HY := Lib.hid hy
  rw [← hR] at HT0 ⊢
  have HR := Lib.hid hR
  clear hR hx hy hB
  go_enter Try.func15, Try.ntmps15
  go_wp2_with fail
  rw [← HR.out, show R + 1 + 1 = R + 2 from rfl]
  generalize ((w.alloc (.cells #[.slice pm nm cm, .slice po no co] 39)).alloc (.cells #[.slice none 0 0, .slice none 0 0] 41)).alloc (.cells #[.slice none 0 0, .slice none 0 0] 41) = w0 at *
  go_loopw [4] (fun i wr => ∃ (k : Nat) (p : Option Addr) (n c : Nat) (X : List (Value × List Int)), k ≤ nm ∧ k ≤ 25 ∧ i = .int .i64 k ∧ Hid (TI w wr B R (.slice pm nm cm) (.slice po no co) p n c none 0 0 X []) ∧ Hid (X.map (·.2) = tbG (fun j => alls j 0) (xs.take k))) (fun i _ => 25 - (intOf i).toNat)
  case atStart => exact ⟨0, none, 0, 0, [], Nat.zero_le _, Nat.zero_le _, rfl, HT0, Lib.hid rfl⟩
  case round =>
    clear HT0
    obtain ⟨k, p, n, c, X, hk, hk25, rfl, HT, HE⟩ := hrel
    have hr0 := HT.out.c0.1
    by_cases hlt : k < nm ∧ k < 25
    · obtain ⟨hlt1, hlt2⟩ := hlt
      have j1 : wrap64 ((k : Int) + 1) = ((k + 1 : Nat) : Int) := by unfold wrap64; omega
      have j2 : (0 : Int) ≤ k := Int.natCast_nonneg _
      have j3 : (k : Int) < nm := by omega
      have j4 : (k : Int) < 25 := by omega
      obtain ⟨a, x, rfl, hat, hc, hx1, hx2⟩ := HX.out.at (HT.out.at_ ▸ HT.out.bel) hlt1
      have HAT := Lib.hid hat
      have HXB := Lib.hid (And.intro hx1 hx2)
      have HLT := Lib.hid (And.intro hlt1 hlt2)
      have bq : Below wr.heap.size wr wr.drew := drew_below wr
      have HTq := Lib.hid (HT.out.kb bq)
      have hcq := (bq.cell (World.block_lt_of_cell? _ _ hc)).trans hc
      have HC := Lib.hid hcq
      have HAB : Hid ((a.add k).block < R) := Lib.hid (by
        obtain ⟨_, _, e, _, g⟩ := id HX.out.2.1
        obtain ⟨a', e2, g2⟩ := g k x hat
        injection e with e _ _
        rw [← e] at e2
        injection e2 with e2
        subst e2
        rw [HR.out]
        exact World.block_lt_of_cell? _ _ g2)
      clear hat hx1 hx2 hlt1 hlt2 hk hk25 bq hc HT
      go_wp2_with fail
      try simp only [List.append]
      refine wp_region_noPanic ?_
      refine wp_region_held_drew (S := (fun V => V.cell? ⟨R, 0, none⟩ = some (.slice (some a) nm cm) ∧ V.cell? (a.add k) = some (.int .i64 x))) (by kernel_rfl) ⟨HTq.out.c0.1, hcq⟩ (fun hHeld => ?_)
      clear hcq hr0
      generalize wr.drew = cw at *
      have HN : Hid (n = X.length) := Lib.hid (by obtain ⟨_, _, _, e, h⟩ := HTq.out.lm.shape; injection e with _ e _; rw [e]; exact h)
      have HXL : Hid (X.length = k ∧ k ≤ 25) := Lib.hid ⟨by have := congrArg List.length HE.out; rw [List.length_map, tbG_len, List.length_take, Nat.min_eq_left (Nat.le_of_lt (List.getElem?_eq_some_iff.1 HAT.out).1)] at this; exact this, Nat.le_of_lt HLT.out.2⟩
      refine wpAnyH_take (i := 0) (v := ?_) (by simp only [List.getElem?_toArray, List.getElem?_cons_zero]; rfl) (by kernel_rfl) (by kernel_rfl) (by kernel_rfl) (fun _ _ _ h => h) (Or.inl ⟨by rfl, ?_⟩) (by assumption) ?_
      rotate_left
      · intro w hSw
        try dsimp only at hSw
        go_simp
        try with_reducible rfl
      try simp only [Act.put, List.setIfInBounds_toArray, List.set_cons_zero, List.set_cons_succ]
      refine wpAnyH_take (i := 2) (v := ?_) (by simp only [List.getElem?_toArray, List.getElem?_cons_succ, List.getElem?_cons_zero]; rfl) (by kernel_rfl) (by kernel_rfl) (by kernel_rfl) (fun _ _ _ h => h) (Or.inl ⟨by rfl, ?_⟩) (by assumption) ?_
      rotate_left
      · intro w hSw
        try dsimp only at hSw
        go_simp
        try with_reducible rfl
      try simp only [Act.put, List.setIfInBounds_toArray, List.set_cons_zero, List.set_cons_succ]
      refine wpAnyH_take (i := 3) (v := ?_) (by simp only [List.getElem?_toArray, List.getElem?_cons_succ, List.getElem?_cons_zero]; rfl) (by kernel_rfl) (by kernel_rfl) (by kernel_rfl) (fun _ _ _ h => h) (Or.inl ⟨by rfl, ?_⟩) (by assumption) ?_
      rotate_left
      · intro w hSw
        try dsimp only at hSw
        go_simp
        try with_reducible rfl
      try simp only [Act.put, List.setIfInBounds_toArray, List.set_cons_zero, List.set_cons_succ]
      refine wpAnyH_take (i := 4) (v := ?_) (by simp only [List.getElem?_toArray, List.getElem?_cons_succ, List.getElem?_cons_zero]; rfl) (by kernel_rfl) (by kernel_rfl) (by kernel_rfl) (fun _ _ _ h => h) (Or.inl ⟨by rfl, ?_⟩) (by assumption) ?_
      rotate_left
      · intro w hSw
        try dsimp only at hSw
        go_simp
        try with_reducible rfl
      try simp only [Act.put, List.setIfInBounds_toArray, List.set_cons_zero, List.set_cons_succ]
      refine wpAnyH_take (i := 5) (v := ?_) (by simp only [List.getElem?_toArray, List.getElem?_cons_succ, List.getElem?_cons_zero]; rfl) (by kernel_rfl) (by kernel_rfl) (by kernel_rfl) (fun _ _ _ h => h) (Or.inl ⟨by rfl, ?_⟩) (by assumption) ?_
      rotate_left
      · intro w hSw
        try dsimp only at hSw
        go_simp
        try with_reducible rfl
      try simp only [Act.put, List.setIfInBounds_toArray, List.set_cons_zero, List.set_cons_succ]
      refine wpAnyH_take (i := 6) (v := ?_) (by simp only [List.getElem?_toArray, List.getElem?_cons_succ, List.getElem?_cons_zero]; rfl) (by kernel_rfl) (by kernel_rfl) (by kernel_rfl) (fun _ _ _ h => h) (Or.inl ⟨by rfl, ?_⟩) (by assumption) ?_
      rotate_left
      · intro w hSw
        try dsimp only at hSw
        go_simp
        try with_reducible rfl
      try simp only [Act.put, List.setIfInBounds_toArray, List.set_cons_zero, List.set_cons_succ]
      refine wpAnyH_ready (rs := [1, 7]) (by kernel_rfl) (by simp) ?_
      refine (AllReadyH.cons (by simp only [List.getElem?_toArray, List.getElem?_cons_succ, List.getElem?_cons_zero]; rfl) (fun K hK => ?_) (AllReadyH.cons (by simp only [List.getElem?_toArray, List.getElem?_cons_succ, List.getElem?_cons_zero]; rfl) (fun K hK => ?_) AllReadyH.nil))
      · have hc := HTq.out.c0.2.2.1
        go_simp
        clear hc
        refine hK.out _ _ ⟨HTq.out.c0.1, HC.out⟩ (fun hHeld => ?_)
        clear hK K
        try simp only [Act.put, List.setIfInBounds_toArray, List.set_cons_zero, List.set_cons_succ]
        refine wpAnyH_ready (rs := [7]) (by kernel_rfl) (by simp) ?_
        refine (AllReadyH.cons (by simp only [List.getElem?_toArray, List.getElem?_cons_succ, List.getElem?_cons_zero]; rfl) (fun K hK => ?_) AllReadyH.nil)
        have hc := HTq.out.c0.2.2.1
        have hd := HTq.out.c0.2.2.2
        go_simp
        clear hc hd
        refine hK.out _ _ ⟨HTq.out.c0.1, HC.out⟩ (fun hHeld => ?_)
        clear hK K
        try simp only [Act.put, List.setIfInBounds_toArray, List.set_cons_zero, List.set_cons_succ]
        refine wpAnyH_ready (rs := [8]) (by kernel_rfl) (by simp) ?_
        refine (AllReadyH.cons (by simp only [List.getElem?_toArray, List.getElem?_cons_succ, List.getElem?_cons_zero]; rfl) (fun K hK => ?_) AllReadyH.nil)
        go_simp
        refine (all_to cw p none n c 0 0 (by have := HN.out; have := HXL.out; omega) (by decide)).mono ?_
        rintro e cx ⟨v8, rfl, o8, b8⟩
        obtain ⟨p8, n8, c8, rfl, hn8⟩ := o8.shape
        have O8 := Lib.hid o8
        have HTq := Lib.hid (HTq.out.kb b8)
        have HC := Lib.hid ((b8.cell (World.block_lt_of_cell? _ _ HC.out)).trans HC.out)
        clear o8 b8 hn8
        rename World => cw
        go_wp2_with fail
        refine hK.out _ _ ⟨HTq.out.c0.1, HC.out⟩ (fun hHeld => ?_)
        clear hK K
        try simp only [Act.put, List.setIfInBounds_toArray, List.set_cons_zero, List.set_cons_succ]
        refine wpAnyH_ready (rs := [9]) (by kernel_rfl) (by simp) ?_
        refine (AllReadyH.cons (by simp only [List.getElem?_toArray, List.getElem?_cons_succ, List.getElem?_cons_zero]; rfl) (fun K hK => ?_) AllReadyH.nil)
        go_simp
        refine (prn_to cw x HXB.out _ _ (JOwn.seen O8.out) (by rw [alls_len]; have := HN.out; have := HXL.out; omega)).mono ?_
        rintro e cx ⟨v9, rfl, o9, b9⟩
        obtain ⟨p9, n9, c9, rfl, hn9⟩ := o9.shape
        have O9 := Lib.hid (JS.own (B := B) o9)
        have HTq := Lib.hid (HTq.out.kb b9)
        have HC := Lib.hid ((b9.cell (World.block_lt_of_cell? _ _ HC.out)).trans HC.out)
        clear o9 b9 hn9
        rename World => cw
        go_wp2_with fail
        refine hK.out _ _ ⟨HTq.out.c0.1, HC.out⟩ (fun hHeld => ?_)
        clear hK K
        try simp only [Act.put, List.setIfInBounds_toArray, List.set_cons_zero, List.set_cons_succ]
        refine wpAnyH_ready (rs := [10]) (by kernel_rfl) (by simp) ?_
        refine (AllReadyH.cons (by simp only [List.getElem?_toArray, List.getElem?_cons_succ, List.getElem?_cons_zero]; rfl) (fun K hK => ?_) AllReadyH.nil)
        refine step_build_list (y := .slice p9 n9 c9) (by rfl) (by rfl) (by rfl) (by simp [Act.eval]) ?_
        have AL := (Below.refl cw.heap.size cw).alloc (Nat.le_refl _) (.cells #[.slice p9 n9 c9] 22)
        have HB10 := Lib.hid (heap_alloc_last cw (.cells #[.slice p9 n9 c9] 22))
        have O10 := Lib.hid (O9.out.kb AL)
        have HTq := Lib.hid (HTq.out.kb AL)
        have HC := Lib.hid ((AL.cell (World.block_lt_of_cell? _ _ HC.out)).trans HC.out)
        clear AL
        generalize cw.alloc (.cells #[.slice p9 n9 c9] 22) = cx at *
        generalize cw.heap.size = nb at *
        rename World => cw
        refine hK.out _ _ ⟨HTq.out.c0.1, HC.out⟩ (fun hHeld => ?_)
        clear hK K
        try simp only [Act.put, List.setIfInBounds_toArray, List.set_cons_zero, List.set_cons_succ]
        refine wpAnyH_ready (rs := [11]) (by kernel_rfl) (by simp) ?_
        refine (AllReadyH.cons (by simp only [List.getElem?_toArray, List.getElem?_cons_succ, List.getElem?_cons_zero]; rfl) (fun K hK => ?_) AllReadyH.nil)
        refine step_push_list (by rfl) _ _ (by rfl) B (R + 3) _ X (by rfl) HTq.out.lm nb (by rfl) (.slice p9 n9 c9, prn x (alls n 0)) HB10.out O10.out HTq.out.size (by have := HXL.out; omega) ?_
        intro g6 cap6 cx own6 grw6 hat6
        have HS := Lib.hid (HTq.out.setM (y := (.slice p9 n9 c9, prn x (alls n 0))) O10.out own6 grw6 hat6)
        have HC := Lib.hid ((HTq.out.farM grw6 HAB.out).trans HC.out)
        clear own6 grw6 hat6 HTq HB10 O10
        rename World => cw
        refine hK.out _ _ ⟨cell_ob5 HS.out.2.1 0 rfl, HC.out⟩ (fun hHeld => ?_)
        clear hK K
        try simp only [Act.put, List.setIfInBounds_toArray, List.set_cons_zero, List.set_cons_succ]
        refine wpAnyH_take (i := 12) (v := ?_) (by simp only [List.getElem?_toArray, List.getElem?_cons_succ, List.getElem?_cons_zero]; rfl) (by kernel_rfl) (by kernel_rfl) (by kernel_rfl) (fun _ _ _ h => h) (Or.inl ⟨by rfl, ?_⟩) (by assumption) ?_
        rotate_left
        · intro w hSw
          try dsimp only at hSw
          go_simp
          try with_reducible rfl
        try simp only [Act.put, List.setIfInBounds_toArray, List.set_cons_zero, List.set_cons_succ]
        refine wpAnyH_ready (rs := [13]) (by kernel_rfl) (by simp) ?_
        refine (AllReadyH.cons (by simp only [List.getElem?_toArray, List.getElem?_cons_succ, List.getElem?_cons_zero]; rfl) (fun K hK => ?_) AllReadyH.nil)
        have hc := cell_ob5 HS.out.1 0 rfl
        have hf : cw.frozen? ⟨R + 2, 0, none⟩ = false := frozen_of_row _ _ _ _ _ HS.out.1
        have HC2 := Lib.hid ((World.cell?_of_block (w := cw) (Below.heap_setCell cw ⟨R + 2, 0, none⟩ (.slice (some ⟨g6, 0, none⟩) (X.length + 1) cap6) _ (show (a.add k).block ≠ R + 2 by have := HAB.out; omega))).trans HC.out)
        go_simp
        clear hc hf
        refine hK.out _ _ ⟨cell_ob5 HS.out.2.2.2.1 0 rfl, HC2.out⟩ (fun hHeld => ?_)
        clear hK K
        try simp only [Act.put, List.setIfInBounds_toArray, List.set_cons_zero, List.set_cons_succ]
        refine wpAnyH_done (by kernel_rfl) ?_ _
        refine NoPanic.normal ?_
        clear hHeld
        generalize cw.setCell ⟨R + 2, 0, none⟩ (.slice (some ⟨g6, 0, none⟩) (X.length + 1) cap6) = w8 at *
        go_wp2_with fail
        refine ⟨⟨k + 1, _, _, _, X ++ [(.slice p9 n9 c9, prn x (alls n 0))], HLT.out.1, HLT.out.2, by first | rw [j1] | rfl, Lib.hid HS.out.2.2.2.2, Lib.hid (by rw [tbG_take HAT.out, List.map_append, HE.out]; rw [show k = n by rw [HN.out, HXL.out.1]]; rfl)⟩, ?_⟩
        first | (rw [j1]; exact meas25 HLT.out.2) | exact meas25 HLT.out.2
      · have hc := HTq.out.c0.2.2.1
        have hd := HTq.out.c0.2.2.2
        go_simp
        clear hc hd
        refine hK.out _ _ ⟨HTq.out.c0.1, HC.out⟩ (fun hHeld => ?_)
        clear hK K
        try simp only [Act.put, List.setIfInBounds_toArray, List.set_cons_zero, List.set_cons_succ]
        refine wpAnyH_ready (rs := [1, 8]) (by kernel_rfl) (by simp) ?_
        refine (AllReadyH.cons (by simp only [List.getElem?_toArray, List.getElem?_cons_succ, List.getElem?_cons_zero]; rfl) (fun K hK => ?_) (AllReadyH.cons (by simp only [List.getElem?_toArray, List.getElem?_cons_succ, List.getElem?_cons_zero]; rfl) (fun K hK => ?_) AllReadyH.nil))
        · have hc := HTq.out.c0.2.2.1
          go_simp
          clear hc
          refine hK.out _ _ ⟨HTq.out.c0.1, HC.out⟩ (fun hHeld => ?_)
          clear hK K
          try simp only [Act.put, List.setIfInBounds_toArray, List.set_cons_zero, List.set_cons_succ]
          refine wpAnyH_ready (rs := [8]) (by kernel_rfl) (by simp) ?_
          refine (AllReadyH.cons (by simp only [List.getElem?_toArray, List.getElem?_cons_succ, List.getElem?_cons_zero]; rfl) (fun K hK => ?_) AllReadyH.nil)
          go_simp
          refine (all_to cw p none n c 0 0 (by have := HN.out; have := HXL.out; omega) (by decide)).mono ?_
          rintro e cx ⟨v8, rfl, o8, b8⟩
          obtain ⟨p8, n8, c8, rfl, hn8⟩ := o8.shape
          have O8 := Lib.hid o8
          have HTq := Lib.hid (HTq.out.kb b8)
          have HC := Lib.hid ((b8.cell (World.block_lt_of_cell? _ _ HC.out)).trans HC.out)
          clear o8 b8 hn8
          rename World => cw
          go_wp2_with fail
          refine hK.out _ _ ⟨HTq.out.c0.1, HC.out⟩ (fun hHeld => ?_)
          clear hK K
          try simp only [Act.put, List.setIfInBounds_toArray, List.set_cons_zero, List.set_cons_succ]
          refine wpAnyH_ready (rs := [9]) (by kernel_rfl) (by simp) ?_
          refine (AllReadyH.cons (by simp only [List.getElem?_toArray, List.getElem?_cons_succ, List.getElem?_cons_zero]; rfl) (fun K hK => ?_) AllReadyH.nil)
          go_simp
          refine (prn_to cw x HXB.out _ _ (JOwn.seen O8.out) (by rw [alls_len]; have := HN.out; have := HXL.out; omega)).mono ?_
          rintro e cx ⟨v9, rfl, o9, b9⟩
          obtain ⟨p9, n9, c9, rfl, hn9⟩ := o9.shape
          have O9 := Lib.hid (JS.own (B := B) o9)
          have HTq := Lib.hid (HTq.out.kb b9)
          have HC := Lib.hid ((b9.cell (World.block_lt_of_cell? _ _ HC.out)).trans HC.out)
          clear o9 b9 hn9
          rename World => cw
          go_wp2_with fail
          refine hK.out _ _ ⟨HTq.out.c0.1, HC.out⟩ (fun hHeld => ?_)
          clear hK K
          try simp only [Act.put, List.setIfInBounds_toArray, List.set_cons_zero, List.set_cons_succ]
          refine wpAnyH_ready (rs := [10]) (by kernel_rfl) (by simp) ?_
          refine (AllReadyH.cons (by simp only [List.getElem?_toArray, List.getElem?_cons_succ, List.getElem?_cons_zero]; rfl) (fun K hK => ?_) AllReadyH.nil)
          refine step_build_list (y := .slice p9 n9 c9) (by rfl) (by rfl) (by rfl) (by simp [Act.eval]) ?_
          have AL := (Below.refl cw.heap.size cw).alloc (Nat.le_refl _) (.cells #[.slice p9 n9 c9] 22)
          have HB10 := Lib.hid (heap_alloc_last cw (.cells #[.slice p9 n9 c9] 22))
          have O10 := Lib.hid (O9.out.kb AL)
          have HTq := Lib.hid (HTq.out.kb AL)
          have HC := Lib.hid ((AL.cell (World.block_lt_of_cell? _ _ HC.out)).trans HC.out)
          clear AL
          generalize cw.alloc (.cells #[.slice p9 n9 c9] 22) = cx at *
          generalize cw.heap.size = nb at *
          rename World => cw
          refine hK.out _ _ ⟨HTq.out.c0.1, HC.out⟩ (fun hHeld => ?_)
          clear hK K
          try simp only [Act.put, List.setIfInBounds_toArray, List.set_cons_zero, List.set_cons_succ]
          refine wpAnyH_ready (rs := [11]) (by kernel_rfl) (by simp) ?_
          refine (AllReadyH.cons (by simp only [List.getElem?_toArray, List.getElem?_cons_succ, List.getElem?_cons_zero]; rfl) (fun K hK => ?_) AllReadyH.nil)
          refine step_push_list (by rfl) _ _ (by rfl) B (R + 3) _ X (by rfl) HTq.out.lm nb (by rfl) (.slice p9 n9 c9, prn x (alls n 0)) HB10.out O10.out HTq.out.size (by have := HXL.out; omega) ?_
          intro g6 cap6 cx own6 grw6 hat6
          have HS := Lib.hid (HTq.out.setM (y := (.slice p9 n9 c9, prn x (alls n 0))) O10.out own6 grw6 hat6)
          have HC := Lib.hid ((HTq.out.farM grw6 HAB.out).trans HC.out)
          clear own6 grw6 hat6 HTq HB10 O10
          rename World => cw
          refine hK.out _ _ ⟨cell_ob5 HS.out.2.1 0 rfl, HC.out⟩ (fun hHeld => ?_)
          clear hK K
          try simp only [Act.put, List.setIfInBounds_toArray, List.set_cons_zero, List.set_cons_succ]
          refine wpAnyH_take (i := 12) (v := ?_) (by simp only [List.getElem?_toArray, List.getElem?_cons_succ, List.getElem?_cons_zero]; rfl) (by kernel_rfl) (by kernel_rfl) (by kernel_rfl) (fun _ _ _ h => h) (Or.inl ⟨by rfl, ?_⟩) (by assumption) ?_
          rotate_left
          · intro w hSw
            try dsimp only at hSw
            go_simp
            try with_reducible rfl
          try simp only [Act.put, List.setIfInBounds_toArray, List.set_cons_zero, List.set_cons_succ]
          refine wpAnyH_ready (rs := [13]) (by kernel_rfl) (by simp) ?_
          refine (AllReadyH.cons (by simp only [List.getElem?_toArray, List.getElem?_cons_succ, List.getElem?_cons_zero]; rfl) (fun K hK => ?_) AllReadyH.nil)
          have hc := cell_ob5 HS.out.1 0 rfl
          have hf : cw.frozen? ⟨R + 2, 0, none⟩ = false := frozen_of_row _ _ _ _ _ HS.out.1
          have HC2 := Lib.hid ((World.cell?_of_block (w := cw) (Below.heap_setCell cw ⟨R + 2, 0, none⟩ (.slice (some ⟨g6, 0, none⟩) (X.length + 1) cap6) _ (show (a.add k).block ≠ R + 2 by have := HAB.out; omega))).trans HC.out)
          go_simp
          clear hc hf
          refine hK.out _ _ ⟨cell_ob5 HS.out.2.2.2.1 0 rfl, HC2.out⟩ (fun hHeld => ?_)
          clear hK K
          try simp only [Act.put, List.setIfInBounds_toArray, List.set_cons_zero, List.set_cons_succ]
          refine wpAnyH_done (by kernel_rfl) ?_ _
          refine NoPanic.normal ?_
          clear hHeld
          generalize cw.setCell ⟨R + 2, 0, none⟩ (.slice (some ⟨g6, 0, none⟩) (X.length + 1) cap6) = w8 at *
          go_wp2_with fail
          refine ⟨⟨k + 1, _, _, _, X ++ [(.slice p9 n9 c9, prn x (alls n 0))], HLT.out.1, HLT.out.2, by first | rw [j1] | rfl, Lib.hid HS.out.2.2.2.2, Lib.hid (by rw [tbG_take HAT.out, List.map_append, HE.out]; rw [show k = n by rw [HN.out, HXL.out.1]]; rfl)⟩, ?_⟩
          first | (rw [j1]; exact meas25 HLT.out.2) | exact meas25 HLT.out.2
        · go_simp
          refine (all_to cw p none n c 0 0 (by have := HN.out; have := HXL.out; omega) (by decide)).mono ?_
          rintro e cx ⟨v8, rfl, o8, b8⟩
          obtain ⟨p8, n8, c8, rfl, hn8⟩ := o8.shape
          have O8 := Lib.hid o8
          have HTq := Lib.hid (HTq.out.kb b8)
          have HC := Lib.hid ((b8.cell (World.block_lt_of_cell? _ _ HC.out)).trans HC.out)
          clear o8 b8 hn8
          rename World => cw
          go_wp2_with fail
          refine hK.out _ _ ⟨HTq.out.c0.1, HC.out⟩ (fun hHeld => ?_)
          clear hK K
          try simp only [Act.put, List.setIfInBounds_toArray, List.set_cons_zero, List.set_cons_succ]
          refine wpAnyH_ready (rs := [1, 9]) (by kernel_rfl) (by simp) ?_
          refine (AllReadyH.cons (by simp only [List.getElem?_toArray, List.getElem?_cons_succ, List.getElem?_cons_zero]; rfl) (fun K hK => ?_) (AllReadyH.cons (by simp only [List.getElem?_toArray, List.getElem?_cons_succ, List.getElem?_cons_zero]; rfl) (fun K hK => ?_) AllReadyH.nil))
          · have hc := HTq.out.c0.2.2.1
            go_simp
            clear hc
            refine hK.out _ _ ⟨HTq.out.c0.1, HC.out⟩ (fun hHeld => ?_)
            clear hK K
            try simp only [Act.put, List.setIfInBounds_toArray, List.set_cons_zero, List.set_cons_succ]
            refine wpAnyH_ready (rs := [9]) (by kernel_rfl) (by simp) ?_
            refine (AllReadyH.cons (by simp only [List.getElem?_toArray, List.getElem?_cons_succ, List.getElem?_cons_zero]; rfl) (fun K hK => ?_) AllReadyH.nil)
            go_simp
            refine (prn_to cw x HXB.out _ _ (JOwn.seen O8.out) (by rw [alls_len]; have := HN.out; have := HXL.out; omega)).mono ?_
            rintro e cx ⟨v9, rfl, o9, b9⟩
            obtain ⟨p9, n9, c9, rfl, hn9⟩ := o9.shape
            have O9 := Lib.hid (JS.own (B := B) o9)
            have HTq := Lib.hid (HTq.out.kb b9)
            have HC := Lib.hid ((b9.cell (World.block_lt_of_cell? _ _ HC.out)).trans HC.out)
            clear o9 b9 hn9
            rename World => cw
            go_wp2_with fail
            refine hK.out _ _ ⟨HTq.out.c0.1, HC.out⟩ (fun hHeld => ?_)
            clear hK K
            try simp only [Act.put, List.setIfInBounds_toArray, List.set_cons_zero, List.set_cons_succ]
            refine wpAnyH_ready (rs := [10]) (by kernel_rfl) (by simp) ?_
            refine (AllReadyH.cons (by simp only [List.getElem?_toArray, List.getElem?_cons_succ, List.getElem?_cons_zero]; rfl) (fun K hK => ?_) AllReadyH.nil)
            refine step_build_list (y := .slice p9 n9 c9) (by rfl) (by rfl) (by rfl) (by simp [Act.eval]) ?_
            have AL := (Below.refl cw.heap.size cw).alloc (Nat.le_refl _) (.cells #[.slice p9 n9 c9] 22)
            have HB10 := Lib.hid (heap_alloc_last cw (.cells #[.slice p9 n9 c9] 22))
            have O10 := Lib.hid (O9.out.kb AL)
            have HTq := Lib.hid (HTq.out.kb AL)
            have HC := Lib.hid ((AL.cell (World.block_lt_of_cell? _ _ HC.out)).trans HC.out)
            clear AL
            generalize cw.alloc (.cells #[.slice p9 n9 c9] 22) = cx at *
            generalize cw.heap.size = nb at *
            rename World => cw
            refine hK.out _ _ ⟨HTq.out.c0.1, HC.out⟩ (fun hHeld => ?_)
            clear hK K
            try simp only [Act.put, List.setIfInBounds_toArray, List.set_cons_zero, List.set_cons_succ]
            refine wpAnyH_ready (rs := [11]) (by kernel_rfl) (by simp) ?_
            refine (AllReadyH.cons (by simp only [List.getElem?_toArray, List.getElem?_cons_succ, List.getElem?_cons_zero]; rfl) (fun K hK => ?_) AllReadyH.nil)
            refine step_push_list (by rfl) _ _ (by rfl) B (R + 3) _ X (by rfl) HTq.out.lm nb (by rfl) (.slice p9 n9 c9, prn x (alls n 0)) HB10.out O10.out HTq.out.size (by have := HXL.out; omega) ?_
            intro g6 cap6 cx own6 grw6 hat6
            have HS := Lib.hid (HTq.out.setM (y := (.slice p9 n9 c9, prn x (alls n 0))) O10.out own6 grw6 hat6)
            have HC := Lib.hid ((HTq.out.farM grw6 HAB.out).trans HC.out)
            clear own6 grw6 hat6 HTq HB10 O10
            rename World => cw
            refine hK.out _ _ ⟨cell_ob5 HS.out.2.1 0 rfl, HC.out⟩ (fun hHeld => ?_)
            clear hK K
            try simp only [Act.put, List.setIfInBounds_toArray, List.set_cons_zero, List.set_cons_succ]
            refine wpAnyH_take (i := 12) (v := ?_) (by simp only [List.getElem?_toArray, List.getElem?_cons_succ, List.getElem?_cons_zero]; rfl) (by kernel_rfl) (by kernel_rfl) (by kernel_rfl) (fun _ _ _ h => h) (Or.inl ⟨by rfl, ?_⟩) (by assumption) ?_
            rotate_left
            · intro w hSw
              try dsimp only at hSw
              go_simp
              try with_reducible rfl
            try simp only [Act.put, List.setIfInBounds_toArray, List.set_cons_zero, List.set_cons_succ]
            refine wpAnyH_ready (rs := [13]) (by kernel_rfl) (by simp) ?_
            refine (AllReadyH.cons (by simp only [List.getElem?_toArray, List.getElem?_cons_succ, List.getElem?_cons_zero]; rfl) (fun K hK => ?_) AllReadyH.nil)
            have hc := cell_ob5 HS.out.1 0 rfl
            have hf : cw.frozen? ⟨R + 2, 0, none⟩ = false := frozen_of_row _ _ _ _ _ HS.out.1
            have HC2 := Lib.hid ((World.cell?_of_block (w := cw) (Below.heap_setCell cw ⟨R + 2, 0, none⟩ (.slice (some ⟨g6, 0, none⟩) (X.length + 1) cap6) _ (show (a.add k).block ≠ R + 2 by have := HAB.out; omega))).trans HC.out)
            go_simp
            clear hc hf
            refine hK.out _ _ ⟨cell_ob5 HS.out.2.2.2.1 0 rfl, HC2.out⟩ (fun hHeld => ?_)
            clear hK K
            try simp only [Act.put, List.setIfInBounds_toArray, List.set_cons_zero, List.set_cons_succ]
            refine wpAnyH_done (by kernel_rfl) ?_ _
            refine NoPanic.normal ?_
            clear hHeld
            generalize cw.setCell ⟨R + 2, 0, none⟩ (.slice (some ⟨g6, 0, none⟩) (X.length + 1) cap6) = w8 at *
            go_wp2_with fail
            refine ⟨⟨k + 1, _, _, _, X ++ [(.slice p9 n9 c9, prn x (alls n 0))], HLT.out.1, HLT.out.2, by first | rw [j1] | rfl, Lib.hid HS.out.2.2.2.2, Lib.hid (by rw [tbG_take HAT.out, List.map_append, HE.out]; rw [show k = n by rw [HN.out, HXL.out.1]]; rfl)⟩, ?_⟩
            first | (rw [j1]; exact meas25 HLT.out.2) | exact meas25 HLT.out.2
          · go_simp
            refine (prn_to cw x HXB.out _ _ (JOwn.seen O8.out) (by rw [alls_len]; have := HN.out; have := HXL.out; omega)).mono ?_
            rintro e cx ⟨v9, rfl, o9, b9⟩
            obtain ⟨p9, n9, c9, rfl, hn9⟩ := o9.shape
            have O9 := Lib.hid (JS.own (B := B) o9)
            have HTq := Lib.hid (HTq.out.kb b9)
            have HC := Lib.hid ((b9.cell (World.block_lt_of_cell? _ _ HC.out)).trans HC.out)
            clear o9 b9 hn9
            rename World => cw
            go_wp2_with fail
            refine hK.out _ _ ⟨HTq.out.c0.1, HC.out⟩ (fun hHeld => ?_)
            clear hK K
            try simp only [Act.put, List.setIfInBounds_toArray, List.set_cons_zero, List.set_cons_succ]
            refine wpAnyH_ready (rs := [1, 10]) (by kernel_rfl) (by simp) ?_
            refine (AllReadyH.cons (by simp only [List.getElem?_toArray, List.getElem?_cons_succ, List.getElem?_cons_zero]; rfl) (fun K hK => ?_) (AllReadyH.cons (by simp only [List.getElem?_toArray, List.getElem?_cons_succ, List.getElem?_cons_zero]; rfl) (fun K hK => ?_) AllReadyH.nil))
            · have hc := HTq.out.c0.2.2.1
              go_simp
              clear hc
              refine hK.out _ _ ⟨HTq.out.c0.1, HC.out⟩ (fun hHeld => ?_)
              clear hK K
              try simp only [Act.put, List.setIfInBounds_toArray, List.set_cons_zero, List.set_cons_succ]
              refine wpAnyH_ready (rs := [10]) (by kernel_rfl) (by simp) ?_
              refine (AllReadyH.cons (by simp only [List.getElem?_toArray, List.getElem?_cons_succ, List.getElem?_cons_zero]; rfl) (fun K hK => ?_) AllReadyH.nil)
              refine step_build_list (y := .slice p9 n9 c9) (by rfl) (by rfl) (by rfl) (by simp [Act.eval]) ?_
              have AL := (Below.refl cw.heap.size cw).alloc (Nat.le_refl _) (.cells #[.slice p9 n9 c9] 22)
              have HB10 := Lib.hid (heap_alloc_last cw (.cells #[.slice p9 n9 c9] 22))
              have O10 := Lib.hid (O9.out.kb AL)
              have HTq := Lib.hid (HTq.out.kb AL)
              have HC := Lib.hid ((AL.cell (World.block_lt_of_cell? _ _ HC.out)).trans HC.out)
              clear AL
              generalize cw.alloc (.cells #[.slice p9 n9 c9] 22) = cx at *
              generalize cw.heap.size = nb at *
              rename World => cw
              refine hK.out _ _ ⟨HTq.out.c0.1, HC.out⟩ (fun hHeld => ?_)
              clear hK K
              try simp only [Act.put, List.setIfInBounds_toArray, List.set_cons_zero, List.set_cons_succ]
              refine wpAnyH_ready (rs := [11]) (by kernel_rfl) (by simp) ?_
              refine (AllReadyH.cons (by simp only [List.getElem?_toArray, List.getElem?_cons_succ, List.getElem?_cons_zero]; rfl) (fun K hK => ?_) AllReadyH.nil)
              refine step_push_list (by rfl) _ _ (by rfl) B (R + 3) _ X (by rfl) HTq.out.lm nb (by rfl) (.slice p9 n9 c9, prn x (alls n 0)) HB10.out O10.out HTq.out.size (by have := HXL.out; omega) ?_
              intro g6 cap6 cx own6 grw6 hat6
              have HS := Lib.hid (HTq.out.setM (y := (.slice p9 n9 c9, prn x (alls n 0))) O10.out own6 grw6 hat6)
              have HC := Lib.hid ((HTq.out.farM grw6 HAB.out).trans HC.out)
              clear own6 grw6 hat6 HTq HB10 O10
              rename World => cw
              refine hK.out _ _ ⟨cell_ob5 HS.out.2.1 0 rfl, HC.out⟩ (fun hHeld => ?_)
              clear hK K
              try simp only [Act.put, List.setIfInBounds_toArray, List.set_cons_zero, List.set_cons_succ]
              refine wpAnyH_take (i := 12) (v := ?_) (by simp only [List.getElem?_toArray, List.getElem?_cons_succ, List.getElem?_cons_zero]; rfl) (by kernel_rfl) (by kernel_rfl) (by kernel_rfl) (fun _ _ _ h => h) (Or.inl ⟨by rfl, ?_⟩) (by assumption) ?_
              rotate_left
              · intro w hSw
                try dsimp only at hSw
                go_simp
                try with_reducible rfl
              try simp only [Act.put, List.setIfInBounds_toArray, List.set_cons_zero, List.set_cons_succ]
              refine wpAnyH_ready (rs := [13]) (by kernel_rfl) (by simp) ?_
              refine (AllReadyH.cons (by simp only [List.getElem?_toArray, List.getElem?_cons_succ, List.getElem?_cons_zero]; rfl) (fun K hK => ?_) AllReadyH.nil)
              have hc := cell_ob5 HS.out.1 0 rfl
              have hf : cw.frozen? ⟨R + 2, 0, none⟩ = false := frozen_of_row _ _ _ _ _ HS.out.1
              have HC2 := Lib.hid ((World.cell?_of_block (w := cw) (Below.heap_setCell cw ⟨R + 2, 0, none⟩ (.slice (some ⟨g6, 0, none⟩) (X.length + 1) cap6) _ (show (a.add k).block ≠ R + 2 by have := HAB.out; omega))).trans HC.out)
              go_simp
              clear hc hf
              refine hK.out _ _ ⟨cell_ob5 HS.out.2.2.2.1 0 rfl, HC2.out⟩ (fun hHeld => ?_)
              clear hK K
              try simp only [Act.put, List.setIfInBounds_toArray, List.set_cons_zero, List.set_cons_succ]
              refine wpAnyH_done (by kernel_rfl) ?_ _
              refine NoPanic.normal ?_
              clear hHeld
              generalize cw.setCell ⟨R + 2, 0, none⟩ (.slice (some ⟨g6, 0, none⟩) (X.length + 1) cap6) = w8 at *
              go_wp2_with fail
              refine ⟨⟨k + 1, _, _, _, X ++ [(.slice p9 n9 c9, prn x (alls n 0))], HLT.out.1, HLT.out.2, by first | rw [j1] | rfl, Lib.hid HS.out.2.2.2.2, Lib.hid (by rw [tbG_take HAT.out, List.map_append, HE.out]; rw [show k = n by rw [HN.out, HXL.out.1]]; rfl)⟩, ?_⟩
              first | (rw [j1]; exact meas25 HLT.out.2) | exact meas25 HLT.out.2
            · refine step_build_list (y := .slice p9 n9 c9) (by rfl) (by rfl) (by rfl) (by simp [Act.eval]) ?_
              have AL := (Below.refl cw.heap.size cw).alloc (Nat.le_refl _) (.cells #[.slice p9 n9 c9] 22)
              have HB10 := Lib.hid (heap_alloc_last cw (.cells #[.slice p9 n9 c9] 22))
              have O10 := Lib.hid (O9.out.kb AL)
              have HTq := Lib.hid (HTq.out.kb AL)
              have HC := Lib.hid ((AL.cell (World.block_lt_of_cell? _ _ HC.out)).trans HC.out)
              clear AL
              generalize cw.alloc (.cells #[.slice p9 n9 c9] 22) = cx at *
              generalize cw.heap.size = nb at *
              rename World => cw
              refine hK.out _ _ ⟨HTq.out.c0.1, HC.out⟩ (fun hHeld => ?_)
              clear hK K
              try simp only [Act.put, List.setIfInBounds_toArray, List.set_cons_zero, List.set_cons_succ]
              refine wpAnyH_ready (rs := [1]) (by kernel_rfl) (by simp) ?_
              refine (AllReadyH.cons (by simp only [List.getElem?_toArray, List.getElem?_cons_succ, List.getElem?_cons_zero]; rfl) (fun K hK => ?_) AllReadyH.nil)
              have hc := HTq.out.c0.2.2.1
              go_simp
              clear hc
              refine hK.out _ _ ⟨HTq.out.c0.1, HC.out⟩ (fun hHeld => ?_)
              clear hK K
              try simp only [Act.put, List.setIfInBounds_toArray, List.set_cons_zero, List.set_cons_succ]
              refine wpAnyH_ready (rs := [11]) (by kernel_rfl) (by simp) ?_
              refine (AllReadyH.cons (by simp only [List.getElem?_toArray, List.getElem?_cons_succ, List.getElem?_cons_zero]; rfl) (fun K hK => ?_) AllReadyH.nil)
              refine step_push_list (by rfl) _ _ (by rfl) B (R + 3) _ X (by rfl) HTq.out.lm nb (by rfl) (.slice p9 n9 c9, prn x (alls n 0)) HB10.out O10.out HTq.out.size (by have := HXL.out; omega) ?_
              intro g6 cap6 cx own6 grw6 hat6
              have HS := Lib.hid (HTq.out.setM (y := (.slice p9 n9 c9, prn x (alls n 0))) O10.out own6 grw6 hat6)
              have HC := Lib.hid ((HTq.out.farM grw6 HAB.out).trans HC.out)
              clear own6 grw6 hat6 HTq HB10 O10
              rename World => cw
              refine hK.out _ _ ⟨cell_ob5 HS.out.2.1 0 rfl, HC.out⟩ (fun hHeld => ?_)
              clear hK K
              try simp only [Act.put, List.setIfInBounds_toArray, List.set_cons_zero, List.set_cons_succ]
              refine wpAnyH_take (i := 12) (v := ?_) (by simp only [List.getElem?_toArray, List.getElem?_cons_succ, List.getElem?_cons_zero]; rfl) (by kernel_rfl) (by kernel_rfl) (by kernel_rfl) (fun _ _ _ h => h) (Or.inl ⟨by rfl, ?_⟩) (by assumption) ?_
              rotate_left
              · intro w hSw
                try dsimp only at hSw
                go_simp
                try with_reducible rfl
              try simp only [Act.put, List.setIfInBounds_toArray, List.set_cons_zero, List.set_cons_succ]
              refine wpAnyH_ready (rs := [13]) (by kernel_rfl) (by simp) ?_
              refine (AllReadyH.cons (by simp only [List.getElem?_toArray, List.getElem?_cons_succ, List.getElem?_cons_zero]; rfl) (fun K hK => ?_) AllReadyH.nil)
              have hc := cell_ob5 HS.out.1 0 rfl
              have hf : cw.frozen? ⟨R + 2, 0, none⟩ = false := frozen_of_row _ _ _ _ _ HS.out.1
              have HC2 := Lib.hid ((World.cell?_of_block (w := cw) (Below.heap_setCell cw ⟨R + 2, 0, none⟩ (.slice (some ⟨g6, 0, none⟩) (X.length + 1) cap6) _ (show (a.add k).block ≠ R + 2 by have := HAB.out; omega))).trans HC.out)
              go_simp
              clear hc hf
              refine hK.out _ _ ⟨cell_ob5 HS.out.2.2.2.1 0 rfl, HC2.out⟩ (fun hHeld => ?_)
              clear hK K
              try simp only [Act.put, List.setIfInBounds_toArray, List.set_cons_zero, List.set_cons_succ]
              refine wpAnyH_done (by kernel_rfl) ?_ _
              refine NoPanic.normal ?_
              clear hHeld
              generalize cw.setCell ⟨R + 2, 0, none⟩ (.slice (some ⟨g6, 0, none⟩) (X.length + 1) cap6) = w8 at *
              go_wp2_with fail
              refine ⟨⟨k + 1, _, _, _, X ++ [(.slice p9 n9 c9, prn x (alls n 0))], HLT.out.1, HLT.out.2, by first | rw [j1] | rfl, Lib.hid HS.out.2.2.2.2, Lib.hid (by rw [tbG_take HAT.out, List.map_append, HE.out]; rw [show k = n by rw [HN.out, HXL.out.1]]; rfl)⟩, ?_⟩
              first | (rw [j1]; exact meas25 HLT.out.2) | exact meas25 HLT.out.2
    · have HCN := Lib.hid (take25 HX.out.1 hk hk25 hlt)
      by_cases hc1 : k < nm
      · have hc2 : ¬ k < 25 := fun h => hlt ⟨hc1, h⟩
        have d1 : (k : Int) < nm := by omega
        have d2 : ¬ (k : Int) < 25 := by omega
        clear hlt hk hk25 hc1 hc2
        have HTM := Lib.hid HT.out
        have HEM : Hid (X.map (·.2) = tbG (fun j => alls j 0) (xs.take 25)) := Lib.hid (by rw [← HCN.out]; exact HE.out)
        have HXM : Hid (X.length ≤ 25) := Lib.hid (by have := congrArg List.length HEM.out; rw [List.length_map, tbG_len, List.length_take] at this; omega)
        go_wp2_with fail
        clear HT HE HCN hr0
        generalize X = XM at *
        generalize p = p1 at *
        generalize n = n1 at *
        generalize c = c1 at *
        go_loopw [5] (fun i wr => ∃ (k : Nat) (p : Option Addr) (n c : Nat) (X : List (Value × List Int)), k ≤ no ∧ k ≤ 25 ∧ i = .int .i64 k ∧ Hid (TI w wr B R (.slice pm nm cm) (.slice po no co) p1 n1 c1 p n c XM X) ∧ Hid (X.map (·.2) = tbG (alls XM.length) (ys.take k))) (fun i _ => 25 - (intOf i).toNat)
        case atStart => exact ⟨0, none, 0, 0, [], Nat.zero_le _, Nat.zero_le _, rfl, HTM, Lib.hid rfl⟩
        case round =>
          clear HTM
          obtain ⟨k, p, n, c, X, hk, hk25, rfl, HT, HE⟩ := hrel
          have hr0 := HT.out.c0.2.1
          by_cases hlt : k < no ∧ k < 25
          · obtain ⟨hlt1, hlt2⟩ := hlt
            have j1 : wrap64 ((k : Int) + 1) = ((k + 1 : Nat) : Int) := by unfold wrap64; omega
            have j2 : (0 : Int) ≤ k := Int.natCast_nonneg _
            have j3 : (k : Int) < no := by omega
            have j4 : (k : Int) < 25 := by omega
            obtain ⟨a, x, rfl, hat, hc, hx1, hx2⟩ := HY.out.at (HT.out.at_ ▸ HT.out.bel) hlt1
            have HAT := Lib.hid hat
            have HXB := Lib.hid (And.intro hx1 hx2)
            have HLT := Lib.hid (And.intro hlt1 hlt2)
            have bq : Below wr.heap.size wr wr.drew := drew_below wr
            have HTq := Lib.hid (HT.out.kb bq)
            have hcq := (bq.cell (World.block_lt_of_cell? _ _ hc)).trans hc
            have HC := Lib.hid hcq
            have HAB : Hid ((a.add k).block < R) := Lib.hid (by
              obtain ⟨_, _, e, _, g⟩ := id HY.out.2.1
              obtain ⟨a', e2, g2⟩ := g k x hat
              injection e with e _ _
              rw [← e] at e2
              injection e2 with e2
              subst e2
              rw [HR.out]
              exact World.block_lt_of_cell? _ _ g2)
            clear hat hx1 hx2 hlt1 hlt2 hk hk25 bq hc HT
            go_wp2_with fail
            try simp only [List.append]
            refine wp_region_noPanic ?_
            refine wp_region_held_drew (S := (fun V => V.cell? ⟨R, 1, none⟩ = some (.slice (some a) no co) ∧ V.cell? (a.add k) = some (.int .i64 x))) (by kernel_rfl) ⟨HTq.out.c0.2.1, hcq⟩ (fun hHeld => ?_)
            clear hcq hr0
            generalize wr.drew = cw at *
            have HN : Hid (n = X.length) := Lib.hid (by obtain ⟨_, _, _, e, h⟩ := HTq.out.lo.shape; injection e with _ e _; rw [e]; exact h)
            have HXL : Hid (X.length = k ∧ k ≤ 25) := Lib.hid ⟨by have := congrArg List.length HE.out; rw [List.length_map, tbG_len, List.length_take, Nat.min_eq_left (Nat.le_of_lt (List.getElem?_eq_some_iff.1 HAT.out).1)] at this; exact this, Nat.le_of_lt HLT.out.2⟩
            have HN1 := Lib.hid (And.intro (show n1 = XM.length by obtain ⟨_, _, _, e, h⟩ := HTq.out.lm.shape; injection e with _ e _; rw [e]; exact h) HXM.out)
            refine wpAnyH_take (i := 0) (v := ?_) (by simp only [List.getElem?_toArray, List.getElem?_cons_zero]; rfl) (by kernel_rfl) (by kernel_rfl) (by kernel_rfl) (fun _ _ _ h => h) (Or.inl ⟨by rfl, ?_⟩) (by assumption) ?_
            rotate_left
            · intro w hSw
              try dsimp only at hSw
              go_simp
              try with_reducible rfl
            try simp only [Act.put, List.setIfInBounds_toArray, List.set_cons_zero, List.set_cons_succ]
            refine wpAnyH_take (i := 2) (v := ?_) (by simp only [List.getElem?_toArray, List.getElem?_cons_succ, List.getElem?_cons_zero]; rfl) (by kernel_rfl) (by kernel_rfl) (by kernel_rfl) (fun _ _ _ h => h) (Or.inl ⟨by rfl, ?_⟩) (by assumption) ?_
            rotate_left
            · intro w hSw
              try dsimp only at hSw
              go_simp
              try with_reducible rfl
            try simp only [Act.put, List.setIfInBounds_toArray, List.set_cons_zero, List.set_cons_succ]
            refine wpAnyH_take (i := 3) (v := ?_) (by simp only [List.getElem?_toArray, List.getElem?_cons_succ, List.getElem?_cons_zero]; rfl) (by kernel_rfl) (by kernel_rfl) (by kernel_rfl) (fun _ _ _ h => h) (Or.inl ⟨by rfl, ?_⟩) (by assumption) ?_
            rotate_left
            · intro w hSw
              try dsimp only at hSw
              go_simp
              try with_reducible rfl
            try simp only [Act.put, List.setIfInBounds_toArray, List.set_cons_zero, List.set_cons_succ]
            refine wpAnyH_take (i := 4) (v := ?_) (by simp only [List.getElem?_toArray, List.getElem?_cons_succ, List.getElem?_cons_zero]; rfl) (by kernel_rfl) (by kernel_rfl) (by kernel_rfl) (fun _ _ _ h => h) (Or.inl ⟨by rfl, ?_⟩) (by assumption) ?_
            rotate_left
            · intro w hSw
              try dsimp only at hSw
              go_simp
              try with_reducible rfl
            try simp only [Act.put, List.setIfInBounds_toArray, List.set_cons_zero, List.set_cons_succ]
            refine wpAnyH_take (i := 5) (v := ?_) (by simp only [List.getElem?_toArray, List.getElem?_cons_succ, List.getElem?_cons_zero]; rfl) (by kernel_rfl) (by kernel_rfl) (by kernel_rfl) (fun _ _ _ h => h) (Or.inl ⟨by rfl, ?_⟩) (by assumption) ?_
            rotate_left
            · intro w hSw
              try dsimp only at hSw
              go_simp
              try with_reducible rfl
            try simp only [Act.put, List.setIfInBounds_toArray, List.set_cons_zero, List.set_cons_succ]
            refine wpAnyH_take (i := 6) (v := ?_) (by simp only [List.getElem?_toArray, List.getElem?_cons_succ, List.getElem?_cons_zero]; rfl) (by kernel_rfl) (by kernel_rfl) (by kernel_rfl) (fun _ _ _ h => h) (Or.inl ⟨by rfl, ?_⟩) (by assumption) ?_
            rotate_left
            · intro w hSw
              try dsimp only at hSw
              go_simp
              try with_reducible rfl
            try simp only [Act.put, List.setIfInBounds_toArray, List.set_cons_zero, List.set_cons_succ]
            refine wpAnyH_ready (rs := [1, 7]) (by kernel_rfl) (by simp) ?_
            refine (AllReadyH.cons (by simp only [List.getElem?_toArray, List.getElem?_cons_succ, List.getElem?_cons_zero]; rfl) (fun K hK => ?_) (AllReadyH.cons (by simp only [List.getElem?_toArray, List.getElem?_cons_succ, List.getElem?_cons_zero]; rfl) (fun K hK => ?_) AllReadyH.nil))
            · have hc := HTq.out.c0.2.2.2
              go_simp
              clear hc
              refine hK.out _ _ ⟨HTq.out.c0.2.1, HC.out⟩ (fun hHeld => ?_)
              clear hK K
              try simp only [Act.put, List.setIfInBounds_toArray, List.set_cons_zero, List.set_cons_succ]
              refine wpAnyH_ready (rs := [7]) (by kernel_rfl) (by simp) ?_
              refine (AllReadyH.cons (by simp only [List.getElem?_toArray, List.getElem?_cons_succ, List.getElem?_cons_zero]; rfl) (fun K hK => ?_) AllReadyH.nil)
              have hc := HTq.out.c0.2.2.1
              have hd := HTq.out.c0.2.2.2
              go_simp
              clear hc hd
              refine hK.out _ _ ⟨HTq.out.c0.2.1, HC.out⟩ (fun hHeld => ?_)
              clear hK K
              try simp only [Act.put, List.setIfInBounds_toArray, List.set_cons_zero, List.set_cons_succ]
              refine wpAnyH_ready (rs := [8]) (by kernel_rfl) (by simp) ?_
              refine (AllReadyH.cons (by simp only [List.getElem?_toArray, List.getElem?_cons_succ, List.getElem?_cons_zero]; rfl) (fun K hK => ?_) AllReadyH.nil)
              go_simp
              refine (all_to cw p1 p n1 c1 n c (by have := HN1.out; omega) (by have := HN.out; have := HXL.out; omega)).mono ?_
              rintro e cx ⟨v8, rfl, o8, b8⟩
              obtain ⟨p8, n8, c8, rfl, hn8⟩ := o8.shape
              have O8 := Lib.hid o8
              have HTq := Lib.hid (HTq.out.kb b8)
              have HC := Lib.hid ((b8.cell (World.block_lt_of_cell? _ _ HC.out)).trans HC.out)
              clear o8 b8 hn8
              rename World => cw
              go_wp2_with fail
              refine hK.out _ _ ⟨HTq.out.c0.2.1, HC.out⟩ (fun hHeld => ?_)
              clear hK K
              try simp only [Act.put, List.setIfInBounds_toArray, List.set_cons_zero, List.set_cons_succ]
              refine wpAnyH_ready (rs := [9]) (by kernel_rfl) (by simp) ?_
              refine (AllReadyH.cons (by simp only [List.getElem?_toArray, List.getElem?_cons_succ, List.getElem?_cons_zero]; rfl) (fun K hK => ?_) AllReadyH.nil)
              go_simp
              refine (prn_to cw x HXB.out _ _ (JOwn.seen O8.out) (by rw [alls_len]; have := HN1.out; have := HN.out; have := HXL.out; omega)).mono ?_
              rintro e cx ⟨v9, rfl, o9, b9⟩
              obtain ⟨p9, n9, c9, rfl, hn9⟩ := o9.shape
              have O9 := Lib.hid (JS.own (B := B) o9)
              have HTq := Lib.hid (HTq.out.kb b9)
              have HC := Lib.hid ((b9.cell (World.block_lt_of_cell? _ _ HC.out)).trans HC.out)
              clear o9 b9 hn9
              rename World => cw
              go_wp2_with fail
              refine hK.out _ _ ⟨HTq.out.c0.2.1, HC.out⟩ (fun hHeld => ?_)
              clear hK K
              try simp only [Act.put, List.setIfInBounds_toArray, List.set_cons_zero, List.set_cons_succ]
              refine wpAnyH_ready (rs := [10]) (by kernel_rfl) (by simp) ?_
              refine (AllReadyH.cons (by simp only [List.getElem?_toArray, List.getElem?_cons_succ, List.getElem?_cons_zero]; rfl) (fun K hK => ?_) AllReadyH.nil)
              refine step_build_list (y := .slice p9 n9 c9) (by rfl) (by rfl) (by rfl) (by simp [Act.eval]) ?_
              have AL := (Below.refl cw.heap.size cw).alloc (Nat.le_refl _) (.cells #[.slice p9 n9 c9] 22)
              have HB10 := Lib.hid (heap_alloc_last cw (.cells #[.slice p9 n9 c9] 22))
              have O10 := Lib.hid (O9.out.kb AL)
              have HTq := Lib.hid (HTq.out.kb AL)
              have HC := Lib.hid ((AL.cell (World.block_lt_of_cell? _ _ HC.out)).trans HC.out)
              clear AL
              generalize cw.alloc (.cells #[.slice p9 n9 c9] 22) = cx at *
              generalize cw.heap.size = nb at *
              rename World => cw
              refine hK.out _ _ ⟨HTq.out.c0.2.1, HC.out⟩ (fun hHeld => ?_)
              clear hK K
              try simp only [Act.put, List.setIfInBounds_toArray, List.set_cons_zero, List.set_cons_succ]
              refine wpAnyH_ready (rs := [11]) (by kernel_rfl) (by simp) ?_
              refine (AllReadyH.cons (by simp only [List.getElem?_toArray, List.getElem?_cons_succ, List.getElem?_cons_zero]; rfl) (fun K hK => ?_) AllReadyH.nil)
              refine step_push_list (by rfl) _ _ (by rfl) B (R + 3) _ X (by rfl) HTq.out.lo nb (by rfl) (.slice p9 n9 c9, prn x (alls n1 n)) HB10.out O10.out HTq.out.size (by have := HXL.out; omega) ?_
              intro g6 cap6 cx own6 grw6 hat6
              have HS := Lib.hid (HTq.out.setO (y := (.slice p9 n9 c9, prn x (alls n1 n))) O10.out own6 grw6 hat6)
              have HC := Lib.hid ((HTq.out.farO grw6 HAB.out).trans HC.out)
              clear own6 grw6 hat6 HTq HB10 O10
              rename World => cw
              refine hK.out _ _ ⟨cell_ob5 HS.out.2.1 1 rfl, HC.out⟩ (fun hHeld => ?_)
              clear hK K
              try simp only [Act.put, List.setIfInBounds_toArray, List.set_cons_zero, List.set_cons_succ]
              refine wpAnyH_take (i := 12) (v := ?_) (by simp only [List.getElem?_toArray, List.getElem?_cons_succ, List.getElem?_cons_zero]; rfl) (by kernel_rfl) (by kernel_rfl) (by kernel_rfl) (fun _ _ _ h => h) (Or.inl ⟨by rfl, ?_⟩) (by assumption) ?_
              rotate_left
              · intro w hSw
                try dsimp only at hSw
                go_simp
                try with_reducible rfl
              try simp only [Act.put, List.setIfInBounds_toArray, List.set_cons_zero, List.set_cons_succ]
              refine wpAnyH_ready (rs := [13]) (by kernel_rfl) (by simp) ?_
              refine (AllReadyH.cons (by simp only [List.getElem?_toArray, List.getElem?_cons_succ, List.getElem?_cons_zero]; rfl) (fun K hK => ?_) AllReadyH.nil)
              have hc := cell_ob5 HS.out.1 1 rfl
              have hf : cw.frozen? ⟨R + 2, 1, none⟩ = false := frozen_of_row _ _ _ _ _ HS.out.1
              have HC2 := Lib.hid ((World.cell?_of_block (w := cw) (Below.heap_setCell cw ⟨R + 2, 1, none⟩ (.slice (some ⟨g6, 0, none⟩) (X.length + 1) cap6) _ (show (a.add k).block ≠ R + 2 by have := HAB.out; omega))).trans HC.out)
              go_simp
              clear hc hf
              refine hK.out _ _ ⟨cell_ob5 HS.out.2.2.2.1 1 rfl, HC2.out⟩ (fun hHeld => ?_)
              clear hK K
              try simp only [Act.put, List.setIfInBounds_toArray, List.set_cons_zero, List.set_cons_succ]
              refine wpAnyH_done (by kernel_rfl) ?_ _
              refine NoPanic.normal ?_
              clear hHeld
              generalize cw.setCell ⟨R + 2, 1, none⟩ (.slice (some ⟨g6, 0, none⟩) (X.length + 1) cap6) = w8 at *
              go_wp2_with fail
              refine ⟨⟨k + 1, _, _, _, X ++ [(.slice p9 n9 c9, prn x (alls n1 n))], HLT.out.1, HLT.out.2, by first | rw [j1] | rfl, Lib.hid HS.out.2.2.2.2, Lib.hid (by rw [tbG_take HAT.out, List.map_append, HE.out]; rw [show k = n by rw [HN.out, HXL.out.1], show n1 = XM.length from HN1.out.1]; rfl)⟩, ?_⟩
              first | (rw [j1]; exact meas25 HLT.out.2) | exact meas25 HLT.out.2
            · have hc := HTq.out.c0.2.2.1
              have hd := HTq.out.c0.2.2.2
              go_simp
              clear hc hd
              refine hK.out _ _ ⟨HTq.out.c0.2.1, HC.out⟩ (fun hHeld => ?_)
              clear hK K
              try simp only [Act.put, List.setIfInBounds_toArray, List.set_cons_zero, List.set_cons_succ]
              refine wpAnyH_ready (rs := [1, 8]) (by kernel_rfl) (by simp) ?_
              refine (AllReadyH.cons (by simp only [List.getElem?_toArray, List.getElem?_cons_succ, List.getElem?_cons_zero]; rfl) (fun K hK => ?_) (AllReadyH.cons (by simp only [List.getElem?_toArray, List.getElem?_cons_succ, List.getElem?_cons_zero]; rfl) (fun K hK => ?_) AllReadyH.nil))
              · have hc := HTq.out.c0.2.2.2
                go_simp
                clear hc
                refine hK.out _ _ ⟨HTq.out.c0.2.1, HC.out⟩ (fun hHeld => ?_)
                clear hK K
                try simp only [Act.put, List.setIfInBounds_toArray, List.set_cons_zero, List.set_cons_succ]
                refine wpAnyH_ready (rs := [8]) (by kernel_rfl) (by simp) ?_
                refine (AllReadyH.cons (by simp only [List.getElem?_toArray, List.getElem?_cons_succ, List.getElem?_cons_zero]; rfl) (fun K hK => ?_) AllReadyH.nil)
                go_simp
                refine (all_to cw p1 p n1 c1 n c (by have := HN1.out; omega) (by have := HN.out; have := HXL.out; omega)).mono ?_
                rintro e cx ⟨v8, rfl, o8, b8⟩
                obtain ⟨p8, n8, c8, rfl, hn8⟩ := o8.shape
                have O8 := Lib.hid o8
                have HTq := Lib.hid (HTq.out.kb b8)
                have HC := Lib.hid ((b8.cell (World.block_lt_of_cell? _ _ HC.out)).trans HC.out)
                clear o8 b8 hn8
                rename World => cw
                go_wp2_with fail
                refine hK.out _ _ ⟨HTq.out.c0.2.1, HC.out⟩ (fun hHeld => ?_)
                clear hK K
                try simp only [Act.put, List.setIfInBounds_toArray, List.set_cons_zero, List.set_cons_succ]
                refine wpAnyH_ready (rs := [9]) (by kernel_rfl) (by simp) ?_
                refine (AllReadyH.cons (by simp only [List.getElem?_toArray, List.getElem?_cons_succ, List.getElem?_cons_zero]; rfl) (fun K hK => ?_) AllReadyH.nil)
                go_simp
                refine (prn_to cw x HXB.out _ _ (JOwn.seen O8.out) (by rw [alls_len]; have := HN1.out; have := HN.out; have := HXL.out; omega)).mono ?_
                rintro e cx ⟨v9, rfl, o9, b9⟩
                obtain ⟨p9, n9, c9, rfl, hn9⟩ := o9.shape
                have O9 := Lib.hid (JS.own (B := B) o9)
                have HTq := Lib.hid (HTq.out.kb b9)
                have HC := Lib.hid ((b9.cell (World.block_lt_of_cell? _ _ HC.out)).trans HC.out)
                clear o9 b9 hn9
                rename World => cw
                go_wp2_with fail
                refine hK.out _ _ ⟨HTq.out.c0.2.1, HC.out⟩ (fun hHeld => ?_)
                clear hK K
                try simp only [Act.put, List.setIfInBounds_toArray, List.set_cons_zero, List.set_cons_succ]
                refine wpAnyH_ready (rs := [10]) (by kernel_rfl) (by simp) ?_
                refine (AllReadyH.cons (by simp only [List.getElem?_toArray, List.getElem?_cons_succ, List.getElem?_cons_zero]; rfl) (fun K hK => ?_) AllReadyH.nil)
                refine step_build_list (y := .slice p9 n9 c9) (by rfl) (by rfl) (by rfl) (by simp [Act.eval]) ?_
                have AL := (Below.refl cw.heap.size cw).alloc (Nat.le_refl _) (.cells #[.slice p9 n9 c9] 22)
                have HB10 := Lib.hid (heap_alloc_last cw (.cells #[.slice p9 n9 c9] 22))
                have O10 := Lib.hid (O9.out.kb AL)
                have HTq := Lib.hid (HTq.out.kb AL)
                have HC := Lib.hid ((AL.cell (World.block_lt_of_cell? _ _ HC.out)).trans HC.out)
                clear AL
                generalize cw.alloc (.cells #[.slice p9 n9 c9] 22) = cx at *
                generalize cw.heap.size = nb at *
                rename World => cw
                refine hK.out _ _ ⟨HTq.out.c0.2.1, HC.out⟩ (fun hHeld => ?_)
                clear hK K
                try simp only [Act.put, List.setIfInBounds_toArray, List.set_cons_zero, List.set_cons_succ]
                refine wpAnyH_ready (rs := [11]) (by kernel_rfl) (by simp) ?_
                refine (AllReadyH.cons (by simp only [List.getElem?_toArray, List.getElem?_cons_succ, List.getElem?_cons_zero]; rfl) (fun K hK => ?_) AllReadyH.nil)
                refine step_push_list (by rfl) _ _ (by rfl) B (R + 3) _ X (by rfl) HTq.out.lo nb (by rfl) (.slice p9 n9 c9, prn x (alls n1 n)) HB10.out O10.out HTq.out.size (by have := HXL.out; omega) ?_
                intro g6 cap6 cx own6 grw6 hat6
                have HS := Lib.hid (HTq.out.setO (y := (.slice p9 n9 c9, prn x (alls n1 n))) O10.out own6 grw6 hat6)
                have HC := Lib.hid ((HTq.out.farO grw6 HAB.out).trans HC.out)
                clear own6 grw6 hat6 HTq HB10 O10
                rename World => cw
                refine hK.out _ _ ⟨cell_ob5 HS.out.2.1 1 rfl, HC.out⟩ (fun hHeld => ?_)
                clear hK K
                try simp only [Act.put, List.setIfInBounds_toArray, List.set_cons_zero, List.set_cons_succ]
                refine wpAnyH_take (i := 12) (v := ?_) (by simp only [List.getElem?_toArray, List.getElem?_cons_succ, List.getElem?_cons_zero]; rfl) (by kernel_rfl) (by kernel_rfl) (by kernel_rfl) (fun _ _ _ h => h) (Or.inl ⟨by rfl, ?_⟩) (by assumption) ?_
                rotate_left
                · intro w hSw
                  try dsimp only at hSw
                  go_simp
                  try with_reducible rfl
                try simp only [Act.put, List.setIfInBounds_toArray, List.set_cons_zero, List.set_cons_succ]
                refine wpAnyH_ready (rs := [13]) (by kernel_rfl) (by simp) ?_
                refine (AllReadyH.cons (by simp only [List.getElem?_toArray, List.getElem?_cons_succ, List.getElem?_cons_zero]; rfl) (fun K hK => ?_) AllReadyH.nil)
                have hc := cell_ob5 HS.out.1 1 rfl
                have hf : cw.frozen? ⟨R + 2, 1, none⟩ = false := frozen_of_row _ _ _ _ _ HS.out.1
                have HC2 := Lib.hid ((World.cell?_of_block (w := cw) (Below.heap_setCell cw ⟨R + 2, 1, none⟩ (.slice (some ⟨g6, 0, none⟩) (X.length + 1) cap6) _ (show (a.add k).block ≠ R + 2 by have := HAB.out; omega))).trans HC.out)
                go_simp
                clear hc hf
                refine hK.out _ _ ⟨cell_ob5 HS.out.2.2.2.1 1 rfl, HC2.out⟩ (fun hHeld => ?_)
                clear hK K
                try simp only [Act.put, List.setIfInBounds_toArray, List.set_cons_zero, List.set_cons_succ]
                refine wpAnyH_done (by kernel_rfl) ?_ _
                refine NoPanic.normal ?_
                clear hHeld
                generalize cw.setCell ⟨R + 2, 1, none⟩ (.slice (some ⟨g6, 0, none⟩) (X.length + 1) cap6) = w8 at *
                go_wp2_with fail
                refine ⟨⟨k + 1, _, _, _, X ++ [(.slice p9 n9 c9, prn x (alls n1 n))], HLT.out.1, HLT.out.2, by first | rw [j1] | rfl, Lib.hid HS.out.2.2.2.2, Lib.hid (by rw [tbG_take HAT.out, List.map_append, HE.out]; rw [show k = n by rw [HN.out, HXL.out.1], show n1 = XM.length from HN1.out.1]; rfl)⟩, ?_⟩
                first | (rw [j1]; exact meas25 HLT.out.2) | exact meas25 HLT.out.2
              · go_simp
                refine (all_to cw p1 p n1 c1 n c (by have := HN1.out; omega) (by have := HN.out; have := HXL.out; omega)).mono ?_
                rintro e cx ⟨v8, rfl, o8, b8⟩
                obtain ⟨p8, n8, c8, rfl, hn8⟩ := o8.shape
                have O8 := Lib.hid o8
                have HTq := Lib.hid (HTq.out.kb b8)
                have HC := Lib.hid ((b8.cell (World.block_lt_of_cell? _ _ HC.out)).trans HC.out)
                clear o8 b8 hn8
                rename World => cw
                go_wp2_with fail
                refine hK.out _ _ ⟨HTq.out.c0.2.1, HC.out⟩ (fun hHeld => ?_)
                clear hK K
                try simp only [Act.put, List.setIfInBounds_toArray, List.set_cons_zero, List.set_cons_succ]
                refine wpAnyH_ready (rs := [1, 9]) (by kernel_rfl) (by simp) ?_
                refine (AllReadyH.cons (by simp only [List.getElem?_toArray, List.getElem?_cons_succ, List.getElem?_cons_zero]; rfl) (fun K hK => ?_) (AllReadyH.cons (by simp only [List.getElem?_toArray, List.getElem?_cons_succ, List.getElem?_cons_zero]; rfl) (fun K hK => ?_) AllReadyH.nil))
                · have hc := HTq.out.c0.2.2.2
                  go_simp
                  clear hc
                  refine hK.out _ _ ⟨HTq.out.c0.2.1, HC.out⟩ (fun hHeld => ?_)
                  clear hK K
                  try simp only [Act.put, List.setIfInBounds_toArray, List.set_cons_zero, List.set_cons_succ]
                  refine wpAnyH_ready (rs := [9]) (by kernel_rfl) (by simp) ?_
                  refine (AllReadyH.cons (by simp only [List.getElem?_toArray, List.getElem?_cons_succ, List.getElem?_cons_zero]; rfl) (fun K hK => ?_) AllReadyH.nil)
                  go_simp
                  refine (prn_to cw x HXB.out _ _ (JOwn.seen O8.out) (by rw [alls_len]; have := HN1.out; have := HN.out; have := HXL.out; omega)).mono ?_
                  rintro e cx ⟨v9, rfl, o9, b9⟩
                  obtain ⟨p9, n9, c9, rfl, hn9⟩ := o9.shape
                  have O9 := Lib.hid (JS.own (B := B) o9)
                  have HTq := Lib.hid (HTq.out.kb b9)
                  have HC := Lib.hid ((b9.cell (World.block_lt_of_cell? _ _ HC.out)).trans HC.out)
                  clear o9 b9 hn9
                  rename World => cw
                  go_wp2_with fail
                  refine hK.out _ _ ⟨HTq.out.c0.2.1, HC.out⟩ (fun hHeld => ?_)
                  clear hK K
                  try simp only [Act.put, List.setIfInBounds_toArray, List.set_cons_zero, List.set_cons_succ]
                  refine wpAnyH_ready (rs := [10]) (by kernel_rfl) (by simp) ?_
                  refine (AllReadyH.cons (by simp only [List.getElem?_toArray, List.getElem?_cons_succ, List.getElem?_cons_zero]; rfl) (fun K hK => ?_) AllReadyH.nil)
                  refine step_build_list (y := .slice p9 n9 c9) (by rfl) (by rfl) (by rfl) (by simp [Act.eval]) ?_
                  have AL := (Below.refl cw.heap.size cw).alloc (Nat.le_refl _) (.cells #[.slice p9 n9 c9] 22)
                  have HB10 := Lib.hid (heap_alloc_last cw (.cells #[.slice p9 n9 c9] 22))
                  have O10 := Lib.hid (O9.out.kb AL)
                  have HTq := Lib.hid (HTq.out.kb AL)
                  have HC := Lib.hid ((AL.cell (World.block_lt_of_cell? _ _ HC.out)).trans HC.out)
                  clear AL
                  generalize cw.alloc (.cells #[.slice p9 n9 c9] 22) = cx at *
                  generalize cw.heap.size = nb at *
                  rename World => cw
                  refine hK.out _ _ ⟨HTq.out.c0.2.1, HC.out⟩ (fun hHeld => ?_)
                  clear hK K
                  try simp only [Act.put, List.setIfInBounds_toArray, List.set_cons_zero, List.set_cons_succ]
                  refine wpAnyH_ready (rs := [11]) (by kernel_rfl) (by simp) ?_
                  refine (AllReadyH.cons (by simp only [List.getElem?_toArray, List.getElem?_cons_succ, List.getElem?_cons_zero]; rfl) (fun K hK => ?_) AllReadyH.nil)
                  refine step_push_list (by rfl) _ _ (by rfl) B (R + 3) _ X (by rfl) HTq.out.lo nb (by rfl) (.slice p9 n9 c9, prn x (alls n1 n)) HB10.out O10.out HTq.out.size (by have := HXL.out; omega) ?_
                  intro g6 cap6 cx own6 grw6 hat6
                  have HS := Lib.hid (HTq.out.setO (y := (.slice p9 n9 c9, prn x (alls n1 n))) O10.out own6 grw6 hat6)
                  have HC := Lib.hid ((HTq.out.farO grw6 HAB.out).trans HC.out)
                  clear own6 grw6 hat6 HTq HB10 O10
                  rename World => cw
                  refine hK.out _ _ ⟨cell_ob5 HS.out.2.1 1 rfl, HC.out⟩ (fun hHeld => ?_)
                  clear hK K
                  try simp only [Act.put, List.setIfInBounds_toArray, List.set_cons_zero, List.set_cons_succ]
                  refine wpAnyH_take (i := 12) (v := ?_) (by simp only [List.getElem?_toArray, List.getElem?_cons_succ, List.getElem?_cons_zero]; rfl) (by kernel_rfl) (by kernel_rfl) (by kernel_rfl) (fun _ _ _ h => h) (Or.inl ⟨by rfl, ?_⟩) (by assumption) ?_
                  rotate_left
                  · intro w hSw
                    try dsimp only at hSw
                    go_simp
                    try with_reducible rfl
                  try simp only [Act.put, List.setIfInBounds_toArray, List.set_cons_zero, List.set_cons_succ]
                  refine wpAnyH_ready (rs := [13]) (by kernel_rfl) (by simp) ?_
                  refine (AllReadyH.cons (by simp only [List.getElem?_toArray, List.getElem?_cons_succ, List.getElem?_cons_zero]; rfl) (fun K hK => ?_) AllReadyH.nil)
                  have hc := cell_ob5 HS.out.1 1 rfl
                  have hf : cw.frozen? ⟨R + 2, 1, none⟩ = false := frozen_of_row _ _ _ _ _ HS.out.1
                  have HC2 := Lib.hid ((World.cell?_of_block (w := cw) (Below.heap_setCell cw ⟨R + 2, 1, none⟩ (.slice (some ⟨g6, 0, none⟩) (X.length + 1) cap6) _ (show (a.add k).block ≠ R + 2 by have := HAB.out; omega))).trans HC.out)
                  go_simp
                  clear hc hf
                  refine hK.out _ _ ⟨cell_ob5 HS.out.2.2.2.1 1 rfl, HC2.out⟩ (fun hHeld => ?_)
                  clear hK K
                  try simp only [Act.put, List.setIfInBounds_toArray, List.set_cons_zero, List.set_cons_succ]
                  refine wpAnyH_done (by kernel_rfl) ?_ _
                  refine NoPanic.normal ?_
                  clear hHeld
                  generalize cw.setCell ⟨R + 2, 1, none⟩ (.slice (some ⟨g6, 0, none⟩) (X.length + 1) cap6) = w8 at *
                  go_wp2_with fail
                  refine ⟨⟨k + 1, _, _, _, X ++ [(.slice p9 n9 c9, prn x (alls n1 n))], HLT.out.1, HLT.out.2, by first | rw [j1] | rfl, Lib.hid HS.out.2.2.2.2, Lib.hid (by rw [tbG_take HAT.out, List.map_append, HE.out]; rw [show k = n by rw [HN.out, HXL.out.1], show n1 = XM.length from HN1.out.1]; rfl)⟩, ?_⟩
                  first | (rw [j1]; exact meas25 HLT.out.2) | exact meas25 HLT.out.2
                · go_simp
                  refine (prn_to cw x HXB.out _ _ (JOwn.seen O8.out) (by rw [alls_len]; have := HN1.out; have := HN.out; have := HXL.out; omega)).mono ?_
                  rintro e cx ⟨v9, rfl, o9, b9⟩
                  obtain ⟨p9, n9, c9, rfl, hn9⟩ := o9.shape
                  have O9 := Lib.hid (JS.own (B := B) o9)
                  have HTq := Lib.hid (HTq.out.kb b9)
                  have HC := Lib.hid ((b9.cell (World.block_lt_of_cell? _ _ HC.out)).trans HC.out)
                  clear o9 b9 hn9
                  rename World => cw
                  go_wp2_with fail
                  refine hK.out _ _ ⟨HTq.out.c0.2.1, HC.out⟩ (fun hHeld => ?_)
                  clear hK K
                  try simp only [Act.put, List.setIfInBounds_toArray, List.set_cons_zero, List.set_cons_succ]
                  refine wpAnyH_ready (rs := [1, 10]) (by kernel_rfl) (by simp) ?_
                  refine (AllReadyH.cons (by simp only [List.getElem?_toArray, List.getElem?_cons_succ, List.getElem?_cons_zero]; rfl) (fun K hK => ?_) (AllReadyH.cons (by simp only [List.getElem?_toArray, List.getElem?_cons_succ, List.getElem?_cons_zero]; rfl) (fun K hK => ?_) AllReadyH.nil))
                  · have hc := HTq.out.c0.2.2.2
                    go_simp
                    clear hc
                    refine hK.out _ _ ⟨HTq.out.c0.2.1, HC.out⟩ (fun hHeld => ?_)
                    clear hK K
                    try simp only [Act.put, List.setIfInBounds_toArray, List.set_cons_zero, List.set_cons_succ]
                    refine wpAnyH_ready (rs := [10]) (by kernel_rfl) (by simp) ?_
                    refine (AllReadyH.cons (by simp only [List.getElem?_toArray, List.getElem?_cons_succ, List.getElem?_cons_zero]; rfl) (fun K hK => ?_) AllReadyH.nil)
                    refine step_build_list (y := .slice p9 n9 c9) (by rfl) (by rfl) (by rfl) (by simp [Act.eval]) ?_
                    have AL := (Below.refl cw.heap.size cw).alloc (Nat.le_refl _) (.cells #[.slice p9 n9 c9] 22)
                    have HB10 := Lib.hid (heap_alloc_last cw (.cells #[.slice p9 n9 c9] 22))
                    have O10 := Lib.hid (O9.out.kb AL)
                    have HTq := Lib.hid (HTq.out.kb AL)
                    have HC := Lib.hid ((AL.cell (World.block_lt_of_cell? _ _ HC.out)).trans HC.out)
                    clear AL
                    generalize cw.alloc (.cells #[.slice p9 n9 c9] 22) = cx at *
                    generalize cw.heap.size = nb at *
                    rename World => cw
                    refine hK.out _ _ ⟨HTq.out.c0.2.1, HC.out⟩ (fun hHeld => ?_)
                    clear hK K
                    try simp only [Act.put, List.setIfInBounds_toArray, List.set_cons_zero, List.set_cons_succ]
                    refine wpAnyH_ready (rs := [11]) (by kernel_rfl) (by simp) ?_
                    refine (AllReadyH.cons (by simp only [List.getElem?_toArray, List.getElem?_cons_succ, List.getElem?_cons_zero]; rfl) (fun K hK => ?_) AllReadyH.nil)
                    refine step_push_list (by rfl) _ _ (by rfl) B (R + 3) _ X (by rfl) HTq.out.lo nb (by rfl) (.slice p9 n9 c9, prn x (alls n1 n)) HB10.out O10.out HTq.out.size (by have := HXL.out; omega) ?_
                    intro g6 cap6 cx own6 grw6 hat6
                    have HS := Lib.hid (HTq.out.setO (y := (.slice p9 n9 c9, prn x (alls n1 n))) O10.out own6 grw6 hat6)
                    have HC := Lib.hid ((HTq.out.farO grw6 HAB.out).trans HC.out)
                    clear own6 grw6 hat6 HTq HB10 O10
                    rename World => cw
                    refine hK.out _ _ ⟨cell_ob5 HS.out.2.1 1 rfl, HC.out⟩ (fun hHeld => ?_)
                    clear hK K
                    try simp only [Act.put, List.setIfInBounds_toArray, List.set_cons_zero, List.set_cons_succ]
                    refine wpAnyH_take (i := 12) (v := ?_) (by simp only [List.getElem?_toArray, List.getElem?_cons_succ, List.getElem?_cons_zero]; rfl) (by kernel_rfl) (by kernel_rfl) (by kernel_rfl) (fun _ _ _ h => h) (Or.inl ⟨by rfl, ?_⟩) (by assumption) ?_
                    rotate_left
                    · intro w hSw
                      try dsimp only at hSw
                      go_simp
                      try with_reducible rfl
                    try simp only [Act.put, List.setIfInBounds_toArray, List.set_cons_zero, List.set_cons_succ]
                    refine wpAnyH_ready (rs := [13]) (by kernel_rfl) (by simp) ?_
                    refine (AllReadyH.cons (by simp only [List.getElem?_toArray, List.getElem?_cons_succ, List.getElem?_cons_zero]; rfl) (fun K hK => ?_) AllReadyH.nil)
                    have hc := cell_ob5 HS.out.1 1 rfl
                    have hf : cw.frozen? ⟨R + 2, 1, none⟩ = false := frozen_of_row _ _ _ _ _ HS.out.1
                    have HC2 := Lib.hid ((World.cell?_of_block (w := cw) (Below.heap_setCell cw ⟨R + 2, 1, none⟩ (.slice (some ⟨g6, 0, none⟩) (X.length + 1) cap6) _ (show (a.add k).block ≠ R + 2 by have := HAB.out; omega))).trans HC.out)
                    go_simp
                    clear hc hf
                    refine hK.out _ _ ⟨cell_ob5 HS.out.2.2.2.1 1 rfl, HC2.out⟩ (fun hHeld => ?_)
                    clear hK K
                    try simp only [Act.put, List.setIfInBounds_toArray, List.set_cons_zero, List.set_cons_succ]
                    refine wpAnyH_done (by kernel_rfl) ?_ _
                    refine NoPanic.normal ?_
                    clear hHeld
                    generalize cw.setCell ⟨R + 2, 1, none⟩ (.slice (some ⟨g6, 0, none⟩) (X.length + 1) cap6) = w8 at *
                    go_wp2_with fail
                    refine ⟨⟨k + 1, _, _, _, X ++ [(.slice p9 n9 c9, prn x (alls n1 n))], HLT.out.1, HLT.out.2, by first | rw [j1] | rfl, Lib.hid HS.out.2.2.2.2, Lib.hid (by rw [tbG_take HAT.out, List.map_append, HE.out]; rw [show k = n by rw [HN.out, HXL.out.1], show n1 = XM.length from HN1.out.1]; rfl)⟩, ?_⟩
                    first | (rw [j1]; exact meas25 HLT.out.2) | exact meas25 HLT.out.2
                  · refine step_build_list (y := .slice p9 n9 c9) (by rfl) (by rfl) (by rfl) (by simp [Act.eval]) ?_
                    have AL := (Below.refl cw.heap.size cw).alloc (Nat.le_refl _) (.cells #[.slice p9 n9 c9] 22)
                    have HB10 := Lib.hid (heap_alloc_last cw (.cells #[.slice p9 n9 c9] 22))
                    have O10 := Lib.hid (O9.out.kb AL)
                    have HTq := Lib.hid (HTq.out.kb AL)
                    have HC := Lib.hid ((AL.cell (World.block_lt_of_cell? _ _ HC.out)).trans HC.out)
                    clear AL
                    generalize cw.alloc (.cells #[.slice p9 n9 c9] 22) = cx at *
                    generalize cw.heap.size = nb at *
                    rename World => cw
                    refine hK.out _ _ ⟨HTq.out.c0.2.1, HC.out⟩ (fun hHeld => ?_)
                    clear hK K
                    try simp only [Act.put, List.setIfInBounds_toArray, List.set_cons_zero, List.set_cons_succ]
                    refine wpAnyH_ready (rs := [1]) (by kernel_rfl) (by simp) ?_
                    refine (AllReadyH.cons (by simp only [List.getElem?_toArray, List.getElem?_cons_succ, List.getElem?_cons_zero]; rfl) (fun K hK => ?_) AllReadyH.nil)
                    have hc := HTq.out.c0.2.2.2
                    go_simp
                    clear hc
                    refine hK.out _ _ ⟨HTq.out.c0.2.1, HC.out⟩ (fun hHeld => ?_)
                    clear hK K
                    try simp only [Act.put, List.setIfInBounds_toArray, List.set_cons_zero, List.set_cons_succ]
                    refine wpAnyH_ready (rs := [11]) (by kernel_rfl) (by simp) ?_
                    refine (AllReadyH.cons (by simp only [List.getElem?_toArray, List.getElem?_cons_succ, List.getElem?_cons_zero]; rfl) (fun K hK => ?_) AllReadyH.nil)
                    refine step_push_list (by rfl) _ _ (by rfl) B (R + 3) _ X (by rfl) HTq.out.lo nb (by rfl) (.slice p9 n9 c9, prn x (alls n1 n)) HB10.out O10.out HTq.out.size (by have := HXL.out; omega) ?_
                    intro g6 cap6 cx own6 grw6 hat6
                    have HS := Lib.hid (HTq.out.setO (y := (.slice p9 n9 c9, prn x (alls n1 n))) O10.out own6 grw6 hat6)
                    have HC := Lib.hid ((HTq.out.farO grw6 HAB.out).trans HC.out)
                    clear own6 grw6 hat6 HTq HB10 O10
                    rename World => cw
                    refine hK.out _ _ ⟨cell_ob5 HS.out.2.1 1 rfl, HC.out⟩ (fun hHeld => ?_)
                    clear hK K
                    try simp only [Act.put, List.setIfInBounds_toArray, List.set_cons_zero, List.set_cons_succ]
                    refine wpAnyH_take (i := 12) (v := ?_) (by simp only [List.getElem?_toArray, List.getElem?_cons_succ, List.getElem?_cons_zero]; rfl) (by kernel_rfl) (by kernel_rfl) (by kernel_rfl) (fun _ _ _ h => h) (Or.inl ⟨by rfl, ?_⟩) (by assumption) ?_
                    rotate_left
                    · intro w hSw
                      try dsimp only at hSw
                      go_simp
                      try with_reducible rfl
                    try simp only [Act.put, List.setIfInBounds_toArray, List.set_cons_zero, List.set_cons_succ]
                    refine wpAnyH_ready (rs := [13]) (by kernel_rfl) (by simp) ?_
                    refine (AllReadyH.cons (by simp only [List.getElem?_toArray, List.getElem?_cons_succ, List.getElem?_cons_zero]; rfl) (fun K hK => ?_) AllReadyH.nil)
                    have hc := cell_ob5 HS.out.1 1 rfl
                    have hf : cw.frozen? ⟨R + 2, 1, none⟩ = false := frozen_of_row _ _ _ _ _ HS.out.1
                    have HC2 := Lib.hid ((World.cell?_of_block (w := cw) (Below.heap_setCell cw ⟨R + 2, 1, none⟩ (.slice (some ⟨g6, 0, none⟩) (X.length + 1) cap6) _ (show (a.add k).block ≠ R + 2 by have := HAB.out; omega))).trans HC.out)
                    go_simp
                    clear hc hf
                    refine hK.out _ _ ⟨cell_ob5 HS.out.2.2.2.1 1 rfl, HC2.out⟩ (fun hHeld => ?_)
                    clear hK K
                    try simp only [Act.put, List.setIfInBounds_toArray, List.set_cons_zero, List.set_cons_succ]
                    refine wpAnyH_done (by kernel_rfl) ?_ _
                    refine NoPanic.normal ?_
                    clear hHeld
                    generalize cw.setCell ⟨R + 2, 1, none⟩ (.slice (some ⟨g6, 0, none⟩) (X.length + 1) cap6) = w8 at *
                    go_wp2_with fail
                    refine ⟨⟨k + 1, _, _, _, X ++ [(.slice p9 n9 c9, prn x (alls n1 n))], HLT.out.1, HLT.out.2, by first | rw [j1] | rfl, Lib.hid HS.out.2.2.2.2, Lib.hid (by rw [tbG_take HAT.out, List.map_append, HE.out]; rw [show k = n by rw [HN.out, HXL.out.1], show n1 = XM.length from HN1.out.1]; rfl)⟩, ?_⟩
                    first | (rw [j1]; exact meas25 HLT.out.2) | exact meas25 HLT.out.2
          · have HCN := Lib.hid (take25 HY.out.1 hk hk25 hlt)
            by_cases hc1 : k < no
            · have hc2 : ¬ k < 25 := fun h => hlt ⟨hc1, h⟩
              have d1 : (k : Int) < no := by omega
              have d2 : ¬ (k : Int) < 25 := by omega
              clear hlt hk hk25 hc1 hc2
              have hc2 := HT.out.c0.2.2.1
              have hc3 := HT.out.c0.2.2.2
              have hfz := frozen_of_row wr (R + 1) 0 _ _ HT.out.rcell
              have hfz1 := frozen_of_row wr (R + 1) 1 _ _ HT.out.rcell
              have hrc0 := cell_ob5 HT.out.rcell 0 rfl
              have hrc1 := cell_ob5 HT.out.rcell 1 rfl
              have HFIN := Lib.hid HT.out.fin
              go_wp2_with fail
              refine bodyPost_ret (results_cell_row rfl _ _ (R + 1) _ _ (0, 0) _ rfl HFIN.out.1 Try.underlying41 rfl (by kernel_rfl)) rfl ?_
              refine ⟨p1, n1, c1, p, n, c, rfl, XM, HFIN.out.2.1, X, HFIN.out.2.2.1, HEM.out, ?_, ?_⟩
              · rw [← HCN.out]; exact HE.out
              · exact HFIN.out.2.2.2
            · have d1 : ¬ (k : Int) < no := by omega
              clear hlt hk hk25 hc1
              have hc2 := HT.out.c0.2.2.1
              have hc3 := HT.out.c0.2.2.2
              have hfz := frozen_of_row wr (R + 1) 0 _ _ HT.out.rcell
              have hfz1 := frozen_of_row wr (R + 1) 1 _ _ HT.out.rcell
              have hrc0 := cell_ob5 HT.out.rcell 0 rfl
              have hrc1 := cell_ob5 HT.out.rcell 1 rfl
              have HFIN := Lib.hid HT.out.fin
              go_wp2_with fail
              refine bodyPost_ret (results_cell_row rfl _ _ (R + 1) _ _ (0, 0) _ rfl HFIN.out.1 Try.underlying41 rfl (by kernel_rfl)) rfl ?_
              refine ⟨p1, n1, c1, p, n, c, rfl, XM, HFIN.out.2.1, X, HFIN.out.2.2.1, HEM.out, ?_, ?_⟩
              · rw [← HCN.out]; exact HE.out
              · exact HFIN.out.2.2.2

      · have d1 : ¬ (k : Int) < nm := by omega
        clear hlt hk hk25 hc1
        have HTM := Lib.hid HT.out
        have HEM : Hid (X.map (·.2) = tbG (fun j => alls j 0) (xs.take 25)) := Lib.hid (by rw [← HCN.out]; exact HE.out)
        have HXM : Hid (X.length ≤ 25) := Lib.hid (by have := congrArg List.length HEM.out; rw [List.length_map, tbG_len, List.length_take] at this; omega)
        go_wp2_with fail
        clear HT HE HCN hr0
        generalize X = XM at *
        generalize p = p1 at *
        generalize n = n1 at *
        generalize c = c1 at *
        go_loopw [5] (fun i wr => ∃ (k : Nat) (p : Option Addr) (n c : Nat) (X : List (Value × List Int)), k ≤ no ∧ k ≤ 25 ∧ i = .int .i64 k ∧ Hid (TI w wr B R (.slice pm nm cm) (.slice po no co) p1 n1 c1 p n c XM X) ∧ Hid (X.map (·.2) = tbG (alls XM.length) (ys.take k))) (fun i _ => 25 - (intOf i).toNat)
        case atStart => exact ⟨0, none, 0, 0, [], Nat.zero_le _, Nat.zero_le _, rfl, HTM, Lib.hid rfl⟩
        case round =>
          clear HTM
          obtain ⟨k, p, n, c, X, hk, hk25, rfl, HT, HE⟩ := hrel
          have hr0 := HT.out.c0.2.1
          by_cases hlt : k < no ∧ k < 25
          · obtain ⟨hlt1, hlt2⟩ := hlt
            have j1 : wrap64 ((k : Int) + 1) = ((k + 1 : Nat) : Int) := by unfold wrap64; omega
            have j2 : (0 : Int) ≤ k := Int.natCast_nonneg _
            have j3 : (k : Int) < no := by omega
            have j4 : (k : Int) < 25 := by omega
            obtain ⟨a, x, rfl, hat, hc, hx1, hx2⟩ := HY.out.at (HT.out.at_ ▸ HT.out.bel) hlt1
            have HAT := Lib.hid hat
            have HXB := Lib.hid (And.intro hx1 hx2)
            have HLT := Lib.hid (And.intro hlt1 hlt2)
            have bq : Below wr.heap.size wr wr.drew := drew_below wr
            have HTq := Lib.hid (HT.out.kb bq)
            have hcq := (bq.cell (World.block_lt_of_cell? _ _ hc)).trans hc
            have HC := Lib.hid hcq
            have HAB : Hid ((a.add k).block < R) := Lib.hid (by
              obtain ⟨_, _, e, _, g⟩ := id HY.out.2.1
              obtain ⟨a', e2, g2⟩ := g k x hat
              injection e with e _ _
              rw [← e] at e2
              injection e2 with e2
              subst e2
              rw [HR.out]
              exact World.block_lt_of_cell? _ _ g2)
            clear hat hx1 hx2 hlt1 hlt2 hk hk25 bq hc HT
            go_wp2_with fail
            try simp only [List.append]
            refine wp_region_noPanic ?_
            refine wp_region_held_drew (S := (fun V => V.cell? ⟨R, 1, none⟩ = some (.slice (some a) no co) ∧ V.cell? (a.add k) = some (.int .i64 x))) (by kernel_rfl) ⟨HTq.out.c0.2.1, hcq⟩ (fun hHeld => ?_)
            clear hcq hr0
            generalize wr.drew = cw at *
            have HN : Hid (n = X.length) := Lib.hid (by obtain ⟨_, _, _, e, h⟩ := HTq.out.lo.shape; injection e with _ e _; rw [e]; exact h)
            have HXL : Hid (X.length = k ∧ k ≤ 25) := Lib.hid ⟨by have := congrArg List.length HE.out; rw [List.length_map, tbG_len, List.length_take, Nat.min_eq_left (Nat.le_of_lt (List.getElem?_eq_some_iff.1 HAT.out).1)] at this; exact this, Nat.le_of_lt HLT.out.2⟩
            have HN1 := Lib.hid (And.intro (show n1 = XM.length by obtain ⟨_, _, _, e, h⟩ := HTq.out.lm.shape; injection e with _ e _; rw [e]; exact h) HXM.out)
            refine wpAnyH_take (i := 0) (v := ?_) (by simp only [List.getElem?_toArray, List.getElem?_cons_zero]; rfl) (by kernel_rfl) (by kernel_rfl) (by kernel_rfl) (fun _ _ _ h => h) (Or.inl ⟨by rfl, ?_⟩) (by assumption) ?_
            rotate_left
            · intro w hSw
              try dsimp only at hSw
              go_simp
              try with_reducible rfl
            try simp only [Act.put, List.setIfInBounds_toArray, List.set_cons_zero, List.set_cons_succ]
            refine wpAnyH_take (i := 2) (v := ?_) (by simp only [List.getElem?_toArray, List.getElem?_cons_succ, List.getElem?_cons_zero]; rfl) (by kernel_rfl) (by kernel_rfl) (by kernel_rfl) (fun _ _ _ h => h) (Or.inl ⟨by rfl, ?_⟩) (by assumption) ?_
            rotate_left
            · intro w hSw
              try dsimp only at hSw
              go_simp
              try with_reducible rfl
            try simp only [Act.put, List.setIfInBounds_toArray, List.set_cons_zero, List.set_cons_succ]
            refine wpAnyH_take (i := 3) (v := ?_) (by simp only [List.getElem?_toArray, List.getElem?_cons_succ, List.getElem?_cons_zero]; rfl) (by kernel_rfl) (by kernel_rfl) (by kernel_rfl) (fun _ _ _ h => h) (Or.inl ⟨by rfl, ?_⟩) (by assumption) ?_
            rotate_left
            · intro w hSw
              try dsimp only at hSw
              go_simp
              try with_reducible rfl
            try simp only [Act.put, List.setIfInBounds_toArray, List.set_cons_zero, List.set_cons_succ]
            refine wpAnyH_take (i := 4) (v := ?_) (by simp only [List.getElem?_toArray, List.getElem?_cons_succ, List.getElem?_cons_zero]; rfl) (by kernel_rfl) (by kernel_rfl) (by kernel_rfl) (fun _ _ _ h => h) (Or.inl ⟨by rfl, ?_⟩) (by assumption) ?_
            rotate_left
            · intro w hSw
              try dsimp only at hSw
              go_simp
              try with_reducible rfl
            try simp only [Act.put, List.setIfInBounds_toArray, List.set_cons_zero, List.set_cons_succ]
            refine wpAnyH_take (i := 5) (v := ?_) (by simp only [List.getElem?_toArray, List.getElem?_cons_succ, List.getElem?_cons_zero]; rfl) (by kernel_rfl) (by kernel_rfl) (by kernel_rfl) (fun _ _ _ h => h) (Or.inl ⟨by rfl, ?_⟩) (by assumption) ?_
            rotate_left
            · intro w hSw
              try dsimp only at hSw
              go_simp
              try with_reducible rfl
            try simp only [Act.put, List.setIfInBounds_toArray, List.set_cons_zero, List.set_cons_succ]
            refine wpAnyH_take (i := 6) (v := ?_) (by simp only [List.getElem?_toArray, List.getElem?_cons_succ, List.getElem?_cons_zero]; rfl) (by kernel_rfl) (by kernel_rfl) (by kernel_rfl) (fun _ _ _ h => h) (Or.inl ⟨by rfl, ?_⟩) (by assumption) ?_
            rotate_left
            · intro w hSw
              try dsimp only at hSw
              go_simp
              try with_reducible rfl
            try simp only [Act.put, List.setIfInBounds_toArray, List.set_cons_zero, List.set_cons_succ]
            refine wpAnyH_ready (rs := [1, 7]) (by kernel_rfl) (by simp) ?_
            refine (AllReadyH.cons (by simp only [List.getElem?_toArray, List.getElem?_cons_succ, List.getElem?_cons_zero]; rfl) (fun K hK => ?_) (AllReadyH.cons (by simp only [List.getElem?_toArray, List.getElem?_cons_succ, List.getElem?_cons_zero]; rfl) (fun K hK => ?_) AllReadyH.nil))
            · have hc := HTq.out.c0.2.2.2
              go_simp
              clear hc
              refine hK.out _ _ ⟨HTq.out.c0.2.1, HC.out⟩ (fun hHeld => ?_)
              clear hK K
              try simp only [Act.put, List.setIfInBounds_toArray, List.set_cons_zero, List.set_cons_succ]
              refine wpAnyH_ready (rs := [7]) (by kernel_rfl) (by simp) ?_
              refine (AllReadyH.cons (by simp only [List.getElem?_toArray, List.getElem?_cons_succ, List.getElem?_cons_zero]; rfl) (fun K hK => ?_) AllReadyH.nil)
              have hc := HTq.out.c0.2.2.1
              have hd := HTq.out.c0.2.2.2
              go_simp
              clear hc hd
              refine hK.out _ _ ⟨HTq.out.c0.2.1, HC.out⟩ (fun hHeld => ?_)
              clear hK K
              try simp only [Act.put, List.setIfInBounds_toArray, List.set_cons_zero, List.set_cons_succ]
              refine wpAnyH_ready (rs := [8]) (by kernel_rfl) (by simp) ?_
              refine (AllReadyH.cons (by simp only [List.getElem?_toArray, List.getElem?_cons_succ, List.getElem?_cons_zero]; rfl) (fun K hK => ?_) AllReadyH.nil)
              go_simp
              refine (all_to cw p1 p n1 c1 n c (by have := HN1.out; omega) (by have := HN.out; have := HXL.out; omega)).mono ?_
              rintro e cx ⟨v8, rfl, o8, b8⟩
              obtain ⟨p8, n8, c8, rfl, hn8⟩ := o8.shape
              have O8 := Lib.hid o8
              have HTq := Lib.hid (HTq.out.kb b8)
              have HC := Lib.hid ((b8.cell (World.block_lt_of_cell? _ _ HC.out)).trans HC.out)
              clear o8 b8 hn8
              rename World => cw
              go_wp2_with fail
              refine hK.out _ _ ⟨HTq.out.c0.2.1, HC.out⟩ (fun hHeld => ?_)
              clear hK K
              try simp only [Act.put, List.setIfInBounds_toArray, List.set_cons_zero, List.set_cons_succ]
              refine wpAnyH_ready (rs := [9]) (by kernel_rfl) (by simp) ?_
              refine (AllReadyH.cons (by simp only [List.getElem?_toArray, List.getElem?_cons_succ, List.getElem?_cons_zero]; rfl) (fun K hK => ?_) AllReadyH.nil)
              go_simp
              refine (prn_to cw x HXB.out _ _ (JOwn.seen O8.out) (by rw [alls_len]; have := HN1.out; have := HN.out; have := HXL.out; omega)).mono ?_
              rintro e cx ⟨v9, rfl, o9, b9⟩
              obtain ⟨p9, n9, c9, rfl, hn9⟩ := o9.shape
              have O9 := Lib.hid (JS.own (B := B) o9)
              have HTq := Lib.hid (HTq.out.kb b9)
              have HC := Lib.hid ((b9.cell (World.block_lt_of_cell? _ _ HC.out)).trans HC.out)
              clear o9 b9 hn9
              rename World => cw
              go_wp2_with fail
              refine hK.out _ _ ⟨HTq.out.c0.2.1, HC.out⟩ (fun hHeld => ?_)
              clear hK K
              try simp only [Act.put, List.setIfInBounds_toArray, List.set_cons_zero, List.set_cons_succ]
              refine wpAnyH_ready (rs := [10]) (by kernel_rfl) (by simp) ?_
              refine (AllReadyH.cons (by simp only [List.getElem?_toArray, List.getElem?_cons_succ, List.getElem?_cons_zero]; rfl) (fun K hK => ?_) AllReadyH.nil)
              refine step_build_list (y := .slice p9 n9 c9) (by rfl) (by rfl) (by rfl) (by simp [Act.eval]) ?_
              have AL := (Below.refl cw.heap.size cw).alloc (Nat.le_refl _) (.cells #[.slice p9 n9 c9] 22)
              have HB10 := Lib.hid (heap_alloc_last cw (.cells #[.slice p9 n9 c9] 22))
              have O10 := Lib.hid (O9.out.kb AL)
              have HTq := Lib.hid (HTq.out.kb AL)
              have HC := Lib.hid ((AL.cell (World.block_lt_of_cell? _ _ HC.out)).trans HC.out)
              clear AL
              generalize cw.alloc (.cells #[.slice p9 n9 c9] 22) = cx at *
              generalize cw.heap.size = nb at *
              rename World => cw
              refine hK.out _ _ ⟨HTq.out.c0.2.1, HC.out⟩ (fun hHeld => ?_)
              clear hK K
              try simp only [Act.put, List.setIfInBounds_toArray, List.set_cons_zero, List.set_cons_succ]
              refine wpAnyH_ready (rs := [11]) (by kernel_rfl) (by simp) ?_
              refine (AllReadyH.cons (by simp only [List.getElem?_toArray, List.getElem?_cons_succ, List.getElem?_cons_zero]; rfl) (fun K hK => ?_) AllReadyH.nil)
              refine step_push_list (by rfl) _ _ (by rfl) B (R + 3) _ X (by rfl) HTq.out.lo nb (by rfl) (.slice p9 n9 c9, prn x (alls n1 n)) HB10.out O10.out HTq.out.size (by have := HXL.out; omega) ?_
              intro g6 cap6 cx own6 grw6 hat6
              have HS := Lib.hid (HTq.out.setO (y := (.slice p9 n9 c9, prn x (alls n1 n))) O10.out own6 grw6 hat6)
              have HC := Lib.hid ((HTq.out.farO grw6 HAB.out).trans HC.out)
              clear own6 grw6 hat6 HTq HB10 O10
              rename World => cw
              refine hK.out _ _ ⟨cell_ob5 HS.out.2.1 1 rfl, HC.out⟩ (fun hHeld => ?_)
              clear hK K
              try simp only [Act.put, List.setIfInBounds_toArray, List.set_cons_zero, List.set_cons_succ]
              refine wpAnyH_take (i := 12) (v := ?_) (by simp only [List.getElem?_toArray, List.getElem?_cons_succ, List.getElem?_cons_zero]; rfl) (by kernel_rfl) (by kernel_rfl) (by kernel_rfl) (fun _ _ _ h => h) (Or.inl ⟨by rfl, ?_⟩) (by assumption) ?_
              rotate_left
              · intro w hSw
                try dsimp only at hSw
                go_simp
                try with_reducible rfl
              try simp only [Act.put, List.setIfInBounds_toArray, List.set_cons_zero, List.set_cons_succ]
              refine wpAnyH_ready (rs := [13]) (by kernel_rfl) (by simp) ?_
              refine (AllReadyH.cons (by simp only [List.getElem?_toArray, List.getElem?_cons_succ, List.getElem?_cons_zero]; rfl) (fun K hK => ?_) AllReadyH.nil)
              have hc := cell_ob5 HS.out.1 1 rfl
              have hf : cw.frozen? ⟨R + 2, 1, none⟩ = false := frozen_of_row _ _ _ _ _ HS.out.1
              have HC2 := Lib.hid ((World.cell?_of_block (w := cw) (Below.heap_setCell cw ⟨R + 2, 1, none⟩ (.slice (some ⟨g6, 0, none⟩) (X.length + 1) cap6) _ (show (a.add k).block ≠ R + 2 by have := HAB.out; omega))).trans HC.out)
              go_simp
              clear hc hf
              refine hK.out _ _ ⟨cell_ob5 HS.out.2.2.2.1 1 rfl, HC2.out⟩ (fun hHeld => ?_)
              clear hK K
              try simp only [Act.put, List.setIfInBounds_toArray, List.set_cons_zero, List.set_cons_succ]
              refine wpAnyH_done (by kernel_rfl) ?_ _
              refine NoPanic.normal ?_
              clear hHeld
              generalize cw.setCell ⟨R + 2, 1, none⟩ (.slice (some ⟨g6, 0, none⟩) (X.length + 1) cap6) = w8 at *
              go_wp2_with fail
              refine ⟨⟨k + 1, _, _, _, X ++ [(.slice p9 n9 c9, prn x (alls n1 n))], HLT.out.1, HLT.out.2, by first | rw [j1] | rfl, Lib.hid HS.out.2.2.2.2, Lib.hid (by rw [tbG_take HAT.out, List.map_append, HE.out]; rw [show k = n by rw [HN.out, HXL.out.1], show n1 = XM.length from HN1.out.1]; rfl)⟩, ?_⟩
              first | (rw [j1]; exact meas25 HLT.out.2) | exact meas25 HLT.out.2
            · have hc := HTq.out.c0.2.2.1
              have hd := HTq.out.c0.2.2.2
              go_simp
              clear hc hd
              refine hK.out _ _ ⟨HTq.out.c0.2.1, HC.out⟩ (fun hHeld => ?_)
              clear hK K
              try simp only [Act.put, List.setIfInBounds_toArray, List.set_cons_zero, List.set_cons_succ]
              refine wpAnyH_ready (rs := [1, 8]) (by kernel_rfl) (by simp) ?_
              refine (AllReadyH.cons (by simp only [List.getElem?_toArray, List.getElem?_cons_succ, List.getElem?_cons_zero]; rfl) (fun K hK => ?_) (AllReadyH.cons (by simp only [List.getElem?_toArray, List.getElem?_cons_succ, List.getElem?_cons_zero]; rfl) (fun K hK => ?_) AllReadyH.nil))
              · have hc := HTq.out.c0.2.2.2
                go_simp
                clear hc
                refine hK.out _ _ ⟨HTq.out.c0.2.1, HC.out⟩ (fun hHeld => ?_)
                clear hK K
                try simp only [Act.put, List.setIfInBounds_toArray, List.set_cons_zero, List.set_cons_succ]
                refine wpAnyH_ready (rs := [8]) (by kernel_rfl) (by simp) ?_
                refine (AllReadyH.cons (by simp only [List.getElem?_toArray, List.getElem?_cons_succ, List.getElem?_cons_zero]; rfl) (fun K hK => ?_) AllReadyH.nil)
                go_simp
                refine (all_to cw p1 p n1 c1 n c (by have := HN1.out; omega) (by have := HN.out; have := HXL.out; omega)).mono ?_
                rintro e cx ⟨v8, rfl, o8, b8⟩
                obtain ⟨p8, n8, c8, rfl, hn8⟩ := o8.shape
                have O8 := Lib.hid o8
                have HTq := Lib.hid (HTq.out.kb b8)
                have HC := Lib.hid ((b8.cell (World.block_lt_of_cell? _ _ HC.out)).trans HC.out)
                clear o8 b8 hn8
                rename World => cw
                go_wp2_with fail
                refine hK.out _ _ ⟨HTq.out.c0.2.1, HC.out⟩ (fun hHeld => ?_)
                clear hK K
                try simp only [Act.put, List.setIfInBounds_toArray, List.set_cons_zero, List.set_cons_succ]
                refine wpAnyH_ready (rs := [9]) (by kernel_rfl) (by simp) ?_
                refine (AllReadyH.cons (by simp only [List.getElem?_toArray, List.getElem?_cons_succ, List.getElem?_cons_zero]; rfl) (fun K hK => ?_) AllReadyH.nil)
                go_simp
                refine (prn_to cw x HXB.out _ _ (JOwn.seen O8.out) (by rw [alls_len]; have := HN1.out; have := HN.out; have := HXL.out; omega)).mono ?_
                rintro e cx ⟨v9, rfl, o9, b9⟩
                obtain ⟨p9, n9, c9, rfl, hn9⟩ := o9.shape
                have O9 := Lib.hid (JS.own (B := B) o9)
                have HTq := Lib.hid (HTq.out.kb b9)
                have HC := Lib.hid ((b9.cell (World.block_lt_of_cell? _ _ HC.out)).trans HC.out)
                clear o9 b9 hn9
                rename World => cw
                go_wp2_with fail
                refine hK.out _ _ ⟨HTq.out.c0.2.1, HC.out⟩ (fun hHeld => ?_)
                clear hK K
                try simp only [Act.put, List.setIfInBounds_toArray, List.set_cons_zero, List.set_cons_succ]
                refine wpAnyH_ready (rs := [10]) (by kernel_rfl) (by simp) ?_
                refine (AllReadyH.cons (by simp only [List.getElem?_toArray, List.getElem?_cons_succ, List.getElem?_cons_zero]; rfl) (fun K hK => ?_) AllReadyH.nil)
                refine step_build_list (y := .slice p9 n9 c9) (by rfl) (by rfl) (by rfl) (by simp [Act.eval]) ?_
                have AL := (Below.refl cw.heap.size cw).alloc (Nat.le_refl _) (.cells #[.slice p9 n9 c9] 22)
                have HB10 := Lib.hid (heap_alloc_last cw (.cells #[.slice p9 n9 c9] 22))
                have O10 := Lib.hid (O9.out.kb AL)
                have HTq := Lib.hid (HTq.out.kb AL)
                have HC := Lib.hid ((AL.cell (World.block_lt_of_cell? _ _ HC.out)).trans HC.out)
                clear AL
                generalize cw.alloc (.cells #[.slice p9 n9 c9] 22) = cx at *
                generalize cw.heap.size = nb at *
                rename World => cw
                refine hK.out _ _ ⟨HTq.out.c0.2.1, HC.out⟩ (fun hHeld => ?_)
                clear hK K
                try simp only [Act.put, List.setIfInBounds_toArray, List.set_cons_zero, List.set_cons_succ]
                refine wpAnyH_ready (rs := [11]) (by kernel_rfl) (by simp) ?_
                refine (AllReadyH.cons (by simp only [List.getElem?_toArray, List.getElem?_cons_succ, List.getElem?_cons_zero]; rfl) (fun K hK => ?_) AllReadyH.nil)
                refine step_push_list (by rfl) _ _ (by rfl) B (R + 3) _ X (by rfl) HTq.out.lo nb (by rfl) (.slice p9 n9 c9, prn x (alls n1 n)) HB10.out O10.out HTq.out.size (by have := HXL.out; omega) ?_
                intro g6 cap6 cx own6 grw6 hat6
                have HS := Lib.hid (HTq.out.setO (y := (.slice p9 n9 c9, prn x (alls n1 n))) O10.out own6 grw6 hat6)
                have HC := Lib.hid ((HTq.out.farO grw6 HAB.out).trans HC.out)
                clear own6 grw6 hat6 HTq HB10 O10
                rename World => cw
                refine hK.out _ _ ⟨cell_ob5 HS.out.2.1 1 rfl, HC.out⟩ (fun hHeld => ?_)
                clear hK K
                try simp only [Act.put, List.setIfInBounds_toArray, List.set_cons_zero, List.set_cons_succ]
                refine wpAnyH_take (i := 12) (v := ?_) (by simp only [List.getElem?_toArray, List.getElem?_cons_succ, List.getElem?_cons_zero]; rfl) (by kernel_rfl) (by kernel_rfl) (by kernel_rfl) (fun _ _ _ h => h) (Or.inl ⟨by rfl, ?_⟩) (by assumption) ?_
                rotate_left
                · intro w hSw
                  try dsimp only at hSw
                  go_simp
                  try with_reducible rfl
                try simp only [Act.put, List.setIfInBounds_toArray, List.set_cons_zero, List.set_cons_succ]
                refine wpAnyH_ready (rs := [13]) (by kernel_rfl) (by simp) ?_
                refine (AllReadyH.cons (by simp only [List.getElem?_toArray, List.getElem?_cons_succ, List.getElem?_cons_zero]; rfl) (fun K hK => ?_) AllReadyH.nil)
                have hc := cell_ob5 HS.out.1 1 rfl
                have hf : cw.frozen? ⟨R + 2, 1, none⟩ = false := frozen_of_row _ _ _ _ _ HS.out.1
                have HC2 := Lib.hid ((World.cell?_of_block (w := cw) (Below.heap_setCell cw ⟨R + 2, 1, none⟩ (.slice (some ⟨g6, 0, none⟩) (X.length + 1) cap6) _ (show (a.add k).block ≠ R + 2 by have := HAB.out; omega))).trans HC.out)
                go_simp
                clear hc hf
                refine hK.out _ _ ⟨cell_ob5 HS.out.2.2.2.1 1 rfl, HC2.out⟩ (fun hHeld => ?_)
                clear hK K
                try simp only [Act.put, List.setIfInBounds_toArray, List.set_cons_zero, List.set_cons_succ]
                refine wpAnyH_done (by kernel_rfl) ?_ _
                refine NoPanic.normal ?_
                clear hHeld
                generalize cw.setCell ⟨R + 2, 1, none⟩ (.slice (some ⟨g6, 0, none⟩) (X.length + 1) cap6) = w8 at *
                go_wp2_with fail
                refine ⟨⟨k + 1, _, _, _, X ++ [(.slice p9 n9 c9, prn x (alls n1 n))], HLT.out.1, HLT.out.2, by first | rw [j1] | rfl, Lib.hid HS.out.2.2.2.2, Lib.hid (by rw [tbG_take HAT.out, List.map_append, HE.out]; rw [show k = n by rw [HN.out, HXL.out.1], show n1 = XM.length from HN1.out.1]; rfl)⟩, ?_⟩
                first | (rw [j1]; exact meas25 HLT.out.2) | exact meas25 HLT.out.2
              · go_simp
                refine (all_to cw p1 p n1 c1 n c (by have := HN1.out; omega) (by have := HN.out; have := HXL.out; omega)).mono ?_
                rintro e cx ⟨v8, rfl, o8, b8⟩
                obtain ⟨p8, n8, c8, rfl, hn8⟩ := o8.shape
                have O8 := Lib.hid o8
                have HTq := Lib.hid (HTq.out.kb b8)
                have HC := Lib.hid ((b8.cell (World.block_lt_of_cell? _ _ HC.out)).trans HC.out)
                clear o8 b8 hn8
                rename World => cw
                go_wp2_with fail
                refine hK.out _ _ ⟨HTq.out.c0.2.1, HC.out⟩ (fun hHeld => ?_)
                clear hK K
                try simp only [Act.put, List.setIfInBounds_toArray, List.set_cons_zero, List.set_cons_succ]
                refine wpAnyH_ready (rs := [1, 9]) (by kernel_rfl) (by simp) ?_
                refine (AllReadyH.cons (by simp only [List.getElem?_toArray, List.getElem?_cons_succ, List.getElem?_cons_zero]; rfl) (fun K hK => ?_) (AllReadyH.cons (by simp only [List.getElem?_toArray, List.getElem?_cons_succ, List.getElem?_cons_zero]; rfl) (fun K hK => ?_) AllReadyH.nil))
                · have hc := HTq.out.c0.2.2.2
                  go_simp
                  clear hc
                  refine hK.out _ _ ⟨HTq.out.c0.2.1, HC.out⟩ (fun hHeld => ?_)
                  clear hK K
                  try simp only [Act.put, List.setIfInBounds_toArray, List.set_cons_zero, List.set_cons_succ]
                  refine wpAnyH_ready (rs := [9]) (by kernel_rfl) (by simp) ?_
                  refine (AllReadyH.cons (by simp only [List.getElem?_toArray, List.getElem?_cons_succ, List.getElem?_cons_zero]; rfl) (fun K hK => ?_) AllReadyH.nil)
                  go_simp
                  refine (prn_to cw x HXB.out _ _ (JOwn.seen O8.out) (by rw [alls_len]; have := HN1.out; have := HN.out; have := HXL.out; omega)).mono ?_
                  rintro e cx ⟨v9, rfl, o9, b9⟩
                  obtain ⟨p9, n9, c9, rfl, hn9⟩ := o9.shape
                  have O9 := Lib.hid (JS.own (B := B) o9)
                  have HTq := Lib.hid (HTq.out.kb b9)
                  have HC := Lib.hid ((b9.cell (World.block_lt_of_cell? _ _ HC.out)).trans HC.out)
                  clear o9 b9 hn9
                  rename World => cw
                  go_wp2_with fail
                  refine hK.out _ _ ⟨HTq.out.c0.2.1, HC.out⟩ (fun hHeld => ?_)
                  clear hK K
                  try simp only [Act.put, List.setIfInBounds_toArray, List.set_cons_zero, List.set_cons_succ]
                  refine wpAnyH_ready (rs := [10]) (by kernel_rfl) (by simp) ?_
                  refine (AllReadyH.cons (by simp only [List.getElem?_toArray, List.getElem?_cons_succ, List.getElem?_cons_zero]; rfl) (fun K hK => ?_) AllReadyH.nil)
                  refine step_build_list (y := .slice p9 n9 c9) (by rfl) (by rfl) (by rfl) (by simp [Act.eval]) ?_
                  have AL := (Below.refl cw.heap.size cw).alloc (Nat.le_refl _) (.cells #[.slice p9 n9 c9] 22)
                  have HB10 := Lib.hid (heap_alloc_last cw (.cells #[.slice p9 n9 c9] 22))
                  have O10 := Lib.hid (O9.out.kb AL)
                  have HTq := Lib.hid (HTq.out.kb AL)
                  have HC := Lib.hid ((AL.cell (World.block_lt_of_cell? _ _ HC.out)).trans HC.out)
                  clear AL
                  generalize cw.alloc (.cells #[.slice p9 n9 c9] 22) = cx at *
                  generalize cw.heap.size = nb at *
                  rename World => cw
                  refine hK.out _ _ ⟨HTq.out.c0.2.1, HC.out⟩ (fun hHeld => ?_)
                  clear hK K
                  try simp only [Act.put, List.setIfInBounds_toArray, List.set_cons_zero, List.set_cons_succ]
                  refine wpAnyH_ready (rs := [11]) (by kernel_rfl) (by simp) ?_
                  refine (AllReadyH.cons (by simp only [List.getElem?_toArray, List.getElem?_cons_succ, List.getElem?_cons_zero]; rfl) (fun K hK => ?_) AllReadyH.nil)
                  refine step_push_list (by rfl) _ _ (by rfl) B (R + 3) _ X (by rfl) HTq.out.lo nb (by rfl) (.slice p9 n9 c9, prn x (alls n1 n)) HB10.out O10.out HTq.out.size (by have := HXL.out; omega) ?_
                  intro g6 cap6 cx own6 grw6 hat6
                  have HS := Lib.hid (HTq.out.setO (y := (.slice p9 n9 c9, prn x (alls n1 n))) O10.out own6 grw6 hat6)
                  have HC := Lib.hid ((HTq.out.farO grw6 HAB.out).trans HC.out)
                  clear own6 grw6 hat6 HTq HB10 O10
                  rename World => cw
                  refine hK.out _ _ ⟨cell_ob5 HS.out.2.1 1 rfl, HC.out⟩ (fun hHeld => ?_)
                  clear hK K
                  try simp only [Act.put, List.setIfInBounds_toArray, List.set_cons_zero, List.set_cons_succ]
                  refine wpAnyH_take (i := 12) (v := ?_) (by simp only [List.getElem?_toArray, List.getElem?_cons_succ, List.getElem?_cons_zero]; rfl) (by kernel_rfl) (by kernel_rfl) (by kernel_rfl) (fun _ _ _ h => h) (Or.inl ⟨by rfl, ?_⟩) (by assumption) ?_
                  rotate_left
                  · intro w hSw
                    try dsimp only at hSw
                    go_simp
                    try with_reducible rfl
                  try simp only [Act.put, List.setIfInBounds_toArray, List.set_cons_zero, List.set_cons_succ]
                  refine wpAnyH_ready (rs := [13]) (by kernel_rfl) (by simp) ?_
                  refine (AllReadyH.cons (by simp only [List.getElem?_toArray, List.getElem?_cons_succ, List.getElem?_cons_zero]; rfl) (fun K hK => ?_) AllReadyH.nil)
                  have hc := cell_ob5 HS.out.1 1 rfl
                  have hf : cw.frozen? ⟨R + 2, 1, none⟩ = false := frozen_of_row _ _ _ _ _ HS.out.1
                  have HC2 := Lib.hid ((World.cell?_of_block (w := cw) (Below.heap_setCell cw ⟨R + 2, 1, none⟩ (.slice (some ⟨g6, 0, none⟩) (X.length + 1) cap6) _ (show (a.add k).block ≠ R + 2 by have := HAB.out; omega))).trans HC.out)
                  go_simp
                  clear hc hf
                  refine hK.out _ _ ⟨cell_ob5 HS.out.2.2.2.1 1 rfl, HC2.out⟩ (fun hHeld => ?_)
                  clear hK K
                  try simp only [Act.put, List.setIfInBounds_toArray, List.set_cons_zero, List.set_cons_succ]
                  refine wpAnyH_done (by kernel_rfl) ?_ _
                  refine NoPanic.normal ?_
                  clear hHeld
                  generalize cw.setCell ⟨R + 2, 1, none⟩ (.slice (some ⟨g6, 0, none⟩) (X.length + 1) cap6) = w8 at *
                  go_wp2_with fail
                  refine ⟨⟨k + 1, _, _, _, X ++ [(.slice p9 n9 c9, prn x (alls n1 n))], HLT.out.1, HLT.out.2, by first | rw [j1] | rfl, Lib.hid HS.out.2.2.2.2, Lib.hid (by rw [tbG_take HAT.out, List.map_append, HE.out]; rw [show k = n by rw [HN.out, HXL.out.1], show n1 = XM.length from HN1.out.1]; rfl)⟩, ?_⟩
                  first | (rw [j1]; exact meas25 HLT.out.2) | exact meas25 HLT.out.2
                · go_simp
                  refine (prn_to cw x HXB.out _ _ (JOwn.seen O8.out) (by rw [alls_len]; have := HN1.out; have := HN.out; have := HXL.out; omega)).mono ?_
                  rintro e cx ⟨v9, rfl, o9, b9⟩
                  obtain ⟨p9, n9, c9, rfl, hn9⟩ := o9.shape
                  have O9 := Lib.hid (JS.own (B := B) o9)
                  have HTq := Lib.hid (HTq.out.kb b9)
                  have HC := Lib.hid ((b9.cell (World.block_lt_of_cell? _ _ HC.out)).trans HC.out)
                  clear o9 b9 hn9
                  rename World => cw
                  go_wp2_with fail
                  refine hK.out _ _ ⟨HTq.out.c0.2.1, HC.out⟩ (fun hHeld => ?_)
                  clear hK K
                  try simp only [Act.put, List.setIfInBounds_toArray, List.set_cons_zero, List.set_cons_succ]
                  refine wpAnyH_ready (rs := [1, 10]) (by kernel_rfl) (by simp) ?_
                  refine (AllReadyH.cons (by simp only [List.getElem?_toArray, List.getElem?_cons_succ, List.getElem?_cons_zero]; rfl) (fun K hK => ?_) (AllReadyH.cons (by simp only [List.getElem?_toArray, List.getElem?_cons_succ, List.getElem?_cons_zero]; rfl) (fun K hK => ?_) AllReadyH.nil))
                  · have hc := HTq.out.c0.2.2.2
                    go_simp
                    clear hc
                    refine hK.out _ _ ⟨HTq.out.c0.2.1, HC.out⟩ (fun hHeld => ?_)
                    clear hK K
                    try simp only [Act.put, List.setIfInBounds_toArray, List.set_cons_zero, List.set_cons_succ]
                    refine wpAnyH_ready (rs := [10]) (by kernel_rfl) (by simp) ?_
                    refine (AllReadyH.cons (by simp only [List.getElem?_toArray, List.getElem?_cons_succ, List.getElem?_cons_zero]; rfl) (fun K hK => ?_) AllReadyH.nil)
                    refine step_build_list (y := .slice p9 n9 c9) (by rfl) (by rfl) (by rfl) (by simp [Act.eval]) ?_
                    have AL := (Below.refl cw.heap.size cw).alloc (Nat.le_refl _) (.cells #[.slice p9 n9 c9] 22)
                    have HB10 := Lib.hid (heap_alloc_last cw (.cells #[.slice p9 n9 c9] 22))
                    have O10 := Lib.hid (O9.out.kb AL)
                    have HTq := Lib.hid (HTq.out.kb AL)
                    have HC := Lib.hid ((AL.cell (World.block_lt_of_cell? _ _ HC.out)).trans HC.out)
                    clear AL
                    generalize cw.alloc (.cells #[.slice p9 n9 c9] 22) = cx at *
                    generalize cw.heap.size = nb at *
                    rename World => cw
                    refine hK.out _ _ ⟨HTq.out.c0.2.1, HC.out⟩ (fun hHeld => ?_)
                    clear hK K
                    try simp only [Act.put, List.setIfInBounds_toArray, List.set_cons_zero, List.set_cons_succ]
                    refine wpAnyH_ready (rs := [11]) (by kernel_rfl) (by simp) ?_
                    refine (AllReadyH.cons (by simp only [List.getElem?_toArray, List.getElem?_cons_succ, List.getElem?_cons_zero]; rfl) (fun K hK => ?_) AllReadyH.nil)
                    refine step_push_list (by rfl) _ _ (by rfl) B (R + 3) _ X (by rfl) HTq.out.lo nb (by rfl) (.slice p9 n9 c9, prn x (alls n1 n)) HB10.out O10.out HTq.out.size (by have := HXL.out; omega) ?_
                    intro g6 cap6 cx own6 grw6 hat6
                    have HS := Lib.hid (HTq.out.setO (y := (.slice p9 n9 c9, prn x (alls n1 n))) O10.out own6 grw6 hat6)
                    have HC := Lib.hid ((HTq.out.farO grw6 HAB.out).trans HC.out)
                    clear own6 grw6 hat6 HTq HB10 O10
                    rename World => cw
                    refine hK.out _ _ ⟨cell_ob5 HS.out.2.1 1 rfl, HC.out⟩ (fun hHeld => ?_)
                    clear hK K
                    try simp only [Act.put, List.setIfInBounds_toArray, List.set_cons_zero, List.set_cons_succ]
                    refine wpAnyH_take (i := 12) (v := ?_) (by simp only [List.getElem?_toArray, List.getElem?_cons_succ, List.getElem?_cons_zero]; rfl) (by kernel_rfl) (by kernel_rfl) (by kernel_rfl) (fun _ _ _ h => h) (Or.inl ⟨by rfl, ?_⟩) (by assumption) ?_
                    rotate_left
                    · intro w hSw
                      try dsimp only at hSw
                      go_simp
                      try with_reducible rfl
                    try simp only [Act.put, List.setIfInBounds_toArray, List.set_cons_zero, List.set_cons_succ]
                    refine wpAnyH_ready (rs := [13]) (by kernel_rfl) (by simp) ?_
                    refine (AllReadyH.cons (by simp only [List.getElem?_toArray, List.getElem?_cons_succ, List.getElem?_cons_zero]; rfl) (fun K hK => ?_) AllReadyH.nil)
                    have hc := cell_ob5 HS.out.1 1 rfl
                    have hf : cw.frozen? ⟨R + 2, 1, none⟩ = false := frozen_of_row _ _ _ _ _ HS.out.1
                    have HC2 := Lib.hid ((World.cell?_of_block (w := cw) (Below.heap_setCell cw ⟨R + 2, 1, none⟩ (.slice (some ⟨g6, 0, none⟩) (X.length + 1) cap6) _ (show (a.add k).block ≠ R + 2 by have := HAB.out; omega))).trans HC.out)
                    go_simp
                    clear hc hf
                    refine hK.out _ _ ⟨cell_ob5 HS.out.2.2.2.1 1 rfl, HC2.out⟩ (fun hHeld => ?_)
                    clear hK K
                    try simp only [Act.put, List.setIfInBounds_toArray, List.set_cons_zero, List.set_cons_succ]
                    refine wpAnyH_done (by kernel_rfl) ?_ _
                    refine NoPanic.normal ?_
                    clear hHeld
                    generalize cw.setCell ⟨R + 2, 1, none⟩ (.slice (some ⟨g6, 0, none⟩) (X.length + 1) cap6) = w8 at *
                    go_wp2_with fail
                    refine ⟨⟨k + 1, _, _, _, X ++ [(.slice p9 n9 c9, prn x (alls n1 n))], HLT.out.1, HLT.out.2, by first | rw [j1] | rfl, Lib.hid HS.out.2.2.2.2, Lib.hid (by rw [tbG_take HAT.out, List.map_append, HE.out]; rw [show k = n by rw [HN.out, HXL.out.1], show n1 = XM.length from HN1.out.1]; rfl)⟩, ?_⟩
                    first | (rw [j1]; exact meas25 HLT.out.2) | exact meas25 HLT.out.2
                  · refine step_build_list (y := .slice p9 n9 c9) (by rfl) (by rfl) (by rfl) (by simp [Act.eval]) ?_
                    have AL := (Below.refl cw.heap.size cw).alloc (Nat.le_refl _) (.cells #[.slice p9 n9 c9] 22)
                    have HB10 := Lib.hid (heap_alloc_last cw (.cells #[.slice p9 n9 c9] 22))
                    have O10 := Lib.hid (O9.out.kb AL)
                    have HTq := Lib.hid (HTq.out.kb AL)
                    have HC := Lib.hid ((AL.cell (World.block_lt_of_cell? _ _ HC.out)).trans HC.out)
                    clear AL
                    generalize cw.alloc (.cells #[.slice p9 n9 c9] 22) = cx at *
                    generalize cw.heap.size = nb at *
                    rename World => cw
                    refine hK.out _ _ ⟨HTq.out.c0.2.1, HC.out⟩ (fun hHeld => ?_)
                    clear hK K
                    try simp only [Act.put, List.setIfInBounds_toArray, List.set_cons_zero, List.set_cons_succ]
                    refine wpAnyH_ready (rs := [1]) (by kernel_rfl) (by simp) ?_
                    refine (AllReadyH.cons (by simp only [List.getElem?_toArray, List.getElem?_cons_succ, List.getElem?_cons_zero]; rfl) (fun K hK => ?_) AllReadyH.nil)
                    have hc := HTq.out.c0.2.2.2
                    go_simp
                    clear hc
                    refine hK.out _ _ ⟨HTq.out.c0.2.1, HC.out⟩ (fun hHeld => ?_)
                    clear hK K
                    try simp only [Act.put, List.setIfInBounds_toArray, List.set_cons_zero, List.set_cons_succ]
                    refine wpAnyH_ready (rs := [11]) (by kernel_rfl) (by simp) ?_
                    refine (AllReadyH.cons (by simp only [List.getElem?_toArray, List.getElem?_cons_succ, List.getElem?_cons_zero]; rfl) (fun K hK => ?_) AllReadyH.nil)
                    refine step_push_list (by rfl) _ _ (by rfl) B (R + 3) _ X (by rfl) HTq.out.lo nb (by rfl) (.slice p9 n9 c9, prn x (alls n1 n)) HB10.out O10.out HTq.out.size (by have := HXL.out; omega) ?_
                    intro g6 cap6 cx own6 grw6 hat6
                    have HS := Lib.hid (HTq.out.setO (y := (.slice p9 n9 c9, prn x (alls n1 n))) O10.out own6 grw6 hat6)
                    have HC := Lib.hid ((HTq.out.farO grw6 HAB.out).trans HC.out)
                    clear own6 grw6 hat6 HTq HB10 O10
                    rename World => cw
                    refine hK.out _ _ ⟨cell_ob5 HS.out.2.1 1 rfl, HC.out⟩ (fun hHeld => ?_)
                    clear hK K
                    try simp only [Act.put, List.setIfInBounds_toArray, List.set_cons_zero, List.set_cons_succ]
                    refine wpAnyH_take (i := 12) (v := ?_) (by simp only [List.getElem?_toArray, List.getElem?_cons_succ, List.getElem?_cons_zero]; rfl) (by kernel_rfl) (by kernel_rfl) (by kernel_rfl) (fun _ _ _ h => h) (Or.inl ⟨by rfl, ?_⟩) (by assumption) ?_
                    rotate_left
                    · intro w hSw
                      try dsimp only at hSw
                      go_simp
                      try with_reducible rfl
                    try simp only [Act.put, List.setIfInBounds_toArray, List.set_cons_zero, List.set_cons_succ]
                    refine wpAnyH_ready (rs := [13]) (by kernel_rfl) (by simp) ?_
                    refine (AllReadyH.cons (by simp only [List.getElem?_toArray, List.getElem?_cons_succ, List.getElem?_cons_zero]; rfl) (fun K hK => ?_) AllReadyH.nil)
                    have hc := cell_ob5 HS.out.1 1 rfl
                    have hf : cw.frozen? ⟨R + 2, 1, none⟩ = false := frozen_of_row _ _ _ _ _ HS.out.1
                    have HC2 := Lib.hid ((World.cell?_of_block (w := cw) (Below.heap_setCell cw ⟨R + 2, 1, none⟩ (.slice (some ⟨g6, 0, none⟩) (X.length + 1) cap6) _ (show (a.add k).block ≠ R + 2 by have := HAB.out; omega))).trans HC.out)
                    go_simp
                    clear hc hf
                    refine hK.out _ _ ⟨cell_ob5 HS.out.2.2.2.1 1 rfl, HC2.out⟩ (fun hHeld => ?_)
                    clear hK K
                    try simp only [Act.put, List.setIfInBounds_toArray, List.set_cons_zero, List.set_cons_succ]
                    refine wpAnyH_done (by kernel_rfl) ?_ _
                    refine NoPanic.normal ?_
                    clear hHeld
                    generalize cw.setCell ⟨R + 2, 1, none⟩ (.slice (some ⟨g6, 0, none⟩) (X.length + 1) cap6) = w8 at *
                    go_wp2_with fail
                    refine ⟨⟨k + 1, _, _, _, X ++ [(.slice p9 n9 c9, prn x (alls n1 n))], HLT.out.1, HLT.out.2, by first | rw [j1] | rfl, Lib.hid HS.out.2.2.2.2, Lib.hid (by rw [tbG_take HAT.out, List.map_append, HE.out]; rw [show k = n by rw [HN.out, HXL.out.1], show n1 = XM.length from HN1.out.1]; rfl)⟩, ?_⟩
                    first | (rw [j1]; exact meas25 HLT.out.2) | exact meas25 HLT.out.2
          · have HCN := Lib.hid (take25 HY.out.1 hk hk25 hlt)
            by_cases hc1 : k < no
            · have hc2 : ¬ k < 25 := fun h => hlt ⟨hc1, h⟩
              have d1 : (k : Int) < no := by omega
              have d2 : ¬ (k : Int) < 25 := by omega
              clear hlt hk hk25 hc1 hc2
              have hc2 := HT.out.c0.2.2.1
              have hc3 := HT.out.c0.2.2.2
              have hfz := frozen_of_row wr (R + 1) 0 _ _ HT.out.rcell
              have hfz1 := frozen_of_row wr (R + 1) 1 _ _ HT.out.rcell
              have hrc0 := cell_ob5 HT.out.rcell 0 rfl
              have hrc1 := cell_ob5 HT.out.rcell 1 rfl
              have HFIN := Lib.hid HT.out.fin
              go_wp2_with fail
              refine bodyPost_ret (results_cell_row rfl _ _ (R + 1) _ _ (0, 0) _ rfl HFIN.out.1 Try.underlying41 rfl (by kernel_rfl)) rfl ?_
              refine ⟨p1, n1, c1, p, n, c, rfl, XM, HFIN.out.2.1, X, HFIN.out.2.2.1, HEM.out, ?_, ?_⟩
              · rw [← HCN.out]; exact HE.out
              · exact HFIN.out.2.2.2
            · have d1 : ¬ (k : Int) < no := by omega
              clear hlt hk hk25 hc1
              have hc2 := HT.out.c0.2.2.1
              have hc3 := HT.out.c0.2.2.2
              have hfz := frozen_of_row wr (R + 1) 0 _ _ HT.out.rcell
              have hfz1 := frozen_of_row wr (R + 1) 1 _ _ HT.out.rcell
              have hrc0 := cell_ob5 HT.out.rcell 0 rfl
              have hrc1 := cell_ob5 HT.out.rcell 1 rfl
              have HFIN := Lib.hid HT.out.fin
              go_wp2_with fail
              refine bodyPost_ret (results_cell_row rfl _ _ (R + 1) _ _ (0, 0) _ rfl HFIN.out.1 Try.underlying41 rfl (by kernel_rfl)) rfl ?_
              refine ⟨p1, n1, c1, p, n, c, rfl, XM, HFIN.out.2.1, X, HFIN.out.2.2.1, HEM.out, ?_, ?_⟩
              · rw [← HCN.out]; exact HE.out
              · exact HFIN.out.2.2.2


end Go.Proofs.Ytadglppplgeldaa
