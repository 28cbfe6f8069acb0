/- How lists of numbers, lists of such lists, and segments lie in memory. No condition. -/
import Derived.Test.YtadglppplgeldaaSpnQ
import Derived.Test.YtadglppplgeldaaFltM
import Derived.Deep.AppendLies
import Derived.Deep.WholeRow
namespace Go.Proofs.Ytadglppplgeldaa
open Go.RowKit

/-- A step that turns no block of numbers, and nothing below B. -/
structure Mi (B : Nat) (w w' : World) : Prop where
  only : Only (fun k => B ≤ k ∧ ∀ cs f, w.heap[k]? ≠ some (.cells cs 3 f)) w w'
theorem Mi.below {B : Nat} {w w' : World} (h : Below w.heap.size w w') : Mi B w w' := ⟨Only.of_below h⟩
theorem Mi.refl (B : Nat) (w : World) : Mi B w w := ⟨Only.refl _ w⟩
theorem Mi.block {B : Nat} {w w' : World} (h : Mi B w w') {k : Nat} {cs : Array Value} {f : Nat × Nat} (hk : w.heap[k]? = some (.cells cs 3 f)) : w'.heap[k]? = some (.cells cs 3 f) :=
  (h.only.block k (Array.getElem?_eq_some_iff.1 hk).1 (fun e => e.2 cs f hk)).trans hk
theorem Mi.trans {B : Nat} {a b c : World} (h : Mi B a b) (k : Mi B b c) : Mi B a c :=
  ⟨h.only.trans k.only (fun _ h => h) (fun _ _ ⟨h1, h2⟩ => ⟨h1, fun cs f e => h2 cs f (h.block e)⟩)⟩
/-- A block of another type turns. -/
theorem Mi.of {B b : Nat} {w w' : World} {cs : Array Value} {t : TypeId} {f : Nat × Nat} (hb : w.heap[b]? = some (.cells cs t f)) (ht : t ≠ 3) (hB : B ≤ b) (h : Only (fun k => k = b) w w') : Mi B w w' :=
  ⟨h.mono fun k _ e => ⟨by omega, fun cs' f' e' => by rw [e, hb] at e'; injection e' with e'; injection e' with _ e2 _; exact ht e2⟩⟩
/-- A slice of numbers of the call's own. -/
abbrev JOwn (w : World) (B : Nat) (v : Value) (l : List Int) : Prop := w.ownsRow B 3 1 v l.length (l.map (Value.int .i64))
theorem JOwn.seen {w : World} {B : Nat} {v : Value} {l : List Int} (h : JOwn w B v l) : NSeen w v l := by
  rcases h.2 with ⟨rfl, h0⟩ | ⟨g, cap, cur, rfl, _, hg, hn, _, _, hc⟩
  · obtain rfl : l = [] := List.eq_nil_of_length_eq_zero h0
    exact ⟨none, 0, rfl, Nat.le_refl _, fun j s hj => by simp at hj⟩
  · refine ⟨_, cap, rfl, hn, fun j x hj => ⟨_, rfl, ?_⟩⟩
    exact h.cells (g := g) rfl j (.int .i64 x) (by rw [List.getElem?_map, hj]; rfl)
theorem add_blk (a : Addr) (n : Nat) : (a.add n).block = a.block := by unfold Addr.add; split <;> rfl
/-- The slice v holds the numbers l, and no step of ours turns them. -/
def JS (B : Nat) (W : World) (v : Value) (l : List Int) : Prop := NSeen W v l ∧ ∀ b, v.ownBlock = some b → b < B ∨ ∃ cs f, W.heap[b]? = some (.cells cs 3 f)
theorem JS.mi {B : Nat} {w w' : World} {v : Value} {l : List Int} (h : JS B w v l) (m : Mi B w w') : JS B w' v l := by
  obtain ⟨⟨p, cap, rfl, hl, hs⟩, ht⟩ := h
  have ht' : ∀ b, (Value.slice p l.length cap).ownBlock = some b → b < B ∨ ∃ cs f, w'.heap[b]? = some (.cells cs 3 f) := fun b hb => by
    rcases ht b hb with h1 | ⟨cs, f, h1⟩
    · exact .inl h1
    · exact .inr ⟨cs, f, m.block h1⟩
  refine ⟨⟨p, cap, rfl, hl, fun j x hj => ?_⟩, ht'⟩
  obtain ⟨a, rfl, h1⟩ := hs j x hj
  refine ⟨a, rfl, ?_⟩
  have hab := add_blk a j
  have hlt : (a.add j).block < w.heap.size := World.block_lt_of_cell? w (a.add j) h1
  refine (World.cell?_of_block (w := w) (a := a.add j) (m.only.block (a.add j).block hlt fun e => ?_)).trans h1
  rw [hab] at e
  rcases ht a.block rfl with h2 | ⟨cs, f, h2⟩
  · exact absurd e.1 (by omega)
  · exact e.2 cs f h2
theorem JS.kb {B : Nat} {w w' : World} {v : Value} {l : List Int} (h : JS B w v l) (k : Below w.heap.size w w') : JS B w' v l := h.mi (Mi.below k)
theorem JS.own {B B' : Nat} {w : World} {v : Value} {l : List Int} (h : JOwn w B' v l) : JS B w v l := ⟨h.seen, fun b hb => by
  rcases h.2 with ⟨rfl, _⟩ | ⟨g, cap, cur, rfl, _, hg, _⟩
  · cases hb
  · obtain rfl : g = b := by simpa [Value.ownBlock] using hb
    exact .inr ⟨_, _, hg⟩⟩
theorem JS.nil (B : Nat) (w : World) : JS B w (.slice none 0 0) [] := ⟨⟨none, 0, rfl, Nat.le_refl _, fun j x hj => by simp at hj⟩, fun b hb => by cases hb⟩
theorem JS.form {B : Nat} {w : World} {v : Value} {l : List Int} (h : JS B w v l) : ∃ p cap, v = .slice p l.length cap := h.1.form
theorem JS.one {B : Nat} {w : World} {v : Value} {l : List Int} (h : JS B w v l) : v.oneCell' = true := by
  obtain ⟨p, cap, rfl⟩ := h.form; rfl
/-- All that lies below B is there as long as nothing below B turns. -/
theorem JS.low {B : Nat} {w : World} {v : Value} {l : List Int} (h : NSeen w v l) (hb : ∀ b, v.ownBlock = some b → b < B) : JS B w v l := ⟨h, fun b e => .inl (hb b e)⟩

/-- The slice v holds the lists L. -/
def LS (B : Nat) (W : World) (v : Value) (L : List (List Int)) : Prop :=
  ∃ p cap, v = .slice p L.length cap ∧ L.length ≤ cap ∧ ∀ (j : Nat) (l : List Int), L[j]? = some l → ∃ b o x, p = some ⟨b, o, none⟩ ∧ W.cell? ⟨b, o + j, none⟩ = some x ∧ JS B W x l
theorem LS.form {B : Nat} {w : World} {v : Value} {L : List (List Int)} (h : LS B w v L) : ∃ p cap, v = .slice p L.length cap := by
  obtain ⟨p, cap, e, _⟩ := h
  exact ⟨p, cap, e⟩
theorem LS.kb {B : Nat} {w w' : World} {v : Value} {L : List (List Int)} (h : LS B w v L) (k : Below w.heap.size w w') : LS B w' v L := by
  obtain ⟨p, cap, e, hl, hs⟩ := h
  refine ⟨p, cap, e, hl, fun j l hj => ?_⟩
  obtain ⟨b, o, x, ep, h1, h2⟩ := hs j l hj
  exact ⟨b, o, x, ep, (k.cell (p := ⟨b, o + j, none⟩) (World.block_lt_of_cell? _ _ h1)).trans h1, h2.kb k⟩
theorem LS.at {B : Nat} {w : World} {p : Option Addr} {n cap : Nat} {L : List (List Int)} (h : LS B w (.slice p n cap) L) {j : Nat} (hj : j < L.length) : ∃ b o x, p = some ⟨b, o, none⟩ ∧ w.cell? ⟨b, o + j, none⟩ = some x ∧ JS B w x L[j] := by
  obtain ⟨p', cap', e, _, hs⟩ := h
  injection e with e1 e2 e3
  subst e1
  exact hs j _ (List.getElem?_eq_getElem hj)
theorem LS.nil (B : Nat) (w : World) : LS B w (.slice none 0 0) [] := ⟨none, 0, rfl, Nat.le_refl _, fun j x hj => by simp at hj⟩
/-- Lists of the call's own. -/
structure LO (B R : Nat) (W : World) (v : Value) (X : List (Value × List Int)) : Prop where
  row : W.ownsRow R 22 1 v X.length (X.map (·.1))
  lit : ∀ x ∈ X, JS B W x.1 x.2
theorem LO.nil (B R : Nat) (w : World) : LO B R w (.slice none 0 0) [] := ⟨World.ownsRow_nil _ _ _ _, fun _ h => by cases h⟩
theorem ownsRow_kb {w w' : World} {B : Nat} {e : TypeId} {s : Nat} {v : Value} {n : Nat} {xs : List Value} (h : w.ownsRow B e s v n xs) (k : Below w.heap.size w w') : w'.ownsRow B e s v n xs := by
  refine ⟨h.1, ?_⟩
  rcases h.2 with h1 | ⟨g, cap, cur, h1, h2, hg, h3⟩
  · exact .inl h1
  · exact .inr ⟨g, cap, cur, h1, h2, (k.block g (Array.getElem?_eq_some_iff.1 hg).1).trans hg, h3⟩
theorem LO.kb {B R : Nat} {w w' : World} {v : Value} {X : List (Value × List Int)} (h : LO B R w v X) (k : Below w.heap.size w w') : LO B R w' v X := ⟨ownsRow_kb h.row k, fun x hx => (h.lit x hx).kb k⟩
theorem LO.seen {B R : Nat} {w : World} {v : Value} {X : List (Value × List Int)} (h : LO B R w v X) : LS B w v (X.map (·.2)) := by
  have hr := h.row
  rcases hr.2 with ⟨rfl, h0⟩ | ⟨g, cap, cur, rfl, _, hg, hn, _, _, hc⟩
  · obtain rfl : X = [] := List.eq_nil_of_length_eq_zero h0
    exact LS.nil _ _
  · refine ⟨_, cap, by rw [List.length_map], by rw [List.length_map]; exact hn, fun j l hj => ?_⟩
    rw [List.getElem?_map] at hj
    cases hx : X[j]? with
    | none => rw [hx] at hj; cases hj
    | some x =>
      rw [hx] at hj
      obtain rfl : x.2 = l := by simpa using hj
      refine ⟨g, 0, x.1, rfl, ?_, h.lit x (List.mem_of_getElem? hx)⟩
      have := hr.cells (g := g) rfl j x.1 (by rw [List.getElem?_map, hx]; rfl)
      simpa [Addr.add_lit] using this
theorem LO.shape {B R : Nat} {w : World} {v : Value} {X : List (Value × List Int)} (h : LO B R w v X) : ∃ p n cap, v = .slice p n cap ∧ n = X.length := by
  rcases h.row.2 with ⟨h1, h2⟩ | ⟨g, cap, cur, h1, _⟩
  · exact ⟨none, 0, 0, h1, h2.symm⟩
  · exact ⟨_, _, _, h1, rfl⟩
theorem linfo : (Try.prog.info? 22).map (fun i => (i.zero, i.size, i.bytes)) = some (some (.slice none 0 0), 1, 24) := by kernel_rfl
/-- What an append to such lists leaves. -/
theorem LO.push {B R : Nat} {w w' : World} {v v' : Value} {X : List (Value × List Int)} {x : Value × List Int} (h : LO B R w v X) (hx : JS B w x.1 x.2) (hB : B ≤ R) (ho : w'.ownsRow R 22 1 v' (X.length + 1) (X.map (·.1) ++ [x.1])) (hg : w.grownBy w' v.ownBlock) : LO B R w' v' (X ++ [x]) := by
  have m : Mi B w w' := by
    rcases h.row.2 with ⟨rfl, _⟩ | ⟨g, cap, cur, rfl, hR, hg', _⟩
    · exact ⟨(Only.refl _ w).grown hg (fun k _ e => by cases e)⟩
    · exact Mi.of hg' (by decide) (Nat.le_trans hB hR) ((Only.refl _ w).grown hg (fun k _ e => by simpa [Value.ownBlock] using e.symm))
  refine ⟨by rw [List.length_append, List.map_append]; exact ho, fun y hy => ?_⟩
  rcases List.mem_append.1 hy with hy | hy
  · exact (h.lit y hy).mi m
  · rw [List.mem_singleton.1 hy]; exact hx.mi m

/-- A segment's cells. -/
def Sg.row (x : Value) (s : Sg) : List Value := [.int .i64 s.lo, .int .i64 s.hi, x, .bool s.root, .bool s.head]
/-- The slice v holds the segments G. -/
def GS (B : Nat) (W : World) (v : Value) (G : List Sg) : Prop :=
  ∃ p cap, v = .slice p G.length cap ∧ G.length ≤ cap ∧ ∀ (j : Nat) (s : Sg), G[j]? = some s → ∃ b o x, p = some ⟨b, o, none⟩ ∧ W.rangeAt b (o + j * 5) (s.row x) ∧ JS B W x s.par
theorem GS.form {B : Nat} {w : World} {v : Value} {G : List Sg} (h : GS B w v G) : ∃ p cap, v = .slice p G.length cap := by
  obtain ⟨p, cap, e, _⟩ := h
  exact ⟨p, cap, e⟩
theorem rng_kb5 {w w' : World} {b o : Nat} {cs : List Value} (h : w.rangeAt b o cs) (k : Below w.heap.size w w') : w'.rangeAt b o cs := fun j v hj => (k.cell (p := ⟨b, o + j, none⟩) (World.block_lt_of_cell? _ _ (h j v hj))).trans (h j v hj)
theorem GS.kb {B : Nat} {w w' : World} {v : Value} {G : List Sg} (h : GS B w v G) (k : Below w.heap.size w w') : GS B w' v G := by
  obtain ⟨p, cap, e, hl, hs⟩ := h
  refine ⟨p, cap, e, hl, fun j l hj => ?_⟩
  obtain ⟨b, o, x, ep, h1, h2⟩ := hs j l hj
  exact ⟨b, o, x, ep, rng_kb5 h1 k, h2.kb k⟩
theorem GS.at {B : Nat} {w : World} {p : Option Addr} {n cap : Nat} {G : List Sg} (h : GS B w (.slice p n cap) G) {j : Nat} (hj : j < G.length) : ∃ b o x, p = some ⟨b, o, none⟩ ∧ w.rangeAt b (o + j * 5) (G[j].row x) ∧ JS B w x G[j].par := by
  obtain ⟨p', cap', e, _, hs⟩ := h
  injection e with e1 e2 e3
  subst e1
  exact hs j _ (List.getElem?_eq_getElem hj)
theorem GS.nil (B : Nat) (w : World) : GS B w (.slice none 0 0) [] := ⟨none, 0, rfl, Nat.le_refl _, fun j x hj => by simp at hj⟩
theorem sg_cells {w : World} {b o : Nat} {x : Value} {s : Sg} (h : w.rangeAt b o (s.row x)) : w.cell? ⟨b, o, none⟩ = some (.int .i64 s.lo) ∧ w.cell? ⟨b, o + 1, none⟩ = some (.int .i64 s.hi) ∧ w.cell? ⟨b, o + 2, none⟩ = some x ∧ w.cell? ⟨b, o + 3, none⟩ = some (.bool s.root) ∧ w.cell? ⟨b, o + 4, none⟩ = some (.bool s.head) :=
  ⟨h 0 _ rfl, h 1 _ rfl, h 2 _ rfl, h 3 _ rfl, h 4 _ rfl⟩
abbrev grow (Y : List (Value × Sg)) : List Value := Y.flatMap fun y => y.2.row y.1
/-- Segments of the call's own. -/
structure GO (B R : Nat) (W : World) (v : Value) (Y : List (Value × Sg)) : Prop where
  row : W.ownsRow R 33 5 v Y.length (grow Y)
  lit : ∀ y ∈ Y, JS B W y.1 y.2.par
theorem GO.nil (B R : Nat) (w : World) : GO B R w (.slice none 0 0) [] := ⟨World.ownsRow_nil _ _ _ _, fun _ h => by cases h⟩
theorem GO.kb {B R : Nat} {w w' : World} {v : Value} {Y : List (Value × Sg)} (h : GO B R w v Y) (k : Below w.heap.size w w') : GO B R w' v Y := ⟨ownsRow_kb h.row k, fun x hx => (h.lit x hx).kb k⟩
theorem grow_len (Y : List (Value × Sg)) : (grow Y).length = Y.length * 5 := by
  induction Y with
  | nil => rfl
  | cons y Y ih =>
    unfold grow at ih ⊢
    rw [List.flatMap_cons, List.length_append, ih, List.length_cons]
    simp [Sg.row]; omega
theorem grow_at : ∀ {Y : List (Value × Sg)} {i j : Nat} {y : Value × Sg}, Y[i]? = some y → j < 5 → (grow Y)[i * 5 + j]? = (y.2.row y.1)[j]?
  | [], i, _, y, h, _ => by simp at h
  | z :: Y, 0, j, y, h, hj => by
    obtain rfl : z = y := by simpa using h
    unfold grow
    rw [List.flatMap_cons, Nat.zero_mul, Nat.zero_add, List.getElem?_append_left (by simp [Sg.row]; exact hj)]
  | z :: Y, i + 1, j, y, h, hj => by
    have ih := grow_at (Y := Y) (i := i) (y := y) (by simpa using h) hj
    unfold grow at ih ⊢
    rw [List.flatMap_cons, List.getElem?_append_right (by simp [Sg.row]; omega)]
    rw [← ih]
    congr 1
    simp [Sg.row]; omega
theorem GO.seen {B R : Nat} {w : World} {v : Value} {Y : List (Value × Sg)} (h : GO B R w v Y) : GS B w v (Y.map (·.2)) := by
  have hr := h.row
  rcases hr.2 with ⟨rfl, h0⟩ | ⟨g, cap, cur, rfl, _, hg, hn, _, _, hc⟩
  · obtain rfl : Y = [] := List.eq_nil_of_length_eq_zero h0
    exact GS.nil _ _
  · refine ⟨_, cap, by rw [List.length_map], by rw [List.length_map]; exact hn, fun j s hj => ?_⟩
    rw [List.getElem?_map] at hj
    cases hy : Y[j]? with
    | none => rw [hy] at hj; cases hj
    | some y =>
      rw [hy] at hj
      obtain rfl : y.2 = s := by simpa using hj
      refine ⟨g, 0, y.1, rfl, fun i u hi => ?_, h.lit y (List.mem_of_getElem? hy)⟩
      have hi5 : i < 5 := by have := (List.getElem?_eq_some_iff.1 hi).1; simpa [Sg.row] using this
      have := hr.cells (g := g) rfl (j * 5 + i) u (by rw [grow_at hy hi5]; exact hi)
      rw [Nat.zero_add]
      simpa [Addr.add_lit] using this
theorem GO.shape {B R : Nat} {w : World} {v : Value} {Y : List (Value × Sg)} (h : GO B R w v Y) : ∃ p n cap, v = .slice p n cap ∧ n = Y.length := by
  rcases h.row.2 with ⟨h1, h2⟩ | ⟨g, cap, cur, h1, _⟩
  · exact ⟨none, 0, 0, h1, h2.symm⟩
  · exact ⟨_, _, _, h1, rfl⟩
theorem ginfo : (Try.prog.info? 33).map (fun i => (i.zero, i.size, i.bytes)) = some (some (.agg #[.int .i64 0, .int .i64 0, .slice none 0 0, .bool false, .bool false]), 5, 48) := by kernel_rfl
theorem grow_one (Y : List (Value × Sg)) (hl : ∀ y ∈ Y, y.1.oneCell' = true) : ∀ u ∈ grow Y, u.oneCell' = true := fun u hu => by
  obtain ⟨y, hy, hu⟩ := List.mem_flatMap.1 hu
  simp [Sg.row] at hu
  rcases hu with rfl | rfl | rfl | rfl | rfl
  · rfl
  · rfl
  · exact hl y hy
  · rfl
  · rfl
theorem GO.mi {B R : Nat} {w w' : World} {v : Value} {Y : List (Value × Sg)} (h : GO B R w v Y) (hB : B ≤ R) (ho : Only (fun k => v.ownBlock = some k) w w') : Mi B w w' := by
  rcases h.row.2 with ⟨rfl, _⟩ | ⟨g, cap, cur, rfl, hR, hg', _⟩
  · exact ⟨ho.mono (fun k _ e => by cases e)⟩
  · exact Mi.of hg' (by decide) (Nat.le_trans hB hR) (ho.mono (fun k _ e => by simpa [Value.ownBlock] using e.symm))
theorem GO.push {B R : Nat} {w w' : World} {v v' : Value} {Y Z : List (Value × Sg)} (h : GO B R w v Y) (hz : ∀ z ∈ Z, JS B w z.1 z.2.par) (hB : B ≤ R) (ho : w'.ownsRow R 33 5 v' (Y.length + Z.length) (grow Y ++ grow Z)) (hg : Only (fun k => v.ownBlock = some k) w w') : GO B R w' v' (Y ++ Z) := by
  have m := h.mi hB hg
  refine ⟨by rw [List.length_append, show grow (Y ++ Z) = grow Y ++ grow Z from List.flatMap_append ..]; exact ho, fun y hy => ?_⟩
  rcases List.mem_append.1 hy with hy | hy
  · exact (h.lit y hy).mi m
  · exact (hz y hy).mi m
end Go.Proofs.Ytadglppplgeldaa
