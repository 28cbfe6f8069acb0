/- A part (3 of 4) of what is needed to prove: IdsKnown returns true, whatever the memory holds and whatever the schedule is. No condition. -/
import Derived.Test.YtnpeahbbcolfmaaGreatDoorZk2
import Derived.Conc.MuLone
import Derived.Defers
import Derived.Recover
import Derived.Deep.LoopGhost
import Derived.BigQuiet
import Derived.Shelf.Spec.SlicesGrow
import Derived.Shelf.SlGeneric
import Derived.Shelf.Lay
set_option linter.unusedSimpArgs false
set_option linter.unusedVariables false
namespace Go.Proofs.YtnpeahbbcolfmaaGreatDoor
open Go.RowKit
open Go.Maps
/-- n steps: the commits hs are visited in order, o is listed, then o'. -/
inductive VL (G : Gr) (D : Key → Bool) : Nat → List Key → List Key → List Key → Prop
  | nil (o : List Key) : VL G D 0 o [] o
  | skip {n : Nat} {o hs o' : List Key} {h : Key} (hk : h ∈ o ∨ D h = true) (t : VL G D n o hs o') : VL G D (n + 1) o (h :: hs) o'
  | go {n m : Nat} {o o1 hs o' : List Key} {h : Key} (h1 : h ∉ o) (h2 : D h = false) (a : VL G D n o (adj G h) o1) (t : VL G D m (o1 ++ [h]) hs o') : VL G D (n + m + 2) o (h :: hs) o'
/-- The same, of a stack of commits that are entered, the last one first. -/
inductive Run (G : Gr) (D : Key → Bool) : Nat → List Key → List (Key × List Key) → List Key → Prop
  | nil (o : List Key) : Run G D 0 o [] o
  | cons {n m : Nat} {o o1 o' : List Key} {h : Key} {ps : List Key} {st : List (Key × List Key)} (a : VL G D n o ps o1) (t : Run G D m (o1 ++ [h]) st o') : Run G D (n + m + 1) o ((h, ps) :: st) o'
theorem VL.one {G : Gr} {D : Key → Bool} {n : Nat} {o o' : List Key} {h : Key} (v : VL G D n o [h] o') : ((h ∈ o ∨ D h = true) ∧ o' = o) ∨ (h ∉ o ∧ D h = false ∧ ∃ m, Run G D m o [(h, adj G h)] o') := by
  cases v with
  | skip hk t => cases t; exact .inl ⟨hk, rfl⟩
  | go h1 h2 a t => cases t; exact .inr ⟨h1, h2, _, .cons a (.nil _)⟩
theorem VL.split {G : Gr} {D : Key → Bool} {n : Nat} {o hs o' : List Key} {h : Key} (v : VL G D n o (h :: hs) o') : ∃ a b o1, VL G D a o [h] o1 ∧ VL G D b o1 hs o' := by
  cases v with
  | skip hk t => exact ⟨_, _, o, .skip hk (.nil _), t⟩
  | go h1 h2 a t => exact ⟨_, _, _, .go h1 h2 a (.nil _), t⟩
theorem VL.join {G : Gr} {D : Key → Bool} {a b : Nat} {o hs o1 o' : List Key} {h : Key} (v : VL G D a o [h] o1) (u : VL G D b o1 hs o') : ∃ n, VL G D n o (h :: hs) o' := by
  cases v with
  | skip hk t => cases t; exact ⟨_, .skip hk u⟩
  | go h1 h2 a t => cases t; exact ⟨_, .go h1 h2 a u⟩
theorem VL.app {G : Gr} {D : Key → Bool} {hs ks : List Key} : ∀ {a b : Nat} {o o1 o' : List Key}, VL G D a o hs o1 → VL G D b o1 ks o' → ∃ n, VL G D n o (hs ++ ks) o' := by
  induction hs with
  | nil => intro a b o o1 o' h1 h2; cases h1; exact ⟨_, h2⟩
  | cons h hs ih =>
    intro a b o o1 o' h1 h2
    obtain ⟨a1, b1, o2, h3, h4⟩ := h1.split
    obtain ⟨n, h5⟩ := ih h4 h2
    exact VL.join h3 h5
theorem VL.cut {G : Gr} {D : Key → Bool} {hs ks : List Key} : ∀ {n : Nat} {o o' : List Key}, VL G D n o (hs ++ ks) o' → ∃ a b o1, VL G D a o hs o1 ∧ VL G D b o1 ks o' := by
  induction hs with
  | nil => intro n o o' h; exact ⟨_, _, o, .nil o, h⟩
  | cons h hs ih =>
    intro n o o' h1
    obtain ⟨a1, b1, o2, h3, h4⟩ := h1.split
    obtain ⟨a, b, o1, h5, h6⟩ := ih h4
    obtain ⟨n, h7⟩ := VL.join h3 h5
    exact ⟨_, _, _, h7, h6⟩
theorem VL.det {G : Gr} {D : Key → Bool} {n : Nat} {o hs o1 : List Key} (v : VL G D n o hs o1) : ∀ {m : Nat} {o2 : List Key}, VL G D m o hs o2 → o1 = o2 := by
  induction v with
  | nil o => intro m o2 u; cases u; rfl
  | skip hk t ih =>
    intro m o2 u
    cases u with
    | skip _ t2 => exact ih t2
    | go h1 h2 _ _ => exact absurd hk (by simp [h1, h2])
  | go h1 h2 a t ih1 ih2 =>
    intro m o2 u
    cases u with
    | skip hk _ => exact absurd hk (by simp [h1, h2])
    | go _ _ a2 t2 =>
      have := ih1 a2
      subst this
      exact ih2 t2
/-- More is listed behind what is. -/
theorem VL.pre {G : Gr} {D : Key → Bool} {n : Nat} {o hs o' : List Key} (v : VL G D n o hs o') : ∃ r, o' = o ++ r := by
  induction v with
  | nil o => exact ⟨[], by simp⟩
  | skip _ _ ih => exact ih
  | @go _ _ _ _ _ _ h _ _ _ _ ih1 ih2 =>
    obtain ⟨r1, e1⟩ := ih1
    obtain ⟨r2, e2⟩ := ih2
    exact ⟨r1 ++ [h] ++ r2, by rw [e2, e1]; simp⟩
theorem VL.sub {G : Gr} {D : Key → Bool} {n : Nat} {o hs o' : List Key} (v : VL G D n o hs o') {x : Key} (hx : x ∈ o) : x ∈ o' := by
  obtain ⟨r, e⟩ := v.pre
  rw [e]; simp [hx]
/-- All that is listed is there. -/
theorem VL.inG {G : Gr} {D : Key → Bool} {n : Nat} {o hs o' : List Key} (hc : Clo G) (v : VL G D n o hs o') : (∀ x ∈ o, (aget x G).isSome = true) → (∀ x ∈ hs, (aget x G).isSome = true) → ∀ x ∈ o', (aget x G).isSome = true := by
  induction v with
  | nil o => exact fun h _ => h
  | skip _ _ ih => exact fun h1 h2 => ih h1 fun x hx => h2 x (by simp [hx])
  | @go n m o o1 hs o' h g1 g2 a t ih1 ih2 =>
    intro h1 h2
    refine ih2 (fun x hx => ?_) (fun x hx => h2 x (by simp [hx]))
    rcases List.mem_append.1 hx with hx | hx
    · exact ih1 h1 (fun p hp => hc _ _ hp) x hx
    · rw [List.mem_singleton.1 hx]; exact h2 h (by simp)
/-- Rank: how many ancestors. -/
noncomputable def rank (G : Gr) (h : Key) : Nat := (ancs G [h]).length
theorem adj_in {G : Gr} {h p : Key} (hp : p ∈ adj G h) : (aget h G).isSome = true := by
  obtain ⟨ps, e, _⟩ := adj_some hp
  rw [e]; rfl
theorem rank_lt {G : Gr} (W : Wf G) {h p : Key} (hp : p ∈ adj G h) : rank G p < rank G h := by
  have hs := adj_in hp
  have h1 : h ∉ ancs G [p] := fun hm => by
    obtain ⟨a, ha, _, hu⟩ := (ancs_mem W.clo).1 hm
    rw [List.mem_singleton.1 ha] at hu
    exact W.acy h p hp hu
  have h2 : ∀ x ∈ h :: ancs G [p], x ∈ ancs G [h] := fun x hx => by
    rcases List.mem_cons.1 hx with rfl | hx
    · exact (ancs_self W x).2 hs
    · obtain ⟨a, ha, _, hu⟩ := (ancs_mem W.clo).1 hx
      rw [List.mem_singleton.1 ha] at hu
      exact (ancs_mem W.clo).2 ⟨h, by simp, hs, .step hp hu⟩
  have hn : (ancs G [p]).Nodup := List.Pairwise.filter _ W.asc.nodup
  have := nodup_le (List.nodup_cons.2 ⟨h1, hn⟩) h2
  rw [List.length_cons] at this
  exact this
theorem VL.ex {G : Gr} (W : Wf G) (D : Key → Bool) : ∀ (r : Nat) (hs o : List Key), (∀ h ∈ hs, rank G h < r) → ∃ n o', VL G D n o hs o'
  | 0, [], o, _ => ⟨0, o, .nil o⟩
  | 0, h :: hs, _, hr => absurd (hr h (by simp)) (by omega)
  | r + 1, [], o, _ => ⟨0, o, .nil o⟩
  | r + 1, h :: hs, o, hr => by
    by_cases hk : h ∈ o ∨ D h = true
    · obtain ⟨n, o', v⟩ := VL.ex W D (r + 1) hs o (fun x hx => hr x (by simp [hx]))
      exact ⟨_, o', .skip hk v⟩
    · obtain ⟨n, o1, v⟩ := VL.ex W D r (adj G h) o (fun p hp => by have := rank_lt W hp; have := hr h (by simp); omega)
      obtain ⟨m, o', u⟩ := VL.ex W D (r + 1) hs (o1 ++ [h]) (fun x hx => hr x (by simp [hx]))
      exact ⟨_, o', .go (fun h1 => hk (.inl h1)) (by cases hd : D h with | false => rfl | true => exact absurd (.inr hd) hk) v u⟩
termination_by r hs => (r, hs.length)
theorem VL.ex' {G : Gr} (W : Wf G) (D : Key → Bool) (hs o : List Key) : ∃ n o', VL G D n o hs o' := VL.ex W D (G.length + 1) hs o (fun _ _ => Nat.lt_succ_of_le (ancs_len _ _))
/-- None is listed twice. -/
theorem VL.nodup {G : Gr} {D : Key → Bool} (W : Wf G) {n : Nat} {o hs o' : List Key} (v : VL G D n o hs o') : o.Nodup → o'.Nodup := by
  have key : ∀ {n : Nat} {o hs o' : List Key}, VL G D n o hs o' → ∀ (r : Nat), (∀ x ∈ hs, rank G x < r) → (o.Nodup → o'.Nodup) ∧ ∀ x, x ∈ o' → x ∈ o ∨ rank G x < r := by
    intro n o hs o' v
    induction v with
    | nil o => exact fun r _ => ⟨id, fun x hx => .inl hx⟩
    | skip _ _ ih => exact fun r hr => ih r fun x hx => hr x (by simp [hx])
    | @go n m o o1 hs o' h g1 g2 a t ih1 ih2 =>
      intro r hr
      have hh := hr h (by simp)
      have k1 := ih1 (rank G h) (fun p hp => rank_lt W hp)
      have k2 := ih2 r (fun x hx => hr x (by simp [hx]))
      refine ⟨fun hn => k2.1 (List.nodup_append.2 ⟨k1.1 hn, by simp, fun x hx y hy e => ?_⟩), fun x hx => ?_⟩
      · rw [List.mem_singleton.1 hy] at e
        subst e
        rcases k1.2 x hx with h3 | h3
        · exact g1 h3
        · omega
      · rcases k2.2 x hx with h3 | h3
        · rcases List.mem_append.1 h3 with h3 | h3
          · rcases k1.2 x h3 with h4 | h4
            · exact .inl h4
            · exact .inr (by omega)
          · rw [List.mem_singleton.1 h3]; exact .inr hh
        · exact .inr h3
  exact (key v (G.length + 1) (fun _ _ => Nat.lt_succ_of_le (ancs_len _ _))).1
theorem in_len {G : Gr} {o : List Key} (hn : o.Nodup) (h : ∀ x ∈ o, (aget x G).isSome = true) : o.length ≤ G.length := by
  have := nodup_le (U := G.map (·.1)) hn fun x hx => mem_keys.2 (h x hx)
  rwa [List.length_map] at this
/-- Done ones are as listed ones. -/
theorem VL.parts {G : Gr} {a : List Key} {D : Key → Bool} (hD : ∀ h, D h = decide (h ∈ a)) {n : Nat} {c hs c' : List Key} (v : VL G D n c hs c') : VL G (fun _ => false) n (a ++ c) hs (a ++ c') := by
  induction v with
  | nil o => exact .nil _
  | skip hk _ ih =>
    refine .skip (.inl ?_) ih
    rcases hk with hk | hk
    · simp [hk]
    · rw [hD] at hk
      simp [of_decide_eq_true hk]
  | go g1 g2 _ _ ih1 ih2 =>
    rw [hD] at g2
    have g3 := of_decide_eq_false g2
    refine .go (by simp [g1, g3]) rfl ih1 ?_
    rw [List.append_assoc]; exact ih2
/-- Each commit behind its parents. -/
def PB (G : Gr) (o : List Key) : Prop := ∀ i x, o[i]? = some x → ∀ p ∈ adj G x, p ∈ o.take i
theorem PB.nil (G : Gr) : PB G [] := fun i x h => by simp at h
theorem PB.snoc {G : Gr} {o : List Key} (h : PB G o) {x : Key} (hx : ∀ p ∈ adj G x, p ∈ o) : PB G (o ++ [x]) := by
  intro i y hy p hp
  rcases Nat.lt_trichotomy i o.length with hl | hl | hl
  · rw [List.getElem?_append_left hl] at hy
    rw [List.take_append_of_le_length (by omega)]
    exact h i y hy p hp
  · subst hl
    rw [List.getElem?_append_right (Nat.le_refl _), Nat.sub_self] at hy
    simp at hy
    subst hy
    rw [List.take_left]
    exact hx p hp
  · rw [List.getElem?_eq_none (by simp; omega)] at hy
    cases hy
theorem VL.pb {G : Gr} {n : Nat} {o hs o' : List Key} (v : VL G (fun _ => false) n o hs o') : PB G o → PB G o' ∧ ∀ x ∈ hs, x ∈ o' := by
  induction v with
  | nil o => exact fun h => ⟨h, fun x hx => by simp at hx⟩
  | @skip n o hs o' h hk t ih =>
    intro g
    refine ⟨(ih g).1, fun x hx => ?_⟩
    rcases List.mem_cons.1 hx with rfl | hx
    · exact t.sub (hk.elim id fun h => by cases h)
    · exact (ih g).2 x hx
  | @go n m o o1 hs o' h g1 g2 a t ih1 ih2 =>
    intro g
    have k1 := ih1 g
    have k2 := ih2 (k1.1.snoc k1.2)
    refine ⟨k2.1, fun x hx => ?_⟩
    rcases List.mem_cons.1 hx with rfl | hx
    · exact t.sub (by simp)
    · exact k2.2 x hx
theorem PB.up {G : Gr} {o : List Key} (h : PB G o) {a x : Key} (hu : Up (adj G) a x) : a ∈ o → x ∈ o := by
  refine up_mem (fun y hy p hp => ?_) hu
  obtain ⟨i, hi, e⟩ := List.mem_iff_getElem.1 hy
  exact List.mem_of_mem_take (h i y (by rw [List.getElem?_eq_getElem hi, e]) p hp)
/-- What is listed: what was, and what the commits stand on. -/
theorem VL.mem {G : Gr} {D : Key → Bool} {n : Nat} {o hs o' : List Key} (v : VL G D n o hs o') {x : Key} : x ∈ o' → x ∈ o ∨ ∃ a ∈ hs, Up (adj G) a x := by
  induction v with
  | nil o => exact .inl
  | skip _ _ ih =>
    intro hx
    rcases ih hx with h | ⟨a, h1, h2⟩
    · exact .inl h
    · exact .inr ⟨a, by simp [h1], h2⟩
  | @go n m o o1 hs o' h g1 g2 a t ih1 ih2 =>
    intro hx
    rcases ih2 hx with h3 | ⟨b, h3, h4⟩
    · rcases List.mem_append.1 h3 with h3 | h3
      · rcases ih1 h3 with h4 | ⟨b, h4, h5⟩
        · exact .inl h4
        · exact .inr ⟨h, by simp, .step h4 h5⟩
      · rw [List.mem_singleton.1 h3]; exact .inr ⟨h, by simp, .refl _⟩
    · exact .inr ⟨b, by simp [h3], h4⟩
theorem VL.mem_iff {G : Gr} {n : Nat} {o hs o' : List Key} (v : VL G (fun _ => false) n o hs o') (h : PB G o) (x : Key) : x ∈ o' ↔ x ∈ o ∨ ∃ a ∈ hs, Up (adj G) a x := by
  refine ⟨v.mem, fun hx => ?_⟩
  rcases hx with hx | ⟨a, ha, hu⟩
  · exact v.sub hx
  · exact (v.pb h).1.up hu ((v.pb h).2 a ha)
end Go.Proofs.YtnpeahbbcolfmaaGreatDoor
namespace Go.Proofs.YtnpeahbbcolfmaaGreatDoor
open Go.RowKit
open Go.Maps
/-- A walk in memory, begun at W0: graph g, done fv, the list o, the map ml of what is listed. -/
structure WK (W0 W : World) (wk g bm ml : Nat) (X : Lx) (fv lv : Value) (o : List Key) : Prop where
  bel : Below W0.heap.size W0 W
  cell : W.heap[wk]? = some (.cells #[gp g, fv, lv, .map (some ml)] 135 (0, 0))
  ga : GA W0 g bm X
  own : HOwn W W0.heap.size lv o
  set : ∃ R, SetH W ml R ∧ ∀ x, x ∈ R ↔ x ∈ o
  h32 : H32 o
  lo : W0.heap.size ≤ wk ∧ W0.heap.size ≤ ml
theorem WK.kb {W0 W W' : World} {wk g bm ml : Nat} {X : Lx} {fv lv : Value} {o : List Key} (h : WK W0 W wk g bm ml X fv lv o) (k : Below W.heap.size W W') : WK W0 W' wk g bm ml X fv lv o := by
  obtain ⟨R, h1, h2⟩ := h.set
  exact ⟨h.bel.trans (k.mono h.bel.size), (mild_below k).cells h.cell, h.ga, own_below h.own k, ⟨R, h1.kb k h1.lt', h2⟩, h.h32, h.lo⟩
theorem WK.c {W0 W : World} {wk g bm ml : Nat} {X : Lx} {fv lv : Value} {o : List Key} (h : WK W0 W wk g bm ml X fv lv o) {i : Nat} {u : Value} (hu : (#[gp g, fv, lv, .map (some ml)] : Array Value)[i]? = some u) : W.cell? ⟨wk, i, none⟩ = some u := by rw [cell_of_row W wk i _ _ _ h.cell]; exact hu
theorem WK.g {W0 W : World} {wk g bm ml : Nat} {X : Lx} {fv lv : Value} {o : List Key} (h : WK W0 W wk g bm ml X fv lv o) : GA W g bm X := h.ga.kb h.bel
abbrev wkp (wk : Nat) : Value := .pointer (some ⟨wk, 0, none⟩)
/-- What a call may turn: the walk, its map, its list. -/
def wS (wk ml : Nat) (lv : Value) (j : Nat) : Prop := j = wk ∨ j = ml ∨ lv.ownBlock = some j
theorem WK.far {W0 W W' : World} {wk g bm ml : Nat} {X : Lx} {fv lv : Value} {o : List Key} (h : WK W0 W wk g bm ml X fv lv o) (ho : Only (wS wk ml lv) W W') : Below W0.heap.size W0 W' := h.bel.trans (ho.below h.bel.size (fun j hj => by
  rcases hj with rfl | rfl | hj
  · exact h.lo.1
  · exact h.lo.2
  · exact own_from h.own j hj))
/-- A hash more in a set. -/
theorem setH_upd {t e : TypeId} (ht : Tryz.prog.underlying t = some (.map 31 e)) {w : World} {b : Nat} {R : List Key} (h : SetH w b R) (n : Key) (hn : n.length = 32) (hl : R.length ≤ 1000000) :
    ∃ w', (Instr.mapUpdate t (.map (some b)) (.agg (hv n)) (.agg #[])).run Tryz.prog w = .ok () w' ∧ (∃ R', SetH w' b R' ∧ (∀ y, y ∈ R' ↔ y = n ∨ y ∈ R) ∧ (n ∉ R → R'.length = R.length + 1)) ∧ Only (fun k => k = b) w w' := by
  obtain ⟨M, h1, hu, rfl⟩ := h.ex
  rw [List.length_map] at hl
  obtain ⟨w', hr, h2, h3⟩ := h1.store ht n hn (by unfold maxLen; omega) (.agg #[])
  have hm : ∀ y, y ∈ (aput n (Value.agg #[]) M).map (·.1) ↔ y = n ∨ y ∈ M.map (·.1) := fun y => by
    simp only [List.mem_map]
    constructor
    · rintro ⟨p, hp, rfl⟩
      rcases (ains_mem _ _ _).1 hp with rfl | hp
      · exact .inl rfl
      · exact .inr ⟨p, ((adel_mem _ _ _).1 hp).1, rfl⟩
    · rintro (rfl | ⟨p, hp, rfl⟩)
      · exact ⟨_, (ains_mem _ _ _).2 (.inl rfl), rfl⟩
      · by_cases e : p.1 = n
        · exact ⟨_, (ains_mem _ _ _).2 (.inl rfl), e.symm⟩
        · exact ⟨p, (ains_mem _ _ _).2 (.inr ((adel_mem _ _ _).2 ⟨hp, e⟩)), rfl⟩
  refine ⟨w', hr, ⟨_, ⟨⟨_, h2, fun p hp => ?_, rfl⟩⟩, hm, fun hno => ?_⟩, h3⟩
  · rcases (ains_mem _ _ _).1 hp with rfl | hp
    · rfl
    · exact hu p ((adel_mem _ _ _).1 hp).1
  · have hg : aget n M = none := by
      have := aget_isSome (n := n) (M := M)
      rw [decide_eq_false hno] at this
      cases hgg : aget n M with
      | none => rfl
      | some v => rw [hgg] at this; cases this
    have hs := asum_put (fun _ => 1) n (Value.agg #[]) h1.asc
    rw [hg] at hs
    simp only [asum_one, olen] at hs
    rw [List.length_map, List.length_map]; omega
theorem wk_set {W : World} {wk : Nat} {a b c d : Value} {t : TypeId} (h : W.heap[wk]? = some (.cells #[a, b, c, d] t (0, 0))) (u : Value) : (W.setCell ⟨wk, 2, none⟩ u).heap[wk]? = some (.cells #[a, b, u, d] t (0, 0)) := by
  rw [heap_setCell_same W wk 2 _ _ _ h]; rfl
/-- What is listed, looked up. -/
theorem WK.look {W0 W : World} {wk g bm ml : Nat} {X : Lx} {fv lv : Value} {o : List Key} (h : WK W0 W wk g bm ml X fv lv o) (x : Key) (hx : x.length = 32) :
    (Instr.lookup 112 (.map (some ml)) (.agg (hv x)) true).run Tryz.prog W = .ok (.tuple #[.agg #[], .bool (decide (x ∈ o))]) W := by
  obtain ⟨R, ⟨M, HM, hu, rfl⟩, h2⟩ := h.set
  have hlk := HM.lookOk Tryz.underlying112 (uzero _) x hx
  rw [set_get hu, aget_isSome] at hlk
  have e : decide (x ∈ M.map (·.1)) = decide (x ∈ o) := decide_eq_decide.2 (h2 x)
  rw [e] at hlk
  exact hlk
set_option linter.unusedSimpArgs false in
set_option maxRecDepth 20000 in
set_option maxHeartbeats 4000000 in
attribute [local go_sem ↓] hld_open in
theorem whas_to (W0 w : World) (wk g bm ml : Nat) (X : Lx) (fv lv : Value) (o : List Key) (H : WK W0 w wk g bm ml X fv lv o) (x : Key) (hx : x.length = 32) :
    Calls Tryz.prog 118 #[wkp wk, .agg (hv x)] w fun e w' => e = .returned (.bool (decide (x ∈ o))) ∧ Below w.heap.size w w' := by
  have BA := Lib.hid (below_al11 w (.cells (hv x) 31))
  have HB := Lib.hid (heap_alloc_last w (.cells (hv x) 31))
  have HW := Lib.hid (H.kb BA.out)
  have HX := Lib.hid hx
  obtain ⟨d, hd⟩ : ∃ d, d = decide (x ∈ o) := ⟨_, rfl⟩
  have HD := Lib.hid hd
  rw [← hd]
  clear H hx hd
  go_enter Tryz.func118, Tryz.ntmps118
  go_upto_region 1 with fail
  generalize w.alloc (.cells (hv x) 31) = w0 at *
  generalize hb : w.heap.size = b at HB
  clear hb
  have bq : Below w0.heap.size w0 w0.drew := blw_qt _ 1 w0
  have HWq := Lib.hid (HW.out.kb bq)
  have HBq := Lib.hid ((mild_below bq).cells HB.out)
  have Bq : Hid (Below w.heap.size w w0.drew) := Lib.hid (BA.out.trans (bq.mono BA.out.size))
  have HLK := Lib.hid (fun (V : World) (k : Below w0.drew.heap.size w0.drew V) => (by have h1 := (HWq.out.kb k).look x HX.out; rw [← HD.out] at h1; exact ⟨(HWq.out.kb k).c (i := 3) rfl, hld_row HX.out ((mild_below k).cells HBq.out), h1⟩ : V.cell? ⟨wk, 3, none⟩ = some (.map (some ml)) ∧ (hld ⟨b, 0, none⟩).run Tryz.prog V = .ok (.agg (hv x)) V ∧ (Instr.lookup 112 (.map (some ml)) (.agg (hv x)) true).run Tryz.prog V = .ok (.tuple #[.agg #[], .bool d]) V))
  clear bq
  go_wp2_with fail
  try simp only [List.append]
  refine wp_region_noPanic ?_
  refine wp_region_held_drew (S := (fun V => V.cell? ⟨wk, 3, none⟩ = some (.map (some ml)) ∧ (hld ⟨b, 0, none⟩).run Tryz.prog V = .ok (.agg (hv x)) V ∧ (Instr.lookup 112 (.map (some ml)) (.agg (hv x)) true).run Tryz.prog V = .ok (.tuple #[.agg #[], .bool d]) V)) (by kernel_rfl) (HLK.out _ (Below.refl _ _)) (fun hHeld => ?_)
  generalize w0.drew = cw at *
  refine wpAnyH_take (i := 0) (v := ?_) (by simp only [List.getElem?_toArray, List.getElem?_cons_zero]; rfl) (by kernel_rfl) (by kernel_rfl) (by kernel_rfl) (fun _ _ _ h => h) (Or.inl ⟨by rfl, ?_⟩) (by assumption) ?_
  rotate_left
  · intro w hSw
    try dsimp only at hSw
    go_simp
    try with_reducible rfl
  try simp only [Act.put, List.setIfInBounds_toArray, List.set_cons_zero, List.set_cons_succ]
  refine wpAnyH_take (i := 1) (v := ?_) (by simp only [List.getElem?_toArray, List.getElem?_cons_succ, List.getElem?_cons_zero]; rfl) (by kernel_rfl) (by kernel_rfl) (by kernel_rfl) (fun _ _ _ h => h) (Or.inl ⟨by rfl, ?_⟩) (by assumption) ?_
  rotate_left
  · intro w hSw
    try dsimp only at hSw
    go_simp
    try with_reducible rfl
  try simp only [Act.put, List.setIfInBounds_toArray, List.set_cons_zero, List.set_cons_succ]
  refine wpAnyH_take (i := 2) (v := ?_) (by simp only [List.getElem?_toArray, List.getElem?_cons_succ, List.getElem?_cons_zero]; rfl) (by kernel_rfl) (by kernel_rfl) (by kernel_rfl) (fun _ _ _ h => h) (Or.inl ⟨by rfl, ?_⟩) (by assumption) ?_
  rotate_left
  · intro w hSw
    try dsimp only at hSw
    go_simp
    try with_reducible rfl
  try simp only [Act.put, List.setIfInBounds_toArray, List.set_cons_zero, List.set_cons_succ]
  refine wpAnyH_take (i := 3) (v := ?_) (by simp only [List.getElem?_toArray, List.getElem?_cons_succ, List.getElem?_cons_zero]; rfl) (by kernel_rfl) (by kernel_rfl) (by kernel_rfl) (fun _ _ _ h => h) (Or.inl ⟨by rfl, ?_⟩) (by assumption) ?_
  rotate_left
  · intro w hSw
    try dsimp only at hSw
    go_simp
    try with_reducible rfl
  try simp only [Act.put, List.setIfInBounds_toArray, List.set_cons_zero, List.set_cons_succ]
  refine wpAnyH_take (i := 4) (v := ?_) (by simp only [List.getElem?_toArray, List.getElem?_cons_succ, List.getElem?_cons_zero]; rfl) (by kernel_rfl) (by kernel_rfl) (by kernel_rfl) (fun _ _ _ h => h) (Or.inl ⟨by rfl, ?_⟩) (by assumption) ?_
  rotate_left
  · intro w hSw
    try dsimp only at hSw
    go_simp
    try with_reducible rfl
  try simp only [Act.put, List.setIfInBounds_toArray, List.set_cons_zero, List.set_cons_succ]
  refine wpAnyH_take (i := 5) (v := ?_) (by simp only [List.getElem?_toArray, List.getElem?_cons_succ, List.getElem?_cons_zero]; rfl) (by kernel_rfl) (by kernel_rfl) (by kernel_rfl) (fun _ _ _ h => h) (Or.inl ⟨by rfl, ?_⟩) (by assumption) ?_
  rotate_left
  · intro w hSw
    try dsimp only at hSw
    go_simp
    try with_reducible rfl
  try simp only [Act.put, List.setIfInBounds_toArray, List.set_cons_zero, List.set_cons_succ]
  refine wpAnyH_take (i := 6) (v := ?_) (by simp only [List.getElem?_toArray, List.getElem?_cons_succ, List.getElem?_cons_zero]; rfl) (by kernel_rfl) (by kernel_rfl) (by kernel_rfl) (fun _ _ _ h => h) (Or.inl ⟨by rfl, ?_⟩) (by assumption) ?_
  rotate_left
  · intro w hSw
    try dsimp only at hSw
    go_simp
    try with_reducible rfl
  try simp only [Act.put, List.setIfInBounds_toArray, List.set_cons_zero, List.set_cons_succ]
  refine wpAnyH_take (i := 7) (v := ?_) (by simp only [List.getElem?_toArray, List.getElem?_cons_succ, List.getElem?_cons_zero]; rfl) (by kernel_rfl) (by kernel_rfl) (by kernel_rfl) (fun _ _ _ h => h) (Or.inl ⟨by rfl, ?_⟩) (by assumption) ?_
  rotate_left
  · intro w hSw
    try dsimp only at hSw
    go_simp
    try with_reducible rfl
  try simp only [Act.put, List.setIfInBounds_toArray, List.set_cons_zero, List.set_cons_succ]
  refine wpAnyH_take (i := 8) (v := ?_) (by simp only [List.getElem?_toArray, List.getElem?_cons_succ, List.getElem?_cons_zero]; rfl) (by kernel_rfl) (by kernel_rfl) (by kernel_rfl) (fun _ _ _ h => h) (Or.inl ⟨by rfl, ?_⟩) (by assumption) ?_
  rotate_left
  · intro w hSw
    try dsimp only at hSw
    go_simp
    try with_reducible rfl
  try simp only [Act.put, List.setIfInBounds_toArray, List.set_cons_zero, List.set_cons_succ]
  refine wpAnyH_ready (rs := [9]) (by kernel_rfl) (by simp) ?_
  refine AllReadyH.cons (by simp only [List.getElem?_toArray, List.getElem?_cons_succ, List.getElem?_cons_zero]; rfl) (fun K hK => ?_) AllReadyH.nil
  go_simp
  have AL := Lib.hid (below_al11 cw (.cells #[] 156))
  refine hK.out _ _ (HLK.out _ AL.out) (fun hHeld => ?_)
  clear hK K
  try simp only [Act.put, List.setIfInBounds_toArray, List.set_cons_zero, List.set_cons_succ]
  have BX := Lib.hid (Bq.out.trans (AL.out.mono Bq.out.size))
  clear HWq HBq Bq
  generalize hcx : cw.alloc (.cells #[] 156) = cx at *
  refine wpAnyH_ready (rs := [10]) (by kernel_rfl) (by simp) ?_
  refine AllReadyH.cons (by simp only [List.getElem?_toArray, List.getElem?_cons_succ, List.getElem?_cons_zero]; rfl) (fun K hK => ?_) AllReadyH.nil
  go_simp
  refine hK.out _ _ (HLK.out _ AL.out) (fun hHeld => ?_)
  clear hK K
  try simp only [Act.put, List.setIfInBounds_toArray, List.set_cons_zero, List.set_cons_succ]
  refine wpAnyH_take (i := 11) (v := ?_) (by simp only [List.getElem?_toArray, List.getElem?_cons_succ, List.getElem?_cons_zero]; rfl) (by kernel_rfl) (by kernel_rfl) (by kernel_rfl) (fun _ _ _ h => h) (Or.inl ⟨by rfl, ?_⟩) (by assumption) ?_
  rotate_left
  · intro w hSw
    try dsimp only at hSw
    go_simp
    try with_reducible rfl
  try simp only [Act.put, List.setIfInBounds_toArray, List.set_cons_zero, List.set_cons_succ]
  refine wpAnyH_done (by kernel_rfl) ?_ _
  refine NoPanic.normal ?_
  clear hHeld
  go_wp2_with fail
  go_ret
  exact ⟨rfl, BX.out⟩
set_option linter.unusedSimpArgs false in
set_option maxRecDepth 20000 in
set_option maxHeartbeats 4000000 in
attribute [local go_sem ↓] hld_open in
theorem wadd_to (W0 w : World) (wk g bm ml : Nat) (X : Lx) (fv lv : Value) (o : List Key) (H : WK W0 w wk g bm ml X fv lv o) (x : Key) (hx : x.length = 32) (hl : o.length + 1 ≤ 1000000) :
    Calls Tryz.prog 104 #[wkp wk, .agg (hv x)] w fun e w' => e = .returned (.tuple #[]) ∧ ∃ lv', WK W0 w' wk g bm ml X fv lv' (o ++ [x]) ∧ Only (wS wk ml lv) w w' ∧ ∀ j, lv'.ownBlock = some j → lv.ownBlock = some j ∨ w.heap.size ≤ j := by
  obtain ⟨q, m, c, rfl, hm⟩ := own_sh H.own
  have HM := Lib.hid hm
  have BA := Lib.hid (below_al11 w (.cells (hv x) 31))
  have HB := Lib.hid (heap_alloc_last w (.cells (hv x) 31))
  have HW := Lib.hid (H.kb BA.out)
  have HX := Lib.hid hx
  have HL := Lib.hid hl
  have HWE := Lib.hid H
  clear hx hl hm H
  go_enter Tryz.func104, Tryz.ntmps104
  go_upto_region 1 with fail
  generalize w.alloc (.cells (hv x) 31) = w0 at *
  generalize hb : w.heap.size = b at HB
  have HBE := Lib.hid hb
  clear hb
  have HNB : Hid (b ≠ wk) := Lib.hid (fun e => by have h1 := HB.out; rw [e, HW.out.cell] at h1; injection h1 with h1; injection h1 with _ h1 _; revert h1; decide)
  have BW : Hid (Below w0.heap.size w0 w0.drew) := Lib.hid (blw_qt _ 1 w0)
  have HC := Lib.hid (fun (V : World) (k : Below w0.heap.size w0 V) => (HW.out.kb k).c (i := 2) rfl)
  have HLD := Lib.hid (fun (V : World) (k : Below w0.heap.size w0 V) => hld_row (w := V) HX.out ((mild_below k).cells HB.out))
  go_wp2_with fail
  try simp only [List.append]
  refine wp_region_noPanic ?_
  refine wp_region_held_drew (S := (fun V => (hld ⟨b, 0, none⟩).run Tryz.prog V = .ok (.agg (hv x)) V)) (by kernel_rfl) (HLD.out _ BW.out) (fun hHeld => ?_)
  generalize w0.drew = cw at *
  refine wpAnyH_take (i := 0) (v := ?_) (by simp only [List.getElem?_toArray, List.getElem?_cons_zero]; rfl) (by kernel_rfl) (by kernel_rfl) (by kernel_rfl) (fun _ _ _ h => h) (Or.inl ⟨by rfl, ?_⟩) (by assumption) ?_
  rotate_left
  · intro w hSw
    try dsimp only at hSw
    go_simp
    try with_reducible rfl
  try simp only [Act.put, List.setIfInBounds_toArray, List.set_cons_zero, List.set_cons_succ]
  refine wpAnyH_take (i := 1) (v := ?_) (by simp only [List.getElem?_toArray, List.getElem?_cons_succ, List.getElem?_cons_zero]; rfl) (by kernel_rfl) (by kernel_rfl) (by kernel_rfl) (fun _ _ _ h => h) (Or.inl ⟨by rfl, ?_⟩) (by assumption) ?_
  rotate_left
  · intro w hSw
    try dsimp only at hSw
    go_simp
    try with_reducible rfl
  try simp only [Act.put, List.setIfInBounds_toArray, List.set_cons_zero, List.set_cons_succ]
  refine wpAnyH_take (i := 2) (v := ?_) (by simp only [List.getElem?_toArray, List.getElem?_cons_succ, List.getElem?_cons_zero]; rfl) (by kernel_rfl) (by kernel_rfl) (by kernel_rfl) (fun _ _ _ h => h) (Or.inl ⟨by rfl, ?_⟩) (by assumption) ?_
  rotate_left
  · intro w hSw
    try dsimp only at hSw
    go_simp
    try with_reducible rfl
  try simp only [Act.put, List.setIfInBounds_toArray, List.set_cons_zero, List.set_cons_succ]
  refine wpAnyH_take (i := 3) (v := ?_) (by simp only [List.getElem?_toArray, List.getElem?_cons_succ, List.getElem?_cons_zero]; rfl) (by kernel_rfl) (by kernel_rfl) (by kernel_rfl) (fun _ _ _ h => h) (Or.inl ⟨by rfl, ?_⟩) (by assumption) ?_
  rotate_left
  · intro w hSw
    try dsimp only at hSw
    go_simp
    try with_reducible rfl
  try simp only [Act.put, List.setIfInBounds_toArray, List.set_cons_zero, List.set_cons_succ]
  refine wpAnyH_take (i := 5) (v := ?_) (by simp only [List.getElem?_toArray, List.getElem?_cons_succ, List.getElem?_cons_zero]; rfl) (by kernel_rfl) (by kernel_rfl) (by kernel_rfl) (fun _ _ _ h => h) (Or.inl ⟨by rfl, ?_⟩) (by assumption) ?_
  rotate_left
  · intro w hSw
    try dsimp only at hSw
    go_simp
    try with_reducible rfl
  try simp only [Act.put, List.setIfInBounds_toArray, List.set_cons_zero, List.set_cons_succ]
  refine wpAnyH_ready (rs := [4, 6]) (by kernel_rfl) (by simp) ?_
  refine (AllReadyH.cons (by simp only [List.getElem?_toArray, List.getElem?_cons_succ, List.getElem?_cons_zero]; rfl) (fun K hK => ?_) (AllReadyH.cons (by simp only [List.getElem?_toArray, List.getElem?_cons_succ, List.getElem?_cons_zero]; rfl) (fun K hK => ?_) AllReadyH.nil))
  · have hc := HC.out cw BW.out
    go_simp
    clear hc
    refine hK.out _ _ (HLD.out _ BW.out) (fun hHeld => ?_)
    clear hK K
    try simp only [Act.put, List.setIfInBounds_toArray, List.set_cons_zero, List.set_cons_succ]
    refine wpAnyH_ready (rs := [6]) (by kernel_rfl) (by simp) ?_
    refine (AllReadyH.cons (by simp only [List.getElem?_toArray, List.getElem?_cons_succ, List.getElem?_cons_zero]; rfl) (fun K hK => ?_) AllReadyH.nil)
    refine step_sl1 x HX.out (by rfl) (by rfl) ?_
    have HN := Lib.hid (heap_alloc_last cw (.cells (hv x) 31))
    have BW := Lib.hid (BW.out.trans ((below_al11 cw (.cells (hv x) 31)).mono BW.out.size))
    generalize cw.alloc (.cells (hv x) 31) = cx at *
    generalize cw.heap.size = nb at *
    rename World => cw
    refine hK.out _ _ (HLD.out _ BW.out) (fun hHeld => ?_)
    clear hK K
    try simp only [Act.put, List.setIfInBounds_toArray, List.set_cons_zero, List.set_cons_succ]
    refine wpAnyH_ready (rs := [7]) (by kernel_rfl) (by simp) ?_
    refine (AllReadyH.cons (by simp only [List.getElem?_toArray, List.getElem?_cons_succ, List.getElem?_cons_zero]; rfl) (fun K hK => ?_) AllReadyH.nil)
    have OW := Lib.hid (own_below HW.out.own BW.out)
    have CW7 := Lib.hid ((mild_below BW.out).cells HW.out.cell)
    have HBW := Lib.hid ((mild_below BW.out).cells HB.out)
    refine step_pushh rfl _ _ rfl W0.heap.size (.slice q m c) o nb x HX.out (by rfl) OW.out (by rfl) HN.out HL.out (Nat.le_trans HW.out.bel.size BW.out.size) (m + 1) (by rw [HM.out]) ?_
    intro p7 c7 cx o7 oth7 loc7
    have O7 := Lib.hid o7
    have HB7 := Lib.hid ((oth7.block b (Array.getElem?_eq_some_iff.1 HBW.out).1 (fun e => by have h1 := own_lt HWE.out.own b e; have h2 := HBE.out; omega)).trans HBW.out)
    have C7 := Lib.hid ((oth7.block wk (Array.getElem?_eq_some_iff.1 CW7.out).1 (fun e => own_apart OW.out CW7.out (by decide) e)).trans CW7.out)
    have OT7 : Hid (Only (fun j => (Value.slice q m c).ownBlock = some j) w cx) := Lib.hid ((Only.of_below (S := fun j => (Value.slice q m c).ownBlock = some j) (BA.out.trans (BW.out.mono BA.out.size))).trans oth7 (fun _ h => h) (fun _ _ h => h))
    have LOC7 : Hid (∀ j, (Value.slice p7 (m + 1) c7).ownBlock = some j → (Value.slice q m c).ownBlock = some j ∨ w.heap.size ≤ j) := Lib.hid (fun j hj => (loc7 j hj).imp id (fun h => Nat.le_trans (Nat.le_trans BA.out.size BW.out.size) h))
    clear o7 oth7 loc7 OW CW7 HBW BW HN
    rename World => cw
    refine hK.out _ _ (hld_row HX.out HB7.out) (fun hHeld => ?_)
    clear hK K
    try simp only [Act.put, List.setIfInBounds_toArray, List.set_cons_zero, List.set_cons_succ]
    refine wpAnyH_take (i := 8) (v := ?_) (by simp only [List.getElem?_toArray, List.getElem?_cons_succ, List.getElem?_cons_zero]; rfl) (by kernel_rfl) (by kernel_rfl) (by kernel_rfl) (fun _ _ _ h => h) (Or.inl ⟨by rfl, ?_⟩) (by assumption) ?_
    rotate_left
    · intro w hSw
      try dsimp only at hSw
      go_simp
      try with_reducible rfl
    try simp only [Act.put, List.setIfInBounds_toArray, List.set_cons_zero, List.set_cons_succ]
    refine wpAnyH_take (i := 9) (v := ?_) (by simp only [List.getElem?_toArray, List.getElem?_cons_succ, List.getElem?_cons_zero]; rfl) (by kernel_rfl) (by kernel_rfl) (by kernel_rfl) (fun _ _ _ h => h) (Or.inl ⟨by rfl, ?_⟩) (by assumption) ?_
    rotate_left
    · intro w hSw
      try dsimp only at hSw
      go_simp
      try with_reducible rfl
    try simp only [Act.put, List.setIfInBounds_toArray, List.set_cons_zero, List.set_cons_succ]
    refine wpAnyH_ready (rs := [10]) (by kernel_rfl) (by simp) ?_
    refine (AllReadyH.cons (by simp only [List.getElem?_toArray, List.getElem?_cons_succ, List.getElem?_cons_zero]; rfl) (fun K hK => ?_) AllReadyH.nil)
    have hc := cell_obj C7.out 2 rfl
    have hf : cw.frozen? ⟨wk, 2, none⟩ = false := frozen_of_row _ _ _ _ _ C7.out
    have OS : Only (fun j => j = wk) cw (cw.setCell ⟨wk, 2, none⟩ (.slice p7 (m + 1) c7)) := (Only.refl (fun j => j = wk) cw).setCell (p := ⟨wk, 2, none⟩) rfl _
    have HB8 := Lib.hid ((OS.block b (Array.getElem?_eq_some_iff.1 HB7.out).1 HNB.out).trans HB7.out)
    have C8 := Lib.hid (wk_set C7.out (.slice p7 (m + 1) c7))
    have O8 := Lib.hid (own_keep O7.out OS (fun j hj e => own_apart O7.out C7.out (by decide) (by rw [hj, e])))
    have OT8 : Hid (Only (wS wk ml (.slice q m c)) w (cw.setCell ⟨wk, 2, none⟩ (.slice p7 (m + 1) c7))) := Lib.hid (OT7.out.trans OS (fun _ h => .inr (.inr h)) (fun _ _ h => .inl h))
    have HLM : Hid (ml < w.heap.size ∧ b ≠ ml ∧ wk ≠ ml) := Lib.hid (by
      obtain ⟨R, h1, _⟩ := HWE.out.set
      have h2 := h1.lt'
      have h3 := HBE.out
      refine ⟨by omega, by omega, fun e => ?_⟩
      obtain ⟨M, h4, _⟩ := h1.ex
      obtain ⟨es, cc, h5⟩ := h4.ismap
      rw [← e, HWE.out.cell] at h5
      cases h5)
    have S8 : Hid (∃ R, SetH (cw.setCell ⟨wk, 2, none⟩ (.slice p7 (m + 1) c7)) ml R ∧ ∀ y, y ∈ R ↔ y ∈ o) := Lib.hid (by
      obtain ⟨R, h1, h2⟩ := HWE.out.set
      refine ⟨R, h1.step (OT7.out.trans OS (fun _ h => Or.inl h) (fun _ _ h => Or.inr h)) (fun h => ?_), h2⟩
      rcases h with h | h
      · obtain ⟨M, h4, _⟩ := h1.ex
        exact own_ne_map HWE.out.own h4 h
      · exact HLM.out.2.2 h.symm)
    go_simp
    clear hc hf OS C7 HB7 O7 OT7
    refine hK.out _ _ (hld_row HX.out HB8.out) (fun hHeld => ?_)
    clear hK K
    try simp only [Act.put, List.setIfInBounds_toArray, List.set_cons_zero, List.set_cons_succ]
    refine wpAnyH_done (by kernel_rfl) ?_ _
    refine NoPanic.normal ?_
    clear hHeld
    generalize cw.setCell ⟨wk, 2, none⟩ (.slice p7 (m + 1) c7) = w2 at *
    have bq : Below w2.heap.size w2 w2.drew := blw_qt _ 1 w2
    have C9 := Lib.hid ((mild_below bq).cells C8.out)
    have HB9 := Lib.hid ((mild_below bq).cells HB8.out)
    have O9 := Lib.hid (own_below O8.out bq)
    have OT9 : Hid (Only (wS wk ml (.slice q m c)) w w2.drew) := Lib.hid (OT8.out.trans (Only.of_below (S := wS wk ml (.slice q m c)) bq) (fun _ h => h) (fun _ _ h => h))
    have S9 : Hid (∃ R, SetH w2.drew ml R ∧ ∀ y, y ∈ R ↔ y ∈ o) := Lib.hid (by
      obtain ⟨R, h1, h2⟩ := S8.out
      exact ⟨R, h1.kb bq h1.lt', h2⟩)
    clear bq C8 HB8 O8 OT8 S8
    go_wp2_with fail
    try simp only [List.append]
    refine wp_region_noPanic ?_
    refine wp_region_held_drew (S := (fun V => V.cell? ⟨wk, 3, none⟩ = some (.map (some ml)) ∧ (hld ⟨b, 0, none⟩).run Tryz.prog V = .ok (.agg (hv x)) V)) (by kernel_rfl) ⟨cell_obj C9.out 3 rfl, hld_row HX.out HB9.out⟩ (fun hHeld => ?_)
    generalize w2.drew = w3 at *
    obtain ⟨R, hS, hR⟩ := S9.out
    obtain ⟨wm, hmu, ⟨R', s5, hR', _⟩, o5⟩ := setH_upd Tryz.underlying112 hS x HX.out (by have := nodup_le (setH_nodup hS) (fun y hy => (hR y).1 hy); have := HL.out; omega)
    have HMU := Lib.hid hmu
    have HNM : Hid ((Value.slice p7 (m + 1) c7).ownBlock ≠ some ml) := Lib.hid (by
      obtain ⟨M, h4, _⟩ := hS.ex
      exact own_ne_map O9.out h4)
    have CM := Lib.hid ((o5.block wk (Array.getElem?_eq_some_iff.1 C9.out).1 HLM.out.2.2).trans C9.out)
    have HBM := Lib.hid ((o5.block b (Array.getElem?_eq_some_iff.1 HB9.out).1 HLM.out.2.1).trans HB9.out)
    have OM := Lib.hid (own_keep O9.out o5 (fun j hj e => HNM.out (by rw [hj, e])))
    have OTM : Hid (Only (wS wk ml (.slice q m c)) w wm) := Lib.hid (OT9.out.trans o5 (fun _ h => h) (fun _ _ h => .inr (.inl h)))
    have SM : Hid (∃ R, SetH wm ml R ∧ ∀ y, y ∈ R ↔ y ∈ o ++ [x]) := Lib.hid ⟨R', s5, fun y => by
      rw [hR', hR, List.mem_append, List.mem_singleton]
      exact or_comm⟩
    clear hmu hS hR s5 hR' o5 C9 HB9 O9 OT9 S9
    refine wpAnyH_take (i := 0) (v := ?_) (by simp only [List.getElem?_toArray, List.getElem?_cons_zero]; rfl) (by kernel_rfl) (by kernel_rfl) (by kernel_rfl) (fun _ _ _ h => h) (Or.inl ⟨by rfl, ?_⟩) (by assumption) ?_
    rotate_left
    · intro w hSw
      try dsimp only at hSw
      go_simp
      try with_reducible rfl
    try simp only [Act.put, List.setIfInBounds_toArray, List.set_cons_zero, List.set_cons_succ]
    refine wpAnyH_take (i := 1) (v := ?_) (by simp only [List.getElem?_toArray, List.getElem?_cons_succ, List.getElem?_cons_zero]; rfl) (by kernel_rfl) (by kernel_rfl) (by kernel_rfl) (fun _ _ _ h => h) (Or.inl ⟨by rfl, ?_⟩) (by assumption) ?_
    rotate_left
    · intro w hSw
      try dsimp only at hSw
      go_simp
      try with_reducible rfl
    try simp only [Act.put, List.setIfInBounds_toArray, List.set_cons_zero, List.set_cons_succ]
    refine wpAnyH_take (i := 2) (v := ?_) (by simp only [List.getElem?_toArray, List.getElem?_cons_succ, List.getElem?_cons_zero]; rfl) (by kernel_rfl) (by kernel_rfl) (by kernel_rfl) (fun _ _ _ h => h) (Or.inl ⟨by rfl, ?_⟩) (by assumption) ?_
    rotate_left
    · intro w hSw
      try dsimp only at hSw
      go_simp
      try with_reducible rfl
    try simp only [Act.put, List.setIfInBounds_toArray, List.set_cons_zero, List.set_cons_succ]
    refine wpAnyH_take (i := 3) (v := ?_) (by simp only [List.getElem?_toArray, List.getElem?_cons_succ, List.getElem?_cons_zero]; rfl) (by kernel_rfl) (by kernel_rfl) (by kernel_rfl) (fun _ _ _ h => h) (Or.inl ⟨by rfl, ?_⟩) (by assumption) ?_
    rotate_left
    · intro w hSw
      try dsimp only at hSw
      go_simp
      try with_reducible rfl
    try simp only [Act.put, List.setIfInBounds_toArray, List.set_cons_zero, List.set_cons_succ]
    refine wpAnyH_take (i := 4) (v := ?_) (by simp only [List.getElem?_toArray, List.getElem?_cons_succ, List.getElem?_cons_zero]; rfl) (by kernel_rfl) (by kernel_rfl) (by kernel_rfl) (fun _ _ _ h => h) (Or.inl ⟨by rfl, ?_⟩) (by assumption) ?_
    rotate_left
    · intro w hSw
      try dsimp only at hSw
      go_simp
      try with_reducible rfl
    try simp only [Act.put, List.setIfInBounds_toArray, List.set_cons_zero, List.set_cons_succ]
    refine wpAnyH_take (i := 5) (v := ?_) (by simp only [List.getElem?_toArray, List.getElem?_cons_succ, List.getElem?_cons_zero]; rfl) (by kernel_rfl) (by kernel_rfl) (by kernel_rfl) (fun _ _ _ h => h) (Or.inl ⟨by rfl, ?_⟩) (by assumption) ?_
    rotate_left
    · intro w hSw
      try dsimp only at hSw
      go_simp
      try with_reducible rfl
    try simp only [Act.put, List.setIfInBounds_toArray, List.set_cons_zero, List.set_cons_succ]
    refine wpAnyH_ready (rs := [6]) (by kernel_rfl) (by simp) ?_
    refine AllReadyH.cons (by simp only [List.getElem?_toArray, List.getElem?_cons_succ, List.getElem?_cons_zero]; rfl) (fun K hK => ?_) AllReadyH.nil
    refine step_upd rfl _ _ _ rfl (by rfl) (by rfl) (by rfl) HMU.out ?_
    refine hK.out _ _ ⟨cell_obj CM.out 3 rfl, hld_row HX.out HBM.out⟩ (fun hHeld => ?_)
    clear hK K
    try simp only [Act.put, List.setIfInBounds_toArray, List.set_cons_zero, List.set_cons_succ]
    refine wpAnyH_done (by kernel_rfl) ?_ _
    refine NoPanic.normal ?_
    clear hHeld
    go_wp2_with fail
    refine bodyPost_end (results_none rfl _ _ _) rfl ?_
    exact ⟨rfl, _, ⟨HWE.out.far OTM.out, CM.out, HWE.out.ga, OM.out, SM.out, HWE.out.h32.app (H32.one HX.out), HWE.out.lo⟩, OTM.out, LOC7.out⟩
  · refine step_sl1 x HX.out (by rfl) (by rfl) ?_
    have HN := Lib.hid (heap_alloc_last cw (.cells (hv x) 31))
    have BW := Lib.hid (BW.out.trans ((below_al11 cw (.cells (hv x) 31)).mono BW.out.size))
    generalize cw.alloc (.cells (hv x) 31) = cx at *
    generalize cw.heap.size = nb at *
    rename World => cw
    refine hK.out _ _ (HLD.out _ BW.out) (fun hHeld => ?_)
    clear hK K
    try simp only [Act.put, List.setIfInBounds_toArray, List.set_cons_zero, List.set_cons_succ]
    refine wpAnyH_ready (rs := [4]) (by kernel_rfl) (by simp) ?_
    refine (AllReadyH.cons (by simp only [List.getElem?_toArray, List.getElem?_cons_succ, List.getElem?_cons_zero]; rfl) (fun K hK => ?_) AllReadyH.nil)
    have hc := HC.out cw BW.out
    go_simp
    clear hc
    refine hK.out _ _ (HLD.out _ BW.out) (fun hHeld => ?_)
    clear hK K
    try simp only [Act.put, List.setIfInBounds_toArray, List.set_cons_zero, List.set_cons_succ]
    refine wpAnyH_ready (rs := [7]) (by kernel_rfl) (by simp) ?_
    refine (AllReadyH.cons (by simp only [List.getElem?_toArray, List.getElem?_cons_succ, List.getElem?_cons_zero]; rfl) (fun K hK => ?_) AllReadyH.nil)
    have OW := Lib.hid (own_below HW.out.own BW.out)
    have CW7 := Lib.hid ((mild_below BW.out).cells HW.out.cell)
    have HBW := Lib.hid ((mild_below BW.out).cells HB.out)
    refine step_pushh rfl _ _ rfl W0.heap.size (.slice q m c) o nb x HX.out (by rfl) OW.out (by rfl) HN.out HL.out (Nat.le_trans HW.out.bel.size BW.out.size) (m + 1) (by rw [HM.out]) ?_
    intro p7 c7 cx o7 oth7 loc7
    have O7 := Lib.hid o7
    have HB7 := Lib.hid ((oth7.block b (Array.getElem?_eq_some_iff.1 HBW.out).1 (fun e => by have h1 := own_lt HWE.out.own b e; have h2 := HBE.out; omega)).trans HBW.out)
    have C7 := Lib.hid ((oth7.block wk (Array.getElem?_eq_some_iff.1 CW7.out).1 (fun e => own_apart OW.out CW7.out (by decide) e)).trans CW7.out)
    have OT7 : Hid (Only (fun j => (Value.slice q m c).ownBlock = some j) w cx) := Lib.hid ((Only.of_below (S := fun j => (Value.slice q m c).ownBlock = some j) (BA.out.trans (BW.out.mono BA.out.size))).trans oth7 (fun _ h => h) (fun _ _ h => h))
    have LOC7 : Hid (∀ j, (Value.slice p7 (m + 1) c7).ownBlock = some j → (Value.slice q m c).ownBlock = some j ∨ w.heap.size ≤ j) := Lib.hid (fun j hj => (loc7 j hj).imp id (fun h => Nat.le_trans (Nat.le_trans BA.out.size BW.out.size) h))
    clear o7 oth7 loc7 OW CW7 HBW BW HN
    rename World => cw
    refine hK.out _ _ (hld_row HX.out HB7.out) (fun hHeld => ?_)
    clear hK K
    try simp only [Act.put, List.setIfInBounds_toArray, List.set_cons_zero, List.set_cons_succ]
    refine wpAnyH_take (i := 8) (v := ?_) (by simp only [List.getElem?_toArray, List.getElem?_cons_succ, List.getElem?_cons_zero]; rfl) (by kernel_rfl) (by kernel_rfl) (by kernel_rfl) (fun _ _ _ h => h) (Or.inl ⟨by rfl, ?_⟩) (by assumption) ?_
    rotate_left
    · intro w hSw
      try dsimp only at hSw
      go_simp
      try with_reducible rfl
    try simp only [Act.put, List.setIfInBounds_toArray, List.set_cons_zero, List.set_cons_succ]
    refine wpAnyH_take (i := 9) (v := ?_) (by simp only [List.getElem?_toArray, List.getElem?_cons_succ, List.getElem?_cons_zero]; rfl) (by kernel_rfl) (by kernel_rfl) (by kernel_rfl) (fun _ _ _ h => h) (Or.inl ⟨by rfl, ?_⟩) (by assumption) ?_
    rotate_left
    · intro w hSw
      try dsimp only at hSw
      go_simp
      try with_reducible rfl
    try simp only [Act.put, List.setIfInBounds_toArray, List.set_cons_zero, List.set_cons_succ]
    refine wpAnyH_ready (rs := [10]) (by kernel_rfl) (by simp) ?_
    refine (AllReadyH.cons (by simp only [List.getElem?_toArray, List.getElem?_cons_succ, List.getElem?_cons_zero]; rfl) (fun K hK => ?_) AllReadyH.nil)
    have hc := cell_obj C7.out 2 rfl
    have hf : cw.frozen? ⟨wk, 2, none⟩ = false := frozen_of_row _ _ _ _ _ C7.out
    have OS : Only (fun j => j = wk) cw (cw.setCell ⟨wk, 2, none⟩ (.slice p7 (m + 1) c7)) := (Only.refl (fun j => j = wk) cw).setCell (p := ⟨wk, 2, none⟩) rfl _
    have HB8 := Lib.hid ((OS.block b (Array.getElem?_eq_some_iff.1 HB7.out).1 HNB.out).trans HB7.out)
    have C8 := Lib.hid (wk_set C7.out (.slice p7 (m + 1) c7))
    have O8 := Lib.hid (own_keep O7.out OS (fun j hj e => own_apart O7.out C7.out (by decide) (by rw [hj, e])))
    have OT8 : Hid (Only (wS wk ml (.slice q m c)) w (cw.setCell ⟨wk, 2, none⟩ (.slice p7 (m + 1) c7))) := Lib.hid (OT7.out.trans OS (fun _ h => .inr (.inr h)) (fun _ _ h => .inl h))
    have HLM : Hid (ml < w.heap.size ∧ b ≠ ml ∧ wk ≠ ml) := Lib.hid (by
      obtain ⟨R, h1, _⟩ := HWE.out.set
      have h2 := h1.lt'
      have h3 := HBE.out
      refine ⟨by omega, by omega, fun e => ?_⟩
      obtain ⟨M, h4, _⟩ := h1.ex
      obtain ⟨es, cc, h5⟩ := h4.ismap
      rw [← e, HWE.out.cell] at h5
      cases h5)
    have S8 : Hid (∃ R, SetH (cw.setCell ⟨wk, 2, none⟩ (.slice p7 (m + 1) c7)) ml R ∧ ∀ y, y ∈ R ↔ y ∈ o) := Lib.hid (by
      obtain ⟨R, h1, h2⟩ := HWE.out.set
      refine ⟨R, h1.step (OT7.out.trans OS (fun _ h => Or.inl h) (fun _ _ h => Or.inr h)) (fun h => ?_), h2⟩
      rcases h with h | h
      · obtain ⟨M, h4, _⟩ := h1.ex
        exact own_ne_map HWE.out.own h4 h
      · exact HLM.out.2.2 h.symm)
    go_simp
    clear hc hf OS C7 HB7 O7 OT7
    refine hK.out _ _ (hld_row HX.out HB8.out) (fun hHeld => ?_)
    clear hK K
    try simp only [Act.put, List.setIfInBounds_toArray, List.set_cons_zero, List.set_cons_succ]
    refine wpAnyH_done (by kernel_rfl) ?_ _
    refine NoPanic.normal ?_
    clear hHeld
    generalize cw.setCell ⟨wk, 2, none⟩ (.slice p7 (m + 1) c7) = w2 at *
    have bq : Below w2.heap.size w2 w2.drew := blw_qt _ 1 w2
    have C9 := Lib.hid ((mild_below bq).cells C8.out)
    have HB9 := Lib.hid ((mild_below bq).cells HB8.out)
    have O9 := Lib.hid (own_below O8.out bq)
    have OT9 : Hid (Only (wS wk ml (.slice q m c)) w w2.drew) := Lib.hid (OT8.out.trans (Only.of_below (S := wS wk ml (.slice q m c)) bq) (fun _ h => h) (fun _ _ h => h))
    have S9 : Hid (∃ R, SetH w2.drew ml R ∧ ∀ y, y ∈ R ↔ y ∈ o) := Lib.hid (by
      obtain ⟨R, h1, h2⟩ := S8.out
      exact ⟨R, h1.kb bq h1.lt', h2⟩)
    clear bq C8 HB8 O8 OT8 S8
    go_wp2_with fail
    try simp only [List.append]
    refine wp_region_noPanic ?_
    refine wp_region_held_drew (S := (fun V => V.cell? ⟨wk, 3, none⟩ = some (.map (some ml)) ∧ (hld ⟨b, 0, none⟩).run Tryz.prog V = .ok (.agg (hv x)) V)) (by kernel_rfl) ⟨cell_obj C9.out 3 rfl, hld_row HX.out HB9.out⟩ (fun hHeld => ?_)
    generalize w2.drew = w3 at *
    obtain ⟨R, hS, hR⟩ := S9.out
    obtain ⟨wm, hmu, ⟨R', s5, hR', _⟩, o5⟩ := setH_upd Tryz.underlying112 hS x HX.out (by have := nodup_le (setH_nodup hS) (fun y hy => (hR y).1 hy); have := HL.out; omega)
    have HMU := Lib.hid hmu
    have HNM : Hid ((Value.slice p7 (m + 1) c7).ownBlock ≠ some ml) := Lib.hid (by
      obtain ⟨M, h4, _⟩ := hS.ex
      exact own_ne_map O9.out h4)
    have CM := Lib.hid ((o5.block wk (Array.getElem?_eq_some_iff.1 C9.out).1 HLM.out.2.2).trans C9.out)
    have HBM := Lib.hid ((o5.block b (Array.getElem?_eq_some_iff.1 HB9.out).1 HLM.out.2.1).trans HB9.out)
    have OM := Lib.hid (own_keep O9.out o5 (fun j hj e => HNM.out (by rw [hj, e])))
    have OTM : Hid (Only (wS wk ml (.slice q m c)) w wm) := Lib.hid (OT9.out.trans o5 (fun _ h => h) (fun _ _ h => .inr (.inl h)))
    have SM : Hid (∃ R, SetH wm ml R ∧ ∀ y, y ∈ R ↔ y ∈ o ++ [x]) := Lib.hid ⟨R', s5, fun y => by
      rw [hR', hR, List.mem_append, List.mem_singleton]
      exact or_comm⟩
    clear hmu hS hR s5 hR' o5 C9 HB9 O9 OT9 S9
    refine wpAnyH_take (i := 0) (v := ?_) (by simp only [List.getElem?_toArray, List.getElem?_cons_zero]; rfl) (by kernel_rfl) (by kernel_rfl) (by kernel_rfl) (fun _ _ _ h => h) (Or.inl ⟨by rfl, ?_⟩) (by assumption) ?_
    rotate_left
    · intro w hSw
      try dsimp only at hSw
      go_simp
      try with_reducible rfl
    try simp only [Act.put, List.setIfInBounds_toArray, List.set_cons_zero, List.set_cons_succ]
    refine wpAnyH_take (i := 1) (v := ?_) (by simp only [List.getElem?_toArray, List.getElem?_cons_succ, List.getElem?_cons_zero]; rfl) (by kernel_rfl) (by kernel_rfl) (by kernel_rfl) (fun _ _ _ h => h) (Or.inl ⟨by rfl, ?_⟩) (by assumption) ?_
    rotate_left
    · intro w hSw
      try dsimp only at hSw
      go_simp
      try with_reducible rfl
    try simp only [Act.put, List.setIfInBounds_toArray, List.set_cons_zero, List.set_cons_succ]
    refine wpAnyH_take (i := 2) (v := ?_) (by simp only [List.getElem?_toArray, List.getElem?_cons_succ, List.getElem?_cons_zero]; rfl) (by kernel_rfl) (by kernel_rfl) (by kernel_rfl) (fun _ _ _ h => h) (Or.inl ⟨by rfl, ?_⟩) (by assumption) ?_
    rotate_left
    · intro w hSw
      try dsimp only at hSw
      go_simp
      try with_reducible rfl
    try simp only [Act.put, List.setIfInBounds_toArray, List.set_cons_zero, List.set_cons_succ]
    refine wpAnyH_take (i := 3) (v := ?_) (by simp only [List.getElem?_toArray, List.getElem?_cons_succ, List.getElem?_cons_zero]; rfl) (by kernel_rfl) (by kernel_rfl) (by kernel_rfl) (fun _ _ _ h => h) (Or.inl ⟨by rfl, ?_⟩) (by assumption) ?_
    rotate_left
    · intro w hSw
      try dsimp only at hSw
      go_simp
      try with_reducible rfl
    try simp only [Act.put, List.setIfInBounds_toArray, List.set_cons_zero, List.set_cons_succ]
    refine wpAnyH_take (i := 4) (v := ?_) (by simp only [List.getElem?_toArray, List.getElem?_cons_succ, List.getElem?_cons_zero]; rfl) (by kernel_rfl) (by kernel_rfl) (by kernel_rfl) (fun _ _ _ h => h) (Or.inl ⟨by rfl, ?_⟩) (by assumption) ?_
    rotate_left
    · intro w hSw
      try dsimp only at hSw
      go_simp
      try with_reducible rfl
    try simp only [Act.put, List.setIfInBounds_toArray, List.set_cons_zero, List.set_cons_succ]
    refine wpAnyH_take (i := 5) (v := ?_) (by simp only [List.getElem?_toArray, List.getElem?_cons_succ, List.getElem?_cons_zero]; rfl) (by kernel_rfl) (by kernel_rfl) (by kernel_rfl) (fun _ _ _ h => h) (Or.inl ⟨by rfl, ?_⟩) (by assumption) ?_
    rotate_left
    · intro w hSw
      try dsimp only at hSw
      go_simp
      try with_reducible rfl
    try simp only [Act.put, List.setIfInBounds_toArray, List.set_cons_zero, List.set_cons_succ]
    refine wpAnyH_ready (rs := [6]) (by kernel_rfl) (by simp) ?_
    refine AllReadyH.cons (by simp only [List.getElem?_toArray, List.getElem?_cons_succ, List.getElem?_cons_zero]; rfl) (fun K hK => ?_) AllReadyH.nil
    refine step_upd rfl _ _ _ rfl (by rfl) (by rfl) (by rfl) HMU.out ?_
    refine hK.out _ _ ⟨cell_obj CM.out 3 rfl, hld_row HX.out HBM.out⟩ (fun hHeld => ?_)
    clear hK K
    try simp only [Act.put, List.setIfInBounds_toArray, List.set_cons_zero, List.set_cons_succ]
    refine wpAnyH_done (by kernel_rfl) ?_ _
    refine NoPanic.normal ?_
    clear hHeld
    go_wp2_with fail
    refine bodyPost_end (results_none rfl _ _ _) rfl ?_
    exact ⟨rfl, _, ⟨HWE.out.far OTM.out, CM.out, HWE.out.ga, OM.out, SM.out, HWE.out.h32.app (H32.one HX.out), HWE.out.lo⟩, OTM.out, LOC7.out⟩
end Go.Proofs.YtnpeahbbcolfmaaGreatDoor
namespace Go.Proofs.YtnpeahbbcolfmaaGreatDoor
open Go.RowKit
open Go.Maps
theorem fn_some (k : FuncId) (a c : Array Value) (w : World) : (binOp .eql 95 (.func (.func k) a c) .nilFunc).run Tryz.prog w = .ok (.bool false) w := by kernel_rfl
theorem fn_none (w : World) : (binOp .eql 95 .nilFunc .nilFunc).run Tryz.prog w = .ok (.bool true) w := by kernel_rfl
/-- What a done function is: none, or one that answers D. -/
def Dn (W0 : World) (fv : Value) (D : Key → Bool) : Prop := (fv = .nilFunc ∧ ∀ h, D h = false) ∨ ∃ k c, fv = .func (.func k) #[] c ∧ (∀ args w, (callFunc k args).run Tryz.prog w = .ok (.enter k args) w) ∧ ∀ V, Below W0.heap.size W0 V → ∀ h : Key, h.length = 32 → Calls Tryz.prog k (#[.agg (hv h)] ++ c) V fun e w' => e = .returned (.bool (D h)) ∧ Below V.heap.size V w'
theorem idleD (w : World) :
    CallsD Tryz.prog 127 #[] .returning w fun e u' w' => e = .returned (.tuple #[]) ∧ u' = .returning ∧ w' = w := by
  refine callsD_of_wpS Tryz.func127 rfl fun c₀ cs hu => ?_
  apply wpS_region
  simp [wpOpsS, go_sem, recoverD, hu, Tryz.ntmps127]
  cases c₀
  simp_all [bodyPostS, results, Tryz.results127]
set_option linter.unusedSimpArgs false in
set_option maxRecDepth 20000 in
set_option maxHeartbeats 4000000 in
attribute [local go_sem ↓] hld_open in
theorem isdone_to (W0 w : World) (wk g bm ml : Nat) (X : Lx) (fv lv : Value) (o : List Key) (H : WK W0 w wk g bm ml X fv lv o) (D : Key → Bool) (hD : Dn W0 fv D) (x : Key) (hx : x.length = 32) :
    Calls Tryz.prog 119 #[wkp wk, .agg (hv x)] w fun e w' => e = .returned (.bool (D x)) ∧ Below w.heap.size w w' := by
  have BA := Lib.hid (below_al11 w (.cells (hv x) 31))
  have HB := Lib.hid (heap_alloc_last w (.cells (hv x) 31))
  have HW := Lib.hid (H.kb BA.out)
  have HX := Lib.hid hx
  obtain ⟨d, hd⟩ : ∃ d, d = D x := ⟨_, rfl⟩
  have HDE := Lib.hid hd
  rw [← hd]
  clear hx hd H
  rcases hD with ⟨rfl, h0⟩ | ⟨k, c, rfl, hcf, h1⟩
  · have hd0 : d = false := by rw [HDE.out]; exact h0 x
    subst hd0
    have hnil := fn_none
    have hc := HW.out.c (i := 1) rfl
    clear h0
    go_enter_defers Tryz.func119, Tryz.ntmps119
    go_wp2_with fail
    simp [bodyPostD, Leaves, settle, results, Tryz.results119, go_sem]
    exact BA.out
  · have hns := fn_some k #[] c
    have hc := HW.out.c (i := 1) rfl
    have HCF := Lib.hid hcf
    have H1 := Lib.hid h1
    clear h1 hcf
    go_enter_defers Tryz.func119, Tryz.ntmps119
    go_upto_region 4 with fail
    clear hc
    generalize w.alloc (.cells (hv x) 31) = w0 at *
    generalize w.heap.size = b at HB ⊢
    have bq : Below w0.heap.size w0 w0.drew := blw_qt _ 1 w0
    have HWq := Lib.hid (HW.out.kb bq)
    have HBq := Lib.hid ((mild_below bq).cells HB.out)
    have Bq : Hid (Below w.heap.size w w0.drew) := Lib.hid (BA.out.trans (bq.mono BA.out.size))
    clear bq
    go_wp2_with fail
    try simp only [List.append]
    refine wp_region_noPanic ?_
    refine wp_region_held_drew (S := (fun V => V.cell? ⟨wk, 1, none⟩ = some (.func (.func k) #[] c) ∧ (hld ⟨b, 0, none⟩).run Tryz.prog V = .ok (.agg (hv x)) V)) (by kernel_rfl) ⟨HWq.out.c (i := 1) rfl, hld_row HX.out HBq.out⟩ (fun hHeld => ?_)
    generalize w0.drew = cw at *
    refine wpAnyH_take (i := 0) (v := ?_) (by simp only [List.getElem?_toArray, List.getElem?_cons_zero]; rfl) (by kernel_rfl) (by kernel_rfl) (by kernel_rfl) (fun _ _ _ h => h) (Or.inl ⟨by rfl, ?_⟩) (by assumption) ?_
    rotate_left
    · intro w hSw
      try dsimp only at hSw
      go_simp
      try with_reducible rfl
    try simp only [Act.put, List.setIfInBounds_toArray, List.set_cons_zero, List.set_cons_succ]
    refine wpAnyH_take (i := 1) (v := ?_) (by simp only [List.getElem?_toArray, List.getElem?_cons_succ, List.getElem?_cons_zero]; rfl) (by kernel_rfl) (by kernel_rfl) (by kernel_rfl) (fun _ _ _ h => h) (Or.inl ⟨by rfl, ?_⟩) (by assumption) ?_
    rotate_left
    · intro w hSw
      try dsimp only at hSw
      go_simp
      try with_reducible rfl
    try simp only [Act.put, List.setIfInBounds_toArray, List.set_cons_zero, List.set_cons_succ]
    refine wpAnyH_take (i := 2) (v := ?_) (by simp only [List.getElem?_toArray, List.getElem?_cons_succ, List.getElem?_cons_zero]; rfl) (by kernel_rfl) (by kernel_rfl) (by kernel_rfl) (fun _ _ _ h => h) (Or.inl ⟨by rfl, ?_⟩) (by assumption) ?_
    rotate_left
    · intro w hSw
      try dsimp only at hSw
      go_simp
      try with_reducible rfl
    try simp only [Act.put, List.setIfInBounds_toArray, List.set_cons_zero, List.set_cons_succ]
    refine wpAnyH_take (i := 3) (v := ?_) (by simp only [List.getElem?_toArray, List.getElem?_cons_succ, List.getElem?_cons_zero]; rfl) (by kernel_rfl) (by kernel_rfl) (by kernel_rfl) (fun _ _ _ h => h) (Or.inl ⟨by rfl, ?_⟩) (by assumption) ?_
    rotate_left
    · intro w hSw
      try dsimp only at hSw
      go_simp
      try with_reducible rfl
    try simp only [Act.put, List.setIfInBounds_toArray, List.set_cons_zero, List.set_cons_succ]
    refine wpAnyH_take (i := 4) (v := ?_) (by simp only [List.getElem?_toArray, List.getElem?_cons_succ, List.getElem?_cons_zero]; rfl) (by kernel_rfl) (by kernel_rfl) (by kernel_rfl) (fun _ _ _ h => h) (Or.inl ⟨by rfl, ?_⟩) (by assumption) ?_
    rotate_left
    · intro w hSw
      try dsimp only at hSw
      go_simp
      try with_reducible rfl
    try simp only [Act.put, List.setIfInBounds_toArray, List.set_cons_zero, List.set_cons_succ]
    have hcf := HCF.out
    refine wpAnyH_ready (rs := [5]) (by kernel_rfl) (by simp) ?_
    refine AllReadyH.cons (by simp only [List.getElem?_toArray, List.getElem?_cons_succ, List.getElem?_cons_zero]; rfl) (fun K hK => ?_) AllReadyH.nil
    go_simp
    refine (H1.out cw HWq.out.bel x HX.out).mono ?_
    rintro e cx ⟨rfl, bb⟩
    rw [← HDE.out]
    have HWX := Lib.hid (HWq.out.kb bb)
    have HBX := Lib.hid ((mild_below bb).cells HBq.out)
    have BX := Lib.hid (Bq.out.trans (bb.mono Bq.out.size))
    clear bb HWq HBq Bq
    go_wp2_with fail
    refine hK.out _ _ ⟨HWX.out.c (i := 1) rfl, hld_row HX.out HBX.out⟩ (fun hHeld => ?_)
    clear hK K
    try simp only [Act.put, List.setIfInBounds_toArray, List.set_cons_zero, List.set_cons_succ]
    refine wpAnyH_take (i := 6) (v := ?_) (by simp only [List.getElem?_toArray, List.getElem?_cons_succ, List.getElem?_cons_zero]; rfl) (by kernel_rfl) (by kernel_rfl) (by kernel_rfl) (fun _ _ _ h => h) (Or.inl ⟨by rfl, ?_⟩) (by assumption) ?_
    rotate_left
    · intro w hSw
      try dsimp only at hSw
      go_simp
      try with_reducible rfl
    try simp only [Act.put, List.setIfInBounds_toArray, List.set_cons_zero, List.set_cons_succ]
    refine wpAnyH_done (by kernel_rfl) ?_ _
    refine NoPanic.normal ?_
    clear hHeld
    go_wp2_with fail
    refine leaves_cons (f := 127) (args := #[]) (by simp) (by simp [go_sem]) ?_
    refine (idleD _).mono ?_
    rintro e u' w'' ⟨rfl, rfl, rfl⟩
    simp [Leaves, settle, results, Tryz.results119, go_sem]
    exact BX.out
end Go.Proofs.YtnpeahbbcolfmaaGreatDoor
namespace Go.Proofs.YtnpeahbbcolfmaaGreatDoor
open Go.RowKit
open Go.Maps
theorem HSeen.keep {w w' : World} {v : Value} {E : List Key} {S : Nat → Prop} (h : HSeen w v E) (ho : Only S w w') (hb : ∀ b, sblk v = some b → ¬ S b) : HSeen w' v E := by
  rcases h with h1 | ⟨a, cap, rfl, h2, h3⟩
  · exact .inl h1
  · refine .inr ⟨a, cap, rfl, h2, fun j u hj => ?_⟩
    have h4 := h3 j u hj
    rw [World.cell?_of_block (ho.block _ (World.block_lt_of_cell? w _ h4) (hb _ (by show some a.block = some (a.add j).block; unfold Addr.add; by_cases e : j = 0 <;> simp [e])))]
    exact h4
theorem einfo : (Tryz.prog.info? 172).map (fun i => (i.zero, i.size, i.bytes)) = some (some (.agg czer), 33, 56) := by kernel_rfl
/-- A stack of one's own; what is left of each commit's parents is read. -/
structure Sk (W : World) (B : Nat) (lv v : Value) (S : Lx) : Prop where
  own : W.ownsRow B 172 33 v S.length (cfT S)
  h32 : T32 S
  lit : ∀ x ∈ S, HSeen W x.2.1 x.2.2 ∧ H32 x.2.2 ∧ ∀ b, sblk x.2.1 = some b → (∃ cs, W.heap[b]? = some (.cells cs 31 (0, 0))) ∧ lv.ownBlock ≠ some b
theorem sk_nil (W : World) (B : Nat) (lv : Value) : Sk W B lv (.slice none 0 0) [] := ⟨World.ownsRow_nil _ _ _ _, (fun _ h => by cases h), (fun _ h => by cases h)⟩
/-- It stays as something else turns. -/
theorem Sk.keep {W W' : World} {B : Nat} {lv lv' v : Value} {S : Lx} {P : Nat → Prop} (h : Sk W B lv v S) (ho : Only P W W') (h1 : ∀ j, v.ownBlock = some j → ¬ P j) (h2 : ∀ b cs, W.heap[b]? = some (.cells cs 31 (0, 0)) → lv.ownBlock ≠ some b → ¬ P b ∧ lv'.ownBlock ≠ some b) : Sk W' B lv' v S := by
  refine ⟨own_keep h.own ho h1, h.h32, fun x hx => ?_⟩
  obtain ⟨h3, h4, h5⟩ := h.lit x hx
  refine ⟨h3.keep ho (fun b hb => ?_), h4, fun b hb => ?_⟩
  · obtain ⟨⟨cs, h6⟩, h7⟩ := h5 b hb
    exact (h2 b cs h6 h7).1
  · obtain ⟨⟨cs, h6⟩, h7⟩ := h5 b hb
    exact ⟨⟨cs, (ho.block b (Array.getElem?_eq_some_iff.1 h6).1 (h2 b cs h6 h7).1).trans h6⟩, (h2 b cs h6 h7).2⟩
theorem Sk.kb {W W' : World} {B : Nat} {lv v : Value} {S : Lx} (h : Sk W B lv v S) (k : Below W.heap.size W W') : Sk W' B lv v S := h.keep (P := fun _ => False) (Only.of_below k) (fun _ _ h => h) (fun _ _ _ h => ⟨id, h⟩)
theorem Sk.shape {W : World} {B : Nat} {lv v : Value} {S : Lx} (h : Sk W B lv v S) : ∃ p n c, v = .slice p n c ∧ n = S.length := by
  rcases h.own.2 with ⟨h1, h2⟩ | ⟨g, cap, cur, h1, _⟩
  · exact ⟨none, 0, 0, h1, h2.symm⟩
  · exact ⟨_, _, _, h1, rfl⟩
theorem ent_built (h : Key) (u : Value) (hh : h.length = 32) (hu : u.cells = #[u]) : Tryz.prog.built 172 [(0, .agg (hv h)), (1, u)] = some (cmv h u) := by
  have hi : (Tryz.prog.info? 172).map (fun i => i.zero.map (·.cells.size)) = some (some 33) := by kernel_rfl
  have hf : (Tryz.prog.underlying 172).map (fun d => match d with | .struct fs => fs.toList.mapM (fun f => (Tryz.prog.info? f.type).map fun i => (f.offset, i.size)) | _ => none) = some (some [(0, 32), (32, 1)]) := by kernel_rfl
  have hs : (hv h).size = 32 := by rw [hv_size, hh]
  unfold cmv
  generalize hv h = h at hs ⊢
  unfold Program.built
  cases hit : Tryz.prog.info? 172 with
  | none => rw [hit] at hi; cases hi
  | some it =>
    rw [hit] at hi
    cases hun : Tryz.prog.underlying 172 with
    | none => rw [hun] at hf; cases hf
    | some d =>
      rw [hun] at hf
      cases d with
      | struct fs =>
        simp only [Option.map_some, Option.some.injEq] at hf
        simp only [hf]
        cases hz : it.zero with
        | none => simp [hz] at hi
        | some z =>
          simp only [Option.map_some, Option.some.injEq, hz] at hi
          have hsz : ∀ x : Array Value, (x.zipIdx.foldl (fun (cs : Array Value) (p : Value × Nat) => cs.setIfInBounds (0 + p.2) p.1) z.cells) = (x.toList.zipIdx.foldl (fun (cs : Array Value) (p : Value × Nat) => cs.setIfInBounds (0 + p.2) p.1) z.cells) := fun x => by
            rw [← Array.foldl_toList, Array.toList_zipIdx]
          have hg := fold_get h.toList 0 z.cells
          have hn : (h.toList.zipIdx.foldl (fun (cs : Array Value) (p : Value × Nat) => cs.setIfInBounds (0 + p.2) p.1) z.cells).size = 33 := by
            rw [← hi]
            generalize h.toList.zipIdx = q
            generalize z.cells = y
            induction q generalizing y with
            | nil => rfl
            | cons a q ih => rw [List.foldl_cons, ih]; simp
          simp only [Instr.fill, List.getElem?_toArray, List.getElem?_cons_zero, List.getElem?_cons_succ, show (Value.agg h).cells = h from rfl, hs, hi, hu, hsz]
          generalize h.toList.zipIdx.foldl (fun (cs : Array Value) (p : Value × Nat) => cs.setIfInBounds (0 + p.2) p.1) z.cells = y at hg hn
          simp only [hn]
          simp
          apply Array.ext_getElem?
          intro i
          have := hg i
          simp only [Array.length_toList, hs, hi] at this
          rw [Array.getElem?_setIfInBounds, Array.getElem?_push, hn, hs]
          by_cases h1 : i = 32
          · subst h1; simp
          · rw [if_neg (by omega), if_neg h1, this]
            by_cases h2 : i < 32
            · rw [if_pos (by omega)]; simp
            · rw [if_neg (by omega)]
              rw [Array.getElem?_eq_none (by omega), Array.getElem?_eq_none (by omega)]
      | _ => simp at hf
/-- append of one row. -/
theorem run_push_ent (w : World) (ty : TypeId) (B : Nat) (v : Value) (S : Lx) (b : Nat) (h : Key) (u : Value) (ps : List Key) (hh : h.length = 32) (hu1 : u.oneCell' = true) (hown : w.ownsRow B 172 33 v S.length (cfT S)) (hb : w.heap[b]? = some (.cells (cf [(h, u)]).toArray 172 (0, 0))) (hs : S.length + 1 ≤ 1000000) (hB : B ≤ w.heap.size) :
    ∃ v' w', (Builtin.append_ #[168, 168] ty #[v, .slice (some ⟨b, 0, none⟩) 1 1]).run Tryz.prog w = .ok v' w' ∧ w'.ownsRow B 172 33 v' (S ++ [(h, (u, ps))]).length (cfT (S ++ [(h, (u, ps))])) ∧ Only (fun j => v.ownBlock = some j) w w' ∧ ∀ j, v'.ownBlock = some j → v.ownBlock = some j ∨ w.heap.size ≤ j := by
  obtain ⟨i0, hi0, hz0, hz1, hz2⟩ := info_parts einfo
  have hf : S.length + 1 ≤ maxLen ∧ (S.length + 1) * 56 ≤ 140737488355328 := by unfold maxLen; omega
  have h32 : ∀ c ∈ [(h, u)], c.1.length = 32 := fun c hc => by rw [List.mem_singleton.1 hc]; exact hh
  have h1 : ∀ z ∈ cf [(h, u)], z.oneCell' = true := fun z hz => by
    rw [cf_one] at hz
    rcases List.mem_append.1 hz with h3 | h3
    · have := hv_one h
      rw [← hv_list] at h3
      exact Array.all_eq_true_iff_forall_mem.1 this z (Array.mem_toList_iff.1 h3)
    · rw [List.mem_singleton.1 h3]; exact hu1
  obtain ⟨v', w', hr, h2, h3, h4, h5⟩ := run_append_own_at (P := Tryz.prog) (w := w) B 168 ty 172 i0 _ 33 56 Tryz.underlying168 hi0 hz0 hz1 hz2 rfl (by decide) v S.length (cfT S) hown ⟨b, 0, none⟩ 1 1 (cf [(h, u)]) (by rw [cf_length h32]; rfl) (fun j z hj => by rw [Addr.add_lit, Nat.zero_add, cell_of_row w b j _ _ _ hb, List.getElem?_toArray]; exact hj) h1 hf.1 hf.2 hB
  refine ⟨v', w', hr, ?_, (Only.refl _ w).grown h3 (fun k _ e => e), fun j hj => ?_⟩
  · rw [List.length_append, cfT_app]
    exact h2
  · rcases h5 with h5 | h5
    · rw [h5] at hj; exact .inl hj
    · rw [h5] at hj
      injection hj with hj
      exact .inr (by omega)
section
variable {ops : Array Oper} {rest : List Oper} {a : Act} {Q : Exit → Act → World → Prop} {o : Oper} {w : World}
theorem push_ent (hgd : o.guard = none) (s x : Operand) (ho : o.op = .call { callee := .builtin .append, args := #[s, x], argTypes := #[168, 168] })
    (B : Nat) (v : Value) (S : Lx) (b : Nat) (h : Key) (u : Value) (ps : List Key) (hh : h.length = 32) (hu1 : u.oneCell' = true) (hs : a.eval s = v) (hown : w.ownsRow B 172 33 v S.length (cfT S)) (hx : a.eval x = .slice (some ⟨b, 0, none⟩) 1 1) (hb : w.heap[b]? = some (.cells (cf [(h, u)]).toArray 172 (0, 0))) (hl : S.length + 1 ≤ 1000000) (hB : B ≤ w.heap.size)
    (hk : ∀ v' w', w'.ownsRow B 172 33 v' (S ++ [(h, (u, ps))]).length (cfT (S ++ [(h, (u, ps))])) → Only (fun j => v.ownBlock = some j) w w' → (∀ j, v'.ownBlock = some j → v.ownBlock = some j ∨ w.heap.size ≤ j) → wpList Tryz.prog ops Q rest (a.put o.dst v') w') :
    wpList Tryz.prog ops Q (o :: rest) a w := by
  refine wpList_plain hgd fun K hK => ?_
  obtain ⟨v', w', hr, h1, h2, h3⟩ := run_push_ent w o.type B v S b h u ps hh hu1 hown hb hl hB
  unfold Oper.wp execOp
  simp only [ho, resolve, invoke, builtin, Sem.run_bind, Sem.run_pure, Result.andThen_ok, List.map_toArray, List.map_cons, List.map_nil, hs, hx, hr]
  exact hK _ _ (hk v' w' h1 h2 h3)
theorem push_ent1 (hgd : o.guard = none) (x : Operand) (ho : o.op = .buildSlice 168 1 #[(0, x)]) (h : Key) (u : Value) (hh : h.length = 32) (hx : a.eval x = .agg (cmv h u))
    (hk : wpList Tryz.prog ops Q rest (a.put o.dst (.slice (some ⟨w.heap.size, 0, none⟩) 1 1)) (w.alloc (.cells (cf [(h, u)]).toArray 172))) : wpList Tryz.prog ops Q (o :: rest) a w := by
  refine wpList_plain hgd fun K hK => ?_
  obtain ⟨i0, hi0, hz0, hz1, hz2⟩ := info_parts einfo
  have hrun : (Instr.buildSlice 168 1 #[(0, .agg (cmv h u))]).run Tryz.prog w = .ok (.slice (some ⟨w.heap.size, 0, none⟩) 1 1) (w.alloc (.cells (cf [(h, u)]).toArray 172)) := by
    refine run_buildSlice w 168 172 1 _ (cf [(h, u)]).toArray i0 (.agg czer) Tryz.underlying168 hi0 hz0 (by rw [hz1]; omega) (by rw [hz1]; omega) ?_
    rw [hz1]
    exact (by
      have := Great.fill_whole (s := 33) (by decide) ([(h, u)].map fun c => Value.agg (cmv c.1 c.2)) ((Array.range ([(h, u)].length * 33)).map ((Value.agg czer).cells[· % (Value.agg czer).cells.size]!)) (fun v hvm => by
        obtain ⟨c, hm, rfl⟩ := List.mem_map.1 hvm
        rw [List.mem_singleton.1 hm]
        exact cmv_size hh u) (by simp)
      rw [cf_flat] at this
      exact this)
  unfold Oper.wp execOp
  simp only [ho, Sem.run_bind, Sem.run_pure, Result.andThen_ok, List.map_toArray, List.map_cons, List.map_nil, hx, hrun]
  exact hK _ _ hk
theorem push_bent {dst : Option Tmp} {T : TypeId} {pos : String} {after : Array Edge} {x y : Operand} (h : Key) (v : Value) (hh : h.length = 32) (hc : v.cells = #[v]) (hx : a.eval x = .agg (hv h)) (hy : a.eval y = v)
    (hk : wpList Tryz.prog ops Q rest (a.put dst (.agg (cmv h v))) w) :
    wpList Tryz.prog ops Q (⟨dst, .build 172 #[(0, x), (1, y)], T, pos, after, none⟩ :: rest) a w :=
  build_to (vals := #[(0, .agg (hv h)), (1, v)]) (ent_built h v hh hc) (by simp [hx, hy]) hk
end
theorem own_nomap {W : World} {B : Nat} {e : TypeId} {s : Nat} {v : Value} {n : Nat} {xs : List Value} {b : Nat} {es : Array MapEntry} {c : Nat} (h : W.ownsRow B e s v n xs) (hm : W.heap[b]? = some (.map es c)) : v.ownBlock ≠ some b := fun e => by
  obtain ⟨cs, h1, _⟩ := own_type h e
  rw [hm] at h1; cases h1
theorem WK.keep {W0 W W' : World} {wk g bm ml : Nat} {X : Lx} {fv lv : Value} {o : List Key} {P : Nat → Prop} (h : WK W0 W wk g bm ml X fv lv o) (ho : Only P W W') (hlo : ∀ j, P j → W0.heap.size ≤ j) (h1 : ¬ P wk) (h2 : ¬ P ml) (h3 : ∀ j, lv.ownBlock = some j → ¬ P j) : WK W0 W' wk g bm ml X fv lv o := by
  obtain ⟨R, h4, h5⟩ := h.set
  exact ⟨h.bel.trans (ho.below h.bel.size hlo), (ho.block wk (Array.getElem?_eq_some_iff.1 h.cell).1 h1).trans h.cell, h.ga, own_keep h.own ho h3, ⟨R, h4.step ho h2, h5⟩, h.h32, h.lo⟩
/-- The walk stays as its stack turns. -/
theorem WK.stk {W0 W W' : World} {wk g bm ml : Nat} {X : Lx} {fv lv v : Value} {o : List Key} {n : Nat} {xs : List Value} (h : WK W0 W wk g bm ml X fv lv o) (hs : W.ownsRow W0.heap.size 172 33 v n xs) (ho : Only (fun j => v.ownBlock = some j) W W') : WK W0 W' wk g bm ml X fv lv o := by
  refine h.keep ho (fun j hj => own_from hs j hj) (own_apart hs h.cell (by decide)) (fun e => ?_) (fun j hj e => ?_)
  · obtain ⟨R, h4, _⟩ := h.set
    obtain ⟨M, h5, _⟩ := h4.ex
    obtain ⟨es, cc, h6⟩ := h5.ismap
    exact own_nomap hs h6 e
  · obtain ⟨cs, h6, _⟩ := own_type hs e
    exact own_apart h.own h6 (by decide) hj
theorem ent_lit_new {W : World} {B : Nat} {lv u : Value} {ps : List Key} (h : HOwn W B u ps) (hlv : ∀ j, lv.ownBlock = some j → j < B) (b : Nat) (hb : sblk u = some b) : (∃ cs, W.heap[b]? = some (.cells cs 31 (0, 0))) ∧ lv.ownBlock ≠ some b := by
  rcases h.2 with ⟨rfl, _⟩ | ⟨g, cap, cur, rfl, h1, h2, _⟩
  · cases hb
  · have e : g = b := by simpa [sblk] using hb
    subst e
    exact ⟨⟨cur, h2⟩, fun e => by have := hlv g e; omega⟩
theorem Sk.push {W w6 : World} {B B' : Nat} {lv v v6 u : Value} {S : Lx} {x : Key} {ps : List Key} (h : Sk W B lv v S) (hx : x.length = 32) (OP : HOwn W B' u ps) (hp : H32 ps) (hlv : ∀ j, lv.ownBlock = some j → j < B')
    (O6 : w6.ownsRow B 172 33 v6 (S ++ [(x, (u, ps))]).length (cfT (S ++ [(x, (u, ps))]))) (oth : Only (fun j => v.ownBlock = some j) W w6) : Sk w6 B lv v6 (S ++ [(x, (u, ps))]) := by
  have hne : ∀ b, (∃ cs, W.heap[b]? = some (.cells cs 31 (0, 0))) → v.ownBlock ≠ some b := fun b ⟨cs, hb⟩ => own_apart h.own hb (by decide)
  have hlit : ∀ y ∈ S ++ [(x, (u, ps))], HSeen W y.2.1 y.2.2 ∧ H32 y.2.2 ∧ ∀ b, sblk y.2.1 = some b → (∃ cs, W.heap[b]? = some (.cells cs 31 (0, 0))) ∧ lv.ownBlock ≠ some b := fun y hy => by
    rcases List.mem_append.1 hy with hy | hy
    · exact h.lit y hy
    · rw [List.mem_singleton.1 hy]
      exact ⟨HSeen.own OP, hp, ent_lit_new OP hlv⟩
  refine ⟨O6, fun y hy => ?_, fun y hy => ?_⟩
  · rcases List.mem_append.1 hy with hy | hy
    · exact h.h32 y hy
    · rw [List.mem_singleton.1 hy]; exact hx
  · obtain ⟨h3, h4, h5⟩ := hlit y hy
    refine ⟨h3.keep oth (fun b hb => hne b (h5 b hb).1), h4, fun b hb => ?_⟩
    obtain ⟨⟨cs, h6⟩, h7⟩ := h5 b hb
    exact ⟨⟨cs, (oth.block b (Array.getElem?_eq_some_iff.1 h6).1 (hne b ⟨cs, h6⟩)).trans h6⟩, h7⟩
theorem h32_adjX {G : Gr} (W : Wf G) (x : Key) : H32 (adj G x) := fun p hp => by
  obtain ⟨ps, e1, e2⟩ := adj_some hp
  exact (W.h32 _ (aget_mem e1)).2 p e2
/-- What enter does. -/
def EnPost (W0 w : World) (wk g bm ml : Nat) (X : Lx) (fv lv v : Value) (o : List Key) (D : Key → Bool) (S : Lx) (x : Key) (e : Ending) (w' : World) : Prop :=
  ∃ v', e = .returned v' ∧ WK W0 w' wk g bm ml X fv lv o ∧ Only (fun j => v.ownBlock = some j) w w' ∧ (∀ j, v'.ownBlock = some j → v.ownBlock = some j ∨ w.heap.size ≤ j) ∧
    (((x ∈ o ∨ D x = true) ∧ v' = v ∧ Sk w' W0.heap.size lv v S) ∨ (x ∉ o ∧ D x = false ∧ ∃ u, Sk w' W0.heap.size lv v' (S ++ [(x, (u, adj (gr X) x))])))
set_option linter.unusedSimpArgs false in
set_option maxRecDepth 20000 in
set_option maxHeartbeats 8000000 in
attribute [local go_sem ↓] hld_open in
theorem enter_to (W0 w : World) (wk g bm ml : Nat) (X : Lx) (fv lv : Value) (o : List Key) (H : WK W0 w wk g bm ml X fv lv o) (D : Key → Bool) (hD : Dn W0 fv D) (HW : Wf (gr X)) (v : Value) (S : Lx) (HS : Sk w W0.heap.size lv v S) (x : Key) (hx : x.length = 32) (hl : S.length + 1 ≤ 100000) :
    Calls Tryz.prog 103 #[wkp wk, v, .agg (hv x)] w (EnPost W0 w wk g bm ml X fv lv v o D S x) := by
  obtain ⟨q, m, c, rfl, hm⟩ := HS.shape
  clear hm
  have BA := Lib.hid (below_al11 w (.cells (hv x) 31))
  have HB := Lib.hid (heap_alloc_last w (.cells (hv x) 31))
  have HK := Lib.hid (H.kb BA.out)
  have HX := Lib.hid hx
  have HWF := Lib.hid HW
  have HSK := Lib.hid HS
  have HSW := Lib.hid (HS.kb BA.out)
  have HDN := Lib.hid hD
  have HL := Lib.hid hl
  have HKE := Lib.hid H
  clear H hx HW HS hD hl
  go_enter Tryz.func103, Tryz.ntmps103
  go_upto_region 1 with fail
  generalize w.alloc (.cells (hv x) 31) = w0 at *
  generalize hb : w.heap.size = b at HB
  have HBE := Lib.hid hb
  clear hb
  have hld0 := hld_row HX.out HB.out
  obtain ⟨d, hd⟩ : ∃ d, d = decide (x ∈ o) := ⟨_, rfl⟩
  have HD := Lib.hid hd
  have HHS := Lib.hid (whas_to W0 w0 wk g bm ml X fv lv o HK.out x HX.out)
  rw [← hd] at HHS
  clear hd
  go_wp2_with fail
  refine HHS.out.mono ?_
  rintro e w1 ⟨rfl, b1⟩
  have B1 := Lib.hid (BA.out.trans (b1.mono BA.out.size))
  have K1 := Lib.hid (HK.out.kb b1)
  have S1 := Lib.hid (HSW.out.kb b1)
  have HB1 := Lib.hid ((mild_below b1).cells HB.out)
  have hld1 := hld_row HX.out HB1.out
  clear b1 HK HSW HB hld0
  cases d with
  | true =>
    go_wp2_with fail
    go_ret
    exact ⟨_, rfl, K1.out, Only.of_below B1.out, fun j hj => .inl hj, .inl ⟨.inl (of_decide_eq_true HD.out.symm), rfl, S1.out⟩⟩
  | false =>
    obtain ⟨d2, hd2⟩ : ∃ d2, d2 = D x := ⟨_, rfl⟩
    have HD2 := Lib.hid hd2
    have HDO := Lib.hid (isdone_to W0 w1 wk g bm ml X fv lv o K1.out D HDN.out x HX.out)
    rw [← hd2] at HDO
    clear hd2
    go_wp2_with fail
    refine HDO.out.mono ?_
    rintro e w2 ⟨rfl, b2⟩
    have B2 := Lib.hid (B1.out.trans (b2.mono B1.out.size))
    have K2 := Lib.hid (K1.out.kb b2)
    have S2 := Lib.hid (S1.out.kb b2)
    have HB2 := Lib.hid ((mild_below b2).cells HB1.out)
    clear b2 K1 S1 HB1 hld1 B1
    cases d2 with
    | true =>
      go_wp2_with fail
      go_ret
      exact ⟨_, rfl, K2.out, Only.of_below B2.out, fun j hj => .inl hj, .inl ⟨.inr HD2.out.symm, rfl, S2.out⟩⟩
    | false =>
      go_upto_region 3 with fail
      have bq : Below w2.heap.size w2 w2.drew := blw_qt _ 1 w2
      have B3 : Hid (Below w.heap.size w w2.drew) := Lib.hid (B2.out.trans (bq.mono B2.out.size))
      have K3 := Lib.hid (K2.out.kb bq)
      have S3 := Lib.hid (S2.out.kb bq)
      have HB3 := Lib.hid ((mild_below bq).cells HB2.out)
      clear bq B2 K2 S2 HB2
      go_wp2_with fail
      try simp only [List.append]
      refine wp_region_noPanic ?_
      refine wp_region_held_drew (S := (fun V => V.cell? ⟨wk, 0, none⟩ = some (gp g) ∧ (hld ⟨b, 0, none⟩).run Tryz.prog V = .ok (.agg (hv x)) V)) (by kernel_rfl) ⟨K3.out.c (i := 0) rfl, hld_row HX.out HB3.out⟩ (fun hHeld => ?_)
      generalize w2.drew = cw at *
      refine wpAnyH_take (i := 0) (v := ?_) (by simp only [List.getElem?_toArray, List.getElem?_cons_zero]; rfl) (by kernel_rfl) (by kernel_rfl) (by kernel_rfl) (fun _ _ _ h => h) (Or.inl ⟨by rfl, ?_⟩) (by assumption) ?_
      rotate_left
      · intro w hSw
        try dsimp only at hSw
        go_simp
        try with_reducible rfl
      try simp only [Act.put, List.setIfInBounds_toArray, List.set_cons_zero, List.set_cons_succ]
      refine wpAnyH_take (i := 1) (v := ?_) (by simp only [List.getElem?_toArray, List.getElem?_cons_succ, List.getElem?_cons_zero]; rfl) (by kernel_rfl) (by kernel_rfl) (by kernel_rfl) (fun _ _ _ h => h) (Or.inl ⟨by rfl, ?_⟩) (by assumption) ?_
      rotate_left
      · intro w hSw
        try dsimp only at hSw
        go_simp
        try with_reducible rfl
      try simp only [Act.put, List.setIfInBounds_toArray, List.set_cons_zero, List.set_cons_succ]
      refine wpAnyH_take (i := 2) (v := ?_) (by simp only [List.getElem?_toArray, List.getElem?_cons_succ, List.getElem?_cons_zero]; rfl) (by kernel_rfl) (by kernel_rfl) (by kernel_rfl) (fun _ _ _ h => h) (Or.inl ⟨by rfl, ?_⟩) (by assumption) ?_
      rotate_left
      · intro w hSw
        try dsimp only at hSw
        go_simp
        try with_reducible rfl
      try simp only [Act.put, List.setIfInBounds_toArray, List.set_cons_zero, List.set_cons_succ]
      refine wpAnyH_take (i := 3) (v := ?_) (by simp only [List.getElem?_toArray, List.getElem?_cons_succ, List.getElem?_cons_zero]; rfl) (by kernel_rfl) (by kernel_rfl) (by kernel_rfl) (fun _ _ _ h => h) (Or.inl ⟨by rfl, ?_⟩) (by assumption) ?_
      rotate_left
      · intro w hSw
        try dsimp only at hSw
        go_simp
        try with_reducible rfl
      try simp only [Act.put, List.setIfInBounds_toArray, List.set_cons_zero, List.set_cons_succ]
      refine wpAnyH_take (i := 4) (v := ?_) (by simp only [List.getElem?_toArray, List.getElem?_cons_succ, List.getElem?_cons_zero]; rfl) (by kernel_rfl) (by kernel_rfl) (by kernel_rfl) (fun _ _ _ h => h) (Or.inl ⟨by rfl, ?_⟩) (by assumption) ?_
      rotate_left
      · intro w hSw
        try dsimp only at hSw
        go_simp
        try with_reducible rfl
      try simp only [Act.put, List.setIfInBounds_toArray, List.set_cons_zero, List.set_cons_succ]
      refine wpAnyH_ready (rs := [5]) (by kernel_rfl) (by simp) ?_
      refine AllReadyH.cons (by simp only [List.getElem?_toArray, List.getElem?_cons_succ, List.getElem?_cons_zero]; rfl) (fun K hK => ?_) AllReadyH.nil
      go_simp
      refine (parents_to cw g bm X x HX.out K3.out.g (HWF.out.parm 1000000 (by decide))).mono ?_
      rintro e cx ⟨vp, rfl, op, bb⟩
      have HAJ : (aget x (gr X)).getD [] = adj (gr X) x := rfl
      rw [HAJ] at op
      obtain ⟨pp, lp, cp, rfl, hlp⟩ := own_sh op
      have OP := Lib.hid op
      have B4 := Lib.hid (B3.out.trans (bb.mono B3.out.size))
      have K4 := Lib.hid (K3.out.kb bb)
      have S4 := Lib.hid (S3.out.kb bb)
      have HB4 := Lib.hid ((mild_below bb).cells HB3.out)
      have HCW : Hid (∀ j, lv.ownBlock = some j → j < cw.heap.size) := Lib.hid (own_lt K3.out.own)
      clear bb op hlp HAJ B3 K3 S3 HB3
      generalize (aget x (gr X)).isSome = hs0
      go_wp2_with fail
      refine hK.out _ _ ⟨K4.out.c (i := 0) rfl, hld_row HX.out HB4.out⟩ (fun hHeld => ?_)
      clear hK K
      try simp only [Act.put, List.setIfInBounds_toArray, List.set_cons_zero, List.set_cons_succ]
      refine wpAnyH_take (i := 6) (v := ?_) (by simp only [List.getElem?_toArray, List.getElem?_cons_succ, List.getElem?_cons_zero]; rfl) (by kernel_rfl) (by kernel_rfl) (by kernel_rfl) (fun _ _ _ h => h) (Or.inl ⟨by rfl, ?_⟩) (by assumption) ?_
      rotate_left
      · intro w hSw
        try dsimp only at hSw
        go_simp
        try with_reducible rfl
      try simp only [Act.put, List.setIfInBounds_toArray, List.set_cons_zero, List.set_cons_succ]
      refine wpAnyH_take (i := 7) (v := ?_) (by simp only [List.getElem?_toArray, List.getElem?_cons_succ, List.getElem?_cons_zero]; rfl) (by kernel_rfl) (by kernel_rfl) (by kernel_rfl) (fun _ _ _ h => h) (Or.inl ⟨by rfl, ?_⟩) (by assumption) ?_
      rotate_left
      · intro w hSw
        try dsimp only at hSw
        go_simp
        try with_reducible rfl
      try simp only [Act.put, List.setIfInBounds_toArray, List.set_cons_zero, List.set_cons_succ]
      refine wpAnyH_take (i := 8) (v := ?_) (by simp only [List.getElem?_toArray, List.getElem?_cons_succ, List.getElem?_cons_zero]; rfl) (by kernel_rfl) (by kernel_rfl) (by kernel_rfl) (fun _ _ _ h => h) (Or.inl ⟨by rfl, ?_⟩) (by assumption) ?_
      rotate_left
      · intro w hSw
        try dsimp only at hSw
        go_simp
        try with_reducible rfl
      try simp only [Act.put, List.setIfInBounds_toArray, List.set_cons_zero, List.set_cons_succ]
      refine wpAnyH_take (i := 9) (v := ?_) (by simp only [List.getElem?_toArray, List.getElem?_cons_succ, List.getElem?_cons_zero]; rfl) (by kernel_rfl) (by kernel_rfl) (by kernel_rfl) (fun _ _ _ h => h) (Or.inl ⟨by rfl, ?_⟩) (by assumption) ?_
      rotate_left
      · intro w hSw
        try dsimp only at hSw
        go_simp
        try with_reducible rfl
      try simp only [Act.put, List.setIfInBounds_toArray, List.set_cons_zero, List.set_cons_succ]
      refine wpAnyH_take (i := 10) (v := ?_) (by simp only [List.getElem?_toArray, List.getElem?_cons_succ, List.getElem?_cons_zero]; rfl) (by kernel_rfl) (by kernel_rfl) (by kernel_rfl) (fun _ _ _ h => h) (Or.inl ⟨by rfl, ?_⟩) (by assumption) ?_
      rotate_left
      · intro w hSw
        try dsimp only at hSw
        go_simp
        try with_reducible rfl
      try simp only [Act.put, List.setIfInBounds_toArray, List.set_cons_zero, List.set_cons_succ]
      refine wpAnyH_done (by kernel_rfl) ?_ _
      refine NoPanic.normal ?_
      clear hHeld
      have hld4 := hld_row HX.out HB4.out
      have AL := Lib.hid (below_al11 cx (.cells (cf [(x, .slice pp lp cp)]).toArray 172))
      have HN5 := Lib.hid (heap_alloc_last cx (.cells (cf [(x, .slice pp lp cp)]).toArray 172))
      have K5 := Lib.hid (K4.out.kb AL.out)
      have S5 := Lib.hid (S4.out.kb AL.out)
      have OP5 := Lib.hid (own_below OP.out AL.out)
      have B5 := Lib.hid (B4.out.trans (AL.out.mono B4.out.size))
      go_wp2_with (first
        | (at_builtin; refine push_ent rfl (.tmp 27) (.tmp 31) rfl W0.heap.size (.slice q m c) S cx.heap.size x (.slice pp lp cp) (adj (gr X) x) HX.out rfl rfl S5.out.own rfl HN5.out (by have := HL.out; omega) K5.out.bel.size ?_; intro v6 w6 o6 oth6 loc6; have O6 := Lib.hid o6; have OT6 := Lib.hid oth6; have LO6 := Lib.hid loc6; clear o6 oth6 loc6)
        | (refine push_ent1 rfl _ rfl x (.slice pp lp cp) HX.out rfl ?_)
        | (refine push_bent x (.slice pp lp cp) HX.out rfl rfl rfl ?_))
      go_ret
      refine ⟨v6, rfl, K5.out.stk S5.out.own OT6.out, (Only.of_below (S := fun j => (Value.slice q m c).ownBlock = some j) B5.out).trans OT6.out (fun _ h => h) (fun _ _ h => h), fun j hj => (LO6.out j hj).imp id (fun h => Nat.le_trans B5.out.size h), .inr ⟨of_decide_eq_false HD.out.symm, HD2.out.symm, _, S5.out.push HX.out OP5.out (h32_adjX HWF.out x) HCW.out O6.out OT6.out⟩⟩
end Go.Proofs.YtnpeahbbcolfmaaGreatDoor
namespace Go.Proofs.YtnpeahbbcolfmaaGreatDoor
open Go.RowKit
open Go.Maps
/-- The stack as the plain mathematics has it: the last one first. -/
def stk (S : Lx) : List (Key × List Key) := S.reverse.map fun x => (x.1, x.2.2)
theorem stk_snoc (S : Lx) (x : Key × (Value × List Key)) : stk (S ++ [x]) = (x.1, x.2.2) :: stk S := by simp [stk]
theorem Run.len {G : Gr} {D : Key → Bool} {n : Nat} {o : List Key} {st : List (Key × List Key)} {o' : List Key} (r : Run G D n o st o') : o.length + st.length ≤ o'.length := by
  induction r with
  | nil o => simp
  | cons a t ih =>
    obtain ⟨r, e⟩ := a.pre
    rw [e, List.length_append, List.length_append, List.length_singleton] at ih
    rw [List.length_cons]
    omega
/-- The uppermost commit has no parent left: it is listed. -/
theorem Run.pop {G : Gr} {D : Key → Bool} {n : Nat} {o : List Key} {h : Key} {st : List (Key × List Key)} {o' : List Key} (r : Run G D n o ((h, []) :: st) o') : ∃ m, m < n ∧ Run G D m (o ++ [h]) st o' := by
  cases r with
  | cons a t =>
    cases a
    exact ⟨_, by omega, t⟩
/-- The next parent is entered, or passed over. -/
theorem Run.next {G : Gr} {D : Key → Bool} {n : Nat} {o : List Key} {h p : Key} {ps : List Key} {st : List (Key × List Key)} {o' : List Key} (r : Run G D n o ((h, p :: ps) :: st) o') :
    ∃ m, m < n ∧ ((p ∈ o ∨ D p = true) → Run G D m o ((h, ps) :: st) o') ∧ (p ∉ o → D p = false → Run G D m o ((p, adj G p) :: (h, ps) :: st) o') := by
  cases r with
  | cons a t =>
    cases a with
    | skip hk v => exact ⟨_, by omega, fun _ => .cons v t, fun h1 h2 => absurd hk (by simp [h1, h2])⟩
    | go h1 h2 v1 v2 => exact ⟨_, by omega, fun hk => absurd hk (by simp [h1, h2]), fun _ _ => .cons v1 (.cons v2 t)⟩
theorem Run.done {G : Gr} {D : Key → Bool} {n : Nat} {o o' : List Key} (r : Run G D n o [] o') : o' = o := by cases r; rfl
/-- The uppermost commit, in memory. -/
theorem Sk.top {W : World} {B : Nat} {lv : Value} {p : Option Addr} {n c : Nat} {S : Lx} {x : Key × (Value × List Key)} (h : Sk W B lv (.slice p n c) (S ++ [x])) : ∃ g cur, p = some ⟨g, 0, none⟩ ∧ B ≤ g ∧ n = S.length + 1 ∧ n ≤ c ∧ W.heap[g]? = some (.cells cur 172 (0, 0)) ∧ W.rangeAt g (S.length * 33) (us (nmb x.1) ++ [x.2.1]) := by
  rcases h.own.2 with ⟨h1, h2⟩ | ⟨g, cap, cur, h1, hb, hg, hn, hm, hs, hc⟩
  · simp at h2
  · simp only [Value.slice.injEq] at h1
    obtain ⟨rfl, rfl, rfl⟩ := h1
    refine ⟨g, cur, rfl, hb, by simp, hn, hg, fun j u hj => ?_⟩
    have hx32 : x.1.length = 32 := h.h32 x (by simp)
    have hS32 : T32 S := h.h32.sub fun y hy => by simp [hy]
    have hj33 : j < 33 := by rw [← row33 hx32 x.2.1]; exact (List.getElem?_eq_some_iff.1 hj).1
    rw [cell_of_row W g _ _ _ _ hg]
    have e : (cfT (S ++ [x]))[S.length * 33 + j]? = some u := by
      rw [cfT_at h.h32 (i := S.length) (x := x) (by simp) hj33]; exact hj
    have hl : (cfT (S ++ [x])).length = (S ++ [x]).length * 33 := cfT_len h.h32
    rw [← hc, List.getElem?_take, if_pos (by rw [List.length_append, List.length_singleton]; omega)] at e
    simpa using e
theorem Sk.cut {W : World} {B : Nat} {lv : Value} {p : Option Addr} {n c : Nat} {S : Lx} {x : Key × (Value × List Key)} (h : Sk W B lv (.slice p n c) (S ++ [x])) : Sk W B lv (.slice p S.length c) S := by
  have hS32 : T32 S := h.h32.sub fun y hy => by simp [hy]
  refine ⟨?_, hS32, fun y hy => h.lit y (by simp [hy])⟩
  rcases h.own.2 with ⟨h1, h2⟩ | ⟨g, cap, cur, h1, hb, hg, hn, hm, hs, hc⟩
  · simp at h2
  · simp only [Value.slice.injEq] at h1
    obtain ⟨rfl, rfl, rfl⟩ := h1
    rw [List.length_append, List.length_singleton] at hn hc
    refine ⟨cfT_len hS32, .inr ⟨g, c, cur, rfl, hb, hg, by omega, hm, hs, ?_⟩⟩
    have e : cur.toList.take (S.length * 33) = (cur.toList.take ((S.length + 1) * 33)).take (S.length * 33) := by rw [List.take_take]; congr 1; omega
    rw [e, hc, cfT_app, List.take_left' (cfT_len hS32)]
/-- One parent less. -/
theorem HSeen.tail {W : World} {b o n c : Nat} {k : Key} {E : List Key} (h : HSeen W (.slice (some ⟨b, o, none⟩) n c) (k :: E)) (hk : k.length = 32) : HSeen W (.slice (if c = 1 then some ⟨b, o, none⟩ else some ⟨b, o + 32, none⟩) (n - 1) (c - 1)) E := by
  rcases h with ⟨h1, _⟩ | ⟨a, cap, h1, h2, h3⟩
  · cases h1
  · injection h1 with e1 e2 e3
    injection e1 with e1
    subst e1 e3
    rw [List.length_cons] at e2 h2
    by_cases hc : c = 1
    · rw [if_pos hc]
      obtain rfl : E = [] := List.eq_nil_of_length_eq_zero (by omega)
      exact .inr ⟨⟨b, o, none⟩, c - 1, by rw [e2]; rfl, by simp, fun j u hj => by simp [fl] at hj⟩
    · rw [if_neg hc]
      refine .inr ⟨⟨b, o + 32, none⟩, c - 1, by rw [e2]; rfl, by omega, fun j u hj => ?_⟩
      have hl : (us (nmb k)).length = 32 := by rw [usn_length, hk]
      have e : fl (k :: E) = us (nmb k) ++ fl E := by rw [show k :: E = [k] ++ E from rfl, fl_app, fl_one]
      have h4 := h3 (32 + j) u (by rw [e, List.getElem?_append_right (by omega), hl, Nat.add_sub_cancel_left]; exact hj)
      rw [Addr.add_lit] at h4 ⊢
      rw [Nat.add_assoc]; exact h4
theorem cfT_set {S : Lx} (hS : T32 S) {k : Key} (hk : k.length = 32) (u u' : Value) (ps ps' : List Key) : (cfT (S ++ [(k, (u, ps))])).set (S.length * 33 + 32) u' = cfT (S ++ [(k, (u', ps'))]) := by
  have e1 : ∀ (z : Value) (qs : List Key), cfT [(k, (z, qs))] = us (nmb k) ++ [z] := fun z qs => cf_one (k, z)
  rw [cfT_app, cfT_app, e1, e1, List.set_append_right _ _ (by rw [cfT_len hS]; omega), cfT_len hS, Nat.add_sub_cancel_left, List.set_append_right _ _ (by rw [usn_length, hk]; exact Nat.le_refl _), usn_length, hk]
  rfl
theorem Sk.set {W : World} {B : Nat} {lv : Value} {g n c : Nat} {S : Lx} {k : Key} {u u' : Value} {ps ps' : List Key} (h : Sk W B lv (.slice (some ⟨g, 0, none⟩) n c) (S ++ [(k, (u, ps))])) (hu : HSeen W u' ps') (hp : H32 ps') (hb : ∀ b, sblk u' = some b → sblk u = some b) :
    Sk (W.setCell ⟨g, S.length * 33 + 32, none⟩ u') B lv (.slice (some ⟨g, 0, none⟩) n c) (S ++ [(k, (u', ps'))]) ∧ Only (fun j => (Value.slice (some ⟨g, 0, none⟩) n c).ownBlock = some j) W (W.setCell ⟨g, S.length * 33 + 32, none⟩ u') := by
  have ho : Only (fun j => (Value.slice (some ⟨g, 0, none⟩) n c).ownBlock = some j) W (W.setCell ⟨g, S.length * 33 + 32, none⟩ u') := (Only.refl (fun j => (Value.slice (some ⟨g, 0, none⟩) n c).ownBlock = some j) W).setCell (p := ⟨g, S.length * 33 + 32, none⟩) rfl _
  have hk : k.length = 32 := h.h32 (k, (u, ps)) (by simp)
  have hS : T32 S := h.h32.sub fun y hy => by simp [hy]
  have hne : ∀ b, (∃ cs, W.heap[b]? = some (.cells cs 31 (0, 0))) → (Value.slice (some ⟨g, 0, none⟩) n c).ownBlock ≠ some b := fun b ⟨cs, hb⟩ => own_apart h.own hb (by decide)
  have hlit : ∀ y ∈ S ++ [(k, (u', ps'))], HSeen W y.2.1 y.2.2 ∧ H32 y.2.2 ∧ ∀ b, sblk y.2.1 = some b → (∃ cs, W.heap[b]? = some (.cells cs 31 (0, 0))) ∧ lv.ownBlock ≠ some b := fun y hy => by
    rcases List.mem_append.1 hy with hy | hy
    · exact h.lit y (by simp [hy])
    · rw [List.mem_singleton.1 hy]
      exact ⟨hu, hp, fun b h9 => (h.lit (k, (u, ps)) (by simp)).2.2 b (hb b h9)⟩
  refine ⟨⟨?_, fun y hy => ?_, fun y hy => ?_⟩, ho⟩
  · rcases h.own.2 with ⟨h1, _⟩ | ⟨g', cap, cur, h1, hB, hg, hn, hm, hs, hc⟩
    · cases h1
    · simp only [Value.slice.injEq, Option.some.injEq, Addr.mk.injEq, and_true] at h1
      obtain ⟨rfl, h2, rfl⟩ := h1
      rw [List.length_append, List.length_singleton] at hn hc h2
      refine ⟨cfT_len (fun y hy => ?_), .inr ⟨g, c, cur.setIfInBounds (S.length * 33 + 32) u', by rw [List.length_append, List.length_singleton, h2], hB, heap_setCell_same W g _ _ _ _ hg, by rw [List.length_append, List.length_singleton]; exact hn, hm, by rw [Array.size_setIfInBounds]; exact hs, ?_⟩⟩
      · rcases List.mem_append.1 hy with hy | hy
        · exact hS y hy
        · rw [List.mem_singleton.1 hy]; exact hk
      · rw [Array.toList_setIfInBounds, List.length_append, List.length_singleton, List.take_set, hc]
        exact cfT_set hS hk u u' ps ps'
  · rcases List.mem_append.1 hy with hy | hy
    · exact hS y hy
    · rw [List.mem_singleton.1 hy]; exact hk
  · obtain ⟨h3, h4, h5⟩ := hlit y hy
    refine ⟨h3.keep ho (fun b hb => hne b (h5 b hb).1), h4, fun b hb => ?_⟩
    obtain ⟨⟨cs, h6⟩, h7⟩ := h5 b hb
    exact ⟨⟨cs, (ho.block b (Array.getElem?_eq_some_iff.1 h6).1 (hne b ⟨cs, h6⟩)).trans h6⟩, h7⟩
/-- The stack stays as the walk turns. -/
theorem Sk.wk {W0 W W' : World} {wk g bm ml : Nat} {X : Lx} {fv lv lv' v : Value} {o : List Key} {S : Lx} (h : Sk W W0.heap.size lv v S) (K : WK W0 W wk g bm ml X fv lv o) (ho : Only (wS wk ml lv) W W') (loc : ∀ j, lv'.ownBlock = some j → lv.ownBlock = some j ∨ W.heap.size ≤ j) : Sk W' W0.heap.size lv' v S := by
  obtain ⟨es, cc, hml⟩ : ∃ es cc, W.heap[ml]? = some (.map es cc) := by
    obtain ⟨R, h4, _⟩ := K.set
    obtain ⟨M, h5, _⟩ := h4.ex
    exact h5.ismap
  refine h.keep ho (fun j hj e => ?_) (fun b cs hb hl => ⟨fun e => ?_, fun e => ?_⟩)
  · rcases e with rfl | rfl | e
    · exact own_apart h.own K.cell (by decide) hj
    · exact own_nomap h.own hml hj
    · obtain ⟨cs, h6, _⟩ := own_type h.own hj
      exact own_apart K.own h6 (by decide) e
  · rcases e with rfl | rfl | e
    · rw [K.cell] at hb
      injection hb with hb
      injection hb with _ hb _
      revert hb; decide
    · rw [hml] at hb; cases hb
    · exact hl e
  · rcases loc b e with h1 | h1
    · exact hl h1
    · have := (Array.getElem?_eq_some_iff.1 hb).1; omega
theorem vis_idx {t : Nat} (ht : t + 1 ≤ 2000) : wrap64 (t : Int) = (t : Int) ∧ (0 : Int) ≤ (t : Int) ∧ (t : Int) < (t : Int) + 1 ∧ (t : Int) + 1 > 0 := by
  unfold wrap64; omega
/-- What a visit does. -/
def ViPost (W0 w : World) (wk g bm ml : Nat) (X : Lx) (fv lv : Value) (o' : List Key) (e : Ending) (w' : World) : Prop :=
  e = .returned (.tuple #[]) ∧ ∃ lv', WK W0 w' wk g bm ml X fv lv' o' ∧ Only (wS wk ml lv) w w' ∧ ∀ j, lv'.ownBlock = some j → lv.ownBlock = some j ∨ w.heap.size ≤ j
set_option linter.unusedSimpArgs false in
set_option maxRecDepth 20000 in
set_option maxHeartbeats 8000000 in
attribute [local go_sem ↓] hld_open in
theorem visit_to (W0 w : World) (wk g bm ml : Nat) (X : Lx) (fv lv : Value) (o : List Key) (H : WK W0 w wk g bm ml X fv lv o) (D : Key → Bool) (hD : Dn W0 fv D) (HW : Wf (gr X)) (x : Key) (hx : x.length = 32) (N : Nat) (o' : List Key) (hv' : VL (gr X) D N o [x] o') (ho' : o'.length ≤ 1000) :
    Calls Tryz.prog 81 #[wkp wk, .agg (hv x)] w (ViPost W0 w wk g bm ml X fv lv o') := by
  have BA := Lib.hid (below_al11 w (.cells (hv x) 31))
  have HB := Lib.hid (heap_alloc_last w (.cells (hv x) 31))
  have HK := Lib.hid (H.kb BA.out)
  have HX := Lib.hid hx
  have HWF := Lib.hid HW
  have HDN := Lib.hid hD
  have HO := Lib.hid ho'
  have HV := Lib.hid hv'.one
  clear H hx HW hD ho' hv'
  go_enter Tryz.func81, Tryz.ntmps81
  go_upto_region 1 with fail
  generalize w.alloc (.cells (hv x) 31) = w0 at *
  generalize hb : w.heap.size = b at HB
  clear hb
  have hld0 := hld_row HX.out HB.out
  have HEN := Lib.hid (enter_to W0 w0 wk g bm ml X fv lv o HK.out D HDN.out HWF.out (.slice none 0 0) [] (sk_nil w0 W0.heap.size lv) x HX.out (by decide))
  go_wp2_with fail
  refine HEN.out.mono ?_
  rintro e w1 ⟨v1, rfl, k1, o1, loc1, h1⟩
  obtain ⟨S, m, hS, hR⟩ : ∃ S m, Sk w1 W0.heap.size lv v1 S ∧ Run (gr X) D m o (stk S) o' := by
    rcases h1 with ⟨hk, rfl, hs⟩ | ⟨h2, h3, u, hs⟩
    · refine ⟨[], 0, hs, ?_⟩
      rcases HV.out with ⟨_, rfl⟩ | ⟨h2, h3, _⟩
      · exact .nil _
      · exact absurd hk (by simp [h2, h3])
    · rcases HV.out with ⟨hk, _⟩ | ⟨_, _, m, hr⟩
      · exact absurd hk (by simp [h2, h3])
      · exact ⟨_, m, hs, hr⟩
  have K1 := Lib.hid k1
  have S1 := Lib.hid hS
  have R1 := Lib.hid hR
  have O1 : Hid (Only (wS wk ml lv) w w1) := Lib.hid ((Only.of_below (S := wS wk ml lv) BA.out).trans o1 (fun _ h => h) (fun _ _ h => by cases h))
  obtain ⟨q1, n1, c1, rfl, hn1⟩ := hS.shape
  have L1 : Hid (∀ j, (Value.slice q1 n1 c1).ownBlock = some j → w.heap.size ≤ j) := Lib.hid (fun j hj => (loc1 j hj).elim (fun h => by cases h) (fun h => Nat.le_trans BA.out.size h))
  have N1 := Lib.hid hn1
  clear k1 o1 loc1 h1 hS hR hn1 HEN hld0 HK HV HB
  go_wp2_with fail
  go_loopg [4] m (fun k v4 wr => ∃ (lc : Value) (oc : List Key) (S : Lx) (q : Option Addr) (n c : Nat), v4 = .slice q n c ∧ Hid (n = S.length) ∧ Hid (WK W0 wr wk g bm ml X fv lc oc) ∧ Hid (Sk wr W0.heap.size lc (.slice q n c) S) ∧ Hid (Run (gr X) D k oc (stk S) o') ∧ Hid (Only (wS wk ml lv) w wr) ∧ Hid (∀ j, lc.ownBlock = some j → lv.ownBlock = some j ∨ w.heap.size ≤ j) ∧ Hid (∀ j, (Value.slice q n c).ownBlock = some j → w.heap.size ≤ j))
  case atStart => exact ⟨lv, o, S, q1, n1, c1, rfl, N1, K1, S1, R1, O1, Lib.hid (fun j hj => .inl hj), L1⟩
  case round =>
    clear N1 K1 S1 R1 O1 L1
    obtain ⟨lc, oc, S, q, n, c, rfl, HN, K, SK, R, OW, LC, LS⟩ := hrel
    cases hS : S.reverse with
    | nil =>
      obtain rfl : S = [] := by simpa using hS
      obtain rfl : n = 0 := HN.out
      clear hS
      go_wp2_with fail
      refine bodyPost_end (results_none rfl _ _ _) rfl ?_
      have e := R.out.done
      subst e
      exact ⟨rfl, lc, K.out, OW.out, LC.out⟩
    | cons x0 S' =>
      obtain ⟨S2, rfl⟩ : ∃ S2, S = S2 ++ [x0] := ⟨S'.reverse, by rw [← List.reverse_reverse S, hS, List.reverse_cons]⟩
      clear hS S'
      obtain ⟨h, u, ps⟩ := x0
      obtain ⟨sb, cur, rfl, hB, hn, hnc, hg, hrg⟩ := SK.out.top
      dsimp only at hrg
      have hlen := R.out.len
      have hstl : (stk (S2 ++ [(h, (u, ps))])).length = S2.length + 1 := by simp [stk]
      rw [hstl] at hlen
      have hh32 : h.length = 32 := SK.out.h32 (h, (u, ps)) (by simp)
      obtain ⟨hus, hp32, hub⟩ := SK.out.lit (h, (u, ps)) (by simp)
      dsimp only at hus hp32 hub
      obtain ⟨pu, cu, rfl⟩ := hus.shape
      obtain ⟨m, hm⟩ : ∃ m, m = S2.length := ⟨_, rfl⟩
      rw [← hm] at hn hrg hlen
      subst hn
      obtain ⟨i1, i2, i3, i4⟩ := vis_idx (t := m) (by have := HO.out; omega)
      have hcm : (m : Int) ≤ (c : Int) := by omega
      have hcu : wr.cell? ⟨sb, m * 33 + 32, none⟩ = some (.slice pu ps.length cu) := hrg 32 _ (by rw [List.getElem?_append_right (by rw [usn_length, hh32]; exact Nat.le_refl _), usn_length, hh32]; rfl)
      have hldh := hld_range hh32 (rng_pre hrg)
      have HH := Lib.hid hh32
      have HM := Lib.hid hm
      have HLN : Hid (oc.length + 1 ≤ 1000 ∧ S2.length + 1 ≤ 1000) := Lib.hid (by have := HO.out; omega)
      have HUS := Lib.hid hus
      have HP32 := Lib.hid hp32
      have HR : Hid (Run (gr X) D gk oc ((h, ps) :: stk S2) o') := Lib.hid (by have := R.out; rwa [stk_snoc] at this)
      have HRNG := Lib.hid hrg
      have HG := Lib.hid hg
      obtain ⟨lu, hlu⟩ : ∃ lu, lu = ps.length := ⟨_, rfl⟩
      rw [← hlu] at hcu HUS
      rw [← hlu] at SK
      have HLU := Lib.hid hlu
      clear hg hrg hlen hstl hh32 hus hp32 hub hm hlu HN R hB hnc
      cases ps with
      | nil =>
        obtain rfl : lu = 0 := HLU.out
        go_wp2_with fail
        refine (wadd_to W0 wr wk g bm ml X fv lc oc K.out h HH.out (by have := HLN.out; omega)).mono ?_
        rintro e w5 ⟨rfl, lc', k5, o5, l5⟩
        have SK5 := Lib.hid (SK.out.wk K.out o5 l5).cut
        obtain ⟨m', hm', r'⟩ := HR.out.pop
        have HM5 := Lib.hid hm'
        have R5 := Lib.hid r'
        have K5 := Lib.hid k5
        have OW5 : Hid (Only (wS wk ml lv) w w5) := Lib.hid (OW.out.trans o5 (fun _ h => h) (fun j hj h => by
          rcases h with h | h | h
          · exact .inl h
          · exact .inr (.inl h)
          · rcases LC.out j h with h | h
            · exact .inr (.inr h)
            · omega))
        have LC5 : Hid (∀ j, lc'.ownBlock = some j → lv.ownBlock = some j ∨ w.heap.size ≤ j) := Lib.hid (fun j hj => (l5 j hj).elim (LC.out j) (fun h => .inr (Nat.le_trans OW.out.size h)))
        clear k5 o5 l5 hm' r' hcu hldh
        go_wp2_with fail
        go_roundg m'
        case measure => exact HM5.out
        case rel => exact ⟨lc', oc ++ [h], S2, _, m, c, rfl, HM, K5, Lib.hid (by rw [HM.out]; exact SK5.out), R5, OW5, LC5, Lib.hid (fun j hj => LS.out j hj)⟩
      | cons p ps =>
        obtain ⟨lw, rfl⟩ : ∃ lw, lu = lw + 1 := ⟨ps.length, HLU.out⟩
        have hp0 : p.length = 32 := HP32.out p List.mem_cons_self
        obtain ⟨b, o0, c', e1, hr0⟩ := HUS.out.at HP32.out (i := 0) (by simp)
        injection e1 with e1 e2 e3
        subst e1
        rw [Nat.zero_mul, Nat.add_zero] at hr0
        have hldp := hld_range hp0 hr0
        have hlc : lw + 1 ≤ cu := by
          rcases HUS.out with ⟨h1, _⟩ | ⟨a, cap, h1, h2, _⟩
          · cases h1
          · injection h1 with _ h1 h3; omega
        have HLC := Lib.hid hlc
        have st := hst_cells p hp0 wr
        have hks : (hv p).size = 32 := by rw [hv_size, hp0]
        have AL := Lib.hid (below_al11 wr (.cells (hv p) 31))
        have HBP := Lib.hid (heap_alloc_last wr (.cells (hv p) 31))
        have K5 := Lib.hid (K.out.kb AL.out)
        have SK5 := Lib.hid (SK.out.kb AL.out)
        have OW5 : Hid (Only (wS wk ml lv) w (wr.alloc (.cells (hv p) 31))) := Lib.hid (OW.out.trans (Only.of_below (S := wS wk ml lv) AL.out) (fun _ h => h) (fun _ _ h => h))
        have HG5 := Lib.hid ((mild_below AL.out).cells HG.out)
        have HUS5 := Lib.hid (HUS.out.mild (mild_below AL.out))
        have HP := Lib.hid hp0
        have hcu5 := (mild_below AL.out).cell hcu
        have hf5 : (wr.alloc (.cells (hv p) 31)).frozen? ⟨sb, m * 33 + 32, none⟩ = false := frozen_of_row _ _ _ _ _ HG5.out
        have hb1 : (1 : Int) ≤ (lw : Int) + 1 := by omega
        have hb2 : (lw : Int) + 1 ≤ cu := by omega
        have hb3 : (1 : Int) ≤ cu := by omega
        clear hp0 e2 e3 hr0 hlc
        go_upto_region 8 with fail
        clear st
        generalize wr.alloc (.cells (hv p) 31) = w5 at *
        generalize wr.heap.size = pb at *
        go_upto_region 9 with fail
        have hTL : HSeen w5 (.slice (if cu = 1 then some ⟨b, o0, none⟩ else some ⟨b, o0 + 32, none⟩) lw (cu - 1)) ps := HUS5.out.tail HP.out
        have hSB : ∀ b', sblk (.slice (if cu = 1 then some ⟨b, o0, none⟩ else some ⟨b, o0 + 32, none⟩) lw (cu - 1)) = some b' → sblk (.slice (some ⟨b, o0, none⟩) (lw + 1) cu) = some b' := fun b' h9 => by
          split at h9 <;> exact h9
        have hset := SK5.out.set hTL (fun y hy => HP32.out y (List.mem_cons_of_mem _ hy)) hSB
        rw [← HM.out] at hset
        obtain ⟨s6, o6⟩ := hset
        have SK6 := Lib.hid s6
        have K6 := Lib.hid (K5.out.stk SK5.out.own o6)
        have HB6 := Lib.hid ((o6.block pb (Array.getElem?_eq_some_iff.1 HBP.out).1 (own_apart SK5.out.own HBP.out (by decide))).trans HBP.out)
        have OW6 := Lib.hid (OW5.out.trans o6 (fun _ h => h) (fun j hj h => by have := LS.out j h; omega))
        clear hTL hSB s6 o6 hcu5 hf5 hb1 hb2 hb3 hldp K5 SK5 OW5 HBP HG5 HUS5
        generalize (Value.slice (if cu = 1 then some ⟨b, o0, none⟩ else some ⟨b, o0 + 32, none⟩) lw (cu - 1)) = u' at *
        generalize w5.setCell ⟨sb, m * 33 + 32, none⟩ u' = w6 at *
        have hld6 := hld_row HP.out HB6.out
        have HEN := Lib.hid (enter_to W0 w6 wk g bm ml X fv lc oc K6.out D HDN.out HWF.out (.slice (some ⟨sb, 0, none⟩) (m + 1) c) (S2 ++ [(h, (u', ps))]) SK6.out p HP.out (by have := HLN.out; rw [List.length_append, List.length_singleton]; omega))
        go_wp2_with fail
        refine HEN.out.mono ?_
        rintro e w7 ⟨v7, rfl, k7, o7, loc7, h7⟩
        obtain ⟨m', hm', r1, r2⟩ := HR.out.next
        obtain ⟨S7, hS7, hR7⟩ : ∃ S7, Sk w7 W0.heap.size lc v7 S7 ∧ Run (gr X) D m' oc (stk S7) o' := by
          rcases h7 with ⟨hk, rfl, hs⟩ | ⟨h8, h9, u, hs⟩
          · exact ⟨_, hs, by rw [stk_snoc]; exact r1 hk⟩
          · exact ⟨_, hs, by rw [stk_snoc, stk_snoc]; exact r2 h8 h9⟩
        have HM7 := Lib.hid hm'
        have K7 := Lib.hid k7
        have SK7 := Lib.hid hS7
        have R7 := Lib.hid hR7
        have OW7 : Hid (Only (wS wk ml lv) w w7) := Lib.hid (OW6.out.trans o7 (fun _ h => h) (fun j hj h => by have := LS.out j h; omega))
        have LS7 : Hid (∀ j, v7.ownBlock = some j → w.heap.size ≤ j) := Lib.hid (fun j hj => (loc7 j hj).elim (LS.out j) (fun h => Nat.le_trans OW6.out.size h))
        obtain ⟨q7, n7, c7, rfl, hn7⟩ := hS7.shape
        have HN7 := Lib.hid hn7
        clear k7 o7 loc7 h7 hm' r1 r2 hS7 hR7 hn7 HEN hld6
        go_wp2_with fail
        go_roundg m'
        case measure => exact HM7.out
        case rel => exact ⟨lc, oc, S7, q7, n7, c7, rfl, HN7, K7, SK7, R7, OW7, LC, LS7⟩
end Go.Proofs.YtnpeahbbcolfmaaGreatDoor
namespace Go.Proofs.YtnpeahbbcolfmaaGreatDoor
open Go.RowKit
open Go.Maps
theorem Dn.kb {w W0 : World} {fv : Value} {D : Key → Bool} (h : Dn w fv D) (b : Below w.heap.size w W0) : Dn W0 fv D := by
  rcases h with h | ⟨k, c, h1, h2, h3⟩
  · exact .inl h
  · exact .inr ⟨k, c, h1, h2, fun V hV => h3 V (b.trans (hV.mono b.size))⟩
theorem Dn.none (w : World) : Dn w .nilFunc fun _ => false := .inl ⟨rfl, fun _ => rfl⟩
theorem Dn.cells {w : World} {fv : Value} {D : Key → Bool} (h : Dn w fv D) : fv = .nilFunc ∨ ∃ k c, fv = .func (.func k) #[] c := by
  rcases h with ⟨rfl, _⟩ | ⟨k, c, h1, _, _⟩
  · exact .inl rfl
  · exact .inr ⟨k, c, h1⟩
set_option maxRecDepth 20000 in
theorem newwalk_to (w : World) (g : Nat) (fv : Value) (hf : fv = .nilFunc ∨ ∃ k c, fv = .func (.func k) #[] c) :
    Calls Tryz.prog 79 #[gp g, fv] w fun e w' => e = .returned (wkp (w.heap.size + 1)) ∧ w'.heap[w.heap.size + 1]? = some (.cells #[gp g, fv, .slice none 0 0, .map (some w.heap.size)] 135 (0, 0)) ∧ SetH w' w.heap.size [] ∧ Below w.heap.size w w' := by
  have hmm := @run_makeMap Tryz.prog
  have b1 : Below w.heap.size w (w.alloc (.map #[] 0)) := (Below.refl _ w).alloc (Nat.le_refl _) _
  have hs1 : (w.alloc (.map #[] 0)).heap.size = w.heap.size + 1 := by simp
  have B2 : Hid (∀ cs, Below w.heap.size w ((w.alloc (.map #[] 0)).alloc (.cells cs 135))) := Lib.hid (fun cs => b1.alloc b1.size _)
  have S2 : Hid (∀ cs, SetH ((w.alloc (.map #[] 0)).alloc (.cells cs 135)) w.heap.size []) := Lib.hid (fun cs => (setH_made w).kb (below_al11 (w.alloc (.map #[] 0)) (.cells cs 135)) (by rw [hs1]; exact Nat.lt_succ_self _))
  have H2 : Hid (∀ cs, ((w.alloc (.map #[] 0)).alloc (.cells cs 135)).heap[w.heap.size + 1]? = some (.cells cs 135 (0, 0))) := Lib.hid (fun cs => by have := heap_alloc_last (w.alloc (.map #[] 0)) (.cells cs 135); rwa [hs1] at this)
  clear b1
  rcases hf with rfl | ⟨k, c, rfl⟩
  · go_enter Tryz.func79, Tryz.ntmps79
    go_wp2
    go_ret
    exact ⟨rfl, H2.out _, S2.out _, B2.out _⟩
  · go_enter Tryz.func79, Tryz.ntmps79
    go_wp2
    go_ret
    exact ⟨rfl, H2.out _, S2.out _, B2.out _⟩
theorem wk_new {W0 W : World} {g bm : Nat} {X : Lx} {fv : Value} (b : Below W0.heap.size W0 W) (hga : GA W0 g bm X) (hc : W.heap[W0.heap.size + 1]? = some (.cells #[gp g, fv, .slice none 0 0, .map (some W0.heap.size)] 135 (0, 0))) (hs : SetH W W0.heap.size []) : WK W0 W (W0.heap.size + 1) g bm W0.heap.size X fv (.slice none 0 0) [] :=
  ⟨b, hc, hga, World.ownsRow_nil _ _ _ _, ⟨[], hs, fun _ => Iff.rfl⟩, H32.nil, ⟨Nat.le_succ _, Nat.le_refl _⟩⟩
/-- What a walk has listed is among the graph's commits, none of it twice. -/
theorem vl_len {G : Gr} {D : Key → Bool} (W : Wf G) {n : Nat} {hs o : List Key} (v : VL G D n [] hs o) (h : ∀ x ∈ hs, (aget x G).isSome = true) : o.length ≤ 1000 :=
  Nat.le_trans (in_len (v.nodup W List.nodup_nil) (v.inG W.clo (fun _ h => by cases h) h)) W.few
/-- A row of hashes of one's own stays as the walk turns. -/
theorem own_wk {W0 W W' : World} {wk g bm ml B : Nat} {X : Lx} {fv lv v : Value} {o E : List Key} (h : HOwn W B v E) (K : WK W0 W wk g bm ml X fv lv o) (ho : Only (wS wk ml lv) W W') (hne : ∀ j, v.ownBlock = some j → lv.ownBlock ≠ some j) : HOwn W' B v E := by
  obtain ⟨es, cc, hml⟩ : ∃ es cc, W.heap[ml]? = some (.map es cc) := by
    obtain ⟨R, h4, _⟩ := K.set
    obtain ⟨M, h5, _⟩ := h4.ex
    exact h5.ismap
  refine own_keep h ho (fun j hj e => ?_)
  rcases e with rfl | rfl | e
  · exact own_apart h K.cell (by decide) hj
  · exact own_nomap h hml hj
  · exact hne j hj e
def hasB (G : Gr) (h : Key) : Bool := (aget h G).isSome
set_option linter.unusedSimpArgs false in
set_option maxRecDepth 20000 in
set_option maxHeartbeats 8000000 in
attribute [local go_sem ↓] hld_open in
theorem walk_to (w : World) (g bm : Nat) (X : Lx) (H : GA w g bm X) (HW : Wf (gr X)) (v : Value) (E : List Key) (hE : HSeen w v E) (h32 : H32 E) (hEl : E.length ≤ 1000000) (fv : Value) (D : Key → Bool) (hD : Dn w fv D) :
    Calls Tryz.prog 39 #[gp g, v, fv] w fun e w' => ∃ v' o', e = .returned v' ∧ HOwn w' w.heap.size v' o' ∧ (∃ N, VL (gr X) D N [] (E.filter (hasB (gr X))) o') ∧ Below w.heap.size w w' := by
  obtain ⟨pe, ce, rfl⟩ := hE.shape
  obtain ⟨ne, hne⟩ : ∃ ne, ne = E.length := ⟨_, rfl⟩
  rw [← hne] at hE hEl ⊢
  have hnp : ∀ w : World, (binOp .eql 22 (gp g) (.pointer none)).run Tryz.prog w = .ok (.bool false) w := fun w => by kernel_rfl
  have HCP := Lib.hid (copy_to w g bm X H)
  have HWF := Lib.hid HW
  have HE := Lib.hid hE
  have H3 := Lib.hid h32
  have HL := Lib.hid hEl
  have HN := Lib.hid hne
  have HDN := Lib.hid hD
  clear H HW hE h32 hEl hne hD
  go_enter Tryz.func39, Tryz.ntmps39
  go_wp2_with fail
  refine HCP.out.mono ?_
  rintro e w1 ⟨g', rfl, _, hga, b1⟩
  have B1 := Lib.hid b1
  have HGA := Lib.hid hga
  have HD1 := Lib.hid (HDN.out.kb b1)
  clear hga b1 HCP
  generalize w.heap.size = bm' at HGA
  go_wp2_with fail
  refine (newwalk_to w1 g' fv HD1.out.cells).mono ?_
  rintro e w2 ⟨rfl, hc, hs, b2⟩
  have K2 := Lib.hid (wk_new b2 HGA.out hc hs)
  have B2 : Hid (Below w.heap.size w w2) := Lib.hid (B1.out.trans (b2.mono B1.out.size))
  clear hc hs b2
  obtain ⟨wk, hwk⟩ : ∃ wk, wk = w1.heap.size + 1 := ⟨_, rfl⟩
  obtain ⟨ml, hml⟩ : ∃ ml, ml = w1.heap.size := ⟨_, rfl⟩
  have K2' : Hid (WK w1 w2 wk g' bm' ml X fv (.slice none 0 0) []) := Lib.hid (by rw [hwk, hml]; exact K2.out)
  rw [← hwk]
  clear K2 hwk hml
  go_wp2_with fail
  refine (hclone_any w2 _ E H3.out (by have := HL.out; have := HN.out; omega) (HE.out.mild (mild_below B2.out))).mono ?_
  rintro e w3 ⟨v3, rfl, o3, b3⟩
  obtain ⟨pc, nc, cc, rfl, hnc⟩ := own_sh o3
  rw [← HN.out] at hnc
  subst nc
  have O3 := Lib.hid o3
  have K3 := Lib.hid (K2'.out.kb b3)
  clear o3 b3 K2'
  go_wp2_with fail
  go_loopw [19] (fun v19 wr => ∃ i : Nat, v19 = .int .i64 i ∧ i ≤ ne ∧ Hid (∃ lc oc N, WK w1 wr wk g' bm' ml X fv lc oc ∧ VL (gr X) D N [] ((E.take i).filter (hasB (gr X))) oc ∧ ∀ j, (Value.slice pc ne cc).ownBlock = some j → lc.ownBlock ≠ some j) ∧ Hid (HOwn wr w2.heap.size (.slice pc ne cc) E)) (fun v19 _ => ne - (intOf v19).toNat)
  case atStart => exact ⟨0, rfl, Nat.zero_le _, Lib.hid ⟨_, [], 0, K3.out, by simpa using VL.nil [], fun _ _ h => by cases h⟩, O3⟩
  case round =>
    obtain ⟨i, rfl, hi, HK, O⟩ := hrel
    clear O3 K3
    obtain ⟨lc, oc, N, k0, v0, hne⟩ := HK.out
    have K := Lib.hid k0
    have V := Lib.hid v0
    have HNE := Lib.hid hne
    clear k0 v0 hne HK
    by_cases hlt : i < ne
    · obtain ⟨j1, j2, j3⟩ := next_fit hlt HL.out
      have hiE : i < E.length := by rw [← HN.out]; exact hlt
      obtain ⟨bb, o, c', e1, hrg⟩ := (HSeen.own O.out).at H3.out hiE
      injection e1 with e1 e2 e3
      subst e1
      have htk : E.take (i + 1) = E.take i ++ [E[i]] := List.take_succ_eq_append_getElem hiE
      obtain ⟨x, hx⟩ : ∃ x, x = E[i] := ⟨_, rfl⟩
      rw [← hx] at hrg htk
      have HX : Hid (x.length = 32) := Lib.hid (by rw [hx]; exact H3.out.at hiE)
      have hld0 := hld_range HX.out hrg
      have st := hst_cells x HX.out wr
      have hks : (hv x).size = 32 := by rw [hv_size, HX.out]
      have AL := Lib.hid (below_al11 wr (.cells (hv x) 31))
      have HB := Lib.hid (heap_alloc_last wr (.cells (hv x) 31))
      have K4 := Lib.hid (K.out.kb AL.out)
      have O4 := Lib.hid (own_below O.out AL.out)
      have HTK := Lib.hid htk
      have HIN := Lib.hid hlt
      have HJ1 := Lib.hid j1
      clear hx hrg htk hiE e2 e3 hi hlt K O
      go_upto_region 7 with fail
      clear st hld0
      generalize wr.alloc (.cells (hv x) 31) = w4 at *
      generalize wr.heap.size = hb at *
      have bq : Below w4.heap.size w4 w4.drew := blw_qt _ 1 w4
      have K5 := Lib.hid (K4.out.kb bq)
      have O5 := Lib.hid (own_below O4.out bq)
      have HB5 := Lib.hid ((mild_below bq).cells HB.out)
      clear bq K4 O4 HB
      obtain ⟨q, hq⟩ : ∃ q, q = hasB (gr X) x := ⟨_, rfl⟩
      have HQ := Lib.hid hq
      clear hq
      go_wp2_with fail
      try simp only [List.append]
      refine wp_region_noPanic ?_
      refine wp_region_held_drew (S := (fun V => V.cell? ⟨wk, 0, none⟩ = some (gp g') ∧ (hld ⟨hb, 0, none⟩).run Tryz.prog V = .ok (.agg (hv x)) V)) (by kernel_rfl) ⟨K5.out.c (i := 0) rfl, hld_row HX.out HB5.out⟩ (fun hHeld => ?_)
      generalize w4.drew = cw at *
      refine wpAnyH_take (i := 0) (v := ?_) (by simp only [List.getElem?_toArray, List.getElem?_cons_zero]; rfl) (by kernel_rfl) (by kernel_rfl) (by kernel_rfl) (fun _ _ _ h => h) (Or.inl ⟨by rfl, ?_⟩) (by assumption) ?_
      rotate_left
      · intro w hSw
        try dsimp only at hSw
        go_simp
        try with_reducible rfl
      try simp only [Act.put, List.setIfInBounds_toArray, List.set_cons_zero, List.set_cons_succ]
      refine wpAnyH_take (i := 1) (v := ?_) (by simp only [List.getElem?_toArray, List.getElem?_cons_succ, List.getElem?_cons_zero]; rfl) (by kernel_rfl) (by kernel_rfl) (by kernel_rfl) (fun _ _ _ h => h) (Or.inl ⟨by rfl, ?_⟩) (by assumption) ?_
      rotate_left
      · intro w hSw
        try dsimp only at hSw
        go_simp
        try with_reducible rfl
      try simp only [Act.put, List.setIfInBounds_toArray, List.set_cons_zero, List.set_cons_succ]
      refine wpAnyH_take (i := 2) (v := ?_) (by simp only [List.getElem?_toArray, List.getElem?_cons_succ, List.getElem?_cons_zero]; rfl) (by kernel_rfl) (by kernel_rfl) (by kernel_rfl) (fun _ _ _ h => h) (Or.inl ⟨by rfl, ?_⟩) (by assumption) ?_
      rotate_left
      · intro w hSw
        try dsimp only at hSw
        go_simp
        try with_reducible rfl
      try simp only [Act.put, List.setIfInBounds_toArray, List.set_cons_zero, List.set_cons_succ]
      refine wpAnyH_take (i := 3) (v := ?_) (by simp only [List.getElem?_toArray, List.getElem?_cons_succ, List.getElem?_cons_zero]; rfl) (by kernel_rfl) (by kernel_rfl) (by kernel_rfl) (fun _ _ _ h => h) (Or.inl ⟨by rfl, ?_⟩) (by assumption) ?_
      rotate_left
      · intro w hSw
        try dsimp only at hSw
        go_simp
        try with_reducible rfl
      try simp only [Act.put, List.setIfInBounds_toArray, List.set_cons_zero, List.set_cons_succ]
      refine wpAnyH_take (i := 4) (v := ?_) (by simp only [List.getElem?_toArray, List.getElem?_cons_succ, List.getElem?_cons_zero]; rfl) (by kernel_rfl) (by kernel_rfl) (by kernel_rfl) (fun _ _ _ h => h) (Or.inl ⟨by rfl, ?_⟩) (by assumption) ?_
      rotate_left
      · intro w hSw
        try dsimp only at hSw
        go_simp
        try with_reducible rfl
      try simp only [Act.put, List.setIfInBounds_toArray, List.set_cons_zero, List.set_cons_succ]
      refine wpAnyH_ready (rs := [5]) (by kernel_rfl) (by simp) ?_
      refine AllReadyH.cons (by simp only [List.getElem?_toArray, List.getElem?_cons_succ, List.getElem?_cons_zero]; rfl) (fun K hK => ?_) AllReadyH.nil
      go_simp
      have hhs := has_to cw g' bm' X x HX.out K5.out.g
      rw [show (aget x (gr X)).isSome = q from HQ.out.symm] at hhs
      refine hhs.mono ?_
      clear hhs
      rintro e cx ⟨rfl, bb1⟩
      have K6 := Lib.hid (K5.out.kb bb1)
      have O6 := Lib.hid (own_below O5.out bb1)
      have HB6 := Lib.hid ((mild_below bb1).cells HB5.out)
      clear bb1 K5 O5 HB5
      go_wp2_with fail
      refine hK.out _ _ ⟨K6.out.c (i := 0) rfl, hld_row HX.out HB6.out⟩ (fun hHeld => ?_)
      clear hK K
      try simp only [Act.put, List.setIfInBounds_toArray, List.set_cons_zero, List.set_cons_succ]
      refine wpAnyH_done (by kernel_rfl) ?_ _
      refine NoPanic.normal ?_
      clear hHeld
      rename World => w6
      cases q with
      | false =>
        go_wp2_with fail
        refine ⟨⟨i + 1, by first | rw [HJ1.out] | rfl, HIN.out, Lib.hid ⟨lc, oc, N, K6.out, ?_, HNE.out⟩, O6⟩, ?_⟩
        · rw [HTK.out, List.filter_append]
          simp only [List.filter_cons, List.filter_nil, ← HQ.out, Bool.false_eq_true, if_false, List.append_nil]
          exact V.out
        · first | exact meas_nv HIN.out HJ1.out | exact meas_nw HIN.out
      | true =>
        obtain ⟨N2, o2, v2⟩ := VL.ex' HWF.out D [x] oc
        obtain ⟨N3, v3⟩ := V.out.app v2
        have hfl : (E.take (i + 1)).filter (hasB (gr X)) = (E.take i).filter (hasB (gr X)) ++ [x] := by
          rw [HTK.out, List.filter_append]
          simp only [List.filter_cons, List.filter_nil, ← HQ.out, if_true]
        have V3 : Hid (VL (gr X) D N3 [] ((E.take (i + 1)).filter (hasB (gr X))) o2) := Lib.hid (by rw [hfl]; exact v3)
        have HO2 : Hid (o2.length ≤ 1000) := Lib.hid (vl_len HWF.out V3.out (fun y hy => (List.mem_filter.1 hy).2))
        have HVI := Lib.hid (visit_to w1 w6 wk g' bm' ml X fv lc oc K6.out D HD1.out HWF.out x HX.out N2 o2 v2 HO2.out)
        have hld6 := hld_row HX.out HB6.out
        clear v2 v3 hfl
        go_wp2_with fail
        refine HVI.out.mono ?_
        rintro e w7 ⟨rfl, lc', k7, o7, l7⟩
        have K7 := Lib.hid k7
        have O7 := Lib.hid (own_wk O6.out K6.out o7 HNE.out)
        have HNE7 : Hid (∀ j, (Value.slice (some ⟨bb, o, none⟩) ne cc).ownBlock = some j → lc'.ownBlock ≠ some j) := Lib.hid (fun j hj e => (l7 j e).elim (HNE.out j hj) (fun h => by have := own_lt O6.out j hj; omega))
        clear k7 o7 l7 hld6
        go_wp2_with fail
        refine ⟨⟨i + 1, by first | rw [HJ1.out] | rfl, HIN.out, Lib.hid ⟨lc', o2, N3, K7.out, V3.out, HNE7.out⟩, O7⟩, ?_⟩
        first | exact meas_nv HIN.out HJ1.out | exact meas_nw HIN.out
    · obtain rfl : i = ne := by omega
      have hl2 : decide ((i : Int) < i) = false := by simp
      have hcl := K.out.c (i := 2) rfl
      clear hlt hi
      go_wp2_with fail
      go_ret
      refine ⟨lc, oc, rfl, own_lower K.out.own B1.out.size, ⟨N, ?_⟩, B1.out.trans (K.out.bel.mono B1.out.size)⟩
      have h := V.out
      rwa [List.take_of_length_le (by rw [HN.out]; exact Nat.le_refl _)] at h
end Go.Proofs.YtnpeahbbcolfmaaGreatDoor
namespace Go.Proofs.YtnpeahbbcolfmaaGreatDoor
open Go.RowKit
open Go.Maps
/-- What Rising tells. -/
def rising (G : Gr) (E : List Key) : Prop := ∀ i x, E[i]? = some x → (aget x G).isSome = true ∧ ∀ a ∈ E.take i, ¬ Up (adj G) a x
theorem up_take {G : Gr} {o : List Key} (h : PB G o) (i : Nat) : PB G (o.take i) := fun j x hx p hp => by
  rw [List.getElem?_take] at hx
  split at hx
  · have := h j x hx p hp
    rw [List.take_take, Nat.min_eq_left (by omega)]
    exact this
  · cases hx
theorem pb_rising {G : Gr} {o : List Key} (h : PB G o) (hn : o.Nodup) (hi : ∀ x ∈ o, (aget x G).isSome = true) : rising G o := fun i x hx => by
  refine ⟨hi x (List.mem_of_getElem? hx), fun a ha hu => ?_⟩
  have h1 := (up_take h i).up hu ha
  obtain ⟨j, hj, e⟩ := List.mem_iff_getElem.1 h1
  rw [List.length_take] at hj
  rw [List.getElem_take] at e
  obtain ⟨hi', e2⟩ := List.getElem?_eq_some_iff.1 hx
  have := (List.getElem_inj hn).1 (e.trans e2.symm)
  omega
theorem in_h32 {G : Gr} {o : List Key} (hG : H32 (G.map (·.1))) (hi : ∀ x ∈ o, (aget x G).isSome = true) : H32 o := fun x hx => by
  have := hi x hx
  rw [aget_isSome] at this
  exact hG x (of_decide_eq_true this)
/-- What a walk without done ones tells. -/
theorem walked {X : Lx} (W : Wf (gr X)) {E o : List Key} {N : Nat} (v : VL (gr X) (fun _ => false) N [] (E.filter (hasB (gr X))) o) :
    rising (gr X) o ∧ rsort o = ancs (gr X) E ∧ PB (gr X) o ∧ H32 o ∧ o.length ≤ 1000 := by
  have hE : ∀ x ∈ E.filter (hasB (gr X)), (aget x (gr X)).isSome = true := fun x hx => (List.mem_filter.1 hx).2
  have hp := (v.pb (PB.nil _)).1
  have hi := v.inG W.clo (fun _ h => by cases h) hE
  have hn := v.nodup W List.nodup_nil
  refine ⟨pb_rising hp hn hi, ?_, hp, in_h32 (keys_h32 W) hi, vl_len W v hE⟩
  refine asc_ext _ _ (rsort_asc o) (ancs_asc W.asc E) fun x => ?_
  rw [rsort_mem, ancs_mem W.clo, v.mem_iff (PB.nil _)]
  constructor
  · rintro (h | ⟨a, ha, hu⟩)
    · cases h
    · exact ⟨a, (List.mem_filter.1 ha).1, (List.mem_filter.1 ha).2, hu⟩
  · rintro ⟨a, ha, hs, hu⟩
    exact .inr ⟨a, List.mem_filter.2 ⟨ha, hs⟩, hu⟩
end Go.Proofs.YtnpeahbbcolfmaaGreatDoor
namespace Go.Proofs.YtnpeahbbcolfmaaGreatDoor
open Go.RowKit
open Go.Maps
/-- Where a hash stands in a list. -/
def idx (h : Key) : List Key → Option Nat
  | [] => none
  | x :: l => if x = h then some 0 else (idx h l).map (· + 1)
theorem idx_none {h : Key} : ∀ {l : List Key}, idx h l = none ↔ h ∉ l
  | [] => by simp [idx]
  | x :: l => by
    have ih := idx_none (h := h) (l := l)
    by_cases hx : x = h
    · simp [idx, hx]
    · simp [idx, hx, ih, Ne.symm hx]
theorem idx_get {h : Key} : ∀ {l : List Key} {k : Nat}, idx h l = some k → l[k]? = some h
  | [], k, e => by simp [idx] at e
  | x :: l, k, e => by
    by_cases hx : x = h
    · simp [idx, hx] at e; subst e; simp [hx]
    · simp only [idx, hx, if_false, Option.map_eq_some_iff] at e
      obtain ⟨j, hj, rfl⟩ := e
      simpa using idx_get hj
theorem idx_lt {h : Key} {l : List Key} {k : Nat} (e : idx h l = some k) : k < l.length := (List.getElem?_eq_some_iff.1 (idx_get e)).1
theorem idx_some {h : Key} {l : List Key} (e : h ∈ l) : ∃ k, idx h l = some k := by
  cases hk : idx h l with
  | none => exact absurd e (idx_none.1 hk)
  | some k => exact ⟨k, rfl⟩
theorem idx_at {h : Key} {l : List Key} (hn : l.Nodup) {k : Nat} (e : l[k]? = some h) : idx h l = some k := by
  obtain ⟨j, hj⟩ := idx_some (List.mem_of_getElem? e)
  obtain ⟨h1, e1⟩ := List.getElem?_eq_some_iff.1 (idx_get hj)
  obtain ⟨h2, e2⟩ := List.getElem?_eq_some_iff.1 e
  rw [hj, (List.getElem_inj hn).1 (e1.trans e2.symm)]
theorem idx_app {h : Key} : ∀ {l m : List Key}, idx h (l ++ m) = (idx h l).or ((idx h m).map (· + l.length))
  | [], m => by simp [idx]
  | x :: l, m => by
    have ih := idx_app (h := h) (l := l) (m := m)
    by_cases hx : x = h
    · simp [idx, hx]
    · simp only [List.cons_append, idx, hx, if_false, ih]
      cases idx h l with
      | some k => simp
      | none =>
        cases idx h m with
        | none => simp
        | some k => simp; omega
theorem idx_snoc {h x : Key} {l : List Key} : idx h (l ++ [x]) = (idx h l).or (if x = h then some l.length else none) := by
  rw [idx_app]
  by_cases hx : x = h <;> simp [idx, hx]
/-- The first number of the others. -/
abbrev split : Int := 1099511627776
/-- The number of a hash. -/
def idn (ms os : List Key) (h : Key) : Option Int := match idx h ms with
  | some k => some (k : Int)
  | none => (idx h os).map fun k : Nat => split + (k : Int)
theorem idn_none {ms os : List Key} {h : Key} : idn ms os h = none ↔ h ∉ ms ∧ h ∉ os := by
  unfold idn
  cases e : idx h ms with
  | some k => simp [List.mem_of_getElem? (idx_get e)]
  | none =>
    have h1 := idx_none.1 e
    simp only [Option.map_eq_none_iff, idx_none, h1, not_false_eq_true, true_and]
theorem idn_m {ms os : List Key} {h : Key} {k : Nat} (e : idx h ms = some k) : idn ms os h = some (k : Int) := by unfold idn; rw [e]
theorem idn_o {ms os : List Key} {h : Key} {k : Nat} (e : h ∉ ms) (e2 : idx h os = some k) : idn ms os h = some (split + (k : Int)) := by unfold idn; rw [idx_none.2 e, e2]; rfl

/-- Each commit behind its parents, or these are of B. -/
def Rs (G : Gr) : List Key → List Key → Prop
  | _, [] => True
  | B, x :: o => (∀ p ∈ adj G x, p ∈ B) ∧ Rs G (x :: B) o
theorem Rs.mono {G : Gr} : ∀ {o B B' : List Key}, Rs G B o → (∀ x ∈ B, x ∈ B') → Rs G B' o
  | [], _, _, _, _ => trivial
  | x :: o, B, B', h, hb => ⟨fun p hp => hb p (h.1 p hp), Rs.mono h.2 fun y hy => by
      rcases List.mem_cons.1 hy with rfl | hy
      · exact List.mem_cons_self
      · exact List.mem_cons_of_mem _ (hb y hy)⟩
theorem Rs.app {G : Gr} : ∀ {o m B : List Key}, Rs G B (o ++ m) ↔ Rs G B o ∧ Rs G (o ++ B) m
  | [], m, B => by simp [Rs]
  | x :: o, m, B => by
    have ih := Rs.app (G := G) (o := o) (m := m) (B := x :: B)
    rw [List.cons_append, Rs, Rs, ih, and_assoc]
    refine and_congr_right fun _ => and_congr_right fun _ => ⟨fun h => h.mono fun y hy => ?_, fun h => h.mono fun y hy => ?_⟩ <;> simp at hy ⊢ <;> grind
theorem Rs.filter {G : Gr} {f : Key → Bool} : ∀ {o B B' : List Key}, Rs G B o → (∀ x ∈ B, x ∈ B') → (∀ x ∈ o, f x = false → x ∈ B') → Rs G B' (o.filter f)
  | [], _, _, _, _, _ => trivial
  | x :: o, B, B', h, hb, hf => by
    by_cases hx : f x = true
    · rw [List.filter_cons_of_pos hx]
      refine ⟨fun p hp => hb p (h.1 p hp), h.2.filter (fun y hy => ?_) fun y hy e => List.mem_cons_of_mem _ (hf y (List.mem_cons_of_mem _ hy) e)⟩
      rcases List.mem_cons.1 hy with rfl | hy
      · exact List.mem_cons_self
      · exact List.mem_cons_of_mem _ (hb y hy)
    · rw [List.filter_cons_of_neg hx]
      refine h.2.filter (fun y hy => ?_) fun y hy e => hf y (List.mem_cons_of_mem _ hy) e
      rcases List.mem_cons.1 hy with rfl | hy
      · exact hf _ List.mem_cons_self (by simpa using hx)
      · exact hb y hy
set_option linter.unusedVariables false in
theorem Rs.at {G : Gr} : ∀ {o B : List Key}, Rs G B o → ∀ (i : Nat) (x : Key), o[i]? = some x → ∀ p ∈ adj G x, p ∈ B ∨ p ∈ o.take i
  | [], _, _, i, x, e, _, _ => by simp at e
  | y :: o, B, h, 0, x, e, p, hp => by
    simp at e; subst e
    exact .inl (h.1 p hp)
  | y :: o, B, h, i + 1, x, e, p, hp => by
    rcases Rs.at h.2 i x (by simpa using e) p hp with h1 | h1
    · rcases List.mem_cons.1 h1 with rfl | h1
      · exact .inr (by simp)
      · exact .inl h1
    · exact .inr (by simp [h1])
theorem Rs.pb {G : Gr} {o : List Key} (h : Rs G [] o) : PB G o := fun i x e p hp => (h.at i x e p hp).elim (fun h => by cases h) id
theorem pb_rs {G : Gr} {o : List Key} (h : PB G o) : Rs G [] o := by
  have key : ∀ k, Rs G [] (o.take k) := fun k => by
    induction k with
    | zero => simp [Rs]
    | succ k ih =>
      by_cases hk : k < o.length
      · rw [List.take_succ_eq_append_getElem hk, Rs.app]
        exact ⟨ih, fun p hp => by simpa using h k _ (List.getElem?_eq_getElem hk) p hp, trivial⟩
      · rw [List.take_of_length_le (by omega)] at ih ⊢
        exact ih
  have := key o.length
  rwa [List.take_length] at this
set_option linter.unusedVariables false in
theorem Rs.congr {G G' : Gr} : ∀ {o B : List Key}, (∀ x ∈ o, ∀ p ∈ adj G' x, p ∈ adj G x) → Rs G B o → Rs G' B o
  | [], _, _, _ => trivial
  | x :: o, B, h, r => ⟨fun p hp => r.1 p (h x List.mem_cons_self p hp), r.2.congr fun y hy => h y (List.mem_cons_of_mem _ hy)⟩

abbrev out (L : List Key) (h : Key) : Bool := !decide (h ∈ L)
open Classical in
/-- What is walked of some heads. -/
noncomputable def wlk (G : Gr) (hs : List Key) : List Key := if h : ∃ o N, VL G (fun _ => false) N [] (hs.filter (hasB G)) o then h.choose else []
theorem wlk_eq {G : Gr} {hs o : List Key} {N : Nat} (v : VL G (fun _ => false) N [] (hs.filter (hasB G)) o) : o = wlk G hs := by
  unfold wlk
  have h : ∃ o N, VL G (fun _ => false) N [] (hs.filter (hasB G)) o := ⟨_, _, v⟩
  rw [dif_pos h]
  obtain ⟨M, u⟩ := h.choose_spec
  exact v.det u
theorem wlk_vl {G : Gr} (W : Wf G) (hs : List Key) : ∃ N, VL G (fun _ => false) N [] (hs.filter (hasB G)) (wlk G hs) := by
  obtain ⟨N, o, v⟩ := VL.ex' W (fun _ => false) (hs.filter (hasB G)) []
  exact ⟨N, wlk_eq v ▸ v⟩
theorem flt_has {G : Gr} {hs : List Key} : ∀ x ∈ hs.filter (hasB G), (aget x G).isSome = true := fun _ hx => (List.mem_filter.1 hx).2
theorem wlk_in {G : Gr} (W : Wf G) (hs : List Key) : ∀ x ∈ wlk G hs, (aget x G).isSome = true := by
  obtain ⟨N, v⟩ := wlk_vl W hs
  exact v.inG W.clo (fun _ h => by cases h) flt_has
theorem wlk_nd {G : Gr} (W : Wf G) (hs : List Key) : (wlk G hs).Nodup := by
  obtain ⟨N, v⟩ := wlk_vl W hs
  exact v.nodup W List.nodup_nil
theorem wlk_rs {G : Gr} (W : Wf G) (hs : List Key) : Rs G [] (wlk G hs) := by
  obtain ⟨N, v⟩ := wlk_vl W hs
  exact pb_rs (v.pb (PB.nil _)).1
theorem wlk_len {G : Gr} (W : Wf G) (hs : List Key) : (wlk G hs).length ≤ 1000 := Nat.le_trans (in_len (wlk_nd W hs) (wlk_in W hs)) W.few
theorem wlk_h32 {G : Gr} (W : Wf G) (hs : List Key) : H32 (wlk G hs) := fun x hx => by
  have := wlk_in W hs x hx
  rw [aget_isSome] at this
  obtain ⟨c, hc, e⟩ := List.mem_map.1 (of_decide_eq_true this)
  rw [← e]
  exact (W.h32 c hc).1

/-- The masters and the others behind an update. -/
noncomputable def mUp (G : Gr) (ms hs : List Key) : List Key := ms ++ (wlk G hs).filter (out ms)
def oIn (ms os : List Key) : List Key := os.filter (out ms)
noncomputable def oUp (G : Gr) (ms os hs : List Key) : List Key := os ++ (wlk G hs).filter (out (ms ++ os))
/-- Numbers that may be. -/
structure In13 (G : Gr) (ms os : List Key) : Prop where
  nd : (ms ++ os).Nodup
  inG : ∀ h ∈ ms ++ os, (aget h G).isSome = true
  rm : Rs G [] ms
  ro : Rs G ms os
theorem In13.nil (G : Gr) : In13 G [] [] := ⟨by simp, fun _ h => (by cases h), trivial, trivial⟩
theorem In13.len {G : Gr} (W : Wf G) {ms os : List Key} (h : In13 G ms os) : ms.length + os.length ≤ 1000 := by
  have := Nat.le_trans (in_len h.nd h.inG) W.few
  rwa [List.length_append] at this
theorem In13.h32 {G : Gr} (W : Wf G) {ms os : List Key} (h : In13 G ms os) : H32 (ms ++ os) := fun x hx => by
  have := h.inG x hx
  rw [aget_isSome] at this
  obtain ⟨c, hc, e⟩ := List.mem_map.1 (of_decide_eq_true this)
  rw [← e]
  exact (W.h32 c hc).1
theorem In13.apart {G : Gr} {ms os : List Key} (h : In13 G ms os) : ∀ x ∈ os, x ∉ ms := fun x hx hm => (List.nodup_append.1 h.nd).2.2 x hm x hx rfl
theorem In13.oin {G : Gr} {ms os : List Key} (h : In13 G ms os) : oIn ms os = os := List.filter_eq_self.2 fun x hx => by simp [h.apart x hx]
theorem mem_mUp {G : Gr} {ms hs : List Key} {x : Key} : x ∈ mUp G ms hs ↔ x ∈ ms ∨ x ∈ wlk G hs := by
  unfold mUp
  simp [List.mem_filter]
  grind
theorem In13.upM {G : Gr} (W : Wf G) {ms os : List Key} (h : In13 G ms os) (hs : List Key) : In13 G (mUp G ms hs) (oIn (mUp G ms hs) os) := by
  have n1 := List.nodup_append.1 h.nd
  refine ⟨List.nodup_append.2 ⟨List.nodup_append.2 ⟨n1.1, (wlk_nd W hs).filter _, fun x hx y hy e => ?_⟩, n1.2.1.filter _, fun x hx y hy e => ?_⟩, fun x hx => ?_, Rs.app.2 ⟨h.rm, ?_⟩, ?_⟩
  · have := (List.mem_filter.1 hy).2
    subst e
    simp [hx] at this
  · have := (List.mem_filter.1 hy).2
    subst e
    simp [hx] at this
  · rcases List.mem_append.1 hx with hx | hx
    · rcases mem_mUp.1 hx with hx | hx
      · exact h.inG x (List.mem_append_left _ hx)
      · exact wlk_in W hs x hx
    · exact h.inG x (List.mem_append_right _ (List.mem_filter.1 hx).1)
  · refine (wlk_rs W hs).filter (fun x hx => by cases hx) fun x _ e => ?_
    simpa using e
  · refine h.ro.filter (fun x hx => mem_mUp.2 (.inl hx)) fun x _ e => ?_
    simpa using e
theorem In13.upO {G : Gr} (W : Wf G) {ms os : List Key} (h : In13 G ms os) (hs : List Key) : In13 G ms (oUp G ms os hs) := by
  have n1 := List.nodup_append.1 h.nd
  refine ⟨?_, fun x hx => ?_, h.rm, Rs.app.2 ⟨h.ro, ?_⟩⟩
  · unfold oUp
    rw [← List.append_assoc]
    refine List.nodup_append.2 ⟨h.nd, (wlk_nd W hs).filter _, fun x hx y hy e => ?_⟩
    have := (List.mem_filter.1 hy).2
    subst e
    simp only [out, hx, decide_true, Bool.not_true] at this
    cases this
  · unfold oUp at hx
    rw [← List.append_assoc] at hx
    rcases List.mem_append.1 hx with hx | hx
    · exact h.inG x hx
    · exact wlk_in W hs x (List.mem_filter.1 hx).1
  · refine (wlk_rs W hs).filter (fun x hx => by cases hx) fun x _ e => ?_
    simp at e ⊢
    grind
/-- What all of some commits stand on is among the masters. -/
theorem In13.cloM {G : Gr} {ms os : List Key} (h : In13 G ms os) : ∀ x ∈ ms, ∀ p ∈ adj G x, p ∈ ms := fun x hx p hp => by
  obtain ⟨i, hi, e⟩ := List.mem_iff_getElem.1 hx
  rcases h.rm.at i x (by rw [List.getElem?_eq_getElem hi, e]) p hp with h1 | h1
  · cases h1
  · exact List.mem_of_mem_take h1
/-- The graph has grown. -/
theorem In13.grow {G G' : Gr} {ms os : List Key} (h : In13 G ms os) (hs : ∀ x, (aget x G).isSome = true → (aget x G').isSome = true ∧ adj G' x = adj G x) : In13 G' ms os :=
  ⟨h.nd, fun x hx => (hs x (h.inG x hx)).1, h.rm.congr fun x hx p hp => by rwa [(hs x (h.inG x (List.mem_append_left _ hx))).2] at hp, h.ro.congr fun x hx p hp => by rwa [(hs x (h.inG x (List.mem_append_right _ hx))).2] at hp⟩
/-- No master is stripped. -/
theorem In13.nom {G : Gr} {ms os : List Key} (h : In13 G ms os) {l : List Key} (hl : ∀ x ∈ l, x ∉ ms) : ∀ x ∈ descs G l, x ∉ ms := fun x hx hm => by
  obtain ⟨a, ha, _, hu⟩ := descs_mem.1 hx
  exact hl a ha (up_mem h.cloM hu hm)
/-- Numbers behind a strip, in the graph without what is stripped. -/
theorem In13.strip {G : Gr} {ms os : List Key} (h : In13 G ms os) (l : List Key) : In13 G ms (os.filter (out (descs G l))) := by
  have n1 := List.nodup_append.1 h.nd
  refine ⟨List.nodup_append.2 ⟨n1.1, n1.2.1.filter _, fun x hx y hy => n1.2.2 x hx y (List.mem_filter.1 hy).1⟩, fun x hx => ?_, h.rm, ?_⟩
  · rcases List.mem_append.1 hx with hx | hx
    · exact h.inG x (List.mem_append_left _ hx)
    · exact h.inG x (List.mem_append_right _ (List.mem_filter.1 hx).1)
  · have key : ∀ {o B : List Key}, Rs G B o → (∀ x ∈ o, (aget x G).isSome = true) → (∀ B', (∀ x ∈ B, x ∈ B' ∨ x ∈ descs G l) → Rs G B' (o.filter (out (descs G l)))) := by
      intro o
      induction o with
      | nil => intro B _ _ B' _; trivial
      | cons x o ih =>
        intro B hr hi B' hb
        have hio : ∀ y ∈ o, (aget y G).isSome = true := fun y hy => hi y (List.mem_cons_of_mem _ hy)
        by_cases hx : out (descs G l) x = true
        · rw [List.filter_cons_of_pos hx]
          refine ⟨fun p hp => ?_, ih hr.2 hio _ fun y hy => ?_⟩
          · rcases hb p (hr.1 p hp) with h1 | h1
            · exact h1
            · exfalso
              obtain ⟨a, ha, h2, hu⟩ := descs_mem.1 h1
              have : x ∈ descs G l := descs_mem.2 ⟨a, ha, h2, .step hp hu⟩
              simp [out, this] at hx
          · rcases List.mem_cons.1 hy with rfl | hy
            · exact .inl List.mem_cons_self
            · exact (hb y hy).imp (List.mem_cons_of_mem _) id
        · rw [List.filter_cons_of_neg hx]
          refine ih hr.2 hio _ fun y hy => ?_
          rcases List.mem_cons.1 hy with rfl | hy
          · exact .inr (by simpa [out] using hx)
          · exact hb y hy
    exact key h.ro (fun x hx => h.inG x (List.mem_append_right _ hx)) ms fun x hx => .inl hx

/-- A request has been added: what is there, and what its parents are. -/
theorem adds_some {G : Gr} {grp : Int} {cs : List Cm} {hs : List Key} (W : Wf G) (F : Fine G grp cs hs) (x : Key) : (aget x (adds G cs)).isSome = true ↔ (aget x G).isSome = true ∨ x ∈ cs.map (·.1) := by
  have j := adds_jn W.asc cs
  have hx := j.get x
  constructor
  · intro h
    cases hg : aget x G with
    | some y => exact .inl rfl
    | none =>
      rw [hg] at hx
      obtain ⟨ps, hp⟩ := Option.isSome_iff_exists.1 h
      rw [hp] at hx
      rcases addA_mem (x := x) (ps := ps) (G := G) (cs := cs) (A := []) hx.symm with h1 | h1
      · simp [aget] at h1
      · exact .inr (List.mem_map.2 ⟨_, h1, rfl⟩)
  · rintro (h | h)
    · obtain ⟨ps, hp⟩ := Option.isSome_iff_exists.1 h
      rw [hx, hp]; rfl
    · obtain ⟨c, hc, rfl⟩ := List.mem_map.1 h
      rw [hx, ck3_none F.c3 c hc]; rfl
theorem adds_old {G : Gr} {cs : List Cm} (W : Wf G) (x : Key) (h : (aget x G).isSome = true) : (aget x (adds G cs)).isSome = true ∧ adj (adds G cs) x = adj G x := by
  have j := adds_jn W.asc cs
  refine ⟨?_, j.old x h⟩
  obtain ⟨ps, hp⟩ := Option.isSome_iff_exists.1 h
  rw [j.get x, hp]; rfl
theorem up_same {G G' : Gr} (hc : Clo G) (hm : ∀ x, (aget x G).isSome = true → adj G' x = adj G x) {a x : Key} (ha : (aget a G).isSome = true) : Up (adj G') a x ↔ Up (adj G) a x := by
  refine ⟨fun h => (up_old hc hm h ha).1, fun h => ?_⟩
  induction h with
  | refl => exact .refl _
  | step h1 _ ih => exact .step (by rw [hm _ ha]; exact h1) (ih (hc _ _ h1))
/-- All commits have numbers; the masters are what the masters' heads stand on. -/
structure Al13 (G : Gr) (ms os mh : List Key) : Prop where
  i : In13 G ms os
  all : ∀ x, (aget x G).isSome = true → x ∈ ms ++ os
  mhG : ∀ x ∈ mh, (aget x G).isSome = true
  mem : ∀ x, x ∈ ms ↔ ∃ a ∈ mh, Up (adj G) a x
theorem Al13.nil : Al13 [] [] [] [] := ⟨In13.nil _, fun x h => by simp [aget] at h, fun _ h => (by cases h), fun x => by simp⟩
theorem Al13.grow {G : Gr} {grp : Int} {cs : List Cm} {hs ms os mh : List Key} (W : Wf G) (F : Fine G grp cs hs) (h : Al13 G ms os mh) : In13 (adds G cs) ms os ∧ (∀ x, (aget x (adds G cs)).isSome = true → x ∈ ms ++ os ∨ x ∈ cs.map (·.1)) ∧ (∀ x ∈ mh, (aget x (adds G cs)).isSome = true) ∧ ∀ x, x ∈ ms ↔ ∃ a ∈ mh, Up (adj (adds G cs)) a x :=
  ⟨h.i.grow fun x hx => adds_old W x hx, fun x hx => ((adds_some W F x).1 hx).imp (h.all x) id, fun x hx => (adds_old W x (h.mhG x hx)).1, fun x => by
    rw [h.mem]
    exact exists_congr fun a => and_congr_right fun ha => (up_same W.clo (fun y hy => (adds_old W y hy).2) (h.mhG a ha)).symm⟩
theorem Al13.anc {G : Gr} {ms os mh : List Key} (W : Wf G) (h : Al13 G ms os mh) (x : Key) : x ∈ ancs G mh ↔ x ∈ ms := by
  rw [h.mem, ancs_mem W.clo]
  exact ⟨fun ⟨a, ha, _, hu⟩ => ⟨a, ha, hu⟩, fun ⟨a, ha, hu⟩ => ⟨a, ha, h.mhG a ha, hu⟩⟩
/-- A hash that is told its number. -/
def atId (ms os : List Key) (n : Int) : Option Key := if 0 ≤ n ∧ n < ms.length then ms[n.toNat]? else if split ≤ n ∧ n - split < os.length then os[(n - split).toNat]? else none
theorem Al13.there {G : Gr} {ms os mh : List Key} (W : Wf G) (h : Al13 G ms os mh) {x : Key} (hx : (aget x G).isSome = true) : ∃ n, idn ms os x = some n ∧ 0 ≤ n ∧ n ≤ 2 * split ∧ atId ms os n = some x ∧ (n < split ↔ x ∈ ms) := by
  have hl := h.i.len W
  rcases List.mem_append.1 (h.all x hx) with hm | hm
  · obtain ⟨k, hk⟩ := idx_some hm
    have := idx_lt hk
    refine ⟨k, idn_m hk, by omega, by unfold split; omega, ?_, by unfold split; exact ⟨fun _ => hm, fun _ => by omega⟩⟩
    unfold atId
    rw [if_pos (by omega)]
    simpa using idx_get hk
  · have hn := h.i.apart x hm
    obtain ⟨k, hk⟩ := idx_some hm
    have := idx_lt hk
    refine ⟨split + k, idn_o hn hk, by unfold split; omega, by unfold split; omega, ?_, by unfold split; exact ⟨fun _ => by omega, fun h => absurd h hn⟩⟩
    unfold atId
    rw [if_neg (by unfold split; omega), if_pos (by unfold split; omega)]
    rw [show (split + (k : Int) - split).toNat = k by omega]
    exact idx_get hk
theorem idx_take {l : List Key} {p : Key} {i : Nat} (h : p ∈ l.take i) : ∃ k, idx p l = some k ∧ k < i := by
  obtain ⟨k, hk⟩ := idx_some h
  have h1 := idx_lt hk
  rw [List.length_take] at h1
  have e : idx p l = some k := by
    rw [← List.take_append_drop i l, idx_app, hk]; rfl
  exact ⟨k, e, by omega⟩
/-- A parent's number is below its child's. -/
theorem Al13.below {G : Gr} {ms os mh : List Key} (W : Wf G) (h : Al13 G ms os mh) {x p : Key} (hp : p ∈ adj G x) {n : Int} (hn : idn ms os x = some n) : ∃ m, idn ms os p = some m ∧ m < n := by
  have hl := h.i.len W
  cases hk : idx x ms with
  | some k =>
    rw [idn_m hk] at hn
    injection hn with hn
    rcases h.i.rm.at k x (idx_get hk) p hp with h1 | h1
    · cases h1
    · obtain ⟨j, hj, hlt⟩ := idx_take h1
      exact ⟨j, idn_m hj, by omega⟩
  | none =>
    have hx := idx_none.1 hk
    cases hk2 : idx x os with
    | none => rw [idn_none.2 ⟨hx, idx_none.1 hk2⟩] at hn; cases hn
    | some k =>
      rw [idn_o hx hk2] at hn
      injection hn with hn
      by_cases hm : p ∈ ms
      · obtain ⟨j, hj⟩ := idx_some hm
        have := idx_lt hj
        exact ⟨j, idn_m hj, by unfold split at hn; omega⟩
      · rcases h.i.ro.at k x (idx_get hk2) p hp with h1 | h1
        · exact absurd h1 hm
        · obtain ⟨j, hj, hlt⟩ := idx_take h1
          exact ⟨split + j, idn_o hm hj, by omega⟩
end Go.Proofs.YtnpeahbbcolfmaaGreatDoor
namespace Go.Proofs.YtnpeahbbcolfmaaGreatDoor
open Go.RowKit
open Go.Maps
abbrev ip (i : Nat) : Value := .pointer (some ⟨i, 0, none⟩)
/-- Numbers in memory: the object i, the map nb (which tells f), the lists. -/
structure IA (W : World) (B i nb : Nat) (most : Int) (mv ov : Value) (ms os : List Key) (f : Key → Option Int) : Prop where
  cell : W.heap[i]? = some (.cells #[.int .i64 most, mv, ov, .map (some nb)] 94 (0, 0))
  om : HOwn W B mv ms
  oo : HOwn W B ov os
  mp : ∃ M, MpH W nb M ∧ ∀ h, aget h M = (f h).map fun n => Value.int .i64 n
  ap : ∀ j, mv.ownBlock = some j → ov.ownBlock ≠ some j
  lo : B ≤ i ∧ B ≤ nb
/-- The object and its map alone. -/
structure IM (W : World) (i nb : Nat) (most : Int) (mv ov : Value) (f : Key → Option Int) : Prop where
  cell : W.heap[i]? = some (.cells #[.int .i64 most, mv, ov, .map (some nb)] 94 (0, 0))
  mp : ∃ M, MpH W nb M ∧ ∀ h, aget h M = (f h).map fun n => Value.int .i64 n
/-- What a call may turn. -/
def iS (i nb : Nat) (mv ov : Value) (j : Nat) : Prop := j = i ∨ j = nb ∨ mv.ownBlock = some j ∨ ov.ownBlock = some j
/-- Where the lists lie then. -/
def iL (n : Nat) (mv ov mv' ov' : Value) : Prop := ∀ j, mv'.ownBlock = some j ∨ ov'.ownBlock = some j → mv.ownBlock = some j ∨ ov.ownBlock = some j ∨ n ≤ j
theorem iL.refl (n : Nat) (mv ov : Value) : iL n mv ov mv ov := fun _ h => h.elim .inl fun h => .inr (.inl h)
theorem iL.trans {n m : Nat} {mv ov mv' ov' mv2 ov2 : Value} (h : iL n mv ov mv' ov') (k : iL m mv' ov' mv2 ov2) (hn : n ≤ m) : iL n mv ov mv2 ov2 := fun j hj => by
  rcases k j hj with h1 | h1 | h1
  · exact h j (.inl h1)
  · exact h j (.inr h1)
  · exact .inr (.inr (Nat.le_trans hn h1))
/-- What was turned through old and new lists. -/
theorem iS.trans {W W1 W2 : World} {i nb : Nat} {mv ov mv' ov' : Value} (h : Only (iS i nb mv ov) W W1) (k : Only (iS i nb mv' ov') W1 W2) (l : iL W.heap.size mv ov mv' ov') : Only (iS i nb mv ov) W W2 :=
  h.trans k (fun _ h => h) fun j hj h => by
    rcases h with h | h | h
    · exact .inl h
    · exact .inr (.inl h)
    · rcases l j h with h | h | h
      · exact .inr (.inr (.inl h))
      · exact .inr (.inr (.inr h))
      · omega
section
variable {W W' : World} {B i nb : Nat} {most : Int} {mv ov : Value} {ms os : List Key} {f : Key → Option Int}
theorem IA.keep {S : Nat → Prop} (h : IA W B i nb most mv ov ms os f) (ho : Only S W W') (h1 : ¬ S i) (h2 : ¬ S nb) (h3 : ∀ j, mv.ownBlock = some j → ¬ S j) (h4 : ∀ j, ov.ownBlock = some j → ¬ S j) : IA W' B i nb most mv ov ms os f := by
  obtain ⟨M, m1, m3⟩ := h.mp
  exact ⟨(ho.block i (Array.getElem?_eq_some_iff.1 h.cell).1 h1).trans h.cell, own_keep h.om ho h3, own_keep h.oo ho h4, ⟨M, m1.kept ho h2, m3⟩, h.ap, h.lo⟩
theorem IA.kb (h : IA W B i nb most mv ov ms os f) (k : Below W.heap.size W W') : IA W' B i nb most mv ov ms os f := h.keep (S := fun _ => False) (Only.of_below k) id id (fun _ _ => id) (fun _ _ => id)
theorem IA.im (h : IA W B i nb most mv ov ms os f) : IM W i nb most mv ov f := ⟨h.cell, h.mp⟩
theorem IM.keep {S : Nat → Prop} (h : IM W i nb most mv ov f) (ho : Only S W W') (h1 : ¬ S i) (h2 : ¬ S nb) : IM W' i nb most mv ov f := by
  obtain ⟨M, m1, m3⟩ := h.mp
  exact ⟨(ho.block i (Array.getElem?_eq_some_iff.1 h.cell).1 h1).trans h.cell, ⟨M, m1.kept ho h2, m3⟩⟩
theorem IM.kb (h : IM W i nb most mv ov f) (k : Below W.heap.size W W') : IM W' i nb most mv ov f := h.keep (S := fun _ => False) (Only.of_below k) id id
theorem IM.c (h : IM W i nb most mv ov f) {k : Nat} {u : Value} (hu : (#[.int .i64 most, mv, ov, .map (some nb)] : Array Value)[k]? = some u) : W.cell? ⟨i, k, none⟩ = some u := by rw [cell_of_row W i k _ _ _ h.cell]; exact hu
theorem IA.c (h : IA W B i nb most mv ov ms os f) {k : Nat} {u : Value} (hu : (#[.int .i64 most, mv, ov, .map (some nb)] : Array Value)[k]? = some u) : W.cell? ⟨i, k, none⟩ = some u := by rw [cell_of_row W i k _ _ _ h.cell]; exact hu
theorem IA.nei (h : IA W B i nb most mv ov ms os f) : nb ≠ i := fun e => by
  obtain ⟨M, m1, _⟩ := h.mp
  obtain ⟨es, c, hb⟩ := m1.ismap
  rw [e, h.cell] at hb; cases hb
theorem IA.below (h : IA W B i nb most mv ov ms os f) (ho : Only (iS i nb mv ov) W W') {w : World} (hb : Below B w W) (hB : B ≤ w.heap.size) : Below B w W' :=
  hb.trans (ho.below (Nat.le_trans hB hb.size) fun j hj => by
    rcases hj with rfl | rfl | hj | hj
    · exact h.lo.1
    · exact h.lo.2
    · exact own_from h.om j hj
    · exact own_from h.oo j hj)
theorem izero (w : World) : (zeroValue 3).run Tryz.prog w = .ok (.int .i64 0) w := by kernel_rfl
theorem IM.lookOk (h : IM W i nb most mv ov f) (x : Key) (hx : x.length = 32) :
    (Instr.lookup 92 (.map (some nb)) (.agg (hv x)) true).run Tryz.prog W = .ok (.tuple #[.int .i64 ((f x).getD 0), .bool (f x).isSome]) W := by
  obtain ⟨M, m1, m3⟩ := h.mp
  have hlk := m1.lookOk Tryz.underlying92 (izero _) x hx
  rw [m3 x] at hlk
  rw [hlk]
  cases f x <;> rfl
theorem IM.look (h : IM W i nb most mv ov f) (x : Key) (hx : x.length = 32) :
    (Instr.lookup 92 (.map (some nb)) (.agg (hv x)) false).run Tryz.prog W = .ok (.int .i64 ((f x).getD 0)) W := by
  obtain ⟨M, m1, m3⟩ := h.mp
  have hlk := m1.look Tryz.underlying92 (izero _) x hx
  rw [m3 x] at hlk
  rw [hlk]
  cases f x <;> rfl
/-- A number is laid into the map. -/
def put1 (f : Key → Option Int) (x : Key) (n : Int) (h : Key) : Option Int := if h = x then some n else f h
theorem kv_len {M : Kv} (ha : AAsc M) {L : List Key} (h : ∀ x, (aget x M).isSome = true → x ∈ L) : M.length ≤ L.length := by
  have := nodup_le (R := M.map (·.1)) (U := L) ha.nodup fun x hx => h x (by rw [aget_isSome]; exact decide_eq_true hx)
  rwa [List.length_map] at this
theorem IA.upd (h : IA W B i nb most mv ov ms os f) (x : Key) (hx : x.length = 32) (n : Int) (L : List Key) (hL : ∀ h, (f h).isSome = true → h ∈ L) (hl : L.length ≤ 1000000) :
    ∃ W', (Instr.mapUpdate 92 (.map (some nb)) (.agg (hv x)) (.int .i64 n)).run Tryz.prog W = .ok () W' ∧ IA W' B i nb most mv ov ms os (put1 f x n) ∧ Only (fun j => j = nb) W W' := by
  obtain ⟨M, m1, m3⟩ := h.mp
  have hml := kv_len m1.asc (L := L) fun y hy => hL y (by rw [m3] at hy; simpa using hy)
  obtain ⟨W', hr, h1, h2⟩ := m1.store Tryz.underlying92 x hx (by unfold maxLen; omega) (.int .i64 n)
  have hne : ∀ (v : Value) (E : List Key), HOwn W B v E → ∀ j, v.ownBlock = some j → ¬ (j = nb) := fun v E o j hj e => own_ne_map o m1 (by rw [hj, e])
  refine ⟨W', hr, ⟨(h2.block i (Array.getElem?_eq_some_iff.1 h.cell).1 (Ne.symm h.nei)).trans h.cell, own_keep h.om h2 (hne _ _ h.om), own_keep h.oo h2 (hne _ _ h.oo), ⟨_, h1, fun y => ?_⟩, h.ap, h.lo⟩, h2⟩
  rw [aget_put]
  unfold put1
  split
  · rfl
  · exact m3 y
theorem IA.dlt (h : IA W B i nb most mv ov ms os f) (x : Key) (hx : x.length = 32) (ty : TypeId) :
    ∃ W', (Builtin.delete_ #[92, 31] ty #[.map (some nb), .agg (hv x)]).run Tryz.prog W = .ok (.tuple #[]) W' ∧ IA W' B i nb most mv ov ms os (fun y => if y = x then none else f y) ∧ Only (fun j => j = nb) W W' := by
  obtain ⟨M, m1, m3⟩ := h.mp
  obtain ⟨W', hr, h1, h2⟩ := m1.drop Tryz.underlying92 x hx ty
  have hne : ∀ (v : Value) (E : List Key), HOwn W B v E → ∀ j, v.ownBlock = some j → ¬ (j = nb) := fun v E o j hj e => own_ne_map o m1 (by rw [hj, e])
  refine ⟨W', hr, ⟨(h2.block i (Array.getElem?_eq_some_iff.1 h.cell).1 (Ne.symm h.nei)).trans h.cell, own_keep h.om h2 (hne _ _ h.om), own_keep h.oo h2 (hne _ _ h.oo), ⟨_, h1, fun y => ?_⟩, h.ap, h.lo⟩, h2⟩
  by_cases e : y = x
  · rw [e, aget_del_same, if_pos rfl]; rfl
  · rw [aget_del_other _ _ e, if_neg e, m3]
theorem ids_set {W : World} {i : Nat} {a b c d : Value} {t : TypeId} (h : W.heap[i]? = some (.cells #[a, b, c, d] t (0, 0))) (u : Value) : (W.setCell ⟨i, 1, none⟩ u).heap[i]? = some (.cells #[a, u, c, d] t (0, 0)) ∧ (W.setCell ⟨i, 2, none⟩ u).heap[i]? = some (.cells #[a, b, u, d] t (0, 0)) := by
  rw [heap_setCell_same W i 1 _ _ _ h, heap_setCell_same W i 2 _ _ _ h]; exact ⟨rfl, rfl⟩
/-- A master more. W1: where the list grows; W2: behind that. -/
theorem IA.pushM (h : IA W B i nb most mv ov ms os f) {W1 W2 : World} (k : Below W.heap.size W W1) {v' : Value} {ms' : List Key} (o7 : HOwn W2 B v' ms') (t7 : Only (fun j => mv.ownBlock = some j) W1 W2) (l7 : ∀ j, v'.ownBlock = some j → mv.ownBlock = some j ∨ W1.heap.size ≤ j) :
    IA (W2.setCell ⟨i, 1, none⟩ v') B i nb most v' ov ms' os f ∧ Only (iS i nb mv ov) W (W2.setCell ⟨i, 1, none⟩ v') ∧ iL W.heap.size mv ov v' ov := by
  have h1 := h.kb k
  have hci : ¬ (mv.ownBlock = some i) := own_apart h1.om h1.cell (by decide)
  have hcn : ¬ (mv.ownBlock = some nb) := by obtain ⟨M, m1, _⟩ := h1.mp; exact own_ne_map h1.om m1
  have c2 := (t7.block i (Array.getElem?_eq_some_iff.1 h1.cell).1 hci).trans h1.cell
  have os1 : Only (fun j => j = i) W2 (W2.setCell ⟨i, 1, none⟩ v') := (Only.refl (fun j => j = i) W2).setCell (p := ⟨i, 1, none⟩) rfl _
  have oo2 : HOwn W2 B ov os := own_keep h1.oo t7 fun j hj e => h1.ap j e hj
  obtain ⟨M, m1, m3⟩ := h1.mp
  have ni : ∀ {v : Value} {E : List Key}, HOwn W2 B v E → ∀ j, v.ownBlock = some j → ¬ (j = i) := fun o j hj e => own_apart o c2 (by decide) (by rw [hj, e])
  refine ⟨⟨(ids_set c2 v').1, own_keep o7 os1 (ni o7), own_keep oo2 os1 (ni oo2), ⟨M, (m1.kept t7 hcn).kept os1 (fun e => h.nei e), m3⟩, fun j hj e => ?_, h.lo⟩, ?_, fun j hj => ?_⟩
  · rcases l7 j hj with h2 | h2
    · exact h1.ap j h2 e
    · have := own_lt h1.oo j e; omega
  · exact (Only.of_below (S := iS i nb mv ov) k).trans (t7.trans os1 (fun _ h => Or.inl h) (fun _ _ h => Or.inr h) : Only (fun j => mv.ownBlock = some j ∨ j = i) W1 _) (fun _ h => h) fun j _ h => by
      rcases h with h | h
      · exact .inr (.inr (.inl h))
      · exact .inl h
  · rcases hj with hj | hj
    · rcases l7 j hj with h2 | h2
      · exact .inl h2
      · exact .inr (.inr (Nat.le_trans k.size h2))
    · exact .inr (.inl hj)
theorem IA.pushO (h : IA W B i nb most mv ov ms os f) {W1 W2 : World} (k : Below W.heap.size W W1) {v' : Value} {os' : List Key} (o7 : HOwn W2 B v' os') (t7 : Only (fun j => ov.ownBlock = some j) W1 W2) (l7 : ∀ j, v'.ownBlock = some j → ov.ownBlock = some j ∨ W1.heap.size ≤ j) :
    IA (W2.setCell ⟨i, 2, none⟩ v') B i nb most mv v' ms os' f ∧ Only (iS i nb mv ov) W (W2.setCell ⟨i, 2, none⟩ v') ∧ iL W.heap.size mv ov mv v' := by
  have h1 := h.kb k
  have hci : ¬ (ov.ownBlock = some i) := own_apart h1.oo h1.cell (by decide)
  have hcn : ¬ (ov.ownBlock = some nb) := by obtain ⟨M, m1, _⟩ := h1.mp; exact own_ne_map h1.oo m1
  have c2 := (t7.block i (Array.getElem?_eq_some_iff.1 h1.cell).1 hci).trans h1.cell
  have os1 : Only (fun j => j = i) W2 (W2.setCell ⟨i, 2, none⟩ v') := (Only.refl (fun j => j = i) W2).setCell (p := ⟨i, 2, none⟩) rfl _
  have om2 : HOwn W2 B mv ms := own_keep h1.om t7 fun j hj e => h1.ap j hj e
  obtain ⟨M, m1, m3⟩ := h1.mp
  have ni : ∀ {v : Value} {E : List Key}, HOwn W2 B v E → ∀ j, v.ownBlock = some j → ¬ (j = i) := fun o j hj e => own_apart o c2 (by decide) (by rw [hj, e])
  refine ⟨⟨(ids_set c2 v').2, own_keep om2 os1 (ni om2), own_keep o7 os1 (ni o7), ⟨M, (m1.kept t7 hcn).kept os1 (fun e => h.nei e), m3⟩, fun j hj e => ?_, h.lo⟩, ?_, fun j hj => ?_⟩
  · rcases l7 j e with h2 | h2
    · exact h1.ap j hj h2
    · have := own_lt h1.om j hj; omega
  · exact (Only.of_below (S := iS i nb mv ov) k).trans (t7.trans os1 (fun _ h => Or.inl h) (fun _ _ h => Or.inr h) : Only (fun j => ov.ownBlock = some j ∨ j = i) W1 _) (fun _ h => h) fun j _ h => by
      rcases h with h | h
      · exact .inr (.inr (.inr h))
      · exact .inl h
  · rcases hj with hj | hj
    · exact .inl hj
    · rcases l7 j hj with h2 | h2
      · exact .inr (.inl h2)
      · exact .inr (.inr (Nat.le_trans k.size h2))
end
end Go.Proofs.YtnpeahbbcolfmaaGreatDoor
namespace Go.Proofs.YtnpeahbbcolfmaaGreatDoor
open Go.RowKit
open Go.Maps
/-- A function value that answers D wherever P holds, and turns nothing that is there. -/
def Cb (P : World → Prop) (fv : Value) (D : Key → Bool) : Prop := ∃ k f c, fv = .func (.func k) f c ∧ (∀ args w, (callFunc k args).run Tryz.prog w = .ok (.enter k args) w) ∧ ∀ V, P V → ∀ h : Key, h.length = 32 → Calls Tryz.prog k (f ++ #[.agg (hv h)] ++ c) V fun e w' => e = .returned (.bool (D h)) ∧ Below V.heap.size V w'
/-- The first one that D holds of. -/
def Fst (D : Key → Bool) (E : List Key) (r : Int) : Prop := (r = -1 ∧ ∀ x ∈ E, D x = false) ∨ ∃ k : Nat, r = k ∧ (∃ x, E[k]? = some x ∧ D x = true) ∧ ∀ x ∈ E.take k, D x = false
set_option linter.unusedSimpArgs false in
set_option maxRecDepth 20000 in
set_option maxHeartbeats 4000000 in
attribute [local go_sem ↓] hld_open in
theorem idf_to (w : World) (v : Value) (E : List Key) (hv' : HSeen w v E) (h32 : H32 E) (hl : E.length ≤ 1000000) (P : World → Prop) (fv : Value) (D : Key → Bool) (hcb : Cb P fv D) (hP : ∀ V, Below w.heap.size w V → P V) :
    Calls Tryz.prog 43 #[v, fv] w fun e w' => (∃ r : Int, e = .returned (.int .i64 r) ∧ Fst D E r) ∧ Below w.heap.size w w' := by
  obtain ⟨p, cap, rfl⟩ := hv'.shape
  obtain ⟨n, hn⟩ : ∃ n, n = E.length := ⟨_, rfl⟩
  rw [← hn] at hv' hl ⊢
  have HV := Lib.hid hv'
  have H3 := Lib.hid h32
  have HN := Lib.hid hn
  have HL := Lib.hid hl
  have HP := Lib.hid hP
  obtain ⟨k, f, c, rfl, hcf, hcl⟩ := hcb
  have HCF := Lib.hid hcf
  have HCL := Lib.hid hcl
  clear hv' h32 hl hn hP hcf hcl
  go_enter Tryz.func43, Tryz.ntmps43
  go_wp2_with fail
  go_loopw [8] (fun i wr => ∃ k : Nat, k ≤ n ∧ i = .int .i64 k ∧ Hid (∀ x ∈ E.take k, D x = false) ∧ Hid (Below w.heap.size w wr)) (fun i _ => n - (intOf i).toNat)
  case atStart => exact ⟨0, Nat.zero_le _, rfl, Lib.hid (fun x hx => by simp at hx), Lib.hid (Below.refl _ w)⟩
  case round =>
    obtain ⟨m, hk, rfl, H, B⟩ := hrel
    by_cases hlt : m < n
    · obtain ⟨j1, j2, j3⟩ := next_fit hlt HL.out
      have hkl : m < E.length := by rw [← HN.out]; exact hlt
      obtain ⟨bb, o, c', e1, hrg⟩ := (HV.out.mild (mild_below B.out)).at H3.out hkl
      injection e1 with e1 e2 e3
      subst e1
      have htk : E.take (m + 1) = E.take m ++ [E[m]] := List.take_succ_eq_append_getElem hkl
      have hat : E[m]? = some E[m] := List.getElem?_eq_getElem hkl
      obtain ⟨x, hx⟩ : ∃ x, x = E[m] := ⟨_, rfl⟩
      rw [← hx] at hrg htk hat
      have hx32 : x.length = 32 := by rw [hx]; exact H3.out.at hkl
      have hld0 := hld_range hx32 hrg
      have HTK := Lib.hid htk
      have HAT := Lib.hid hat
      obtain ⟨d, hd⟩ : ∃ d, d = D x := ⟨_, rfl⟩
      have HC := Lib.hid (HCL.out wr (HP.out wr B.out) x hx32)
      rw [← hd] at HC
      have HD := Lib.hid hd
      have hcf := HCF.out
      have HLT := Lib.hid hlt
      have HJ := Lib.hid j1
      clear hx hrg hx32 e2 e3 hkl htk hat hd hk
      go_wp2_with fail
      refine HC.out.mono ?_
      rintro e w2 ⟨rfl, b2⟩
      have B2 := Lib.hid (B.out.trans (b2.mono B.out.size))
      clear b2 hld0
      cases d with
      | true =>
        go_wp2_with fail
        go_ret
        exact ⟨⟨m, rfl, .inr ⟨m, rfl, ⟨x, HAT.out, HD.out.symm⟩, H.out⟩⟩, B2.out⟩
      | false =>
        go_wp2_with fail
        refine ⟨⟨m + 1, HLT.out, by first | rw [HJ.out] | rfl, Lib.hid (fun y hy => ?_), B2⟩, ?_⟩
        · rw [HTK.out] at hy
          rcases List.mem_append.1 hy with hy | hy
          · exact H.out y hy
          · rw [List.mem_singleton.1 hy]; exact HD.out.symm
        · rw [HJ.out]; simp only [intOf]; have := HLT.out; omega
    · obtain rfl : m = n := by omega
      go_wp2_with fail
      go_ret
      have h := H.out
      rw [List.take_of_length_le (by rw [HN.out]; exact Nat.le_refl _)] at h
      exact ⟨⟨-1, rfl, .inl ⟨rfl, h⟩⟩, B.out⟩
/-- What is kept so far, what is not read yet. -/
structure DV (w : World) (g : Nat) (E : List Key) (R : List Value) (F : Key → Bool) (kk m : Nat) (D : List Key) (W : World) : Prop where
  h32 : H32 D
  len : D.length = E.length
  done : D.take kk = (E.take m).filter F
  rest : D.drop m = E.drop m
  row : W.heap[g]? = some (.cells (fl D ++ R).toArray 31 (0, 0))
  only : Only (fun k => k = g) w W
theorem DV.at {w W : World} {g kk m : Nat} {E D : List Key} {R : List Value} {F : Key → Bool} (h : DV w g E R F kk m D W) (h1 : m < D.length) (h2 : m < E.length) : D[m] = E[m] := by
  have e := congrArg (fun l => l[0]?) h.rest
  simp only [List.getElem?_drop, Nat.add_zero, List.getElem?_eq_getElem h1, List.getElem?_eq_getElem h2, Option.some.injEq] at e
  exact e
theorem DV.kb {w W W' : World} {g kk m : Nat} {E D : List Key} {R : List Value} {F : Key → Bool} (h : DV w g E R F kk m D W) (k : Below W.heap.size W W') : DV w g E R F kk m D W' :=
  ⟨h.h32, h.len, h.done, h.rest, (mild_below k).cells h.row, h.only.trans (Only.of_below (S := fun k => k = g) k) (fun _ h => h) (fun _ _ h => h)⟩
theorem take_flt {E : List Key} {F : Key → Bool} {m : Nat} {x : Key} (hx : E[m]? = some x) : (E.take (m + 1)).filter F = (E.take m).filter F ++ (if F x then [x] else []) := by
  rw [List.take_add_one, hx, List.filter_append]
  by_cases h : F x = true
  · simp [h]
  · simp [h]
theorem DV.skip {w W : World} {g kk m : Nat} {E D : List Key} {R : List Value} {F : Key → Bool} (h : DV w g E R F kk m D W) {x : Key} (hx : E[m]? = some x) (hf : F x = false) : DV w g E R F kk (m + 1) D W := by
  refine ⟨h.h32, h.len, ?_, ?_, h.row, h.only⟩
  · rw [take_flt hx, hf, h.done]; simp
  · have := congrArg (List.drop 1) h.rest
    rwa [List.drop_drop, List.drop_drop] at this
theorem DV.take {w W : World} {g kk m : Nat} {E D : List Key} {R : List Value} {F : Key → Bool} (h : DV w g E R F kk m D W) {x : Key} (hx : E[m]? = some x) (hf : F x = true) (hk : kk < m) (hE : H32 E) : DV w g E R F (kk + 1) (m + 1) (D.set kk x) (W.setCells g (kk * 32) (us (nmb x))) := by
  have hl := h.len
  have hm := (List.getElem?_eq_some_iff.1 hx).1
  have hx32 : x.length = 32 := hE x (List.mem_of_getElem? hx)
  have h1 := cells_puts (us (nmb x)) (kk * 32) (fl D ++ R) W h.row (by rw [usn_length, hx32, List.length_append, fl_length h.h32]; omega)
  rw [puts_fl h.h32 R (by omega) hx32] at h1
  refine ⟨h.h32.set hx32, by rw [List.length_set, hl], ?_, ?_, h1, Only.setCells (S := fun k => k = g) (b := g) rfl _ _ h.only⟩
  · rw [take_flt hx, hf, ← h.done, List.take_succ_eq_append_getElem (by rw [List.length_set]; omega), List.getElem_set_self, List.take_set_of_le (Nat.le_refl _)]
    rfl
  · have := congrArg (List.drop 1) h.rest
    rw [List.drop_drop, List.drop_drop] at this
    rw [List.drop_set_of_lt (by omega)]
    exact this
theorem DV.ended {w W : World} {g kk n cap B : Nat} {E D : List Key} {R : List Value} {F : Key → Bool} (h : DV w g E R F kk n D W) (hn : n = E.length) (hk : kk < n) (hB : B ≤ g) (hc : E.length ≤ cap) (hm : cap ≤ maxLen) (hR : R.length = (cap - E.length) * 32) :
    HOwn (W.setCells g (kk * 32) (fl (List.replicate (n - kk) hz))) B (.slice (some ⟨g, 0, none⟩) kk cap) (E.filter F) ∧ Only (fun k => k = g) w (W.setCells g (kk * 32) (fl (List.replicate (n - kk) hz))) := by
  subst hn
  have hl := h.len
  have hd := h.done
  rw [List.take_of_length_le (Nat.le_refl _)] at hd
  have hkl : kk = (E.filter F).length := by rw [← hd, List.length_take]; omega
  have hz32 : H32 (List.replicate (E.length - kk) hz) := fun x hx => by rw [List.eq_of_mem_replicate hx]; rfl
  have h1 := cells_puts (fl (List.replicate (E.length - kk) hz)) (kk * 32) (fl D ++ R) W h.row (by rw [fl_length hz32, List.length_replicate, List.length_append, fl_length h.h32]; omega)
  rw [puts_zero h.h32 R (by omega), fl_app, hd, List.append_assoc] at h1
  have hF32 : H32 (E.filter F) := fun x hx => by rw [← hd] at hx; exact h.h32 x (List.mem_of_mem_take hx)
  refine ⟨hown_mk hF32 hkl hB h1 (by omega) hm ?_, Only.setCells (S := fun k => k = g) (b := g) rfl _ _ h.only⟩
  rw [List.length_append, fl_length hz32, List.length_replicate, hR, ← Nat.add_mul, ← hkl]
  congr 1; omega
theorem DV.start {w W : World} {g k : Nat} {E : List Key} {R : List Value} {F : Key → Bool} {x : Key} (hE : H32 E) (hg : w.heap[g]? = some (.cells (fl E ++ R).toArray 31 (0, 0))) (b : Below w.heap.size w W) (hx : E[k]? = some x) (hf : F x = false) (h : ∀ y ∈ E.take k, F y = true) : DV w g E R F k (k + 1) E W :=
  ⟨hE, rfl, by rw [take_flt hx, hf, List.filter_eq_self.2 h]; simp, rfl, (mild_below b).cells hg, Only.of_below b⟩
set_option linter.unusedSimpArgs false in
set_option maxRecDepth 20000 in
set_option maxHeartbeats 8000000 in
attribute [local go_sem ↓] hld_open in
theorem hdelf_to (w : World) (B : Nat) (v : Value) (E : List Key) (ho : HOwn w B v E) (h32 : H32 E) (hl : E.length ≤ 1000000) (P : World → Prop) (fv : Value) (D : Key → Bool) (hcb : Cb P fv D) (hP : ∀ V, Only (fun j => v.ownBlock = some j) w V → P V) :
    Calls Tryz.prog 78 #[v, fv] w fun e w' => ∃ v', e = .returned v' ∧ HOwn w' B v' (E.filter fun x => !D x) ∧ Only (fun j => v.ownBlock = some j) w w' ∧ ∀ j, v'.ownBlock = some j → v.ownBlock = some j := by
  have HID := Lib.hid (idf_to w v E (HSeen.own ho) h32 hl P fv D hcb (fun V b => hP V (Only.of_below b)))
  have HCB := Lib.hid hcb
  obtain ⟨p, cap, rfl⟩ := (HSeen.own ho).shape
  obtain ⟨n, hn⟩ : ∃ n, n = E.length := ⟨_, rfl⟩
  rw [← hn] at ho HID hl hP ⊢
  have HO := Lib.hid ho
  have H3 := Lib.hid h32
  have HN := Lib.hid hn
  have HL := Lib.hid hl
  have HP := Lib.hid hP
  obtain ⟨kf, f, c, rfl, hcf, hcl⟩ := hcb
  have HCF := Lib.hid hcf
  have HCL := Lib.hid hcl
  clear ho h32 hl hn hP hcf hcl
  go_enter Tryz.func78, Tryz.ntmps78
  go_wp2_with fail
  refine HID.out.mono ?_
  rintro e w1 ⟨⟨r, rfl, hr⟩, b1⟩
  rcases hr with ⟨rfl, hno⟩ | ⟨k, rfl, ⟨x0, hx0, hd0⟩, hk0⟩
  · have HNO : Hid (E.filter (fun x => !D x) = E) := Lib.hid (List.filter_eq_self.2 fun x hx => by simp [hno x hx])
    have B1 := Lib.hid b1
    clear hno b1
    go_wp2_with fail
    go_ret
    exact ⟨_, rfl, by rw [HNO.out]; have := own_below HO.out B1.out; rwa [HN.out] at this ⊢, Only.of_below B1.out, fun _ h => h⟩
  · have hkn : k < n := by rw [HN.out]; exact (List.getElem?_eq_some_iff.1 hx0).1
    obtain ⟨g, cp, R, e1, hB, hg, hcp, hmx, hR⟩ := HOwn.row (w := w) (B := B) (v := .slice p n cap) (E := E) (by have := HO.out; rwa [HN.out] at this ⊢) (by rw [← HN.out]; omega)
    injection e1 with e1 e2 e3
    subst e1 e3
    have HR := Lib.hid hR
    have HBG := Lib.hid hB
    have HCP := Lib.hid hcp
    have HMX := Lib.hid hmx
    have hncap : n ≤ cap := by rw [HN.out]; exact hcp
    have hmx2 : cap ≤ 9223372036854775807 := by unfold maxLen at hmx; omega
    have DV0 := Lib.hid (DV.start (F := fun x => !D x) H3.out hg b1 hx0 (by simp [hd0]) (fun y hy => by simp [hk0 y hy]))
    obtain ⟨j1, j2, j3⟩ := next_fit hkn HL.out
    have hm1 : ((k : Int) == -1) = false := by simp
    have HKN := Lib.hid hkn
    have HJ := Lib.hid j1
    clear hx0 hd0 hk0 hg e2 hR hB hcp hmx b1 HID hkn
    go_wp2_with fail
    go_loopw [5, 6] (fun kv jv wr => ∃ (kk j : Nat) (Dd : List Key), kv = .int .i64 kk ∧ jv = .int .i64 j ∧ kk < j ∧ j ≤ n ∧ Hid (DV w g E R (fun x => !D x) kk j Dd wr)) (fun _ j _ => n - (intOf j).toNat)
    case atStart => exact ⟨k, k + 1, E, rfl, by first | rw [HJ.out] | rfl, Nat.lt_succ_self _, HKN.out, DV0⟩
    case round =>
      clear DV0 HKN
      obtain ⟨kk, j, Dd, rfl, rfl, hkj, hjn, HI⟩ := hrel
      by_cases hlt : j < n
      · obtain ⟨i1, i2, i3⟩ := next_fit hlt HL.out
        have hjE : j < E.length := by rw [← HN.out]; exact hlt
        have hjD : j < Dd.length := by rw [HI.out.len]; exact hjE
        have hld0 := hld_range (w := wr) (HI.out.h32.at hjD) (row_range HI.out.h32 hjD HI.out.row)
        rw [HI.out.at hjD hjE] at hld0
        have hat : E[j]? = some E[j] := List.getElem?_eq_getElem hjE
        have hx32 : (E[j]).length = 32 := H3.out.at hjE
        obtain ⟨x, hx⟩ : ∃ x, x = E[j] := ⟨_, rfl⟩
        rw [← hx] at hld0 hat hx32
        have st := hst_cells x hx32 wr
        have hks : (hv x).size = 32 := by rw [hv_size, hx32]
        have AL := Lib.hid (below_al11 wr (.cells (hv x) 31))
        have HB := Lib.hid (heap_alloc_last wr (.cells (hv x) 31))
        have HI4 := Lib.hid (HI.out.kb AL.out)
        have HAT := Lib.hid hat
        have HX := Lib.hid hx32
        have HLT := Lib.hid hlt
        have HKJ := Lib.hid hkj
        have HI1 := Lib.hid i1
        obtain ⟨d, hd⟩ : ∃ d, d = D x := ⟨_, rfl⟩
        have HD := Lib.hid hd
        clear hx hat hx32 hjE hjD hd HI
        go_upto_region 8 with fail
        clear st hld0
        generalize wr.alloc (.cells (hv x) 31) = w4 at *
        generalize wr.heap.size = hb at *
        have hld4 := hld_row HX.out HB.out
        have HC := Lib.hid (HCL.out w4 (HP.out w4 (HI4.out.only.mono fun i _ e => by rw [e]; rfl)) x HX.out)
        rw [← HD.out] at HC
        have hcf := HCF.out
        go_wp2_with fail
        refine HC.out.mono ?_
        rintro e w5 ⟨rfl, b5⟩
        have HI5 := Lib.hid (HI4.out.kb b5)
        have hld5 := hld_row HX.out ((mild_below b5).cells HB.out)
        clear b5 hld4 HI4 HC hcf
        cases d with
        | true =>
          go_wp2_with fail
          refine ⟨⟨kk, j + 1, Dd, rfl, by first | rw [HI1.out] | rfl, by have := HKJ.out; omega, HLT.out, Lib.hid (HI5.out.skip HAT.out (by rw [← HD.out]; rfl))⟩, ?_⟩
          first | exact meas_nv HLT.out HI1.out | exact meas_nw HLT.out
        | false =>
          have hkn2 : kk < n := by have := HKJ.out; have := HLT.out; omega
          obtain ⟨k1, k2, k3⟩ := next_fit hkn2 HL.out
          have HK1 := Lib.hid k1
          have HNX := Lib.hid (HI5.out.take HAT.out (by rw [← HD.out]; rfl) HKJ.out H3.out)
          have HT : Hid (w5.there g (kk * 32) (hv x).size) := Lib.hid (row_there HI5.out.row (by rw [hv_size, HX.out, List.length_append, fl_length HI5.out.h32, HI5.out.len, ← HN.out]; omega))
          go_wp2_with (refine store_to HT.out (hinfo (hv x) (by rw [hv_size, HX.out])) (hv_one _) ?hx ?hy ?_; (case hx => rfl); (case hy => simp [Act.eval]))
          refine ⟨⟨kk + 1, j + 1, Dd.set kk x, by first | rw [HK1.out] | rfl, by first | rw [HI1.out] | rfl, by have := HKJ.out; omega, HLT.out, Lib.hid ?_⟩, ?_⟩
          · have := HNX.out
            rw [← hv_list] at this
            exact this
          · first | exact meas_nv HLT.out HI1.out | exact meas_nw HLT.out
      · obtain rfl : j = n := by omega
        have HI2 := HI
        have hcl : ∀ ty, (Builtin.clear_ #[32] ty #[.slice (some ⟨g, kk * 32, none⟩) (j - kk) (cap - kk)]).run Tryz.prog wr = .ok (.tuple #[]) (wr.setCells g (kk * 32) (fl (List.replicate (j - kk) hz))) :=
          fun ty => clear_hash wr ty g (kk * 32) (j - kk) (cap - kk) (by omega) (row_there HI2.out.row (by rw [List.length_append, fl_length HI2.out.h32, HI2.out.len, ← HN.out]; omega))
        have HKJ := Lib.hid hkj
        clear HI
        go_wp2_with fail
        go_ret
        obtain ⟨o9, t9⟩ := HI2.out.ended HN.out HKJ.out HBG.out HCP.out HMX.out HR.out
        exact ⟨_, rfl, o9, t9.mono fun i _ e => by rw [e]; rfl, fun _ h => h⟩
end Go.Proofs.YtnpeahbbcolfmaaGreatDoor
namespace Go.Proofs.YtnpeahbbcolfmaaGreatDoor
open Go.RowKit
open Go.Maps
set_option maxRecDepth 20000 in
theorem idsnew_to (w : World) (m : Int) (h1 : 1 ≤ m) (h2 : m ≤ 600) :
    Calls Tryz.prog 7 #[.int .i64 m] w fun e w' => e = .returned (.tuple #[ip (w.heap.size + 1), .nilIface]) ∧ IA w' w.heap.size (w.heap.size + 1) w.heap.size m (.slice none 0 0) (.slice none 0 0) [] [] (fun _ => none) ∧ Below w.heap.size w w' := by
  have hmm := @run_makeMap Tryz.prog
  have b1 : Below w.heap.size w (w.alloc (.map #[] 0)) := (Below.refl _ w).alloc (Nat.le_refl _) _
  have hs1 : (w.alloc (.map #[] 0)).heap.size = w.heap.size + 1 := by simp
  have B2 : Hid (∀ cs, Below w.heap.size w ((w.alloc (.map #[] 0)).alloc (.cells cs 94))) := Lib.hid (fun cs => b1.alloc b1.size _)
  have S2 : Hid (∀ cs, MpH ((w.alloc (.map #[] 0)).alloc (.cells cs 94)) w.heap.size []) := Lib.hid (fun cs => (MpH.made w).kb (below_al11 (w.alloc (.map #[] 0)) (.cells cs 94)) (by rw [hs1]; exact Nat.lt_succ_self _))
  have H2 : Hid (∀ cs, ((w.alloc (.map #[] 0)).alloc (.cells cs 94)).heap[w.heap.size + 1]? = some (.cells cs 94 (0, 0))) := Lib.hid (fun cs => by have := heap_alloc_last (w.alloc (.map #[] 0)) (.cells cs 94); rwa [hs1] at this)
  clear b1
  go_enter Tryz.func7, Tryz.ntmps7
  go_wp2
  go_ret2
  exact ⟨rfl, ⟨H2.out _, World.ownsRow_nil _ _ _ _, World.ownsRow_nil _ _ _ _, ⟨[], S2.out _, fun _ => rfl⟩, (fun _ h => by cases h), ⟨Nat.le_succ _, Nat.le_refl _⟩⟩, B2.out _⟩
theorem idsnew_bad (w : World) (m : Int) (h : m < 1 ∨ 600 < m) :
    Calls Tryz.prog 7 #[.int .i64 m] w fun e w' => e = .returned (.tuple #[.pointer none, kind 1]) ∧ w' = w := by
  go_enter Tryz.func7, Tryz.ntmps7
  rcases (by omega : m < 1 ∨ (¬ m < 1 ∧ m > 600)) with h | ⟨h, h2⟩
  · go_wp2
    go_ret2
    exact ⟨rfl, rfl⟩
  · go_wp2
    go_ret2
    exact ⟨rfl, rfl⟩
/-- Has a hash the number of a master? -/
def isM (f : Key → Option Int) (x : Key) : Bool := match f x with
  | some n => decide (n < split)
  | none => false
section
variable {W : World} {i nb : Nat} {most : Int} {mv ov : Value} {f : Key → Option Int}
set_option linter.unusedSimpArgs false in
set_option maxRecDepth 20000 in
set_option maxHeartbeats 4000000 in
attribute [local go_sem ↓] hld_open in
theorem ismaster_to (H : IM W i nb most mv ov f) (x : Key) (hx : x.length = 32) :
    Calls Tryz.prog 44 #[ip i, .agg (hv x)] W fun e w' => e = .returned (.bool (isM f x)) ∧ Below W.heap.size W w' := by
  have BA := Lib.hid (below_al11 W (.cells (hv x) 31))
  have HB := Lib.hid (heap_alloc_last W (.cells (hv x) 31))
  have HW := Lib.hid (H.kb BA.out)
  have HX := Lib.hid hx
  clear H hx
  go_enter Tryz.func44, Tryz.ntmps44
  go_upto_region 1 with fail
  generalize W.alloc (.cells (hv x) 31) = w0 at *
  generalize hb : W.heap.size = b at HB
  clear hb
  have bq : Below w0.heap.size w0 w0.drew := blw_qt _ 1 w0
  have HWq := Lib.hid (HW.out.kb bq)
  have HBq := Lib.hid ((mild_below bq).cells HB.out)
  have Bq : Hid (Below W.heap.size W w0.drew) := Lib.hid (BA.out.trans (bq.mono BA.out.size))
  obtain ⟨q, hq⟩ : ∃ q, q = f x := ⟨_, rfl⟩
  obtain ⟨d, hd⟩ : ∃ d, d = (f x).getD 0 := ⟨_, rfl⟩
  obtain ⟨ok, hok⟩ : ∃ ok, ok = (f x).isSome := ⟨_, rfl⟩
  have hlk := HWq.out.lookOk x HX.out
  rw [← hd, ← hok] at hlk
  have HLK := Lib.hid hlk
  have HD := Lib.hid hd
  have HOK := Lib.hid hok
  clear bq HW HB hlk hd hok hq
  go_wp2_with fail
  try simp only [List.append]
  refine wp_region_noPanic ?_
  refine wp_region_held_drew (S := (fun V => V.cell? ⟨i, 3, none⟩ = some (.map (some nb)) ∧ (hld ⟨b, 0, none⟩).run Tryz.prog V = .ok (.agg (hv x)) V ∧ (Instr.lookup 92 (.map (some nb)) (.agg (hv x)) true).run Tryz.prog V = .ok (.tuple #[.int .i64 d, .bool ok]) V)) (by kernel_rfl) ⟨HWq.out.c (k := 3) rfl, hld_row HX.out HBq.out, HLK.out⟩ (fun hHeld => ?_)
  generalize w0.drew = cw at *
  refine wpAnyH_take (i := 0) (v := ?_) (by simp only [List.getElem?_toArray, List.getElem?_cons_zero]; rfl) (by kernel_rfl) (by kernel_rfl) (by kernel_rfl) (fun _ _ _ h => h) (Or.inl ⟨by rfl, ?_⟩) (by assumption) ?_
  rotate_left
  · intro w hSw
    try dsimp only at hSw
    go_simp
    try with_reducible rfl
  try simp only [Act.put, List.setIfInBounds_toArray, List.set_cons_zero, List.set_cons_succ]
  refine wpAnyH_take (i := 1) (v := ?_) (by simp only [List.getElem?_toArray, List.getElem?_cons_succ, List.getElem?_cons_zero]; rfl) (by kernel_rfl) (by kernel_rfl) (by kernel_rfl) (fun _ _ _ h => h) (Or.inl ⟨by rfl, ?_⟩) (by assumption) ?_
  rotate_left
  · intro w hSw
    try dsimp only at hSw
    go_simp
    try with_reducible rfl
  try simp only [Act.put, List.setIfInBounds_toArray, List.set_cons_zero, List.set_cons_succ]
  refine wpAnyH_take (i := 2) (v := ?_) (by simp only [List.getElem?_toArray, List.getElem?_cons_succ, List.getElem?_cons_zero]; rfl) (by kernel_rfl) (by kernel_rfl) (by kernel_rfl) (fun _ _ _ h => h) (Or.inl ⟨by rfl, ?_⟩) (by assumption) ?_
  rotate_left
  · intro w hSw
    try dsimp only at hSw
    go_simp
    try with_reducible rfl
  try simp only [Act.put, List.setIfInBounds_toArray, List.set_cons_zero, List.set_cons_succ]
  refine wpAnyH_take (i := 3) (v := ?_) (by simp only [List.getElem?_toArray, List.getElem?_cons_succ, List.getElem?_cons_zero]; rfl) (by kernel_rfl) (by kernel_rfl) (by kernel_rfl) (fun _ _ _ h => h) (Or.inl ⟨by rfl, ?_⟩) (by assumption) ?_
  rotate_left
  · intro w hSw
    try dsimp only at hSw
    go_simp
    try with_reducible rfl
  try simp only [Act.put, List.setIfInBounds_toArray, List.set_cons_zero, List.set_cons_succ]
  refine wpAnyH_take (i := 4) (v := ?_) (by simp only [List.getElem?_toArray, List.getElem?_cons_succ, List.getElem?_cons_zero]; rfl) (by kernel_rfl) (by kernel_rfl) (by kernel_rfl) (fun _ _ _ h => h) (Or.inl ⟨by rfl, ?_⟩) (by assumption) ?_
  rotate_left
  · intro w hSw
    try dsimp only at hSw
    go_simp
    try with_reducible rfl
  try simp only [Act.put, List.setIfInBounds_toArray, List.set_cons_zero, List.set_cons_succ]
  refine wpAnyH_take (i := 5) (v := ?_) (by simp only [List.getElem?_toArray, List.getElem?_cons_succ, List.getElem?_cons_zero]; rfl) (by kernel_rfl) (by kernel_rfl) (by kernel_rfl) (fun _ _ _ h => h) (Or.inl ⟨by rfl, ?_⟩) (by assumption) ?_
  rotate_left
  · intro w hSw
    try dsimp only at hSw
    go_simp
    try with_reducible rfl
  try simp only [Act.put, List.setIfInBounds_toArray, List.set_cons_zero, List.set_cons_succ]
  refine wpAnyH_take (i := 6) (v := ?_) (by simp only [List.getElem?_toArray, List.getElem?_cons_succ, List.getElem?_cons_zero]; rfl) (by kernel_rfl) (by kernel_rfl) (by kernel_rfl) (fun _ _ _ h => h) (Or.inl ⟨by rfl, ?_⟩) (by assumption) ?_
  rotate_left
  · intro w hSw
    try dsimp only at hSw
    go_simp
    try with_reducible rfl
  try simp only [Act.put, List.setIfInBounds_toArray, List.set_cons_zero, List.set_cons_succ]
  refine wpAnyH_take (i := 7) (v := ?_) (by simp only [List.getElem?_toArray, List.getElem?_cons_succ, List.getElem?_cons_zero]; rfl) (by kernel_rfl) (by kernel_rfl) (by kernel_rfl) (fun _ _ _ h => h) (Or.inl ⟨by rfl, ?_⟩) (by assumption) ?_
  rotate_left
  · intro w hSw
    try dsimp only at hSw
    go_simp
    try with_reducible rfl
  try simp only [Act.put, List.setIfInBounds_toArray, List.set_cons_zero, List.set_cons_succ]
  refine wpAnyH_take (i := 8) (v := ?_) (by simp only [List.getElem?_toArray, List.getElem?_cons_succ, List.getElem?_cons_zero]; rfl) (by kernel_rfl) (by kernel_rfl) (by kernel_rfl) (fun _ _ _ h => h) (Or.inl ⟨by rfl, ?_⟩) (by assumption) ?_
  rotate_left
  · intro w hSw
    try dsimp only at hSw
    go_simp
    try with_reducible rfl
  try simp only [Act.put, List.setIfInBounds_toArray, List.set_cons_zero, List.set_cons_succ]
  refine wpAnyH_take (i := 9) (v := ?_) (by simp only [List.getElem?_toArray, List.getElem?_cons_succ, List.getElem?_cons_zero]; rfl) (by kernel_rfl) (by kernel_rfl) (by kernel_rfl) (fun _ _ _ h => h) (Or.inl ⟨by rfl, ?_⟩) (by assumption) ?_
  rotate_left
  · intro w hSw
    try dsimp only at hSw
    go_simp
    try with_reducible rfl
  try simp only [Act.put, List.setIfInBounds_toArray, List.set_cons_zero, List.set_cons_succ]
  refine wpAnyH_take (i := 10) (v := ?_) (by simp only [List.getElem?_toArray, List.getElem?_cons_succ, List.getElem?_cons_zero]; rfl) (by kernel_rfl) (by kernel_rfl) (by kernel_rfl) (fun _ _ _ h => h) (Or.inl ⟨by rfl, ?_⟩) (by assumption) ?_
  rotate_left
  · intro w hSw
    try dsimp only at hSw
    go_simp
    try with_reducible rfl
  try simp only [Act.put, List.setIfInBounds_toArray, List.set_cons_zero, List.set_cons_succ]
  refine wpAnyH_done (by kernel_rfl) ?_ _
  refine NoPanic.normal ?_
  clear hHeld
  cases ok with
  | true =>
    go_wp2_with fail
    go_ret
    refine ⟨?_, Bq.out⟩
    obtain ⟨n, hn⟩ := Option.isSome_iff_exists.1 HOK.out.symm
    have h := HD.out
    rw [hn] at h
    subst h
    unfold isM
    rw [hn]; rfl
  | false =>
    go_wp2_with fail
    go_ret
    refine ⟨?_, Bq.out⟩
    have h := HOK.out
    unfold isM
    cases hn : f x with
    | none => rfl
    | some n => rw [hn] at h; cases h
set_option linter.unusedSimpArgs false in
set_option maxRecDepth 20000 in
set_option maxHeartbeats 4000000 in
attribute [local go_sem ↓] hld_open in
theorem isother_to (H : IM W i nb most mv ov f) (x : Key) (hx : x.length = 32) :
    Calls Tryz.prog 84 #[ip i, .agg (hv x)] W fun e w' => e = .returned (.bool (decide ((f x).getD 0 ≥ split))) ∧ Below W.heap.size W w' := by
  have BA := Lib.hid (below_al11 W (.cells (hv x) 31))
  have HB := Lib.hid (heap_alloc_last W (.cells (hv x) 31))
  have HW := Lib.hid (H.kb BA.out)
  have HX := Lib.hid hx
  obtain ⟨d, hd⟩ : ∃ d, d = (f x).getD 0 := ⟨_, rfl⟩
  rw [← hd]
  have HD := Lib.hid hd
  clear H hx hd
  go_enter Tryz.func84, Tryz.ntmps84
  go_upto_region 1 with fail
  generalize W.alloc (.cells (hv x) 31) = w0 at *
  generalize hb : W.heap.size = b at HB
  clear hb
  have bq : Below w0.heap.size w0 w0.drew := blw_qt _ 1 w0
  have HWq := Lib.hid (HW.out.kb bq)
  have HBq := Lib.hid ((mild_below bq).cells HB.out)
  have Bq : Hid (Below W.heap.size W w0.drew) := Lib.hid (BA.out.trans (bq.mono BA.out.size))
  have hlk := HWq.out.look x HX.out
  rw [← HD.out] at hlk
  have HLK := Lib.hid hlk
  clear bq HW HB hlk
  go_wp2_with fail
  try simp only [List.append]
  refine wp_region_noPanic ?_
  refine wp_region_held_drew (S := (fun V => V.cell? ⟨i, 3, none⟩ = some (.map (some nb)) ∧ (hld ⟨b, 0, none⟩).run Tryz.prog V = .ok (.agg (hv x)) V ∧ (Instr.lookup 92 (.map (some nb)) (.agg (hv x)) false).run Tryz.prog V = .ok (.int .i64 d) V)) (by kernel_rfl) ⟨HWq.out.c (k := 3) rfl, hld_row HX.out HBq.out, HLK.out⟩ (fun hHeld => ?_)
  generalize w0.drew = cw at *
  refine wpAnyH_take (i := 0) (v := ?_) (by simp only [List.getElem?_toArray, List.getElem?_cons_zero]; rfl) (by kernel_rfl) (by kernel_rfl) (by kernel_rfl) (fun _ _ _ h => h) (Or.inl ⟨by rfl, ?_⟩) (by assumption) ?_
  rotate_left
  · intro w hSw
    try dsimp only at hSw
    go_simp
    try with_reducible rfl
  try simp only [Act.put, List.setIfInBounds_toArray, List.set_cons_zero, List.set_cons_succ]
  refine wpAnyH_take (i := 1) (v := ?_) (by simp only [List.getElem?_toArray, List.getElem?_cons_succ, List.getElem?_cons_zero]; rfl) (by kernel_rfl) (by kernel_rfl) (by kernel_rfl) (fun _ _ _ h => h) (Or.inl ⟨by rfl, ?_⟩) (by assumption) ?_
  rotate_left
  · intro w hSw
    try dsimp only at hSw
    go_simp
    try with_reducible rfl
  try simp only [Act.put, List.setIfInBounds_toArray, List.set_cons_zero, List.set_cons_succ]
  refine wpAnyH_take (i := 2) (v := ?_) (by simp only [List.getElem?_toArray, List.getElem?_cons_succ, List.getElem?_cons_zero]; rfl) (by kernel_rfl) (by kernel_rfl) (by kernel_rfl) (fun _ _ _ h => h) (Or.inl ⟨by rfl, ?_⟩) (by assumption) ?_
  rotate_left
  · intro w hSw
    try dsimp only at hSw
    go_simp
    try with_reducible rfl
  try simp only [Act.put, List.setIfInBounds_toArray, List.set_cons_zero, List.set_cons_succ]
  refine wpAnyH_take (i := 3) (v := ?_) (by simp only [List.getElem?_toArray, List.getElem?_cons_succ, List.getElem?_cons_zero]; rfl) (by kernel_rfl) (by kernel_rfl) (by kernel_rfl) (fun _ _ _ h => h) (Or.inl ⟨by rfl, ?_⟩) (by assumption) ?_
  rotate_left
  · intro w hSw
    try dsimp only at hSw
    go_simp
    try with_reducible rfl
  try simp only [Act.put, List.setIfInBounds_toArray, List.set_cons_zero, List.set_cons_succ]
  refine wpAnyH_take (i := 4) (v := ?_) (by simp only [List.getElem?_toArray, List.getElem?_cons_succ, List.getElem?_cons_zero]; rfl) (by kernel_rfl) (by kernel_rfl) (by kernel_rfl) (fun _ _ _ h => h) (Or.inl ⟨by rfl, ?_⟩) (by assumption) ?_
  rotate_left
  · intro w hSw
    try dsimp only at hSw
    go_simp
    try with_reducible rfl
  try simp only [Act.put, List.setIfInBounds_toArray, List.set_cons_zero, List.set_cons_succ]
  refine wpAnyH_take (i := 5) (v := ?_) (by simp only [List.getElem?_toArray, List.getElem?_cons_succ, List.getElem?_cons_zero]; rfl) (by kernel_rfl) (by kernel_rfl) (by kernel_rfl) (fun _ _ _ h => h) (Or.inl ⟨by rfl, ?_⟩) (by assumption) ?_
  rotate_left
  · intro w hSw
    try dsimp only at hSw
    go_simp
    try with_reducible rfl
  try simp only [Act.put, List.setIfInBounds_toArray, List.set_cons_zero, List.set_cons_succ]
  refine wpAnyH_take (i := 6) (v := ?_) (by simp only [List.getElem?_toArray, List.getElem?_cons_succ, List.getElem?_cons_zero]; rfl) (by kernel_rfl) (by kernel_rfl) (by kernel_rfl) (fun _ _ _ h => h) (Or.inl ⟨by rfl, ?_⟩) (by assumption) ?_
  rotate_left
  · intro w hSw
    try dsimp only at hSw
    go_simp
    try with_reducible rfl
  try simp only [Act.put, List.setIfInBounds_toArray, List.set_cons_zero, List.set_cons_succ]
  refine wpAnyH_take (i := 7) (v := ?_) (by simp only [List.getElem?_toArray, List.getElem?_cons_succ, List.getElem?_cons_zero]; rfl) (by kernel_rfl) (by kernel_rfl) (by kernel_rfl) (fun _ _ _ h => h) (Or.inl ⟨by rfl, ?_⟩) (by assumption) ?_
  rotate_left
  · intro w hSw
    try dsimp only at hSw
    go_simp
    try with_reducible rfl
  try simp only [Act.put, List.setIfInBounds_toArray, List.set_cons_zero, List.set_cons_succ]
  refine wpAnyH_done (by kernel_rfl) ?_ _
  refine NoPanic.normal ?_
  clear hHeld
  go_wp2_with fail
  go_ret
  exact ⟨rfl, Bq.out⟩
set_option linter.unusedSimpArgs false in
set_option maxRecDepth 20000 in
set_option maxHeartbeats 4000000 in
attribute [local go_sem ↓] hld_open in
theorem id_to (H : IM W i nb most mv ov f) (x : Key) (hx : x.length = 32) :
    Calls Tryz.prog 14 #[ip i, .agg (hv x)] W fun e w' => e = .returned (.tuple #[.int .i64 ((f x).getD 0), .bool (f x).isSome]) ∧ Below W.heap.size W w' := by
  have BA := Lib.hid (below_al11 W (.cells (hv x) 31))
  have HB := Lib.hid (heap_alloc_last W (.cells (hv x) 31))
  have HW := Lib.hid (H.kb BA.out)
  have HX := Lib.hid hx
  obtain ⟨d, hd⟩ : ∃ d, d = (f x).getD 0 := ⟨_, rfl⟩
  obtain ⟨ok, hok⟩ : ∃ ok, ok = (f x).isSome := ⟨_, rfl⟩
  rw [← hd, ← hok]
  have HD := Lib.hid hd
  have HOK := Lib.hid hok
  clear H hx hd hok
  go_enter Tryz.func14, Tryz.ntmps14
  go_upto_region 1 with fail
  generalize W.alloc (.cells (hv x) 31) = w0 at *
  generalize hb : W.heap.size = b at HB
  clear hb
  have bq : Below w0.heap.size w0 w0.drew := blw_qt _ 1 w0
  have HWq := Lib.hid (HW.out.kb bq)
  have HBq := Lib.hid ((mild_below bq).cells HB.out)
  have Bq : Hid (Below W.heap.size W w0.drew) := Lib.hid (BA.out.trans (bq.mono BA.out.size))
  have hlk := HWq.out.lookOk x HX.out
  rw [← HD.out, ← HOK.out] at hlk
  have HLK := Lib.hid hlk
  clear bq HW HB hlk
  go_wp2_with fail
  try simp only [List.append]
  refine wp_region_noPanic ?_
  refine wp_region_held_drew (S := (fun V => V.cell? ⟨i, 3, none⟩ = some (.map (some nb)) ∧ (hld ⟨b, 0, none⟩).run Tryz.prog V = .ok (.agg (hv x)) V ∧ (Instr.lookup 92 (.map (some nb)) (.agg (hv x)) true).run Tryz.prog V = .ok (.tuple #[.int .i64 d, .bool ok]) V)) (by kernel_rfl) ⟨HWq.out.c (k := 3) rfl, hld_row HX.out HBq.out, HLK.out⟩ (fun hHeld => ?_)
  generalize w0.drew = cw at *
  refine wpAnyH_take (i := 0) (v := ?_) (by simp only [List.getElem?_toArray, List.getElem?_cons_zero]; rfl) (by kernel_rfl) (by kernel_rfl) (by kernel_rfl) (fun _ _ _ h => h) (Or.inl ⟨by rfl, ?_⟩) (by assumption) ?_
  rotate_left
  · intro w hSw
    try dsimp only at hSw
    go_simp
    try with_reducible rfl
  try simp only [Act.put, List.setIfInBounds_toArray, List.set_cons_zero, List.set_cons_succ]
  refine wpAnyH_take (i := 1) (v := ?_) (by simp only [List.getElem?_toArray, List.getElem?_cons_succ, List.getElem?_cons_zero]; rfl) (by kernel_rfl) (by kernel_rfl) (by kernel_rfl) (fun _ _ _ h => h) (Or.inl ⟨by rfl, ?_⟩) (by assumption) ?_
  rotate_left
  · intro w hSw
    try dsimp only at hSw
    go_simp
    try with_reducible rfl
  try simp only [Act.put, List.setIfInBounds_toArray, List.set_cons_zero, List.set_cons_succ]
  refine wpAnyH_take (i := 2) (v := ?_) (by simp only [List.getElem?_toArray, List.getElem?_cons_succ, List.getElem?_cons_zero]; rfl) (by kernel_rfl) (by kernel_rfl) (by kernel_rfl) (fun _ _ _ h => h) (Or.inl ⟨by rfl, ?_⟩) (by assumption) ?_
  rotate_left
  · intro w hSw
    try dsimp only at hSw
    go_simp
    try with_reducible rfl
  try simp only [Act.put, List.setIfInBounds_toArray, List.set_cons_zero, List.set_cons_succ]
  refine wpAnyH_take (i := 3) (v := ?_) (by simp only [List.getElem?_toArray, List.getElem?_cons_succ, List.getElem?_cons_zero]; rfl) (by kernel_rfl) (by kernel_rfl) (by kernel_rfl) (fun _ _ _ h => h) (Or.inl ⟨by rfl, ?_⟩) (by assumption) ?_
  rotate_left
  · intro w hSw
    try dsimp only at hSw
    go_simp
    try with_reducible rfl
  try simp only [Act.put, List.setIfInBounds_toArray, List.set_cons_zero, List.set_cons_succ]
  refine wpAnyH_take (i := 4) (v := ?_) (by simp only [List.getElem?_toArray, List.getElem?_cons_succ, List.getElem?_cons_zero]; rfl) (by kernel_rfl) (by kernel_rfl) (by kernel_rfl) (fun _ _ _ h => h) (Or.inl ⟨by rfl, ?_⟩) (by assumption) ?_
  rotate_left
  · intro w hSw
    try dsimp only at hSw
    go_simp
    try with_reducible rfl
  try simp only [Act.put, List.setIfInBounds_toArray, List.set_cons_zero, List.set_cons_succ]
  refine wpAnyH_take (i := 5) (v := ?_) (by simp only [List.getElem?_toArray, List.getElem?_cons_succ, List.getElem?_cons_zero]; rfl) (by kernel_rfl) (by kernel_rfl) (by kernel_rfl) (fun _ _ _ h => h) (Or.inl ⟨by rfl, ?_⟩) (by assumption) ?_
  rotate_left
  · intro w hSw
    try dsimp only at hSw
    go_simp
    try with_reducible rfl
  try simp only [Act.put, List.setIfInBounds_toArray, List.set_cons_zero, List.set_cons_succ]
  refine wpAnyH_take (i := 6) (v := ?_) (by simp only [List.getElem?_toArray, List.getElem?_cons_succ, List.getElem?_cons_zero]; rfl) (by kernel_rfl) (by kernel_rfl) (by kernel_rfl) (fun _ _ _ h => h) (Or.inl ⟨by rfl, ?_⟩) (by assumption) ?_
  rotate_left
  · intro w hSw
    try dsimp only at hSw
    go_simp
    try with_reducible rfl
  try simp only [Act.put, List.setIfInBounds_toArray, List.set_cons_zero, List.set_cons_succ]
  refine wpAnyH_take (i := 7) (v := ?_) (by simp only [List.getElem?_toArray, List.getElem?_cons_succ, List.getElem?_cons_zero]; rfl) (by kernel_rfl) (by kernel_rfl) (by kernel_rfl) (fun _ _ _ h => h) (Or.inl ⟨by rfl, ?_⟩) (by assumption) ?_
  rotate_left
  · intro w hSw
    try dsimp only at hSw
    go_simp
    try with_reducible rfl
  try simp only [Act.put, List.setIfInBounds_toArray, List.set_cons_zero, List.set_cons_succ]
  refine wpAnyH_take (i := 8) (v := ?_) (by simp only [List.getElem?_toArray, List.getElem?_cons_succ, List.getElem?_cons_zero]; rfl) (by kernel_rfl) (by kernel_rfl) (by kernel_rfl) (fun _ _ _ h => h) (Or.inl ⟨by rfl, ?_⟩) (by assumption) ?_
  rotate_left
  · intro w hSw
    try dsimp only at hSw
    go_simp
    try with_reducible rfl
  try simp only [Act.put, List.setIfInBounds_toArray, List.set_cons_zero, List.set_cons_succ]
  refine wpAnyH_take (i := 9) (v := ?_) (by simp only [List.getElem?_toArray, List.getElem?_cons_succ, List.getElem?_cons_zero]; rfl) (by kernel_rfl) (by kernel_rfl) (by kernel_rfl) (fun _ _ _ h => h) (Or.inl ⟨by rfl, ?_⟩) (by assumption) ?_
  rotate_left
  · intro w hSw
    try dsimp only at hSw
    go_simp
    try with_reducible rfl
  try simp only [Act.put, List.setIfInBounds_toArray, List.set_cons_zero, List.set_cons_succ]
  refine wpAnyH_take (i := 10) (v := ?_) (by simp only [List.getElem?_toArray, List.getElem?_cons_succ, List.getElem?_cons_zero]; rfl) (by kernel_rfl) (by kernel_rfl) (by kernel_rfl) (fun _ _ _ h => h) (Or.inl ⟨by rfl, ?_⟩) (by assumption) ?_
  rotate_left
  · intro w hSw
    try dsimp only at hSw
    go_simp
    try with_reducible rfl
  try simp only [Act.put, List.setIfInBounds_toArray, List.set_cons_zero, List.set_cons_succ]
  refine wpAnyH_done (by kernel_rfl) ?_ _
  refine NoPanic.normal ?_
  clear hHeld
  go_wp2_with fail
  go_ret2
  exact ⟨rfl, Bq.out⟩
theorem masters_to {p : Option Addr} {n c : Nat} (H : IM W i nb most (.slice p n c) ov f) : Calls Tryz.prog 30 #[ip i] W fun e w' => e = .returned (.int .i64 n) ∧ w' = W := by
  have h1 := H.c (k := 1) rfl
  clear H
  go_enter Tryz.func30, Tryz.ntmps30
  go_wp2
  go_ret
  exact ⟨rfl, rfl⟩
theorem others_to {p : Option Addr} {n c : Nat} (H : IM W i nb most mv (.slice p n c) f) : Calls Tryz.prog 18 #[ip i] W fun e w' => e = .returned (.int .i64 n) ∧ w' = W := by
  have h1 := H.c (k := 2) rfl
  clear H
  go_enter Tryz.func18, Tryz.ntmps18
  go_wp2
  go_ret
  exact ⟨rfl, rfl⟩
end
end Go.Proofs.YtnpeahbbcolfmaaGreatDoor
namespace Go.Proofs.YtnpeahbbcolfmaaGreatDoor
open Go.RowKit
open Go.Maps
/-- The others are numbered anew. -/
def renum (l : List Key) (f : Key → Option Int) (h : Key) : Option Int := match idx h l with
  | some k => some (split + (k : Int))
  | none => f h
theorem renum_nil (f : Key → Option Int) : renum [] f = f := rfl
theorem renum_put {l : List Key} {x : Key} (f : Key → Option Int) (hx : x ∉ l) : put1 (renum l f) x (split + (l.length : Int)) = renum (l ++ [x]) f := by
  funext h
  unfold put1 renum
  rw [idx_snoc]
  by_cases e : h = x
  · subst e
    rw [if_pos rfl, idx_none.2 hx]
    simp
  · rw [if_neg e, if_neg (Ne.symm e)]
    simp
theorem renum_sup {l L : List Key} {f : Key → Option Int} (h : ∀ x, (f x).isSome = true → x ∈ L) : ∀ x, (renum l f x).isSome = true → x ∈ L ++ l := fun x hx => by
  unfold renum at hx
  cases hk : idx x l with
  | some k => exact List.mem_append_right _ (List.mem_of_getElem? (idx_get hk))
  | none => rw [hk] at hx; exact List.mem_append_left _ (h x hx)
theorem hmf11 (fn : Fn) (first cap : Array Value) (w : World) : (Instr.makeFunc fn first cap).run Tryz.prog w = .ok (.func fn first cap) w := rfl
section
variable {W : World} {i nb : Nat} {most : Int} {mv ov : Value} {f : Key → Option Int}
set_option linter.unusedSimpArgs false in
set_option maxRecDepth 20000 in
set_option maxHeartbeats 4000000 in
attribute [local go_sem ↓] hld_open in
theorem closefn_to (H : IM W i nb most mv ov f) (ib : Nat) (hib : W.heap[ib]? = some (.cells #[ip i] 24 (0, 0))) (x : Key) (hx : x.length = 32) :
    Calls Tryz.prog 83 #[.agg (hv x), .pointer (some ⟨ib, 0, none⟩)] W fun e w' => e = .returned (.bool (!decide ((f x).getD 0 ≥ split))) ∧ Below W.heap.size W w' := by
  have BA := Lib.hid (below_al11 W (.cells (hv x) 31))
  have HB := Lib.hid (heap_alloc_last W (.cells (hv x) 31))
  have HW := Lib.hid (H.kb BA.out)
  have HC := Lib.hid ((mild_below BA.out).cells hib)
  have HX := Lib.hid hx
  obtain ⟨d, hd⟩ : ∃ d, d = decide ((f x).getD 0 ≥ split) := ⟨_, rfl⟩
  rw [← hd]
  have HD := Lib.hid hd
  clear H hx hib hd
  go_enter Tryz.func83, Tryz.ntmps83
  go_upto_region 1 with fail
  generalize W.alloc (.cells (hv x) 31) = w0 at *
  generalize hb : W.heap.size = b at HB
  clear hb
  have hld0 := hld_row HX.out HB.out
  have hc0 := cell_obj HC.out 0 rfl
  have HO := Lib.hid (isother_to HW.out x HX.out)
  rw [← HD.out] at HO
  go_wp2_with fail
  refine HO.out.mono ?_
  rintro e w1 ⟨rfl, b1⟩
  have B1 := Lib.hid (BA.out.trans (b1.mono BA.out.size))
  clear b1
  go_wp2_with fail
  go_ret
  exact ⟨rfl, B1.out⟩
theorem close_cb (ib : Nat) : Cb (fun V => V.heap[ib]? = some (.cells #[ip i] 24 (0, 0)) ∧ IM V i nb most mv ov f) (.func (.func 83) #[] #[.pointer (some ⟨ib, 0, none⟩)]) (fun x => !decide ((f x).getD 0 ≥ split)) :=
  ⟨_, _, _, rfl, fun args w => by kernel_rfl, fun V k h hh => closefn_to k.2 ib k.1 h hh⟩
theorem ismaster_cb : Cb (fun V => IM V i nb most mv ov f) (.func (.func 44) #[ip i] #[]) (isM f) :=
  ⟨_, _, _, rfl, fun args w => by kernel_rfl, fun V k h hh => ismaster_to k h hh⟩
end
/-- What a call of the object's leaves: new lists, a new map. -/
def IPost (w w' : World) (B i nb : Nat) (most : Int) (mv ov : Value) (ms os : List Key) (f : Key → Option Int) : Prop :=
  ∃ mv' ov', IA w' B i nb most mv' ov' ms os f ∧ Only (iS i nb mv ov) w w' ∧ iL w.heap.size mv ov mv' ov'
theorem flt_dd {D K : Key → Bool} {l : List Key} (h : ∀ x ∈ l, D x = K x) : (l.filter fun x => !(!D x)) = l.filter K := by
  refine List.filter_congr fun x hx => ?_
  rw [Bool.not_not, h x hx]
set_option linter.unusedSimpArgs false in
set_option maxRecDepth 20000 in
set_option maxHeartbeats 8000000 in
attribute [local go_sem ↓] hld_open in
theorem closegaps_to (w : World) (B i nb : Nat) (most : Int) (mv ov : Value) (ms os : List Key) (f : Key → Option Int) (H : IA w B i nb most mv ov ms os f) (K : Key → Bool) (hK : ∀ x ∈ os, decide ((f x).getD 0 ≥ split) = K x)
    (h32 : H32 os) (hl : os.length ≤ 1000) (hn : os.Nodup) (L : List Key) (hL : ∀ x, (f x).isSome = true → x ∈ L) (hLl : L.length ≤ 100000) :
    Calls Tryz.prog 47 #[ip i] w fun e w' => e = .returned (.tuple #[]) ∧ IPost w w' B i nb most mv ov ms (os.filter K) (renum (os.filter K) f) := by
  obtain ⟨po, no, co, rfl, hno⟩ := own_sh H.oo
  have BA := Lib.hid (below_al11 w (.cells #[ip i] 24))
  have HB := Lib.hid (heap_alloc_last w (.cells #[ip i] 24))
  have H0 := Lib.hid (H.kb BA.out)
  have HW := Lib.hid H
  have HK := Lib.hid hK
  have H3 := Lib.hid h32
  have HL := Lib.hid hl
  have HN := Lib.hid hn
  have HLS := Lib.hid hL
  have HLL := Lib.hid hLl
  have hmf := hmf11
  obtain ⟨os', hos⟩ : ∃ os', os' = os.filter K := ⟨_, rfl⟩
  rw [← hos]
  have HOS := Lib.hid hos
  have HO32 : Hid (H32 os' ∧ os'.Nodup ∧ os'.length ≤ 1000) := Lib.hid ⟨fun x hx => h32 x (by rw [hos] at hx; exact (List.mem_filter.1 hx).1), by rw [hos]; exact hn.filter _, by rw [hos]; exact Nat.le_trans (List.length_filter_le _ _) hl⟩
  clear hos hno H hK h32 hl hn hL hLl
  go_enter Tryz.func47, Tryz.ntmps47
  go_upto_region 1 with fail
  generalize w.alloc (.cells #[ip i] 24) = w0 at *
  generalize hib : w.heap.size = ib at HB
  have HIB := Lib.hid hib
  clear hib
  have bq : Below w0.heap.size w0 w0.drew := blw_qt _ 1 w0
  have HWq := Lib.hid (H0.out.kb bq)
  have HBq := Lib.hid ((mild_below bq).cells HB.out)
  have Bq : Hid (Below w.heap.size w w0.drew) := Lib.hid (BA.out.trans (bq.mono BA.out.size))
  clear bq HB H0
  go_wp2_with fail
  try simp only [List.append]
  refine wp_region_noPanic ?_
  refine wp_region_held_drew (S := (fun V => V.cell? ⟨ib, 0, none⟩ = some (ip i))) (by kernel_rfl) (cell_obj HBq.out 0 rfl) (fun hHeld => ?_)
  generalize w0.drew = cw at *
  refine wpAnyH_take (i := 0) (v := ?_) (by simp only [List.getElem?_toArray, List.getElem?_cons_zero]; rfl) (by kernel_rfl) (by kernel_rfl) (by kernel_rfl) (fun _ _ _ h => h) (Or.inl ⟨by rfl, ?_⟩) (by assumption) ?_
  rotate_left
  · intro w hSw
    try dsimp only at hSw
    go_simp
    try with_reducible rfl
  try simp only [Act.put, List.setIfInBounds_toArray, List.set_cons_zero, List.set_cons_succ]
  refine wpAnyH_take (i := 1) (v := ?_) (by simp only [List.getElem?_toArray, List.getElem?_cons_succ, List.getElem?_cons_zero]; rfl) (by kernel_rfl) (by kernel_rfl) (by kernel_rfl) (fun _ _ _ h => h) (Or.inl ⟨by rfl, ?_⟩) (by assumption) ?_
  rotate_left
  · intro w hSw
    try dsimp only at hSw
    go_simp
    try with_reducible rfl
  try simp only [Act.put, List.setIfInBounds_toArray, List.set_cons_zero, List.set_cons_succ]
  refine wpAnyH_take (i := 2) (v := ?_) (by simp only [List.getElem?_toArray, List.getElem?_cons_succ, List.getElem?_cons_zero]; rfl) (by kernel_rfl) (by kernel_rfl) (by kernel_rfl) (fun _ _ _ h => h) (Or.inl ⟨by rfl, ?_⟩) (by assumption) ?_
  rotate_left
  · intro w hSw
    try dsimp only at hSw
    go_simp
    try with_reducible rfl
  try simp only [Act.put, List.setIfInBounds_toArray, List.set_cons_zero, List.set_cons_succ]
  refine wpAnyH_take (i := 3) (v := ?_) (by simp only [List.getElem?_toArray, List.getElem?_cons_succ, List.getElem?_cons_zero]; rfl) (by kernel_rfl) (by kernel_rfl) (by kernel_rfl) (fun _ _ _ h => h) (Or.inl ⟨by rfl, ?_⟩) (by assumption) ?_
  rotate_left
  · intro w hSw
    try dsimp only at hSw
    go_simp
    try with_reducible rfl
  try simp only [Act.put, List.setIfInBounds_toArray, List.set_cons_zero, List.set_cons_succ]
  refine wpAnyH_take (i := 5) (v := ?_) (by simp only [List.getElem?_toArray, List.getElem?_cons_succ, List.getElem?_cons_zero]; rfl) (by kernel_rfl) (by kernel_rfl) (by kernel_rfl) (fun _ _ _ h => h) (Or.inl ⟨by rfl, ?_⟩) (by assumption) ?_
  rotate_left
  · intro w hSw
    try dsimp only at hSw
    go_simp
    try with_reducible rfl
  try simp only [Act.put, List.setIfInBounds_toArray, List.set_cons_zero, List.set_cons_succ]
  refine wpAnyH_ready (rs := [4]) (by kernel_rfl) (by simp) ?_
  refine AllReadyH.cons (by simp only [List.getElem?_toArray, List.getElem?_cons_succ, List.getElem?_cons_zero]; rfl) (fun K hK => ?_) AllReadyH.nil
  have hc4 := HWq.out.c (k := 2) rfl
  go_simp
  refine hK.out _ _ (cell_obj HBq.out 0 rfl) (fun hHeld => ?_)
  clear hc4
  clear hK K
  try simp only [Act.put, List.setIfInBounds_toArray, List.set_cons_zero, List.set_cons_succ]
  refine wpAnyH_ready (rs := [6]) (by kernel_rfl) (by simp) ?_
  refine AllReadyH.cons (by simp only [List.getElem?_toArray, List.getElem?_cons_succ, List.getElem?_cons_zero]; rfl) (fun K hK => ?_) AllReadyH.nil
  go_simp
  refine (hdelf_to cw B (.slice po no co) os HWq.out.oo H3.out (Nat.le_trans HL.out (by decide)) _ _ _ (close_cb (i := i) (nb := nb) (most := most) (mv := mv) (ov := .slice po no co) (f := f) ib) (fun V ho => ⟨(ho.block ib (Array.getElem?_eq_some_iff.1 HBq.out).1 (own_apart HWq.out.oo HBq.out (by decide))).trans HBq.out, HWq.out.im.keep ho (own_apart HWq.out.oo HWq.out.cell (by decide)) (by obtain ⟨M, m1, _⟩ := HWq.out.mp; exact own_ne_map HWq.out.oo m1)⟩)).mono ?_
  rintro e cx ⟨v', rfl, o', t', l'⟩
  rw [flt_dd HK.out, ← HOS.out] at o'
  obtain ⟨pv, nv, cv, rfl, hnv⟩ := own_sh o'
  obtain ⟨h3, t3, l3⟩ := HW.out.pushO Bq.out o' t' (fun j hj => .inl (l' j hj))
  have HBx := Lib.hid ((t'.block ib (Array.getElem?_eq_some_iff.1 HBq.out).1 (own_apart HWq.out.oo HBq.out (by decide))).trans HBq.out)
  have hcx := (t'.block i (Array.getElem?_eq_some_iff.1 HWq.out.cell).1 (own_apart HWq.out.oo HWq.out.cell (by decide))).trans HWq.out.cell
  have HCX := Lib.hid hcx
  have H3A := Lib.hid h3
  have T3 := Lib.hid t3
  have L3 := Lib.hid l3
  have HNV := Lib.hid hnv
  have HB3 : Hid ((cx.setCell ⟨i, 2, none⟩ (.slice pv nv cv)).heap[ib]? = some (.cells #[ip i] 24 (0, 0))) := Lib.hid (((Only.refl (fun j => j = i) cx).setCell (p := ⟨i, 2, none⟩) rfl _ |>.block ib (Array.getElem?_eq_some_iff.1 HBx.out).1 (fun e => by have h1 := HBx.out; rw [e, HCX.out] at h1; injection h1 with h1; injection h1 with _ h1 _; revert h1; decide)).trans HBx.out)
  clear o' t' l' h3 t3 l3 hnv hcx HWq HBq
  go_wp2_with fail
  refine hK.out _ _ (cell_obj HBx.out 0 rfl) (fun hHeld => ?_)
  clear hK K
  try simp only [Act.put, List.setIfInBounds_toArray, List.set_cons_zero, List.set_cons_succ]
  refine wpAnyH_take (i := 7) (v := ?_) (by simp only [List.getElem?_toArray, List.getElem?_cons_succ, List.getElem?_cons_zero]; rfl) (by kernel_rfl) (by kernel_rfl) (by kernel_rfl) (fun _ _ _ h => h) (Or.inl ⟨by rfl, ?_⟩) (by assumption) ?_
  rotate_left
  · intro w hSw
    try dsimp only at hSw
    go_simp
    try with_reducible rfl
  try simp only [Act.put, List.setIfInBounds_toArray, List.set_cons_zero, List.set_cons_succ]
  refine wpAnyH_take (i := 8) (v := ?_) (by simp only [List.getElem?_toArray, List.getElem?_cons_succ, List.getElem?_cons_zero]; rfl) (by kernel_rfl) (by kernel_rfl) (by kernel_rfl) (fun _ _ _ h => h) (Or.inl ⟨by rfl, ?_⟩) (by assumption) ?_
  rotate_left
  · intro w hSw
    try dsimp only at hSw
    go_simp
    try with_reducible rfl
  try simp only [Act.put, List.setIfInBounds_toArray, List.set_cons_zero, List.set_cons_succ]
  refine wpAnyH_ready (rs := [9]) (by kernel_rfl) (by simp) ?_
  refine AllReadyH.cons (by simp only [List.getElem?_toArray, List.getElem?_cons_succ, List.getElem?_cons_zero]; rfl) (fun K hK => ?_) AllReadyH.nil
  have hc9 := cell_obj HCX.out 2 rfl
  have hf9 : cx.frozen? ⟨i, 2, none⟩ = false := frozen_of_row _ _ _ _ _ HCX.out
  go_simp
  refine hK.out _ _ (cell_obj HB3.out 0 rfl) (fun hHeld => ?_)
  clear hc9 hf9
  clear hK K
  try simp only [Act.put, List.setIfInBounds_toArray, List.set_cons_zero, List.set_cons_succ]
  refine wpAnyH_done (by kernel_rfl) ?_ _
  refine NoPanic.normal ?_
  clear hHeld HBx HCX
  generalize cx.setCell ⟨i, 2, none⟩ (.slice pv nv cv) = w3 at *
  clear HK
  have hc1 := cell_obj HB3.out 0 rfl
  have hc2 := H3A.out.c (k := 2) rfl
  go_wp2_with fail
  clear hc1 hc2
  go_loopw [18] (fun v18 wr => ∃ k : Nat, v18 = .int .i64 k ∧ k ≤ nv ∧ Hid (IA wr B i nb most mv (.slice pv nv cv) ms os' (renum (os'.take k) f)) ∧ Hid (Only (iS i nb mv (.slice po no co)) w wr) ∧ Hid (wr.heap[ib]? = some (.cells #[ip i] 24 (0, 0)))) (fun v18 _ => nv - (intOf v18).toNat)
  case atStart => exact ⟨0, rfl, Nat.zero_le _, Lib.hid (by rw [List.take_zero, renum_nil]; exact H3A.out), T3, HB3⟩
  case round =>
    clear H3A T3 HB3
    obtain ⟨k, rfl, hk, HA, T, HC⟩ := hrel
    by_cases hlt : k < nv
    · have hl1 : (k : Int) < nv := by omega
      obtain ⟨j1, j2, j3⟩ := next_fit hlt (by have := HO32.out.2.2; have := HNV.out; omega)
      have hkE : k < os'.length := by rw [← HNV.out]; exact hlt
      obtain ⟨bb, o, c', e1, hrg⟩ := (HSeen.own HA.out.oo).at HO32.out.1 hkE
      injection e1 with e1 e2 e3
      subst e1
      have htk : os'.take (k + 1) = os'.take k ++ [os'[k]] := List.take_succ_eq_append_getElem hkE
      have hat : os'[k]? = some os'[k] := List.getElem?_eq_getElem hkE
      obtain ⟨x, hx⟩ : ∃ x, x = os'[k] := ⟨_, rfl⟩
      rw [← hx] at hrg htk hat
      have HX : Hid (x.length = 32) := Lib.hid (by rw [hx]; exact HO32.out.1.at hkE)
      have HNI : Hid (x ∉ os'.take k) := Lib.hid (fun hm => by
        obtain ⟨j, hj, hjk⟩ := idx_take hm
        have := idx_at HO32.out.2.1 hat
        rw [hj] at this
        injection this with this
        omega)
      have HTL : Hid ((os'.take k).length = k) := Lib.hid (by rw [List.length_take]; omega)
      have hld0 := hld_range HX.out hrg
      have st := hst_cells x HX.out wr
      have hks : (hv x).size = 32 := by rw [hv_size, HX.out]
      have AL := Lib.hid (below_al11 wr (.cells (hv x) 31))
      have HBX := Lib.hid (heap_alloc_last wr (.cells (hv x) 31))
      have HA4 := Lib.hid (HA.out.kb AL.out)
      have T4 : Hid (Only (iS i nb mv (.slice po no co)) w (wr.alloc (.cells (hv x) 31))) := Lib.hid (T.out.trans (Only.of_below (S := iS i nb mv (.slice po no co)) AL.out) (fun _ h => h) (fun _ _ h => h))
      have HC4 := Lib.hid ((mild_below AL.out).cells HC.out)
      have HTK := Lib.hid htk
      have HLT := Lib.hid hlt
      have HJ := Lib.hid j1
      clear hx hrg htk hat hkE hk e2 e3 HA T HC
      go_upto_region 5 with fail
      clear st hld0
      generalize wr.alloc (.cells (hv x) 31) = w4 at *
      generalize wr.heap.size = xb at *
      have bq : Below w4.heap.size w4 w4.drew := blw_qt _ 1 w4
      have HA5 := Lib.hid (HA4.out.kb bq)
      have HC5 := Lib.hid ((mild_below bq).cells HC4.out)
      have HB5 := Lib.hid ((mild_below bq).cells HBX.out)
      have T5 : Hid (Only (iS i nb mv (.slice po no co)) w w4.drew) := Lib.hid (T4.out.trans (Only.of_below (S := iS i nb mv (.slice po no co)) bq) (fun _ h => h) (fun _ _ h => h))
      clear bq HA4 T4 HC4 HBX
      have HWR : Hid (IntKind.i64.wrap (1099511627776 + (k : Int)) = split + (k : Int)) := Lib.hid (IntWalk.i64_in _ (by have := HO32.out.2.2; have := HNV.out; omega))
      go_wp2_with fail
      try simp only [List.append]
      refine wp_region_noPanic ?_
      refine wp_region_held_drew (S := (fun V => V.cell? ⟨ib, 0, none⟩ = some (ip i) ∧ V.cell? ⟨i, 3, none⟩ = some (.map (some nb)) ∧ (hld ⟨xb, 0, none⟩).run Tryz.prog V = .ok (.agg (hv x)) V)) (by kernel_rfl) ⟨cell_obj HC5.out 0 rfl, HA5.out.c (k := 3) rfl, hld_row HX.out HB5.out⟩ (fun hHeld => ?_)
      generalize w4.drew = cw at *
      obtain ⟨wm, hmu, h6, o6⟩ := HA5.out.upd x HX.out (split + (k : Int)) (L ++ os'.take k) (renum_sup HLS.out) (by rw [List.length_append, HTL.out]; have := HLL.out; have := HO32.out.2.2; have := HNV.out; omega)
      have hp := renum_put (l := os'.take k) f HNI.out
      rw [HTL.out, ← HTK.out] at hp
      rw [hp] at h6
      have HMU := Lib.hid hmu
      have HA6 := Lib.hid h6
      have HC6 := Lib.hid ((o6.block ib (Array.getElem?_eq_some_iff.1 HC5.out).1 (fun e => by obtain ⟨M, m1, _⟩ := HA5.out.mp; obtain ⟨es, cc, hm⟩ := m1.ismap; have h1 := HC5.out; rw [e, hm] at h1; cases h1)).trans HC5.out)
      have HB6 := Lib.hid ((o6.block xb (Array.getElem?_eq_some_iff.1 HB5.out).1 (fun e => by obtain ⟨M, m1, _⟩ := HA5.out.mp; obtain ⟨es, cc, hm⟩ := m1.ismap; have h1 := HB5.out; rw [e, hm] at h1; cases h1)).trans HB5.out)
      have T6 : Hid (Only (iS i nb mv (.slice po no co)) w wm) := Lib.hid (T5.out.trans o6 (fun _ h => h) (fun _ _ h => .inr (.inl h)))
      clear hmu h6 o6 hp T5 HA5
      refine wpAnyH_take (i := 0) (v := ?_) (by simp only [List.getElem?_toArray, List.getElem?_cons_zero]; rfl) (by kernel_rfl) (by kernel_rfl) (by kernel_rfl) (fun _ _ _ h => h) (Or.inl ⟨by rfl, ?_⟩) (by assumption) ?_
      rotate_left
      · intro w hSw
        try dsimp only at hSw
        go_simp
        try with_reducible rfl
      try simp only [Act.put, List.setIfInBounds_toArray, List.set_cons_zero, List.set_cons_succ]
      refine wpAnyH_take (i := 1) (v := ?_) (by simp only [List.getElem?_toArray, List.getElem?_cons_succ, List.getElem?_cons_zero]; rfl) (by kernel_rfl) (by kernel_rfl) (by kernel_rfl) (fun _ _ _ h => h) (Or.inl ⟨by rfl, ?_⟩) (by assumption) ?_
      rotate_left
      · intro w hSw
        try dsimp only at hSw
        go_simp
        try with_reducible rfl
      try simp only [Act.put, List.setIfInBounds_toArray, List.set_cons_zero, List.set_cons_succ]
      refine wpAnyH_take (i := 2) (v := ?_) (by simp only [List.getElem?_toArray, List.getElem?_cons_succ, List.getElem?_cons_zero]; rfl) (by kernel_rfl) (by kernel_rfl) (by kernel_rfl) (fun _ _ _ h => h) (Or.inl ⟨by rfl, ?_⟩) (by assumption) ?_
      rotate_left
      · intro w hSw
        try dsimp only at hSw
        go_simp
        try with_reducible rfl
      try simp only [Act.put, List.setIfInBounds_toArray, List.set_cons_zero, List.set_cons_succ]
      refine wpAnyH_take (i := 3) (v := ?_) (by simp only [List.getElem?_toArray, List.getElem?_cons_succ, List.getElem?_cons_zero]; rfl) (by kernel_rfl) (by kernel_rfl) (by kernel_rfl) (fun _ _ _ h => h) (Or.inl ⟨by rfl, ?_⟩) (by assumption) ?_
      rotate_left
      · intro w hSw
        try dsimp only at hSw
        go_simp
        try with_reducible rfl
      try simp only [Act.put, List.setIfInBounds_toArray, List.set_cons_zero, List.set_cons_succ]
      refine wpAnyH_take (i := 4) (v := ?_) (by simp only [List.getElem?_toArray, List.getElem?_cons_succ, List.getElem?_cons_zero]; rfl) (by kernel_rfl) (by kernel_rfl) (by kernel_rfl) (fun _ _ _ h => h) (Or.inl ⟨by rfl, ?_⟩) (by assumption) ?_
      rotate_left
      · intro w hSw
        try dsimp only at hSw
        go_simp
        try with_reducible rfl
      try simp only [Act.put, List.setIfInBounds_toArray, List.set_cons_zero, List.set_cons_succ]
      refine wpAnyH_take (i := 5) (v := ?_) (by simp only [List.getElem?_toArray, List.getElem?_cons_succ, List.getElem?_cons_zero]; rfl) (by kernel_rfl) (by kernel_rfl) (by kernel_rfl) (fun _ _ _ h => h) (Or.inl ⟨by rfl, ?_⟩) (by assumption) ?_
      rotate_left
      · intro w hSw
        try dsimp only at hSw
        go_simp
        try with_reducible rfl
      try simp only [Act.put, List.setIfInBounds_toArray, List.set_cons_zero, List.set_cons_succ]
      refine wpAnyH_take (i := 6) (v := ?_) (by simp only [List.getElem?_toArray, List.getElem?_cons_succ, List.getElem?_cons_zero]; rfl) (by kernel_rfl) (by kernel_rfl) (by kernel_rfl) (fun _ _ _ h => h) (Or.inl ⟨by rfl, ?_⟩) (by assumption) ?_
      rotate_left
      · intro w hSw
        try dsimp only at hSw
        go_simp
        try with_reducible rfl
      try simp only [Act.put, List.setIfInBounds_toArray, List.set_cons_zero, List.set_cons_succ]
      refine wpAnyH_ready (rs := [7]) (by kernel_rfl) (by simp) ?_
      refine AllReadyH.cons (by simp only [List.getElem?_toArray, List.getElem?_cons_succ, List.getElem?_cons_zero]; rfl) (fun K hK => ?_) AllReadyH.nil
      refine step_upd rfl _ _ _ rfl (by rfl) (by rfl) (by show Value.int .i64 (IntKind.i64.wrap (1099511627776 + (k : Int))) = _; rw [HWR.out]) HMU.out ?_
      refine hK.out _ _ ⟨cell_obj HC6.out 0 rfl, HA6.out.c (k := 3) rfl, hld_row HX.out HB6.out⟩ (fun hHeld => ?_)
      clear hK K
      try simp only [Act.put, List.setIfInBounds_toArray, List.set_cons_zero, List.set_cons_succ]
      refine wpAnyH_done (by kernel_rfl) ?_ _
      refine NoPanic.normal ?_
      clear hHeld
      go_wp2_with fail
      refine ⟨⟨k + 1, by first | rw [HJ.out] | rfl, HLT.out, HA6, T6, HC6⟩, ?_⟩
      first | exact meas_nv HLT.out HJ.out | exact meas_nw HLT.out
    · obtain rfl : k = nv := by omega
      have hl2 : ¬ (k : Int) < k := by omega
      clear hlt hk
      go_wp2_with fail
      refine bodyPost_end (results_none rfl _ _ _) rfl ?_
      have h := HA.out
      rw [List.take_of_length_le (by rw [HNV.out]; exact Nat.le_refl _)] at h
      exact ⟨rfl, _, _, h, T.out, L3.out⟩
end Go.Proofs.YtnpeahbbcolfmaaGreatDoor
namespace Go.Proofs.YtnpeahbbcolfmaaGreatDoor
open Go.RowKit Go.Shelf Go.Lib
open Go.Maps
def Tryz.hgrow_ren : Go.Shelf.Ren := ⟨fun | 4 => 82 | n => n, fun | 22 => 32 | 25 => 31 | 3 => 3 | 4 => 4 | 9 => 9 | 20 => 20 | 0 => 0 | n => n, fun | n => n⟩
theorem Tryz.hgrow : Go.Proofs.Lays8.n4 Tryz.prog Tryz.hgrow_ren := {
  mixed := by kernel_rfl
  f4 := ⟨Tryz.f82.name, by decide, Tryz.func82.trans (congrArg some (by kernel_rfl))⟩
  t0 := Tryz.underlying0
  a0 := Tryz.isAgg0
  z0 := Tryz.sizeOf0
  v0 := Tryz.zeroValue0
  t3 := Tryz.underlying3
  a3 := Tryz.isAgg3
  z3 := Tryz.sizeOf3
  v3 := Tryz.zeroValue3
  t4 := Tryz.underlying4
  a4 := Tryz.isAgg4
  z4 := Tryz.sizeOf4
  v4 := Tryz.zeroValue4
  t9 := Tryz.underlying9
  a9 := Tryz.isAgg9
  z9 := Tryz.sizeOf9
  v9 := Tryz.zeroValue9
  t20 := Tryz.underlying20
  a20 := Tryz.isAgg20
  z20 := Tryz.sizeOf20
  v20 := Tryz.zeroValue20
  t22 := Tryz.underlying32
  a22 := Tryz.isAgg32
  z22 := Tryz.sizeOf32
  v22 := Tryz.zeroValue32 }

theorem hseen_fits {n m : Nat} (h : n + m ≤ 1000000) : n + m ≤ maxLen ∧ (n + m) * 32 ≤ 140737488355328 := by unfold maxLen; omega
theorem run_append_none_h {w : World} (base : Nat) (t ty e : TypeId) (i : TypeInfo) (size c : Nat) (ht : Tryz.prog.underlying t = some (.slice e)) (hi : Tryz.prog.info? e = some i)
    (v : Value) (n : Nat) (xs : List Value) (hown : w.ownsRow base e size v n xs) :
    (Builtin.append_ #[t, t] ty #[v, .slice none 0 c]).run Tryz.prog w = .ok v w := by
  rcases hown.2 with ⟨rfl, rfl⟩ | ⟨g, cap, cur, rfl, _, _, hnc, _⟩
  · simp [Builtin.append_, run_underlying ht, sizeOf, typeInfo, hi, Builtin.lenOf, Builtin.firstCells]
  · simp [Builtin.append_, run_underlying ht, sizeOf, typeInfo, hi, Builtin.lenOf, Builtin.firstCells, hnc, storeCells]
/-- What append does with a row of the call's own and one that is read. -/
theorem run_push_hs (w : World) (ty : TypeId) (B : Nat) (v u : Value) (l m : List Key) (hown : HOwn w B v l) (hu : HSeen w u m) (h32 : H32 m) (hl : l.length + m.length ≤ 1000000) (hB : B ≤ w.heap.size) :
    ∃ p' c' w', (Builtin.append_ #[32, 32] ty #[v, u]).run Tryz.prog w = .ok (.slice p' (l.length + m.length) c') w' ∧ HOwn w' B (.slice p' (l.length + m.length) c') (l ++ m) ∧ Only (fun j => v.ownBlock = some j) w w' ∧ (∀ j, (Value.slice p' (l.length + m.length) c').ownBlock = some j → v.ownBlock = some j ∨ w.heap.size ≤ j) ∧ Below B w w' := by
  obtain ⟨i0, hi0, hz0, hz1, hz2⟩ := info_parts hzinfo
  have hf := hseen_fits hl
  rcases hu with ⟨rfl, rfl⟩ | ⟨a, cap, rfl, hc, hs⟩
  · obtain ⟨p', c', rfl⟩ := own_shape hown
    refine ⟨p', c', w, run_append_none_h B _ ty 31 i0 32 0 Tryz.underlying32 hi0 _ _ _ hown, by simpa using hown, ⟨rfl, rfl, rfl, Nat.le_refl _, fun _ _ _ => rfl⟩, fun j hj => .inl hj, Below.refl _ _⟩
  · obtain ⟨v', w', hr, h2, h3, h4, h5⟩ := run_append_own_at (P := Tryz.prog) (w := w) B 32 ty 31 i0 _ 32 32 Tryz.underlying32 hi0 hz0 hz1 hz2 rfl (by decide) v l.length (fl l) hown a m.length cap (fl m) (fl_length h32) hs (fl_one' m) hf.1 hf.2 hB
    have hO : HOwn w' B v' (l ++ m) := by
      unfold HOwn
      rw [List.length_append, fl_app]
      exact h2
    obtain ⟨p', c', rfl⟩ := own_shape hO
    rw [List.length_append] at hr hO h5
    have ho : Only (fun j => v.ownBlock = some j) w w' := (Only.refl _ w).grown h3 (fun k _ e => e)
    refine ⟨p', c', w', hr, hO, ho, fun j hj => ?_, ho.below hB (fun k hk => own_from hown k hk)⟩
    rcases h5 with h5 | h5
    · rw [h5] at hj; exact .inl hj
    · rw [h5] at hj
      injection hj with hj
      exact .inr (by omega)
section
variable {ops : Array Oper} {rest : List Oper} {a : Act} {Q : Exit → Act → World → Prop} {o : Oper} {w : World}
theorem push_hs (hgd : o.guard = none) (s x : Operand) (ho : o.op = .call { callee := .builtin .append, args := #[s, x], argTypes := #[32, 32] })
    (B : Nat) (v u : Value) (l m : List Key) (hs : a.eval s = v) (hown : HOwn w B v l) (hx : a.eval x = u) (hu : HSeen w u m) (h32 : H32 m) (hl : l.length + m.length ≤ 1000000) (hB : B ≤ w.heap.size)
    (h : ∀ p' c' w', HOwn w' B (.slice p' (l.length + m.length) c') (l ++ m) → Only (fun j => v.ownBlock = some j) w w' → (∀ j, (Value.slice p' (l.length + m.length) c').ownBlock = some j → v.ownBlock = some j ∨ w.heap.size ≤ j) → Below B w w' → wpList Tryz.prog ops Q rest (a.put o.dst (.slice p' (l.length + m.length) c')) w') :
    wpList Tryz.prog ops Q (o :: rest) a w := by
  refine wpList_plain hgd fun K hK => ?_
  obtain ⟨p', c', w', hr, h1, h2, h3, h4⟩ := run_push_hs w o.type B v u l m hown hu h32 hl hB
  unfold Oper.wp execOp
  simp only [ho, resolve, invoke, builtin, Sem.run_bind, Sem.run_pure, Result.andThen_ok, List.map_toArray, List.map_cons, List.map_nil, hs, hx, hr]
  exact hK _ _ (h p' c' w' h1 h2 h3 h4)
end
/-- slices.Grow of nil. -/
theorem hgrow_to (w : World) (n : Nat) (hn : n ≤ 1000000) : Calls Tryz.prog 82 #[.slice none 0 0, .int .i64 n] w fun e w' => ∃ p c, e = .returned (.slice p 0 c) ∧ HOwn w' w.heap.size (.slice p 0 c) [] ∧ Below w.heap.size w w' := by
  by_cases h0 : n = 0
  · subst h0
    refine (Any8.slices_Grow_room Tryz.hgrow none 0 0 0 w (Nat.le_refl _) (by decide) (by decide) (by decide)).mono ?_
    rintro e w' ⟨rfl, rfl⟩
    exact ⟨_, _, rfl, World.ownsRow_nil _ _ _ _, Below.refl _ _⟩
  · obtain ⟨i0, hi0, hz0, hz1, hz2⟩ := info_parts hzinfo
    refine (Any8.slices_Grow_grow Tryz.hgrow i0 _ hi0 hz0 (by omega) none 0 0 n [] w (Nat.le_refl _) (by omega) (by rw [hz2]; omega) (by omega) (by simp) (fun _ => rfl) (fun a h => by cases h)).mono ?_
    rintro e w' ⟨rfl, rfl⟩
    refine ⟨_, _, rfl, ?_, ?_⟩
    · refine hown_mk (R := (Builtin.zeroCells hzer (0 + n - 0) ++ Builtin.zeroCells hzer (grownCap w (0 + n) 0 31 - (0 + n))).toList) H32.nil rfl (Nat.le_refl _) ?_ (Nat.zero_le _) ?_ ?_
      · generalize hZ1 : Builtin.zeroCells hzer (0 + n - 0) = Z1
        generalize hZ2 : Builtin.zeroCells hzer (grownCap w (0 + n) 0 31 - (0 + n)) = Z2
        rw [show (fl [] ++ (Z1 ++ Z2).toList).toArray = #[] ++ Z1 ++ Z2 from by simp [fl], ← hZ1, ← hZ2]
        exact heap_alloc_last w.drew _
      · exact grownCap_le_maxLen w _ _ _ (by unfold maxLen; omega)
      · have h1 := grownCap_ge w (0 + n) 0 31
        have hsz : hzer.size = 32 := rfl
        have e : Tryz.hgrow_ren.t 25 = 31 := rfl
        rw [e]
        simp only [Array.length_toList, Array.size_append, size_zeroCells, List.length_nil, hsz]
        show (0 + n - 0) * 32 + (grownCap w (0 + n) 0 31 - (0 + n)) * 32 = _
        omega
    · exact (Below.refl _ w).drew.alloc (Nat.le_refl _) _
theorem hcat_fits {a b n : Nat} (h : a + b ≤ 1000000) (hn : n = a + b) : wrap64 (a : Int) = a ∧ wrap64 ((a : Int) + b) = n ∧ ¬ (a : Int) < 0 ∧ ¬ (n : Int) < 0 := by unfold wrap64; omega
theorem two_cells {W : World} {b : Nat} {x y : Value} {t : TypeId} (h : W.heap[b]? = some (.cells #[x, y] t (0, 0))) : W.cell? ⟨b, 0, none⟩ = some x ∧ W.cell? ⟨b, 1, none⟩ = some y := by
  rw [cell_of_row W b 0 _ _ _ h, cell_of_row W b 1 _ _ _ h]; exact ⟨rfl, rfl⟩
set_option maxHeartbeats 4000000 in
theorem hconcat_to (w : World) (g : Nat) (v u : Value) (a b : List Key) (hg : w.heap[g]? = some (.cells #[v, u] 32 (0, 0))) (hv : HSeen w v a) (hu : HSeen w u b) (ha : H32 a) (hb : H32 b) (hl : a.length + b.length ≤ 1000000) :
    Calls Tryz.prog 41 #[.slice (some ⟨g, 0, none⟩) 2 2] w fun e w' => ∃ v', e = .returned v' ∧ HOwn w' w.heap.size v' (a ++ b) ∧ Below w.heap.size w w' := by
  obtain ⟨pa, ca, rfl⟩ := hv.shape
  obtain ⟨pb, cb, rfl⟩ := hu.shape
  obtain ⟨c1, c2⟩ := two_cells hg
  have HG := Lib.hid hg
  have HV := Lib.hid hv
  have HU := Lib.hid hu
  have HA := Lib.hid ha
  have HB := Lib.hid hb
  obtain ⟨n, hn⟩ : ∃ n, n = a.length + b.length := ⟨_, rfl⟩
  obtain ⟨f1, f2, f3, f4⟩ := hcat_fits hl hn
  have HL := Lib.hid hl
  have HLA : Hid (([] : List Key).length + a.length ≤ 1000000) := Lib.hid (by simp; omega)
  have HGR := Lib.hid (hgrow_to w n (by omega))
  clear hg hv hu hl hn ha hb
  go_enter Tryz.func41, Tryz.ntmps41
  go_wp2_with fail
  refine wp_loop_rounds 3 ?_
  rw [rounds_succ]
  go_wp2_with fail
  rw [rounds_succ]
  go_wp2_with fail
  rw [rounds_succ]
  go_wp2_with fail
  refine HGR.out.mono ?_
  rintro e w1 ⟨p1, c1', rfl, o1, b1⟩
  have O1 := Lib.hid o1
  have B1 := Lib.hid b1
  obtain ⟨x1, x2⟩ := two_cells ((b1.block g (Array.getElem?_eq_some_iff.1 HG.out).1).trans HG.out)
  clear o1 b1 c1 c2
  go_wp2_with fail
  refine wp_loop_rounds 3 ?_
  rw [rounds_succ]
  go_wp2_with (first
    | (at_builtin; refine push_hs (by rfl) (.tmp 31) (.tmp 32) (by rfl) w.heap.size _ _ [] a (by rfl) O1.out (by rfl) (HV.out.mild (mild_below B1.out)) HA.out HLA.out B1.out.size ?_; intro p2 c2 w2 own2 _ _ b2; have O2 := Lib.hid own2; have B2 := Lib.hid (B1.out.trans b2); obtain ⟨y1, y2⟩ := two_cells ((B2.out.block g (Array.getElem?_eq_some_iff.1 HG.out).1).trans HG.out); clear own2 b2 x1 x2))
  have O2' : Hid (HOwn w2 w.heap.size (.slice p2 a.length c2) a) := Lib.hid (by simpa using O2.out)
  rw [rounds_succ]
  go_wp2_with (first
    | (at_builtin; refine push_hs (by rfl) (.tmp 31) (.tmp 32) (by rfl) w.heap.size _ _ a b (by rfl) O2'.out (by rfl) (HU.out.mild (mild_below B2.out)) HB.out HL.out B2.out.size ?_; intro p3 c3 w3 own3 _ _ b3; have O3 := Lib.hid own3; have B3 := Lib.hid (B2.out.trans b3); clear own3 b3 y1 y2))
  rw [rounds_succ]
  go_wp2_with fail
  go_ret
  exact ⟨_, rfl, O3.out, B3.out⟩
end Go.Proofs.YtnpeahbbcolfmaaGreatDoor
namespace Go.Proofs.YtnpeahbbcolfmaaGreatDoor
open Go.RowKit
open Go.Maps
theorem made_hashes (w : World) (m : Nat) (hm : m ≤ 1000000) : ∃ w' : World, (Instr.makeSlice 32 (.int .i64 (m : Int)) (.int .i64 (m : Int))).run Tryz.prog w = .ok (.slice (some ⟨w.heap.size, 0, none⟩) m m) w' ∧ w'.heap[w.heap.size]? = some (.cells (fl (List.replicate m hz)).toArray 31 (0, 0)) ∧ Below w.heap.size w w' := by
  obtain ⟨i0, hi0, hz0, hz1, hz2⟩ := info_parts hzinfo
  obtain ⟨w', h1, h2, h3⟩ := run_make_full (P := Tryz.prog) w w.heap.size 32 31 i0 _ 32 Tryz.underlying32 hi0 hz0 hz1 .i64 .i64 m (by rw [hz2]; omega) (by unfold maxLen; omega) (Nat.le_refl _)
  refine ⟨w', h1, ?_, (Below.refl _ w).grown h3 (Nat.le_refl _) (fun k hk => by cases hk)⟩
  have e : (madeCells (Value.agg hzer).cells (m * 32)).toList = fl (List.replicate m hz) := by
    rw [fl_zero, show (Value.agg hzer).cells = Array.replicate 32 (.int .u8 0) from hzer_rep]
    apply List.ext_getElem
    · simp [madeCells]
    · intro j h1 h2
      simp only [List.length_replicate] at h2
      simp [madeCells, Nat.mod_lt]
  rw [e] at h2
  rcases h2.2 with ⟨h4, _⟩ | ⟨g, cap, cur, h4, _, hg, _, _, hs, hc⟩
  · cases h4
  · simp only [Value.slice.injEq, Option.some.injEq, Addr.mk.injEq, and_true, true_and] at h4
    obtain ⟨e1, e3⟩ := h4
    rw [← e1] at hg
    rw [← e3] at hs
    rw [List.take_of_length_le (by rw [Array.length_toList, hs]; exact Nat.le_refl _)] at hc
    rw [← hc, Array.toArray_toList]
    exact hg
set_option linter.unusedSimpArgs false in
set_option maxRecDepth 20000 in
set_option maxHeartbeats 4000000 in
attribute [local go_sem ↓] hld_open cld_open in
theorem named_to (w : World) (v : Value) (cs : List Cm) (hv' : CSeen w v cs) (hok : COk cs) (hl : cs.length ≤ 1000000) :
    Calls Tryz.prog 42 #[v] w fun e w' => ∃ v', e = .returned v' ∧ HOwn w' w.heap.size v' (cs.map (·.1)) ∧ Below w.heap.size w w' := by
  obtain ⟨p, cap, rfl, hc⟩ := id hv'
  clear hc
  obtain ⟨n, hn⟩ : ∃ n, n = cs.length := ⟨_, rfl⟩
  rw [← hn] at hv' hl ⊢
  obtain ⟨wm, hmk, hmr, bm⟩ := made_hashes w n hl
  have HV := Lib.hid hv'
  have HO := Lib.hid hok
  have HN := Lib.hid hn
  have HL := Lib.hid hl
  have BM := Lib.hid bm
  have HR := Lib.hid hmr
  clear hv' hok hl hn bm hmr
  go_enter Tryz.func42, Tryz.ntmps42
  go_wp2_with fail
  obtain ⟨gb, hgb⟩ : ∃ gb, gb = w.heap.size := ⟨_, rfl⟩
  rw [← hgb] at HR ⊢
  have HGB := Lib.hid hgb
  clear hgb hmk
  go_loopw [11] (fun v11 wr => ∃ (k : Nat) (D : List Key), v11 = .int .i64 k ∧ k ≤ n ∧ Hid (wr.heap[gb]? = some (.cells (fl D).toArray 31 (0, 0))) ∧ Hid (H32 D ∧ D.length = n ∧ D.take k = (cs.take k).map (·.1)) ∧ Hid (Below w.heap.size w wr)) (fun v11 _ => n - (intOf v11).toNat)
  case atStart => exact ⟨0, List.replicate n hz, rfl, Nat.zero_le _, HR, Lib.hid ⟨fun x hx => by rw [List.eq_of_mem_replicate hx]; rfl, by simp, by simp⟩, BM⟩
  case round =>
    clear HR BM
    obtain ⟨k, D, rfl, hk, HR, HD, B⟩ := hrel
    by_cases hlt : k < n
    · have hl1 : (k : Int) < n := by omega
      obtain ⟨j1, j2, j3⟩ := next_fit hlt HL.out
      have hkc : k < cs.length := by rw [← HN.out]; exact hlt
      obtain ⟨p', cap', e1, hc⟩ := HV.out.kb B.out
      injection e1 with e1 e2 e3
      obtain ⟨b, o, u, rfl, hrg, hsn⟩ := hc k cs[k] (List.getElem?_eq_getElem hkc)
      subst e1
      have htk : cs.take (k + 1) = cs.take k ++ [cs[k]] := List.take_succ_eq_append_getElem hkc
      have hoki := HO.out _ (List.getElem_mem hkc)
      obtain ⟨⟨h, E⟩, hce⟩ : ∃ c : Cm, c = cs[k] := ⟨_, rfl⟩
      rw [← hce] at hrg hsn hoki htk
      dsimp only at hrg hsn hoki
      have hh := hoki.1
      obtain ⟨pu, cu, rfl⟩ := hsn.shape
      generalize E.length = m at *
      have hld0 := cld_range hh hrg
      have st := cst_cells h (.slice pu m cu) hh rfl wr
      have hks : (cmv h (.slice pu m cu)).size = 33 := cmv_size hh _
      have AL := Lib.hid (below_al11 wr (.cells (cmv h (.slice pu m cu)) 34))
      have HB := Lib.hid (heap_alloc_last wr (.cells (cmv h (.slice pu m cu)) 34))
      have HR4 := Lib.hid ((mild_below AL.out).cells HR.out)
      have B4 := Lib.hid (B.out.trans (AL.out.mono B.out.size))
      have HH := Lib.hid hh
      have HTK := Lib.hid htk
      have HLT := Lib.hid hlt
      have HJ := Lib.hid j1
      clear hrg hsn hoki hh htk hce hkc hc e2 e3 hk
      go_upto_region 5 with fail
      clear st hld0
      generalize wr.alloc (.cells (cmv h (.slice pu m cu)) 34) = w4 at *
      generalize wr.heap.size = xb at *
      have hld4 := cm_hld (w := w4) HH.out HB.out
      have HT : Hid (w4.there gb (k * 32) (hv h).size) := Lib.hid (row_there HR4.out (by rw [hv_size, HH.out, fl_length HD.out.1, HD.out.2.1]; have := HLT.out; omega))
      have h1 := cells_puts (us (nmb h)) (k * 32) (fl D) w4 HR4.out (by rw [usn_length, HH.out, fl_length HD.out.1, HD.out.2.1]; have := HLT.out; omega)
      have h2 := puts_fl HD.out.1 [] (i := k) (by rw [HD.out.2.1]; exact HLT.out) HH.out
      rw [List.append_nil, List.append_nil] at h2
      rw [h2] at h1
      have HS := Lib.hid h1
      have OS := Lib.hid (Only.setCells (S := fun j => j = gb) (b := gb) rfl (us (nmb h)) (k * 32) (Only.refl (fun j => j = gb) w4))
      clear h1 h2
      go_wp2_with (refine store_to HT.out (hinfo (hv h) (by rw [hv_size, HH.out])) (hv_one _) ?hx ?hy ?_; (case hx => rfl); (case hy => simp [Act.eval]))
      refine ⟨⟨k + 1, D.set k h, by first | rw [HJ.out] | rfl, HLT.out, Lib.hid ?_, Lib.hid ⟨HD.out.1.set HH.out, by rw [List.length_set]; exact HD.out.2.1, ?_⟩, Lib.hid ?_⟩, ?_⟩
      · have := HS.out
        rw [← hv_list] at this
        exact this
      · rw [HTK.out, List.map_append, ← HD.out.2.2, List.take_succ_eq_append_getElem (by rw [List.length_set, HD.out.2.1]; exact HLT.out), List.getElem_set_self, List.take_set_of_le (Nat.le_refl _)]
        rfl
      · have := OS.out
        rw [← hv_list] at this
        exact B4.out.trans (this.below B4.out.size fun j hj => by rw [hj, HGB.out]; exact Nat.le_refl _)
      · first | exact meas_nv HLT.out HJ.out | exact meas_nw HLT.out
    · obtain rfl : k = n := by omega
      have hl2 : ¬ (k : Int) < k := by omega
      clear hlt hk
      go_wp2_with fail
      go_ret
      refine ⟨_, rfl, ?_, B.out⟩
      have h3 := HD.out.2.2
      rw [List.take_of_length_le (by rw [HD.out.2.1]; exact Nat.le_refl _), List.take_of_length_le (by rw [HN.out]; exact Nat.le_refl _)] at h3
      rw [← h3]
      exact hown_mk HD.out.1 HD.out.2.1.symm (by rw [HGB.out]; exact Nat.le_refl _) (R := []) (by rw [List.append_nil]; exact HR.out) (by rw [HD.out.2.1]; exact Nat.le_refl _) (by have := HL.out; unfold maxLen; omega) (by rw [HD.out.2.1]; simp)
end Go.Proofs.YtnpeahbbcolfmaaGreatDoor
namespace Go.Proofs.YtnpeahbbcolfmaaGreatDoor
open Go.RowKit
open Go.Maps
theorem idn_msnoc {ms os : List Key} {x : Key} (hx : x ∉ ms) : put1 (idn ms os) x (ms.length : Int) = idn (ms ++ [x]) os := by
  funext h
  unfold put1 idn
  rw [idx_snoc]
  by_cases e : h = x
  · subst e
    rw [if_pos rfl, idx_none.2 hx]
    simp
  · rw [if_neg e, if_neg (Ne.symm e)]
    simp
theorem idn_osnoc {ms os : List Key} {x : Key} (hm : x ∉ ms) (hx : x ∉ os) : put1 (idn ms os) x (split + (os.length : Int)) = idn ms (os ++ [x]) := by
  funext h
  unfold put1 idn
  rw [idx_snoc]
  by_cases e : h = x
  · subst e
    rw [if_pos rfl, idx_none.2 hm, idx_none.2 hx]
    simp
  · rw [if_neg e, if_neg (Ne.symm e)]
    simp
theorem idn_sup {ms os : List Key} : ∀ x, (idn ms os x).isSome = true → x ∈ ms ++ os := fun x hx => by
  by_cases h : x ∈ ms ++ os
  · exact h
  · have : idn ms os x = none := idn_none.2 ⟨fun h1 => h (List.mem_append_left _ h1), fun h1 => h (List.mem_append_right _ h1)⟩
    rw [this] at hx; cases hx
theorem isM_idn {ms os : List Key} (hl : ms.length ≤ 100000) (x : Key) : isM (idn ms os) x = decide (x ∈ ms) := by
  unfold isM
  cases hk : idx x ms with
  | some k =>
    have h1 := idx_lt hk
    rw [idn_m hk]
    simp only [List.mem_of_getElem? (idx_get hk), decide_true]
    exact decide_eq_true (by unfold split; omega)
  | none =>
    have hn := idx_none.1 hk
    rw [decide_eq_false hn]
    cases h2 : idx x os with
    | none => rw [idn_none.2 ⟨hn, idx_none.1 h2⟩]
    | some j => rw [idn_o hn h2]; exact decide_eq_false (by unfold split; omega)
theorem other_idn {ms os : List Key} (hl : ms.length ≤ 100000) {x : Key} (hx : x ∈ os) : decide ((idn ms os x).getD 0 ≥ split) = out ms x := by
  cases hk : idx x ms with
  | some k =>
    have h1 := idx_lt hk
    rw [idn_m hk]
    simp only [out, List.mem_of_getElem? (idx_get hk), decide_true, Bool.not_true]
    exact decide_eq_false (by show ¬ ((k : Int) ≥ split); unfold split; omega)
  | none =>
    have hn := idx_none.1 hk
    obtain ⟨j, hj⟩ := idx_some hx
    rw [idn_o hn hj]
    simp only [out, hn, decide_false, Bool.not_false]
    exact decide_eq_true (by show split + (j : Int) ≥ split; omega)
theorem renum_idn {ms os : List Key} : renum (oIn ms os) (idn ms os) = idn ms (oIn ms os) := by
  funext h
  unfold renum
  cases hk : idx h (oIn ms os) with
  | some k =>
    have hm := List.mem_of_getElem? (idx_get hk)
    have h1 := (List.mem_filter.1 hm).2
    simp at h1
    rw [idn_o h1 hk]
  | none =>
    have hn := idx_none.1 hk
    cases h2 : idx h ms with
    | some k => rw [idn_m h2, idn_m h2]
    | none =>
      have h3 := idx_none.1 h2
      rw [idn_none.2 ⟨h3, fun h4 => hn (List.mem_filter.2 ⟨h4, by simp [h3]⟩)⟩, idn_none.2 ⟨h3, hn⟩]
theorem IA.isl {W : World} {B i nb : Nat} {most : Int} {mv ov : Value} {ms os : List Key} {f : Key → Option Int} (h : IA W B i nb most mv ov ms os f) : ∃ p n c, mv = .slice p n c ∧ n = ms.length := own_sh h.om
/-- What raise leaves. -/
def RaPost (w0 w' : World) (B i nb : Nat) (most : Int) (mv ov : Value) (ms os R : List Key) (e : Ending) : Prop :=
  if (ms.length + R.length : Nat) > most then e = .returned (kind 13) ∧ Below w0.heap.size w0 w'
  else e = .returned .nilIface ∧ IPost w0 w' B i nb most mv ov (ms ++ R) (oIn (ms ++ R) os) (idn (ms ++ R) (oIn (ms ++ R) os))
set_option linter.unusedSimpArgs false in
set_option maxRecDepth 20000 in
set_option maxHeartbeats 8000000 in
attribute [local go_sem ↓] hld_open in
theorem iraise_to (w0 w : World) (b0 : Below w0.heap.size w0 w) (B i nb : Nat) (most : Int) (mv ov : Value) (ms os : List Key) (H : IA w0 B i nb most mv ov ms os (idn ms os)) (v : Value) (l : List Key) (ho : HOwn w w0.heap.size v l) (hn : l.Nodup) (h32 : H32 l) (hl : l.length ≤ 1000)
    (hnd : (ms ++ os).Nodup) (h32o : H32 os) (hlm : ms.length + os.length ≤ 1000) :
    Calls Tryz.prog 38 #[ip i, v] w fun e w' => RaPost w0 w' B i nb most mv ov ms os (l.filter (out ms)) e := by
  obtain ⟨pm, nm, cm, rfl, hnm⟩ := H.isl
  have hB : B ≤ w0.heap.size := Nat.le_trans H.lo.1 (Nat.le_of_lt (Array.getElem?_eq_some_iff.1 H.cell).1)
  have HBB := Lib.hid hB
  have H0 := Lib.hid H
  have B0 := Lib.hid b0
  have HW := Lib.hid (H.kb b0)
  have HLM := Lib.hid hlm
  have HND := Lib.hid hnd
  have H3O := Lib.hid h32o
  have HNM := Lib.hid hnm
  have HDF := Lib.hid (hdelf_to w w0.heap.size v l ho h32 (Nat.le_trans hl (by decide)) _ _ _ (ismaster_cb (i := i) (nb := nb) (most := most) (mv := .slice pm nm cm) (ov := ov) (f := idn ms os)) (fun V t => (H.kb (b0.trans (t.below b0.size fun j hj => own_from ho j hj))).im))
  have HF : Hid ((l.filter fun x => !(isM (idn ms os) x)) = l.filter (out ms)) := Lib.hid (List.filter_congr fun x _ => by rw [isM_idn (by omega)])
  obtain ⟨R, hR⟩ : ∃ R, R = l.filter (out ms) := ⟨_, rfl⟩
  rw [HF.out, ← hR] at HDF
  rw [← hR]
  have HRF : Hid (R.Nodup ∧ H32 R ∧ R.length ≤ 1000 ∧ ∀ x ∈ R, x ∉ ms) := Lib.hid ⟨by rw [hR]; exact hn.filter _, fun x hx => h32 x (by rw [hR] at hx; exact (List.mem_filter.1 hx).1), by rw [hR]; exact Nat.le_trans (List.length_filter_le _ _) hl, fun x hx => by rw [hR] at hx; have := (List.mem_filter.1 hx).2; simpa using this⟩
  have OW := Lib.hid (fun (V : World) (t : Only (fun j => v.ownBlock = some j) w V) => b0.trans (t.below b0.size fun j hj => own_from ho j hj))
  obtain ⟨sm, hsm⟩ : ∃ sm, sm = ms.length + R.length := ⟨_, rfl⟩
  have HSM := Lib.hid hsm
  obtain ⟨q, hq⟩ : ∃ q, q = decide (most < (sm : Int)) := ⟨_, rfl⟩
  have HQ := Lib.hid hq
  have hmf := hmf11
  clear b0 H ho hn h32 hl hnd h32o hlm hR HF hnm hB hq hsm
  go_enter Tryz.func38, Tryz.ntmps38
  go_wp2_with fail
  refine HDF.out.mono ?_
  rintro e w2 ⟨v2, rfl, o2, t2, l2⟩
  have B2 := Lib.hid (OW.out w2 t2)
  obtain ⟨pr, nr, cr, rfl, hnr⟩ := own_sh o2
  have O2 := Lib.hid o2
  have HNR := Lib.hid hnr
  have HA2 := Lib.hid (H0.out.kb B2.out)
  clear o2 t2 l2 hnr HDF OW HW B0
  have bq : Below w2.heap.size w2 w2.drew := blw_qt _ 1 w2
  have HA3 := Lib.hid (HA2.out.kb bq)
  have O3 := Lib.hid (own_below O2.out bq)
  have B3 := Lib.hid (B2.out.trans (bq.mono B2.out.size))
  have hsum : IntKind.i64.wrap ((nm : Int) + (nr : Int)) = (sm : Int) := by rw [HSM.out, ← HNM.out, ← HNR.out, IntWalk.i64_in _ (by have := HLM.out; have := HRF.out.2.2.1; have := HNM.out; have := HNR.out; omega)]; omega
  have hqq := HQ.out.symm
  clear bq HA2 O2 B2
  go_upto_region 2 with fail
  try simp only [List.append]
  refine wp_region_noPanic ?_
  refine wp_region_held_drew (S := (fun V => V.cell? ⟨i, 1, none⟩ = some (.slice pm nm cm) ∧ V.cell? ⟨i, 0, none⟩ = some (.int .i64 most))) (by kernel_rfl) ⟨HA3.out.c (k := 1) rfl, HA3.out.c (k := 0) rfl⟩ (fun hHeld => ?_)
  generalize w2.drew = w3 at *
  refine wpAnyH_take (i := 0) (v := ?_) (by simp only [List.getElem?_toArray, List.getElem?_cons_zero]; rfl) (by kernel_rfl) (by kernel_rfl) (by kernel_rfl) (fun _ _ _ h => h) (Or.inl ⟨by rfl, ?_⟩) (by assumption) ?_
  rotate_left
  · intro w hSw
    try dsimp only at hSw
    go_simp
    try with_reducible rfl
  try simp only [Act.put, List.setIfInBounds_toArray, List.set_cons_zero, List.set_cons_succ]
  refine wpAnyH_take (i := 1) (v := ?_) (by simp only [List.getElem?_toArray, List.getElem?_cons_succ, List.getElem?_cons_zero]; rfl) (by kernel_rfl) (by kernel_rfl) (by kernel_rfl) (fun _ _ _ h => h) (Or.inl ⟨by rfl, ?_⟩) (by assumption) ?_
  rotate_left
  · intro w hSw
    try dsimp only at hSw
    go_simp
    try with_reducible rfl
  try simp only [Act.put, List.setIfInBounds_toArray, List.set_cons_zero, List.set_cons_succ]
  refine wpAnyH_take (i := 2) (v := ?_) (by simp only [List.getElem?_toArray, List.getElem?_cons_succ, List.getElem?_cons_zero]; rfl) (by kernel_rfl) (by kernel_rfl) (by kernel_rfl) (fun _ _ _ h => h) (Or.inl ⟨by rfl, ?_⟩) (by assumption) ?_
  rotate_left
  · intro w hSw
    try dsimp only at hSw
    go_simp
    try with_reducible rfl
  try simp only [Act.put, List.setIfInBounds_toArray, List.set_cons_zero, List.set_cons_succ]
  refine wpAnyH_take (i := 3) (v := ?_) (by simp only [List.getElem?_toArray, List.getElem?_cons_succ, List.getElem?_cons_zero]; rfl) (by kernel_rfl) (by kernel_rfl) (by kernel_rfl) (fun _ _ _ h => h) (Or.inl ⟨by rfl, ?_⟩) (by assumption) ?_
  rotate_left
  · intro w hSw
    try dsimp only at hSw
    go_simp
    try with_reducible rfl
  try simp only [Act.put, List.setIfInBounds_toArray, List.set_cons_zero, List.set_cons_succ]
  refine wpAnyH_take (i := 4) (v := ?_) (by simp only [List.getElem?_toArray, List.getElem?_cons_succ, List.getElem?_cons_zero]; rfl) (by kernel_rfl) (by kernel_rfl) (by kernel_rfl) (fun _ _ _ h => h) (Or.inl ⟨by rfl, ?_⟩) (by assumption) ?_
  rotate_left
  · intro w hSw
    try dsimp only at hSw
    go_simp
    try with_reducible rfl
  try simp only [Act.put, List.setIfInBounds_toArray, List.set_cons_zero, List.set_cons_succ]
  refine wpAnyH_take (i := 5) (v := ?_) (by simp only [List.getElem?_toArray, List.getElem?_cons_succ, List.getElem?_cons_zero]; rfl) (by kernel_rfl) (by kernel_rfl) (by kernel_rfl) (fun _ _ _ h => h) (Or.inl ⟨by rfl, ?_⟩) (by assumption) ?_
  rotate_left
  · intro w hSw
    try dsimp only at hSw
    go_simp
    try with_reducible rfl
  try simp only [Act.put, List.setIfInBounds_toArray, List.set_cons_zero, List.set_cons_succ]
  refine wpAnyH_take (i := 6) (v := ?_) (by simp only [List.getElem?_toArray, List.getElem?_cons_succ, List.getElem?_cons_zero]; rfl) (by kernel_rfl) (by kernel_rfl) (by kernel_rfl) (fun _ _ _ h => h) (Or.inl ⟨by rfl, ?_⟩) (by assumption) ?_
  rotate_left
  · intro w hSw
    try dsimp only at hSw
    go_simp
    try with_reducible rfl
  try simp only [Act.put, List.setIfInBounds_toArray, List.set_cons_zero, List.set_cons_succ]
  refine wpAnyH_take (i := 7) (v := (.int .i64 (sm : Int))) (by simp only [List.getElem?_toArray, List.getElem?_cons_succ, List.getElem?_cons_zero]; rfl) (by kernel_rfl) (by kernel_rfl) (by kernel_rfl) (fun _ _ _ h => h) (Or.inl ⟨by rfl, ?_⟩) (by assumption) ?_
  · intro w hSw
    try dsimp only at hSw
    go_simp
  try simp only [Act.put, List.setIfInBounds_toArray, List.set_cons_zero, List.set_cons_succ]
  refine wpAnyH_take (i := 8) (v := ?_) (by simp only [List.getElem?_toArray, List.getElem?_cons_succ, List.getElem?_cons_zero]; rfl) (by kernel_rfl) (by kernel_rfl) (by kernel_rfl) (fun _ _ _ h => h) (Or.inl ⟨by rfl, ?_⟩) (by assumption) ?_
  rotate_left
  · intro w hSw
    try dsimp only at hSw
    go_simp
    try with_reducible rfl
  try simp only [Act.put, List.setIfInBounds_toArray, List.set_cons_zero, List.set_cons_succ]
  refine wpAnyH_take (i := 9) (v := ?_) (by simp only [List.getElem?_toArray, List.getElem?_cons_succ, List.getElem?_cons_zero]; rfl) (by kernel_rfl) (by kernel_rfl) (by kernel_rfl) (fun _ _ _ h => h) (Or.inl ⟨by rfl, ?_⟩) (by assumption) ?_
  rotate_left
  · intro w hSw
    try dsimp only at hSw
    go_simp
    try with_reducible rfl
  try simp only [Act.put, List.setIfInBounds_toArray, List.set_cons_zero, List.set_cons_succ]
  refine wpAnyH_take (i := 10) (v := ?_) (by simp only [List.getElem?_toArray, List.getElem?_cons_succ, List.getElem?_cons_zero]; rfl) (by kernel_rfl) (by kernel_rfl) (by kernel_rfl) (fun _ _ _ h => h) (Or.inl ⟨by rfl, ?_⟩) (by assumption) ?_
  rotate_left
  · intro w hSw
    try dsimp only at hSw
    go_simp
    try with_reducible rfl
  try simp only [Act.put, List.setIfInBounds_toArray, List.set_cons_zero, List.set_cons_succ]
  refine wpAnyH_take (i := 11) (v := ?_) (by simp only [List.getElem?_toArray, List.getElem?_cons_succ, List.getElem?_cons_zero]; rfl) (by kernel_rfl) (by kernel_rfl) (by kernel_rfl) (fun _ _ _ h => h) (Or.inl ⟨by rfl, ?_⟩) (by assumption) ?_
  rotate_left
  · intro w hSw
    try dsimp only at hSw
    go_simp
    try with_reducible rfl
  try simp only [Act.put, List.setIfInBounds_toArray, List.set_cons_zero, List.set_cons_succ]
  refine wpAnyH_take (i := 12) (v := (.bool q)) (by simp only [List.getElem?_toArray, List.getElem?_cons_succ, List.getElem?_cons_zero]; rfl) (by kernel_rfl) (by kernel_rfl) (by kernel_rfl) (fun _ _ _ h => h) (Or.inl ⟨by rfl, ?_⟩) (by assumption) ?_
  · intro w hSw
    try dsimp only at hSw
    go_simp
  try simp only [Act.put, List.setIfInBounds_toArray, List.set_cons_zero, List.set_cons_succ]
  refine wpAnyH_done (by kernel_rfl) ?_ _
  refine NoPanic.normal ?_
  clear hHeld hsum hqq
  cases q with
  | true =>
    go_wp2_with fail
    go_ret
    unfold RaPost
    rw [if_pos (by have := of_decide_eq_true HQ.out.symm; rw [HSM.out] at this; exact this)]
    exact ⟨rfl, B3.out⟩
  | false =>
    have HQF : Hid (¬ ((ms.length + R.length : Nat) : Int) > most) := Lib.hid (by have := of_decide_eq_false HQ.out.symm; rw [HSM.out] at this; exact this)
    clear HQ
    go_wp2_with fail
    have NE3 : Hid (∀ j, (Value.slice pr nr cr).ownBlock = some j → (Value.slice pm nm cm).ownBlock ≠ some j ∧ ov.ownBlock ≠ some j) := Lib.hid (fun j hj => ⟨fun e => by have h1 := own_from O3.out j hj; have h2 := own_lt H0.out.om j e; omega, fun e => by have h1 := own_from O3.out j hj; have h2 := own_lt H0.out.oo j e; omega⟩)
    go_loopw [28] (fun v28 wr => ∃ k : Nat, v28 = .int .i64 k ∧ k ≤ nr ∧ Hid (∃ pk nk ck, IA wr B i nb most (.slice pk nk ck) ov (ms ++ R.take k) os (idn (ms ++ R.take k) os) ∧ Only (iS i nb (.slice pm nm cm) ov) w0 wr ∧ iL w0.heap.size (.slice pm nm cm) ov (.slice pk nk ck) ov ∧ ∀ j, (Value.slice pr nr cr).ownBlock = some j → (Value.slice pk nk ck).ownBlock ≠ some j ∧ ov.ownBlock ≠ some j) ∧ Hid (HOwn wr w0.heap.size (.slice pr nr cr) R)) (fun v28 _ => nr - (intOf v28).toNat)
    case atStart => exact ⟨0, rfl, Nat.zero_le _, Lib.hid ⟨pm, nm, cm, by rw [List.take_zero, List.append_nil]; exact HA3.out, Only.of_below (S := iS i nb (.slice pm nm cm) ov) B3.out, iL.refl _ _ _, NE3.out⟩, O3⟩
    case round =>
      clear HA3 O3 B3 NE3
      obtain ⟨k, rfl, hk, HE, HO⟩ := hrel
      obtain ⟨pk, nk, ck, ha, t, ll, ne⟩ := HE.out
      have HA := Lib.hid ha
      have T := Lib.hid t
      have LL := Lib.hid ll
      have NE := Lib.hid ne
      obtain ⟨p9, c9, e9⟩ := own_shape ha.om
      have HNK : Hid (nk = ms.length + k) := Lib.hid (by
        injection e9 with _ e9 _
        rw [e9, List.length_append, List.length_take]
        have := HNR.out
        omega)
      clear ha t ll ne HE e9
      by_cases hlt : k < nr
      · have hl1 : (k : Int) < nr := by omega
        obtain ⟨j1, j2, j3⟩ := next_fit hlt (by have := HRF.out.2.2.1; have := HNR.out; omega)
        have hkE : k < R.length := by rw [← HNR.out]; exact hlt
        obtain ⟨bb, o, c', e1, hrg⟩ := (HSeen.own HO.out).at HRF.out.2.1 hkE
        injection e1 with e1 e2 e3
        subst e1
        have htk : R.take (k + 1) = R.take k ++ [R[k]] := List.take_succ_eq_append_getElem hkE
        have hat : R[k]? = some R[k] := List.getElem?_eq_getElem hkE
        obtain ⟨x, hx⟩ : ∃ x, x = R[k] := ⟨_, rfl⟩
        rw [← hx] at hrg htk hat
        have HX : Hid (x.length = 32) := Lib.hid (by rw [hx]; exact HRF.out.2.1.at hkE)
        have HNI : Hid (x ∉ ms ++ R.take k) := Lib.hid (fun hm => by
          rcases List.mem_append.1 hm with hm | hm
          · exact HRF.out.2.2.2 x (List.mem_of_getElem? hat) hm
          · obtain ⟨j, hj, hjk⟩ := idx_take hm
            have := idx_at HRF.out.1 hat
            rw [hj] at this
            injection this with this
            omega)
        have hld0 := hld_range HX.out hrg
        have st := hst_cells x HX.out wr
        have hks : (hv x).size = 32 := by rw [hv_size, HX.out]
        have AL := Lib.hid (below_al11 wr (.cells (hv x) 31))
        have HBX := Lib.hid (heap_alloc_last wr (.cells (hv x) 31))
        have HA4 := Lib.hid (HA.out.kb AL.out)
        have T4 : Hid (Only (iS i nb (.slice pm nm cm) ov) w0 (wr.alloc (.cells (hv x) 31))) := Lib.hid (T.out.trans (Only.of_below (S := iS i nb (.slice pm nm cm) ov) AL.out) (fun _ h => h) (fun _ _ h => h))
        have HO4 := Lib.hid (own_below HO.out AL.out)
        have XB : Hid (∀ j, (Value.slice pk nk ck).ownBlock = some j → j ≠ wr.heap.size) := Lib.hid (fun j hj e => by have := own_lt HA.out.om j hj; omega)
        have HTK : Hid (ms ++ R.take (k + 1) = (ms ++ R.take k) ++ [x]) := Lib.hid (by rw [htk, List.append_assoc])
        have HLT := Lib.hid hlt
        have HJ := Lib.hid j1
        clear hx hrg htk hat hkE hk e2 e3 HA T HO
        go_upto_region 7 with fail
        clear st hld0
        generalize wr.alloc (.cells (hv x) 31) = w4 at *
        generalize wr.heap.size = xb at *
        have bq : Below w4.heap.size w4 w4.drew := blw_qt _ 1 w4
        have HA5 := Lib.hid (HA4.out.kb bq)
        have HB5 := Lib.hid ((mild_below bq).cells HBX.out)
        have HO5 := Lib.hid (own_below HO4.out bq)
        have T5 : Hid (Only (iS i nb (.slice pm nm cm) ov) w0 w4.drew) := Lib.hid (T4.out.trans (Only.of_below (S := iS i nb (.slice pm nm cm) ov) bq) (fun _ h => h) (fun _ _ h => h))
        clear bq HA4 T4 HO4 HBX
        go_wp2_with fail
        try simp only [List.append]
        refine wp_region_noPanic ?_
        refine wp_region_held_drew (S := (fun V => V.cell? ⟨i, 1, none⟩ = some (.slice pk nk ck) ∧ V.cell? ⟨i, 3, none⟩ = some (.map (some nb)) ∧ (hld ⟨xb, 0, none⟩).run Tryz.prog V = .ok (.agg (hv x)) V)) (by kernel_rfl) ⟨HA5.out.c (k := 1) rfl, HA5.out.c (k := 3) rfl, hld_row HX.out HB5.out⟩ (fun hHeld => ?_)
        generalize w4.drew = cw at *
        obtain ⟨w6, hmu, h6, o6⟩ := HA5.out.upd x HX.out (nk : Int) ((ms ++ R.take k) ++ os) idn_sup (by simp only [List.length_append, List.length_take]; have := HLM.out; have := HRF.out.2.2.1; omega)
        have hp := idn_msnoc (os := os) HNI.out
        rw [show ((ms ++ R.take k).length : Int) = (nk : Int) from by rw [HNK.out, List.length_append, List.length_take]; have := HNR.out; have := HLT.out; omega] at hp
        rw [hp, ← HTK.out] at h6
        have hmm : ∃ es cc, cw.heap[nb]? = some (.map es cc) := by obtain ⟨M, m1, _⟩ := HA5.out.mp; exact m1.ismap
        have HMU := Lib.hid hmu
        have HA6 := Lib.hid h6
        have HB6 := Lib.hid ((o6.block xb (Array.getElem?_eq_some_iff.1 HB5.out).1 (fun e => by obtain ⟨es, cc, hm⟩ := hmm; have h1 := HB5.out; rw [e, hm] at h1; cases h1)).trans HB5.out)
        have HO6 := Lib.hid (own_keep HO5.out o6 (fun j hj e => by obtain ⟨es, cc, hm⟩ := hmm; exact own_nomap HO5.out hm (by rw [hj, e])))
        have T6 : Hid (Only (iS i nb (.slice pm nm cm) ov) w0 w6) := Lib.hid (T5.out.trans o6 (fun _ h => h) (fun _ _ h => .inr (.inl h)))
        clear hmu h6 o6 hp hmm T5 HA5 HO5
        refine wpAnyH_take (i := 0) (v := ?_) (by simp only [List.getElem?_toArray, List.getElem?_cons_zero]; rfl) (by kernel_rfl) (by kernel_rfl) (by kernel_rfl) (fun _ _ _ h => h) (Or.inl ⟨by rfl, ?_⟩) (by assumption) ?_
        rotate_left
        · intro w hSw
          try dsimp only at hSw
          go_simp
          try with_reducible rfl
        try simp only [Act.put, List.setIfInBounds_toArray, List.set_cons_zero, List.set_cons_succ]
        refine wpAnyH_take (i := 1) (v := ?_) (by simp only [List.getElem?_toArray, List.getElem?_cons_succ, List.getElem?_cons_zero]; rfl) (by kernel_rfl) (by kernel_rfl) (by kernel_rfl) (fun _ _ _ h => h) (Or.inl ⟨by rfl, ?_⟩) (by assumption) ?_
        rotate_left
        · intro w hSw
          try dsimp only at hSw
          go_simp
          try with_reducible rfl
        try simp only [Act.put, List.setIfInBounds_toArray, List.set_cons_zero, List.set_cons_succ]
        refine wpAnyH_take (i := 2) (v := ?_) (by simp only [List.getElem?_toArray, List.getElem?_cons_succ, List.getElem?_cons_zero]; rfl) (by kernel_rfl) (by kernel_rfl) (by kernel_rfl) (fun _ _ _ h => h) (Or.inl ⟨by rfl, ?_⟩) (by assumption) ?_
        rotate_left
        · intro w hSw
          try dsimp only at hSw
          go_simp
          try with_reducible rfl
        try simp only [Act.put, List.setIfInBounds_toArray, List.set_cons_zero, List.set_cons_succ]
        refine wpAnyH_take (i := 3) (v := ?_) (by simp only [List.getElem?_toArray, List.getElem?_cons_succ, List.getElem?_cons_zero]; rfl) (by kernel_rfl) (by kernel_rfl) (by kernel_rfl) (fun _ _ _ h => h) (Or.inl ⟨by rfl, ?_⟩) (by assumption) ?_
        rotate_left
        · intro w hSw
          try dsimp only at hSw
          go_simp
          try with_reducible rfl
        try simp only [Act.put, List.setIfInBounds_toArray, List.set_cons_zero, List.set_cons_succ]
        refine wpAnyH_take (i := 4) (v := ?_) (by simp only [List.getElem?_toArray, List.getElem?_cons_succ, List.getElem?_cons_zero]; rfl) (by kernel_rfl) (by kernel_rfl) (by kernel_rfl) (fun _ _ _ h => h) (Or.inl ⟨by rfl, ?_⟩) (by assumption) ?_
        rotate_left
        · intro w hSw
          try dsimp only at hSw
          go_simp
          try with_reducible rfl
        try simp only [Act.put, List.setIfInBounds_toArray, List.set_cons_zero, List.set_cons_succ]
        refine wpAnyH_take (i := 5) (v := ?_) (by simp only [List.getElem?_toArray, List.getElem?_cons_succ, List.getElem?_cons_zero]; rfl) (by kernel_rfl) (by kernel_rfl) (by kernel_rfl) (fun _ _ _ h => h) (Or.inl ⟨by rfl, ?_⟩) (by assumption) ?_
        rotate_left
        · intro w hSw
          try dsimp only at hSw
          go_simp
          try with_reducible rfl
        try simp only [Act.put, List.setIfInBounds_toArray, List.set_cons_zero, List.set_cons_succ]
        refine wpAnyH_take (i := 6) (v := ?_) (by simp only [List.getElem?_toArray, List.getElem?_cons_succ, List.getElem?_cons_zero]; rfl) (by kernel_rfl) (by kernel_rfl) (by kernel_rfl) (fun _ _ _ h => h) (Or.inl ⟨by rfl, ?_⟩) (by assumption) ?_
        rotate_left
        · intro w hSw
          try dsimp only at hSw
          go_simp
          try with_reducible rfl
        try simp only [Act.put, List.setIfInBounds_toArray, List.set_cons_zero, List.set_cons_succ]
        refine wpAnyH_take (i := 7) (v := ?_) (by simp only [List.getElem?_toArray, List.getElem?_cons_succ, List.getElem?_cons_zero]; rfl) (by kernel_rfl) (by kernel_rfl) (by kernel_rfl) (fun _ _ _ h => h) (Or.inl ⟨by rfl, ?_⟩) (by assumption) ?_
        rotate_left
        · intro w hSw
          try dsimp only at hSw
          go_simp
          try with_reducible rfl
        try simp only [Act.put, List.setIfInBounds_toArray, List.set_cons_zero, List.set_cons_succ]
        refine wpAnyH_take (i := 8) (v := ?_) (by simp only [List.getElem?_toArray, List.getElem?_cons_succ, List.getElem?_cons_zero]; rfl) (by kernel_rfl) (by kernel_rfl) (by kernel_rfl) (fun _ _ _ h => h) (Or.inl ⟨by rfl, ?_⟩) (by assumption) ?_
        rotate_left
        · intro w hSw
          try dsimp only at hSw
          go_simp
          try with_reducible rfl
        try simp only [Act.put, List.setIfInBounds_toArray, List.set_cons_zero, List.set_cons_succ]
        refine wpAnyH_take (i := 9) (v := ?_) (by simp only [List.getElem?_toArray, List.getElem?_cons_succ, List.getElem?_cons_zero]; rfl) (by kernel_rfl) (by kernel_rfl) (by kernel_rfl) (fun _ _ _ h => h) (Or.inl ⟨by rfl, ?_⟩) (by assumption) ?_
        rotate_left
        · intro w hSw
          try dsimp only at hSw
          go_simp
          try with_reducible rfl
        try simp only [Act.put, List.setIfInBounds_toArray, List.set_cons_zero, List.set_cons_succ]
        refine wpAnyH_ready (rs := [10]) (by kernel_rfl) (by simp) ?_
        refine AllReadyH.cons (by simp only [List.getElem?_toArray, List.getElem?_cons_succ, List.getElem?_cons_zero]; rfl) (fun K hK => ?_) AllReadyH.nil
        refine step_upd rfl _ _ _ rfl (by rfl) (by rfl) (by rfl) HMU.out ?_
        refine hK.out _ _ ⟨HA6.out.c (k := 1) rfl, HA6.out.c (k := 3) rfl, hld_row HX.out HB6.out⟩ (fun hHeld => ?_)
        clear hK K
        try simp only [Act.put, List.setIfInBounds_toArray, List.set_cons_zero, List.set_cons_succ]
        refine wpAnyH_done (by kernel_rfl) ?_ _
        refine NoPanic.normal ?_
        clear hHeld HMU HB5
        have BW : Hid (Below w6.heap.size w6 w6.drew) := Lib.hid (blw_qt _ 1 w6)
        have HC := Lib.hid (fun (V : World) (k : Below w6.heap.size w6 V) => (HA6.out.kb k).c (k := 1) rfl)
        have HLD := Lib.hid (fun (V : World) (k : Below w6.heap.size w6 V) => hld_row (w := V) HX.out ((mild_below k).cells HB6.out))
        go_wp2_with fail
        try simp only [List.append]
        refine wp_region_noPanic ?_
        refine wp_region_held_drew (S := (fun V => (hld ⟨xb, 0, none⟩).run Tryz.prog V = .ok (.agg (hv x)) V)) (by kernel_rfl) (HLD.out _ BW.out) (fun hHeld => ?_)
        generalize w6.drew = cw at *
        refine wpAnyH_take (i := 0) (v := ?_) (by simp only [List.getElem?_toArray, List.getElem?_cons_zero]; rfl) (by kernel_rfl) (by kernel_rfl) (by kernel_rfl) (fun _ _ _ h => h) (Or.inl ⟨by rfl, ?_⟩) (by assumption) ?_
        rotate_left
        · intro w hSw
          try dsimp only at hSw
          go_simp
          try with_reducible rfl
        try simp only [Act.put, List.setIfInBounds_toArray, List.set_cons_zero, List.set_cons_succ]
        refine wpAnyH_take (i := 1) (v := ?_) (by simp only [List.getElem?_toArray, List.getElem?_cons_succ, List.getElem?_cons_zero]; rfl) (by kernel_rfl) (by kernel_rfl) (by kernel_rfl) (fun _ _ _ h => h) (Or.inl ⟨by rfl, ?_⟩) (by assumption) ?_
        rotate_left
        · intro w hSw
          try dsimp only at hSw
          go_simp
          try with_reducible rfl
        try simp only [Act.put, List.setIfInBounds_toArray, List.set_cons_zero, List.set_cons_succ]
        refine wpAnyH_take (i := 2) (v := ?_) (by simp only [List.getElem?_toArray, List.getElem?_cons_succ, List.getElem?_cons_zero]; rfl) (by kernel_rfl) (by kernel_rfl) (by kernel_rfl) (fun _ _ _ h => h) (Or.inl ⟨by rfl, ?_⟩) (by assumption) ?_
        rotate_left
        · intro w hSw
          try dsimp only at hSw
          go_simp
          try with_reducible rfl
        try simp only [Act.put, List.setIfInBounds_toArray, List.set_cons_zero, List.set_cons_succ]
        refine wpAnyH_take (i := 3) (v := ?_) (by simp only [List.getElem?_toArray, List.getElem?_cons_succ, List.getElem?_cons_zero]; rfl) (by kernel_rfl) (by kernel_rfl) (by kernel_rfl) (fun _ _ _ h => h) (Or.inl ⟨by rfl, ?_⟩) (by assumption) ?_
        rotate_left
        · intro w hSw
          try dsimp only at hSw
          go_simp
          try with_reducible rfl
        try simp only [Act.put, List.setIfInBounds_toArray, List.set_cons_zero, List.set_cons_succ]
        refine wpAnyH_take (i := 5) (v := ?_) (by simp only [List.getElem?_toArray, List.getElem?_cons_succ, List.getElem?_cons_zero]; rfl) (by kernel_rfl) (by kernel_rfl) (by kernel_rfl) (fun _ _ _ h => h) (Or.inl ⟨by rfl, ?_⟩) (by assumption) ?_
        rotate_left
        · intro w hSw
          try dsimp only at hSw
          go_simp
          try with_reducible rfl
        try simp only [Act.put, List.setIfInBounds_toArray, List.set_cons_zero, List.set_cons_succ]
        refine wpAnyH_ready (rs := [4, 6]) (by kernel_rfl) (by simp) ?_
        refine (AllReadyH.cons (by simp only [List.getElem?_toArray, List.getElem?_cons_succ, List.getElem?_cons_zero]; rfl) (fun K hK => ?_) (AllReadyH.cons (by simp only [List.getElem?_toArray, List.getElem?_cons_succ, List.getElem?_cons_zero]; rfl) (fun K hK => ?_) AllReadyH.nil))
        · have hc := HC.out cw BW.out
          go_simp
          clear hc
          refine hK.out _ _ (HLD.out _ BW.out) (fun hHeld => ?_)
          clear hK K
          try simp only [Act.put, List.setIfInBounds_toArray, List.set_cons_zero, List.set_cons_succ]
          refine wpAnyH_ready (rs := [6]) (by kernel_rfl) (by simp) ?_
          refine (AllReadyH.cons (by simp only [List.getElem?_toArray, List.getElem?_cons_succ, List.getElem?_cons_zero]; rfl) (fun K hK => ?_) AllReadyH.nil)
          refine step_sl1 x HX.out (by rfl) (by rfl) ?_
          have HN := Lib.hid (heap_alloc_last cw (.cells (hv x) 31))
          have BW := Lib.hid (BW.out.trans ((below_al11 cw (.cells (hv x) 31)).mono BW.out.size))
          generalize cw.alloc (.cells (hv x) 31) = cx at *
          generalize cw.heap.size = nb7 at *
          rename World => cw
          refine hK.out _ _ (HLD.out _ BW.out) (fun hHeld => ?_)
          clear hK K
          try simp only [Act.put, List.setIfInBounds_toArray, List.set_cons_zero, List.set_cons_succ]
          refine wpAnyH_ready (rs := [7]) (by kernel_rfl) (by simp) ?_
          refine (AllReadyH.cons (by simp only [List.getElem?_toArray, List.getElem?_cons_succ, List.getElem?_cons_zero]; rfl) (fun K hK => ?_) AllReadyH.nil)
          have OW7 := Lib.hid (own_below HA6.out.om BW.out)
          have CW7 := Lib.hid ((mild_below BW.out).cells HA6.out.cell)
          have HBW := Lib.hid ((mild_below BW.out).cells HB6.out)
          have HOW := Lib.hid (own_below HO6.out BW.out)
          refine step_pushh rfl _ _ rfl B (.slice pk nk ck) (ms ++ R.take k) nb7 x HX.out (by rfl) OW7.out (by rfl) HN.out (by simp only [List.length_append, List.length_take]; have := HLM.out; have := HRF.out.2.2.1; omega) (Nat.le_trans HBB.out (Nat.le_trans T6.out.size BW.out.size)) (nk + 1) (by simp only [List.length_append, List.length_take]; have := HNK.out; have := HNR.out; have := HLT.out; omega) ?_
          intro p7 c7 cx o7 oth7 loc7
          have o7' : HOwn cx B (.slice p7 (nk + 1) c7) (ms ++ R.take (k + 1)) := by rw [HTK.out]; exact o7
          obtain ⟨h8, t8, l8⟩ := HA6.out.pushM BW.out o7' oth7 loc7
          have HA8 := Lib.hid h8
          have T8 := Lib.hid t8
          have L8 := Lib.hid l8
          have C7 := Lib.hid ((oth7.block i (Array.getElem?_eq_some_iff.1 CW7.out).1 (fun e => own_apart OW7.out CW7.out (by decide) e)).trans CW7.out)
          have HB7 := Lib.hid ((oth7.block xb (Array.getElem?_eq_some_iff.1 HBW.out).1 (fun e => XB.out xb e rfl)).trans HBW.out)
          have HO7 := Lib.hid (own_keep HOW.out oth7 (fun j hj e => (NE.out j hj).1 e))
          have NE8 : Hid (∀ j, (Value.slice (some ⟨bb, o, none⟩) nr cr).ownBlock = some j → (Value.slice p7 (nk + 1) c7).ownBlock ≠ some j ∧ ov.ownBlock ≠ some j) := Lib.hid (fun j hj => ⟨fun e => by
            rcases loc7 j e with h9 | h9
            · exact (NE.out j hj).1 h9
            · have := own_lt HOW.out j hj; omega, (NE.out j hj).2⟩)
          clear o7 o7' oth7 loc7 h8 t8 l8 OW7 CW7 HBW HOW BW HN
          rename World => cw
          refine hK.out _ _ (hld_row HX.out HB7.out) (fun hHeld => ?_)
          clear hK K
          try simp only [Act.put, List.setIfInBounds_toArray, List.set_cons_zero, List.set_cons_succ]
          refine wpAnyH_take (i := 8) (v := ?_) (by simp only [List.getElem?_toArray, List.getElem?_cons_succ, List.getElem?_cons_zero]; rfl) (by kernel_rfl) (by kernel_rfl) (by kernel_rfl) (fun _ _ _ h => h) (Or.inl ⟨by rfl, ?_⟩) (by assumption) ?_
          rotate_left
          · intro w hSw
            try dsimp only at hSw
            go_simp
            try with_reducible rfl
          try simp only [Act.put, List.setIfInBounds_toArray, List.set_cons_zero, List.set_cons_succ]
          refine wpAnyH_take (i := 9) (v := ?_) (by simp only [List.getElem?_toArray, List.getElem?_cons_succ, List.getElem?_cons_zero]; rfl) (by kernel_rfl) (by kernel_rfl) (by kernel_rfl) (fun _ _ _ h => h) (Or.inl ⟨by rfl, ?_⟩) (by assumption) ?_
          rotate_left
          · intro w hSw
            try dsimp only at hSw
            go_simp
            try with_reducible rfl
          try simp only [Act.put, List.setIfInBounds_toArray, List.set_cons_zero, List.set_cons_succ]
          refine wpAnyH_ready (rs := [10]) (by kernel_rfl) (by simp) ?_
          refine (AllReadyH.cons (by simp only [List.getElem?_toArray, List.getElem?_cons_succ, List.getElem?_cons_zero]; rfl) (fun K hK => ?_) AllReadyH.nil)
          have hc := cell_obj C7.out 1 rfl
          have hf : cw.frozen? ⟨i, 1, none⟩ = false := frozen_of_row _ _ _ _ _ C7.out
          have OS : Only (fun j => j = i) cw (cw.setCell ⟨i, 1, none⟩ (.slice p7 (nk + 1) c7)) := (Only.refl (fun j => j = i) cw).setCell (p := ⟨i, 1, none⟩) rfl _
          have HB8 := Lib.hid ((OS.block xb (Array.getElem?_eq_some_iff.1 HB7.out).1 (fun e => by have h1 := HB7.out; rw [e, C7.out] at h1; injection h1 with h1; injection h1 with _ h1 _; revert h1; decide)).trans HB7.out)
          have HO8 := Lib.hid (own_keep HO7.out OS (fun j hj e => own_apart HO7.out C7.out (by decide) (by rw [hj, e])))
          go_simp
          clear hc hf OS C7 HB7 HO7
          refine hK.out _ _ (hld_row HX.out HB8.out) (fun hHeld => ?_)
          clear hK K
          try simp only [Act.put, List.setIfInBounds_toArray, List.set_cons_zero, List.set_cons_succ]
          refine wpAnyH_done (by kernel_rfl) ?_ _
          refine NoPanic.normal ?_
          clear hHeld
          generalize cw.setCell ⟨i, 1, none⟩ (.slice p7 (nk + 1) c7) = w8 at *
          go_wp2_with fail
          refine ⟨⟨k + 1, by first | rw [HJ.out] | rfl, HLT.out, Lib.hid ⟨p7, nk + 1, c7, HA8.out, iS.trans T6.out T8.out LL.out, LL.out.trans L8.out T6.out.size, NE8.out⟩, HO8⟩, ?_⟩
          first | exact meas_nv HLT.out HJ.out | exact meas_nw HLT.out
        · refine step_sl1 x HX.out (by rfl) (by rfl) ?_
          have HN := Lib.hid (heap_alloc_last cw (.cells (hv x) 31))
          have BW := Lib.hid (BW.out.trans ((below_al11 cw (.cells (hv x) 31)).mono BW.out.size))
          generalize cw.alloc (.cells (hv x) 31) = cx at *
          generalize cw.heap.size = nb7 at *
          rename World => cw
          refine hK.out _ _ (HLD.out _ BW.out) (fun hHeld => ?_)
          clear hK K
          try simp only [Act.put, List.setIfInBounds_toArray, List.set_cons_zero, List.set_cons_succ]
          refine wpAnyH_ready (rs := [4]) (by kernel_rfl) (by simp) ?_
          refine (AllReadyH.cons (by simp only [List.getElem?_toArray, List.getElem?_cons_succ, List.getElem?_cons_zero]; rfl) (fun K hK => ?_) AllReadyH.nil)
          have hc := HC.out cw BW.out
          go_simp
          clear hc
          refine hK.out _ _ (HLD.out _ BW.out) (fun hHeld => ?_)
          clear hK K
          try simp only [Act.put, List.setIfInBounds_toArray, List.set_cons_zero, List.set_cons_succ]
          refine wpAnyH_ready (rs := [7]) (by kernel_rfl) (by simp) ?_
          refine (AllReadyH.cons (by simp only [List.getElem?_toArray, List.getElem?_cons_succ, List.getElem?_cons_zero]; rfl) (fun K hK => ?_) AllReadyH.nil)
          have OW7 := Lib.hid (own_below HA6.out.om BW.out)
          have CW7 := Lib.hid ((mild_below BW.out).cells HA6.out.cell)
          have HBW := Lib.hid ((mild_below BW.out).cells HB6.out)
          have HOW := Lib.hid (own_below HO6.out BW.out)
          refine step_pushh rfl _ _ rfl B (.slice pk nk ck) (ms ++ R.take k) nb7 x HX.out (by rfl) OW7.out (by rfl) HN.out (by simp only [List.length_append, List.length_take]; have := HLM.out; have := HRF.out.2.2.1; omega) (Nat.le_trans HBB.out (Nat.le_trans T6.out.size BW.out.size)) (nk + 1) (by simp only [List.length_append, List.length_take]; have := HNK.out; have := HNR.out; have := HLT.out; omega) ?_
          intro p7 c7 cx o7 oth7 loc7
          have o7' : HOwn cx B (.slice p7 (nk + 1) c7) (ms ++ R.take (k + 1)) := by rw [HTK.out]; exact o7
          obtain ⟨h8, t8, l8⟩ := HA6.out.pushM BW.out o7' oth7 loc7
          have HA8 := Lib.hid h8
          have T8 := Lib.hid t8
          have L8 := Lib.hid l8
          have C7 := Lib.hid ((oth7.block i (Array.getElem?_eq_some_iff.1 CW7.out).1 (fun e => own_apart OW7.out CW7.out (by decide) e)).trans CW7.out)
          have HB7 := Lib.hid ((oth7.block xb (Array.getElem?_eq_some_iff.1 HBW.out).1 (fun e => XB.out xb e rfl)).trans HBW.out)
          have HO7 := Lib.hid (own_keep HOW.out oth7 (fun j hj e => (NE.out j hj).1 e))
          have NE8 : Hid (∀ j, (Value.slice (some ⟨bb, o, none⟩) nr cr).ownBlock = some j → (Value.slice p7 (nk + 1) c7).ownBlock ≠ some j ∧ ov.ownBlock ≠ some j) := Lib.hid (fun j hj => ⟨fun e => by
            rcases loc7 j e with h9 | h9
            · exact (NE.out j hj).1 h9
            · have := own_lt HOW.out j hj; omega, (NE.out j hj).2⟩)
          clear o7 o7' oth7 loc7 h8 t8 l8 OW7 CW7 HBW HOW BW HN
          rename World => cw
          refine hK.out _ _ (hld_row HX.out HB7.out) (fun hHeld => ?_)
          clear hK K
          try simp only [Act.put, List.setIfInBounds_toArray, List.set_cons_zero, List.set_cons_succ]
          refine wpAnyH_take (i := 8) (v := ?_) (by simp only [List.getElem?_toArray, List.getElem?_cons_succ, List.getElem?_cons_zero]; rfl) (by kernel_rfl) (by kernel_rfl) (by kernel_rfl) (fun _ _ _ h => h) (Or.inl ⟨by rfl, ?_⟩) (by assumption) ?_
          rotate_left
          · intro w hSw
            try dsimp only at hSw
            go_simp
            try with_reducible rfl
          try simp only [Act.put, List.setIfInBounds_toArray, List.set_cons_zero, List.set_cons_succ]
          refine wpAnyH_take (i := 9) (v := ?_) (by simp only [List.getElem?_toArray, List.getElem?_cons_succ, List.getElem?_cons_zero]; rfl) (by kernel_rfl) (by kernel_rfl) (by kernel_rfl) (fun _ _ _ h => h) (Or.inl ⟨by rfl, ?_⟩) (by assumption) ?_
          rotate_left
          · intro w hSw
            try dsimp only at hSw
            go_simp
            try with_reducible rfl
          try simp only [Act.put, List.setIfInBounds_toArray, List.set_cons_zero, List.set_cons_succ]
          refine wpAnyH_ready (rs := [10]) (by kernel_rfl) (by simp) ?_
          refine (AllReadyH.cons (by simp only [List.getElem?_toArray, List.getElem?_cons_succ, List.getElem?_cons_zero]; rfl) (fun K hK => ?_) AllReadyH.nil)
          have hc := cell_obj C7.out 1 rfl
          have hf : cw.frozen? ⟨i, 1, none⟩ = false := frozen_of_row _ _ _ _ _ C7.out
          have OS : Only (fun j => j = i) cw (cw.setCell ⟨i, 1, none⟩ (.slice p7 (nk + 1) c7)) := (Only.refl (fun j => j = i) cw).setCell (p := ⟨i, 1, none⟩) rfl _
          have HB8 := Lib.hid ((OS.block xb (Array.getElem?_eq_some_iff.1 HB7.out).1 (fun e => by have h1 := HB7.out; rw [e, C7.out] at h1; injection h1 with h1; injection h1 with _ h1 _; revert h1; decide)).trans HB7.out)
          have HO8 := Lib.hid (own_keep HO7.out OS (fun j hj e => own_apart HO7.out C7.out (by decide) (by rw [hj, e])))
          go_simp
          clear hc hf OS C7 HB7 HO7
          refine hK.out _ _ (hld_row HX.out HB8.out) (fun hHeld => ?_)
          clear hK K
          try simp only [Act.put, List.setIfInBounds_toArray, List.set_cons_zero, List.set_cons_succ]
          refine wpAnyH_done (by kernel_rfl) ?_ _
          refine NoPanic.normal ?_
          clear hHeld
          generalize cw.setCell ⟨i, 1, none⟩ (.slice p7 (nk + 1) c7) = w8 at *
          go_wp2_with fail
          refine ⟨⟨k + 1, by first | rw [HJ.out] | rfl, HLT.out, Lib.hid ⟨p7, nk + 1, c7, HA8.out, iS.trans T6.out T8.out LL.out, LL.out.trans L8.out T6.out.size, NE8.out⟩, HO8⟩, ?_⟩
          first | exact meas_nv HLT.out HJ.out | exact meas_nw HLT.out
      · obtain rfl : k = nr := by omega
        have hl2 : ¬ (k : Int) < k := by omega
        have HTE : Hid (R.take k = R) := Lib.hid (List.take_of_length_le (by rw [HNR.out]; exact Nat.le_refl _))
        rw [HTE.out] at HA
        have hlr : ms.length + R.length ≤ 100000 := by have := HLM.out; have := HRF.out.2.2.1; omega
        have HCG := Lib.hid (closegaps_to wr B i nb most _ ov (ms ++ R) os _ HA.out (out (ms ++ R)) (fun x hx => other_idn (by rw [List.length_append]; exact hlr) hx) H3O.out (by have := HLM.out; omega) (List.nodup_append.1 HND.out).2.1 ((ms ++ R) ++ os) idn_sup (by simp only [List.length_append]; have := HLM.out; have := HRF.out.2.2.1; omega))
        clear hlt hk hlr
        go_wp2_with fail
        refine HCG.out.mono ?_
        rintro e w9 ⟨rfl, mv', ov', h9, t9, l9⟩
        have H9 := Lib.hid h9
        have T9 := Lib.hid (iS.trans T.out t9 LL.out)
        have L9 := Lib.hid (LL.out.trans l9 T.out.size)
        clear h9 t9 l9 HCG
        go_wp2_with fail
        go_ret
        unfold RaPost
        rw [if_neg (by have := HQF.out; omega)]
        refine ⟨rfl, mv', ov', ?_, T9.out, L9.out⟩
        have h := H9.out
        rw [show os.filter (out (ms ++ R)) = oIn (ms ++ R) os from rfl, renum_idn] at h
        exact h
end Go.Proofs.YtnpeahbbcolfmaaGreatDoor
