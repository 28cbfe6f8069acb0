/- The order of commits: plain mathematics. VL: what a visit of some commits makes of what is listed. No condition. · The walk in memory: has, add. Conditions: hashes of 32 bytes; no more than a million listed. · The walk's isDone. Conditions: hashes of 32 bytes; done answers D and turns nothing that was there. · The stack of a visit: rows of entered commits. Conditions: hashes of 32 bytes; no more than a million. · The walk's visit. Conditions: hashes of 32 bytes; no more than 1000 commits listed in the end. -/
import Derived.Test.YthfkmfepeafgjaaRgrW
import Derived.Test.YthfkmfepeafgjaaRgrN
import Derived.Conc.MuLone
import Derived.Defers
import Derived.Recover
import Derived.Deep.LoopGhost
namespace Go.Proofs.Ythfkmfepeafgjaa
open Go.RowKit
open Go.Maps

/-- n steps: the commits hs are visited in order, o is listed, then o'. -/
inductive VL (G : Gr) (D : Key → Bool) : Nat → List Key → List Key → List Key → Prop
  | nil (o : List Key) : VL G D 0 o [] o
  | skip {n : Nat} {o hs o' : List Key} {h : Key} (hk : h ∈ o ∨ D h = true) (t : VL G D n o hs o') : VL G D (n + 1) o (h :: hs) o'
  | go {n m : Nat} {o o1 hs o' : List Key} {h : Key} (h1 : h ∉ o) (h2 : D h = false) (a : VL G D n o (adj G h) o1) (t : VL G D m (o1 ++ [h]) hs o') : VL G D (n + m + 2) o (h :: hs) o'
/-- The same, of a stack of commits that are entered, the last one first. -/
inductive Run (G : Gr) (D : Key → Bool) : Nat → List Key → List (Key × List Key) → List Key → Prop
  | nil (o : List Key) : Run G D 0 o [] o
  | cons {n m : Nat} {o o1 o' : List Key} {h : Key} {ps : List Key} {st : List (Key × List Key)} (a : VL G D n o ps o1) (t : Run G D m (o1 ++ [h]) st o') : Run G D (n + m + 1) o ((h, ps) :: st) o'
theorem VL.one {G : Gr} {D : Key → Bool} {n : Nat} {o o' : List Key} {h : Key} (v : VL G D n o [h] o') : ((h ∈ o ∨ D h = true) ∧ o' = o) ∨ (h ∉ o ∧ D h = false ∧ ∃ m, Run G D m o [(h, adj G h)] o') := by
  cases v with
  | skip hk t => cases t; exact .inl ⟨hk, rfl⟩
  | go h1 h2 a t => cases t; exact .inr ⟨h1, h2, _, .cons a (.nil _)⟩
theorem VL.split {G : Gr} {D : Key → Bool} {n : Nat} {o hs o' : List Key} {h : Key} (v : VL G D n o (h :: hs) o') : ∃ a b o1, VL G D a o [h] o1 ∧ VL G D b o1 hs o' := by
  cases v with
  | skip hk t => exact ⟨_, _, o, .skip hk (.nil _), t⟩
  | go h1 h2 a t => exact ⟨_, _, _, .go h1 h2 a (.nil _), t⟩
theorem VL.join {G : Gr} {D : Key → Bool} {a b : Nat} {o hs o1 o' : List Key} {h : Key} (v : VL G D a o [h] o1) (u : VL G D b o1 hs o') : ∃ n, VL G D n o (h :: hs) o' := by
  cases v with
  | skip hk t => cases t; exact ⟨_, .skip hk u⟩
  | go h1 h2 a t => cases t; exact ⟨_, .go h1 h2 a u⟩
theorem VL.app {G : Gr} {D : Key → Bool} {hs ks : List Key} : ∀ {a b : Nat} {o o1 o' : List Key}, VL G D a o hs o1 → VL G D b o1 ks o' → ∃ n, VL G D n o (hs ++ ks) o' := by
  induction hs with
  | nil => intro a b o o1 o' h1 h2; cases h1; exact ⟨_, h2⟩
  | cons h hs ih =>
    intro a b o o1 o' h1 h2
    obtain ⟨a1, b1, o2, h3, h4⟩ := h1.split
    obtain ⟨n, h5⟩ := ih h4 h2
    exact VL.join h3 h5
theorem VL.cut {G : Gr} {D : Key → Bool} {hs ks : List Key} : ∀ {n : Nat} {o o' : List Key}, VL G D n o (hs ++ ks) o' → ∃ a b o1, VL G D a o hs o1 ∧ VL G D b o1 ks o' := by
  induction hs with
  | nil => intro n o o' h; exact ⟨_, _, o, .nil o, h⟩
  | cons h hs ih =>
    intro n o o' h1
    obtain ⟨a1, b1, o2, h3, h4⟩ := h1.split
    obtain ⟨a, b, o1, h5, h6⟩ := ih h4
    obtain ⟨n, h7⟩ := VL.join h3 h5
    exact ⟨_, _, _, h7, h6⟩
theorem VL.det {G : Gr} {D : Key → Bool} {n : Nat} {o hs o1 : List Key} (v : VL G D n o hs o1) : ∀ {m : Nat} {o2 : List Key}, VL G D m o hs o2 → o1 = o2 := by
  induction v with
  | nil o => intro m o2 u; cases u; rfl
  | skip hk t ih =>
    intro m o2 u
    cases u with
    | skip _ t2 => exact ih t2
    | go h1 h2 _ _ => exact absurd hk (by simp [h1, h2])
  | go h1 h2 a t ih1 ih2 =>
    intro m o2 u
    cases u with
    | skip hk _ => exact absurd hk (by simp [h1, h2])
    | go _ _ a2 t2 =>
      have := ih1 a2
      subst this
      exact ih2 t2
/-- More is listed behind what is. -/
theorem VL.pre {G : Gr} {D : Key → Bool} {n : Nat} {o hs o' : List Key} (v : VL G D n o hs o') : ∃ r, o' = o ++ r := by
  induction v with
  | nil o => exact ⟨[], by simp⟩
  | skip _ _ ih => exact ih
  | @go _ _ _ _ _ _ h _ _ _ _ ih1 ih2 =>
    obtain ⟨r1, e1⟩ := ih1
    obtain ⟨r2, e2⟩ := ih2
    exact ⟨r1 ++ [h] ++ r2, by rw [e2, e1]; simp⟩
theorem VL.sub {G : Gr} {D : Key → Bool} {n : Nat} {o hs o' : List Key} (v : VL G D n o hs o') {x : Key} (hx : x ∈ o) : x ∈ o' := by
  obtain ⟨r, e⟩ := v.pre
  rw [e]; simp [hx]
/-- All that is listed is there. -/
theorem VL.inG {G : Gr} {D : Key → Bool} {n : Nat} {o hs o' : List Key} (hc : Clo G) (v : VL G D n o hs o') : (∀ x ∈ o, (aget x G).isSome = true) → (∀ x ∈ hs, (aget x G).isSome = true) → ∀ x ∈ o', (aget x G).isSome = true := by
  induction v with
  | nil o => exact fun h _ => h
  | skip _ _ ih => exact fun h1 h2 => ih h1 fun x hx => h2 x (by simp [hx])
  | @go n m o o1 hs o' h g1 g2 a t ih1 ih2 =>
    intro h1 h2
    refine ih2 (fun x hx => ?_) (fun x hx => h2 x (by simp [hx]))
    rcases List.mem_append.1 hx with hx | hx
    · exact ih1 h1 (fun p hp => hc _ _ hp) x hx
    · rw [List.mem_singleton.1 hx]; exact h2 h (by simp)
/-- Rank: how many ancestors. -/
noncomputable def rank (G : Gr) (h : Key) : Nat := (ancs G [h]).length
theorem adj_in {G : Gr} {h p : Key} (hp : p ∈ adj G h) : (aget h G).isSome = true := by
  obtain ⟨ps, e, _⟩ := adj_some hp
  rw [e]; rfl
theorem rank_lt {G : Gr} (W : Wf G) {h p : Key} (hp : p ∈ adj G h) : rank G p < rank G h := by
  have hs := adj_in hp
  have h1 : h ∉ ancs G [p] := fun hm => by
    obtain ⟨a, ha, _, hu⟩ := (ancs_mem W.clo).1 hm
    rw [List.mem_singleton.1 ha] at hu
    exact W.acy h p hp hu
  have h2 : ∀ x ∈ h :: ancs G [p], x ∈ ancs G [h] := fun x hx => by
    rcases List.mem_cons.1 hx with rfl | hx
    · exact (ancs_self W x).2 hs
    · obtain ⟨a, ha, _, hu⟩ := (ancs_mem W.clo).1 hx
      rw [List.mem_singleton.1 ha] at hu
      exact (ancs_mem W.clo).2 ⟨h, by simp, hs, .step hp hu⟩
  have hn : (ancs G [p]).Nodup := List.Pairwise.filter _ W.asc.nodup
  have := nodup_le (List.nodup_cons.2 ⟨h1, hn⟩) h2
  rw [List.length_cons] at this
  exact this
theorem VL.ex {G : Gr} (W : Wf G) (D : Key → Bool) : ∀ (r : Nat) (hs o : List Key), (∀ h ∈ hs, rank G h < r) → ∃ n o', VL G D n o hs o'
  | 0, [], o, _ => ⟨0, o, .nil o⟩
  | 0, h :: hs, _, hr => absurd (hr h (by simp)) (by omega)
  | r + 1, [], o, _ => ⟨0, o, .nil o⟩
  | r + 1, h :: hs, o, hr => by
    by_cases hk : h ∈ o ∨ D h = true
    · obtain ⟨n, o', v⟩ := VL.ex W D (r + 1) hs o (fun x hx => hr x (by simp [hx]))
      exact ⟨_, o', .skip hk v⟩
    · obtain ⟨n, o1, v⟩ := VL.ex W D r (adj G h) o (fun p hp => by have := rank_lt W hp; have := hr h (by simp); omega)
      obtain ⟨m, o', u⟩ := VL.ex W D (r + 1) hs (o1 ++ [h]) (fun x hx => hr x (by simp [hx]))
      exact ⟨_, o', .go (fun h1 => hk (.inl h1)) (by cases hd : D h with | false => rfl | true => exact absurd (.inr hd) hk) v u⟩
termination_by r hs => (r, hs.length)
theorem VL.ex' {G : Gr} (W : Wf G) (D : Key → Bool) (hs o : List Key) : ∃ n o', VL G D n o hs o' := VL.ex W D (G.length + 1) hs o (fun _ _ => Nat.lt_succ_of_le (ancs_len _ _))
/-- None is listed twice. -/
theorem VL.nodup {G : Gr} {D : Key → Bool} (W : Wf G) {n : Nat} {o hs o' : List Key} (v : VL G D n o hs o') : o.Nodup → o'.Nodup := by
  have key : ∀ {n : Nat} {o hs o' : List Key}, VL G D n o hs o' → ∀ (r : Nat), (∀ x ∈ hs, rank G x < r) → (o.Nodup → o'.Nodup) ∧ ∀ x, x ∈ o' → x ∈ o ∨ rank G x < r := by
    intro n o hs o' v
    induction v with
    | nil o => exact fun r _ => ⟨id, fun x hx => .inl hx⟩
    | skip _ _ ih => exact fun r hr => ih r fun x hx => hr x (by simp [hx])
    | @go n m o o1 hs o' h g1 g2 a t ih1 ih2 =>
      intro r hr
      have hh := hr h (by simp)
      have k1 := ih1 (rank G h) (fun p hp => rank_lt W hp)
      have k2 := ih2 r (fun x hx => hr x (by simp [hx]))
      refine ⟨fun hn => k2.1 (List.nodup_append.2 ⟨k1.1 hn, by simp, fun x hx y hy e => ?_⟩), fun x hx => ?_⟩
      · rw [List.mem_singleton.1 hy] at e
        subst e
        rcases k1.2 x hx with h3 | h3
        · exact g1 h3
        · omega
      · rcases k2.2 x hx with h3 | h3
        · rcases List.mem_append.1 h3 with h3 | h3
          · rcases k1.2 x h3 with h4 | h4
            · exact .inl h4
            · exact .inr (by omega)
          · rw [List.mem_singleton.1 h3]; exact .inr hh
        · exact .inr h3
  exact (key v (G.length + 1) (fun _ _ => Nat.lt_succ_of_le (ancs_len _ _))).1
theorem in_len {G : Gr} {o : List Key} (hn : o.Nodup) (h : ∀ x ∈ o, (aget x G).isSome = true) : o.length ≤ G.length := by
  have := nodup_le (U := G.map (·.1)) hn fun x hx => mem_keys.2 (h x hx)
  rwa [List.length_map] at this
/-- Done ones are as listed ones. -/
theorem VL.parts {G : Gr} {a : List Key} {D : Key → Bool} (hD : ∀ h, D h = decide (h ∈ a)) {n : Nat} {c hs c' : List Key} (v : VL G D n c hs c') : VL G (fun _ => false) n (a ++ c) hs (a ++ c') := by
  induction v with
  | nil o => exact .nil _
  | skip hk _ ih =>
    refine .skip (.inl ?_) ih
    rcases hk with hk | hk
    · simp [hk]
    · rw [hD] at hk
      simp [of_decide_eq_true hk]
  | go g1 g2 _ _ ih1 ih2 =>
    rw [hD] at g2
    have g3 := of_decide_eq_false g2
    refine .go (by simp [g1, g3]) rfl ih1 ?_
    rw [List.append_assoc]; exact ih2
/-- Each commit behind its parents. -/
def PB (G : Gr) (o : List Key) : Prop := ∀ i x, o[i]? = some x → ∀ p ∈ adj G x, p ∈ o.take i
theorem PB.nil (G : Gr) : PB G [] := fun i x h => by simp at h
theorem PB.snoc {G : Gr} {o : List Key} (h : PB G o) {x : Key} (hx : ∀ p ∈ adj G x, p ∈ o) : PB G (o ++ [x]) := by
  intro i y hy p hp
  rcases Nat.lt_trichotomy i o.length with hl | hl | hl
  · rw [List.getElem?_append_left hl] at hy
    rw [List.take_append_of_le_length (by omega)]
    exact h i y hy p hp
  · subst hl
    rw [List.getElem?_append_right (Nat.le_refl _), Nat.sub_self] at hy
    simp at hy
    subst hy
    rw [List.take_left]
    exact hx p hp
  · rw [List.getElem?_eq_none (by simp; omega)] at hy
    cases hy
theorem VL.pb {G : Gr} {n : Nat} {o hs o' : List Key} (v : VL G (fun _ => false) n o hs o') : PB G o → PB G o' ∧ ∀ x ∈ hs, x ∈ o' := by
  induction v with
  | nil o => exact fun h => ⟨h, fun x hx => by simp at hx⟩
  | @skip n o hs o' h hk t ih =>
    intro g
    refine ⟨(ih g).1, fun x hx => ?_⟩
    rcases List.mem_cons.1 hx with rfl | hx
    · exact t.sub (hk.elim id fun h => by cases h)
    · exact (ih g).2 x hx
  | @go n m o o1 hs o' h g1 g2 a t ih1 ih2 =>
    intro g
    have k1 := ih1 g
    have k2 := ih2 (k1.1.snoc k1.2)
    refine ⟨k2.1, fun x hx => ?_⟩
    rcases List.mem_cons.1 hx with rfl | hx
    · exact t.sub (by simp)
    · exact k2.2 x hx
theorem PB.up {G : Gr} {o : List Key} (h : PB G o) {a x : Key} (hu : Up (adj G) a x) : a ∈ o → x ∈ o := by
  refine up_mem (fun y hy p hp => ?_) hu
  obtain ⟨i, hi, e⟩ := List.mem_iff_getElem.1 hy
  exact List.mem_of_mem_take (h i y (by rw [List.getElem?_eq_getElem hi, e]) p hp)
/-- What is listed: what was, and what the commits stand on. -/
theorem VL.mem {G : Gr} {D : Key → Bool} {n : Nat} {o hs o' : List Key} (v : VL G D n o hs o') {x : Key} : x ∈ o' → x ∈ o ∨ ∃ a ∈ hs, Up (adj G) a x := by
  induction v with
  | nil o => exact .inl
  | skip _ _ ih =>
    intro hx
    rcases ih hx with h | ⟨a, h1, h2⟩
    · exact .inl h
    · exact .inr ⟨a, by simp [h1], h2⟩
  | @go n m o o1 hs o' h g1 g2 a t ih1 ih2 =>
    intro hx
    rcases ih2 hx with h3 | ⟨b, h3, h4⟩
    · rcases List.mem_append.1 h3 with h3 | h3
      · rcases ih1 h3 with h4 | ⟨b, h4, h5⟩
        · exact .inl h4
        · exact .inr ⟨h, by simp, .step h4 h5⟩
      · rw [List.mem_singleton.1 h3]; exact .inr ⟨h, by simp, .refl _⟩
    · exact .inr ⟨b, by simp [h3], h4⟩
theorem VL.mem_iff {G : Gr} {n : Nat} {o hs o' : List Key} (v : VL G (fun _ => false) n o hs o') (h : PB G o) (x : Key) : x ∈ o' ↔ x ∈ o ∨ ∃ a ∈ hs, Up (adj G) a x := by
  refine ⟨v.mem, fun hx => ?_⟩
  rcases hx with hx | ⟨a, ha, hu⟩
  · exact v.sub hx
  · exact (v.pb h).1.up hu ((v.pb h).2 a ha)
end Go.Proofs.Ythfkmfepeafgjaa
namespace Go.Proofs.Ythfkmfepeafgjaa
open Go.RowKit
open Go.Maps

/-- A walk in memory, begun at W0: graph g, done fv, the list o, the map ml of what is listed. -/
structure WK (W0 W : World) (wk g bm ml : Nat) (X : Lx) (fv lv : Value) (o : List Key) : Prop where
  bel : Below W0.heap.size W0 W
  cell : W.heap[wk]? = some (.cells #[gp g, fv, lv, .map (some ml)] 59 (0, 0))
  ga : GA W0 g bm X
  own : HOwn W W0.heap.size lv o
  set : ∃ R, SetH W ml R ∧ ∀ x, x ∈ R ↔ x ∈ o
  h32 : H32 o
  lo : W0.heap.size ≤ wk ∧ W0.heap.size ≤ ml
theorem WK.kb {W0 W W' : World} {wk g bm ml : Nat} {X : Lx} {fv lv : Value} {o : List Key} (h : WK W0 W wk g bm ml X fv lv o) (k : Below W.heap.size W W') : WK W0 W' wk g bm ml X fv lv o := by
  obtain ⟨R, h1, h2⟩ := h.set
  exact ⟨h.bel.trans (k.mono h.bel.size), (mild_below k).cells h.cell, h.ga, own_below h.own k, ⟨R, h1.kb k h1.lt', h2⟩, h.h32, h.lo⟩
theorem WK.c {W0 W : World} {wk g bm ml : Nat} {X : Lx} {fv lv : Value} {o : List Key} (h : WK W0 W wk g bm ml X fv lv o) {i : Nat} {u : Value} (hu : (#[gp g, fv, lv, .map (some ml)] : Array Value)[i]? = some u) : W.cell? ⟨wk, i, none⟩ = some u := by rw [cell_of_row W wk i _ _ _ h.cell]; exact hu
theorem WK.g {W0 W : World} {wk g bm ml : Nat} {X : Lx} {fv lv : Value} {o : List Key} (h : WK W0 W wk g bm ml X fv lv o) : GA W g bm X := h.ga.kb h.bel
abbrev wkp (wk : Nat) : Value := .pointer (some ⟨wk, 0, none⟩)
/-- What a call may turn: the walk, its map, its list. -/
def wS (wk ml : Nat) (lv : Value) (j : Nat) : Prop := j = wk ∨ j = ml ∨ lv.ownBlock = some j
theorem WK.far {W0 W W' : World} {wk g bm ml : Nat} {X : Lx} {fv lv : Value} {o : List Key} (h : WK W0 W wk g bm ml X fv lv o) (ho : Only (wS wk ml lv) W W') : Below W0.heap.size W0 W' := h.bel.trans (ho.below h.bel.size (fun j hj => by
  rcases hj with rfl | rfl | hj
  · exact h.lo.1
  · exact h.lo.2
  · exact own_from h.own j hj))
/-- A hash more in a set. -/
theorem setH_upd {t e : TypeId} (ht : Try.prog.underlying t = some (.map 28 e)) {w : World} {b : Nat} {R : List Key} (h : SetH w b R) (n : Key) (hn : n.length = 32) (hl : R.length ≤ 1000000) :
    ∃ w', (Instr.mapUpdate t (.map (some b)) (.agg (hv n)) (.agg #[])).run Try.prog w = .ok () w' ∧ (∃ R', SetH w' b R' ∧ (∀ y, y ∈ R' ↔ y = n ∨ y ∈ R) ∧ (n ∉ R → R'.length = R.length + 1)) ∧ Only (fun k => k = b) w w' := by
  obtain ⟨M, h1, hu, rfl⟩ := h.ex
  rw [List.length_map] at hl
  obtain ⟨w', hr, h2, h3⟩ := h1.store ht n hn (by unfold maxLen; omega) (.agg #[])
  have hm : ∀ y, y ∈ (aput n (Value.agg #[]) M).map (·.1) ↔ y = n ∨ y ∈ M.map (·.1) := fun y => by
    simp only [List.mem_map]
    constructor
    · rintro ⟨p, hp, rfl⟩
      rcases (ains_mem _ _ _).1 hp with rfl | hp
      · exact .inl rfl
      · exact .inr ⟨p, ((adel_mem _ _ _).1 hp).1, rfl⟩
    · rintro (rfl | ⟨p, hp, rfl⟩)
      · exact ⟨_, (ains_mem _ _ _).2 (.inl rfl), rfl⟩
      · by_cases e : p.1 = n
        · exact ⟨_, (ains_mem _ _ _).2 (.inl rfl), e.symm⟩
        · exact ⟨p, (ains_mem _ _ _).2 (.inr ((adel_mem _ _ _).2 ⟨hp, e⟩)), rfl⟩
  refine ⟨w', hr, ⟨_, ⟨⟨_, h2, fun p hp => ?_, rfl⟩⟩, hm, fun hno => ?_⟩, h3⟩
  · rcases (ains_mem _ _ _).1 hp with rfl | hp
    · rfl
    · exact hu p ((adel_mem _ _ _).1 hp).1
  · have hg : aget n M = none := by
      have := aget_isSome (n := n) (M := M)
      rw [decide_eq_false hno] at this
      cases hgg : aget n M with
      | none => rfl
      | some v => rw [hgg] at this; cases this
    have hs := asum_put (fun _ => 1) n (Value.agg #[]) h1.asc
    rw [hg] at hs
    simp only [asum_one, olen] at hs
    rw [List.length_map, List.length_map]; omega
theorem wk_set {W : World} {wk : Nat} {a b c d : Value} {t : TypeId} (h : W.heap[wk]? = some (.cells #[a, b, c, d] t (0, 0))) (u : Value) : (W.setCell ⟨wk, 2, none⟩ u).heap[wk]? = some (.cells #[a, b, u, d] t (0, 0)) := by
  rw [heap_setCell_same W wk 2 _ _ _ h]; rfl
/-- What is listed, looked up. -/
theorem WK.look {W0 W : World} {wk g bm ml : Nat} {X : Lx} {fv lv : Value} {o : List Key} (h : WK W0 W wk g bm ml X fv lv o) (x : Key) (hx : x.length = 32) :
    (Instr.lookup 57 (.map (some ml)) (.agg (hv x)) true).run Try.prog W = .ok (.tuple #[.agg #[], .bool (decide (x ∈ o))]) W := by
  obtain ⟨R, ⟨M, HM, hu, rfl⟩, h2⟩ := h.set
  have hlk := HM.lookOk Try.underlying57 (uzero _) x hx
  rw [set_get hu, aget_isSome] at hlk
  have e : decide (x ∈ M.map (·.1)) = decide (x ∈ o) := decide_eq_decide.2 (h2 x)
  rw [e] at hlk
  exact hlk
set_option linter.unusedSimpArgs false in
set_option maxRecDepth 20000 in
set_option maxHeartbeats 4000000 in
attribute [local go_sem ↓] hld_open in
theorem whas_to (W0 w : World) (wk g bm ml : Nat) (X : Lx) (fv lv : Value) (o : List Key) (H : WK W0 w wk g bm ml X fv lv o) (x : Key) (hx : x.length = 32) :
    Calls Try.prog 33 #[wkp wk, .agg (hv x)] w fun e w' => e = .returned (.bool (decide (x ∈ o))) ∧ Below w.heap.size w w' := by
  have BA := Lib.hid (below_al11 w (.cells (hv x) 28))
  have HB := Lib.hid (heap_alloc_last w (.cells (hv x) 28))
  have HW := Lib.hid (H.kb BA.out)
  have HX := Lib.hid hx
  obtain ⟨d, hd⟩ : ∃ d, d = decide (x ∈ o) := ⟨_, rfl⟩
  have HD := Lib.hid hd
  rw [← hd]
  clear H hx hd
  go_enter Try.func33, Try.ntmps33
  go_upto_region 1 with fail
  generalize w.alloc (.cells (hv x) 28) = w0 at *
  generalize hb : w.heap.size = b at HB
  clear hb
  have bq : Below w0.heap.size w0 w0.drew := blw_qt _ 1 w0
  have HWq := Lib.hid (HW.out.kb bq)
  have HBq := Lib.hid ((mild_below bq).cells HB.out)
  have Bq : Hid (Below w.heap.size w w0.drew) := Lib.hid (BA.out.trans (bq.mono BA.out.size))
  have HLK := Lib.hid (fun (V : World) (k : Below w0.drew.heap.size w0.drew V) => (by have h1 := (HWq.out.kb k).look x HX.out; rw [← HD.out] at h1; exact ⟨(HWq.out.kb k).c (i := 3) rfl, hld_row HX.out ((mild_below k).cells HBq.out), h1⟩ : V.cell? ⟨wk, 3, none⟩ = some (.map (some ml)) ∧ (hld ⟨b, 0, none⟩).run Try.prog V = .ok (.agg (hv x)) V ∧ (Instr.lookup 57 (.map (some ml)) (.agg (hv x)) true).run Try.prog V = .ok (.tuple #[.agg #[], .bool d]) V))
  clear bq
  go_wp2_with fail
  try simp only [List.append]
  refine wp_region_noPanic ?_
  refine wp_region_held_drew (S := (fun V => V.cell? ⟨wk, 3, none⟩ = some (.map (some ml)) ∧ (hld ⟨b, 0, none⟩).run Try.prog V = .ok (.agg (hv x)) V ∧ (Instr.lookup 57 (.map (some ml)) (.agg (hv x)) true).run Try.prog V = .ok (.tuple #[.agg #[], .bool d]) V)) (by kernel_rfl) (HLK.out _ (Below.refl _ _)) (fun hHeld => ?_)
  generalize w0.drew = cw at *
  refine wpAnyH_take (i := 0) (v := ?_) (by simp only [List.getElem?_toArray, List.getElem?_cons_zero]; rfl) (by kernel_rfl) (by kernel_rfl) (by kernel_rfl) (fun _ _ _ h => h) (Or.inl ⟨by rfl, ?_⟩) (by assumption) ?_
  rotate_left
  · intro w hSw
    try dsimp only at hSw
    go_simp
    try with_reducible rfl
  try simp only [Act.put, List.setIfInBounds_toArray, List.set_cons_zero, List.set_cons_succ]
  refine wpAnyH_take (i := 1) (v := ?_) (by simp only [List.getElem?_toArray, List.getElem?_cons_succ, List.getElem?_cons_zero]; rfl) (by kernel_rfl) (by kernel_rfl) (by kernel_rfl) (fun _ _ _ h => h) (Or.inl ⟨by rfl, ?_⟩) (by assumption) ?_
  rotate_left
  · intro w hSw
    try dsimp only at hSw
    go_simp
    try with_reducible rfl
  try simp only [Act.put, List.setIfInBounds_toArray, List.set_cons_zero, List.set_cons_succ]
  refine wpAnyH_take (i := 2) (v := ?_) (by simp only [List.getElem?_toArray, List.getElem?_cons_succ, List.getElem?_cons_zero]; rfl) (by kernel_rfl) (by kernel_rfl) (by kernel_rfl) (fun _ _ _ h => h) (Or.inl ⟨by rfl, ?_⟩) (by assumption) ?_
  rotate_left
  · intro w hSw
    try dsimp only at hSw
    go_simp
    try with_reducible rfl
  try simp only [Act.put, List.setIfInBounds_toArray, List.set_cons_zero, List.set_cons_succ]
  refine wpAnyH_take (i := 3) (v := ?_) (by simp only [List.getElem?_toArray, List.getElem?_cons_succ, List.getElem?_cons_zero]; rfl) (by kernel_rfl) (by kernel_rfl) (by kernel_rfl) (fun _ _ _ h => h) (Or.inl ⟨by rfl, ?_⟩) (by assumption) ?_
  rotate_left
  · intro w hSw
    try dsimp only at hSw
    go_simp
    try with_reducible rfl
  try simp only [Act.put, List.setIfInBounds_toArray, List.set_cons_zero, List.set_cons_succ]
  refine wpAnyH_take (i := 4) (v := ?_) (by simp only [List.getElem?_toArray, List.getElem?_cons_succ, List.getElem?_cons_zero]; rfl) (by kernel_rfl) (by kernel_rfl) (by kernel_rfl) (fun _ _ _ h => h) (Or.inl ⟨by rfl, ?_⟩) (by assumption) ?_
  rotate_left
  · intro w hSw
    try dsimp only at hSw
    go_simp
    try with_reducible rfl
  try simp only [Act.put, List.setIfInBounds_toArray, List.set_cons_zero, List.set_cons_succ]
  refine wpAnyH_take (i := 5) (v := ?_) (by simp only [List.getElem?_toArray, List.getElem?_cons_succ, List.getElem?_cons_zero]; rfl) (by kernel_rfl) (by kernel_rfl) (by kernel_rfl) (fun _ _ _ h => h) (Or.inl ⟨by rfl, ?_⟩) (by assumption) ?_
  rotate_left
  · intro w hSw
    try dsimp only at hSw
    go_simp
    try with_reducible rfl
  try simp only [Act.put, List.setIfInBounds_toArray, List.set_cons_zero, List.set_cons_succ]
  refine wpAnyH_take (i := 6) (v := ?_) (by simp only [List.getElem?_toArray, List.getElem?_cons_succ, List.getElem?_cons_zero]; rfl) (by kernel_rfl) (by kernel_rfl) (by kernel_rfl) (fun _ _ _ h => h) (Or.inl ⟨by rfl, ?_⟩) (by assumption) ?_
  rotate_left
  · intro w hSw
    try dsimp only at hSw
    go_simp
    try with_reducible rfl
  try simp only [Act.put, List.setIfInBounds_toArray, List.set_cons_zero, List.set_cons_succ]
  refine wpAnyH_take (i := 7) (v := ?_) (by simp only [List.getElem?_toArray, List.getElem?_cons_succ, List.getElem?_cons_zero]; rfl) (by kernel_rfl) (by kernel_rfl) (by kernel_rfl) (fun _ _ _ h => h) (Or.inl ⟨by rfl, ?_⟩) (by assumption) ?_
  rotate_left
  · intro w hSw
    try dsimp only at hSw
    go_simp
    try with_reducible rfl
  try simp only [Act.put, List.setIfInBounds_toArray, List.set_cons_zero, List.set_cons_succ]
  refine wpAnyH_take (i := 8) (v := ?_) (by simp only [List.getElem?_toArray, List.getElem?_cons_succ, List.getElem?_cons_zero]; rfl) (by kernel_rfl) (by kernel_rfl) (by kernel_rfl) (fun _ _ _ h => h) (Or.inl ⟨by rfl, ?_⟩) (by assumption) ?_
  rotate_left
  · intro w hSw
    try dsimp only at hSw
    go_simp
    try with_reducible rfl
  try simp only [Act.put, List.setIfInBounds_toArray, List.set_cons_zero, List.set_cons_succ]
  refine wpAnyH_ready (rs := [9]) (by kernel_rfl) (by simp) ?_
  refine AllReadyH.cons (by simp only [List.getElem?_toArray, List.getElem?_cons_succ, List.getElem?_cons_zero]; rfl) (fun K hK => ?_) AllReadyH.nil
  go_simp
  have AL := Lib.hid (below_al11 cw (.cells #[] 93))
  refine hK.out _ _ (HLK.out _ AL.out) (fun hHeld => ?_)
  clear hK K
  try simp only [Act.put, List.setIfInBounds_toArray, List.set_cons_zero, List.set_cons_succ]
  have BX := Lib.hid (Bq.out.trans (AL.out.mono Bq.out.size))
  clear HWq HBq Bq
  generalize hcx : cw.alloc (.cells #[] 93) = cx at *
  refine wpAnyH_ready (rs := [10]) (by kernel_rfl) (by simp) ?_
  refine AllReadyH.cons (by simp only [List.getElem?_toArray, List.getElem?_cons_succ, List.getElem?_cons_zero]; rfl) (fun K hK => ?_) AllReadyH.nil
  go_simp
  refine hK.out _ _ (HLK.out _ AL.out) (fun hHeld => ?_)
  clear hK K
  try simp only [Act.put, List.setIfInBounds_toArray, List.set_cons_zero, List.set_cons_succ]
  refine wpAnyH_take (i := 11) (v := ?_) (by simp only [List.getElem?_toArray, List.getElem?_cons_succ, List.getElem?_cons_zero]; rfl) (by kernel_rfl) (by kernel_rfl) (by kernel_rfl) (fun _ _ _ h => h) (Or.inl ⟨by rfl, ?_⟩) (by assumption) ?_
  rotate_left
  · intro w hSw
    try dsimp only at hSw
    go_simp
    try with_reducible rfl
  try simp only [Act.put, List.setIfInBounds_toArray, List.set_cons_zero, List.set_cons_succ]
  refine wpAnyH_done (by kernel_rfl) ?_ _
  refine NoPanic.normal ?_
  clear hHeld
  go_wp2_with fail
  go_ret
  exact ⟨rfl, BX.out⟩
set_option linter.unusedSimpArgs false in
set_option maxRecDepth 20000 in
set_option maxHeartbeats 4000000 in
attribute [local go_sem ↓] hld_open in
theorem wadd_to (W0 w : World) (wk g bm ml : Nat) (X : Lx) (fv lv : Value) (o : List Key) (H : WK W0 w wk g bm ml X fv lv o) (x : Key) (hx : x.length = 32) (hl : o.length + 1 ≤ 1000000) :
    Calls Try.prog 49 #[wkp wk, .agg (hv x)] w fun e w' => e = .returned (.tuple #[]) ∧ ∃ lv', WK W0 w' wk g bm ml X fv lv' (o ++ [x]) ∧ Only (wS wk ml lv) w w' ∧ ∀ j, lv'.ownBlock = some j → lv.ownBlock = some j ∨ w.heap.size ≤ j := by
  obtain ⟨q, m, c, rfl, hm⟩ := own_sh H.own
  have HM := Lib.hid hm
  have BA := Lib.hid (below_al11 w (.cells (hv x) 28))
  have HB := Lib.hid (heap_alloc_last w (.cells (hv x) 28))
  have HW := Lib.hid (H.kb BA.out)
  have HX := Lib.hid hx
  have HL := Lib.hid hl
  have HWE := Lib.hid H
  clear hx hl hm H
  go_enter Try.func49, Try.ntmps49
  go_upto_region 1 with fail
  generalize w.alloc (.cells (hv x) 28) = w0 at *
  generalize hb : w.heap.size = b at HB
  have HBE := Lib.hid hb
  clear hb
  have HNB : Hid (b ≠ wk) := Lib.hid (fun e => by have h1 := HB.out; rw [e, HW.out.cell] at h1; injection h1 with h1; injection h1 with _ h1 _; revert h1; decide)
  have BW : Hid (Below w0.heap.size w0 w0.drew) := Lib.hid (blw_qt _ 1 w0)
  have HC := Lib.hid (fun (V : World) (k : Below w0.heap.size w0 V) => (HW.out.kb k).c (i := 2) rfl)
  have HLD := Lib.hid (fun (V : World) (k : Below w0.heap.size w0 V) => hld_row (w := V) HX.out ((mild_below k).cells HB.out))
  go_wp2_with fail
  try simp only [List.append]
  refine wp_region_noPanic ?_
  refine wp_region_held_drew (S := (fun V => (hld ⟨b, 0, none⟩).run Try.prog V = .ok (.agg (hv x)) V)) (by kernel_rfl) (HLD.out _ BW.out) (fun hHeld => ?_)
  generalize w0.drew = cw at *
  refine wpAnyH_take (i := 0) (v := ?_) (by simp only [List.getElem?_toArray, List.getElem?_cons_zero]; rfl) (by kernel_rfl) (by kernel_rfl) (by kernel_rfl) (fun _ _ _ h => h) (Or.inl ⟨by rfl, ?_⟩) (by assumption) ?_
  rotate_left
  · intro w hSw
    try dsimp only at hSw
    go_simp
    try with_reducible rfl
  try simp only [Act.put, List.setIfInBounds_toArray, List.set_cons_zero, List.set_cons_succ]
  refine wpAnyH_take (i := 1) (v := ?_) (by simp only [List.getElem?_toArray, List.getElem?_cons_succ, List.getElem?_cons_zero]; rfl) (by kernel_rfl) (by kernel_rfl) (by kernel_rfl) (fun _ _ _ h => h) (Or.inl ⟨by rfl, ?_⟩) (by assumption) ?_
  rotate_left
  · intro w hSw
    try dsimp only at hSw
    go_simp
    try with_reducible rfl
  try simp only [Act.put, List.setIfInBounds_toArray, List.set_cons_zero, List.set_cons_succ]
  refine wpAnyH_take (i := 2) (v := ?_) (by simp only [List.getElem?_toArray, List.getElem?_cons_succ, List.getElem?_cons_zero]; rfl) (by kernel_rfl) (by kernel_rfl) (by kernel_rfl) (fun _ _ _ h => h) (Or.inl ⟨by rfl, ?_⟩) (by assumption) ?_
  rotate_left
  · intro w hSw
    try dsimp only at hSw
    go_simp
    try with_reducible rfl
  try simp only [Act.put, List.setIfInBounds_toArray, List.set_cons_zero, List.set_cons_succ]
  refine wpAnyH_take (i := 3) (v := ?_) (by simp only [List.getElem?_toArray, List.getElem?_cons_succ, List.getElem?_cons_zero]; rfl) (by kernel_rfl) (by kernel_rfl) (by kernel_rfl) (fun _ _ _ h => h) (Or.inl ⟨by rfl, ?_⟩) (by assumption) ?_
  rotate_left
  · intro w hSw
    try dsimp only at hSw
    go_simp
    try with_reducible rfl
  try simp only [Act.put, List.setIfInBounds_toArray, List.set_cons_zero, List.set_cons_succ]
  refine wpAnyH_take (i := 5) (v := ?_) (by simp only [List.getElem?_toArray, List.getElem?_cons_succ, List.getElem?_cons_zero]; rfl) (by kernel_rfl) (by kernel_rfl) (by kernel_rfl) (fun _ _ _ h => h) (Or.inl ⟨by rfl, ?_⟩) (by assumption) ?_
  rotate_left
  · intro w hSw
    try dsimp only at hSw
    go_simp
    try with_reducible rfl
  try simp only [Act.put, List.setIfInBounds_toArray, List.set_cons_zero, List.set_cons_succ]
  refine wpAnyH_ready (rs := [4, 6]) (by kernel_rfl) (by simp) ?_
  refine (AllReadyH.cons (by simp only [List.getElem?_toArray, List.getElem?_cons_succ, List.getElem?_cons_zero]; rfl) (fun K hK => ?_) (AllReadyH.cons (by simp only [List.getElem?_toArray, List.getElem?_cons_succ, List.getElem?_cons_zero]; rfl) (fun K hK => ?_) AllReadyH.nil))
  · have hc := HC.out cw BW.out
    go_simp
    clear hc
    refine hK.out _ _ (HLD.out _ BW.out) (fun hHeld => ?_)
    clear hK K
    try simp only [Act.put, List.setIfInBounds_toArray, List.set_cons_zero, List.set_cons_succ]
    refine wpAnyH_ready (rs := [6]) (by kernel_rfl) (by simp) ?_
    refine (AllReadyH.cons (by simp only [List.getElem?_toArray, List.getElem?_cons_succ, List.getElem?_cons_zero]; rfl) (fun K hK => ?_) AllReadyH.nil)
    refine step_sl1 x HX.out (by rfl) (by rfl) ?_
    have HN := Lib.hid (heap_alloc_last cw (.cells (hv x) 28))
    have BW := Lib.hid (BW.out.trans ((below_al11 cw (.cells (hv x) 28)).mono BW.out.size))
    generalize cw.alloc (.cells (hv x) 28) = cx at *
    generalize cw.heap.size = nb at *
    rename World => cw
    refine hK.out _ _ (HLD.out _ BW.out) (fun hHeld => ?_)
    clear hK K
    try simp only [Act.put, List.setIfInBounds_toArray, List.set_cons_zero, List.set_cons_succ]
    refine wpAnyH_ready (rs := [7]) (by kernel_rfl) (by simp) ?_
    refine (AllReadyH.cons (by simp only [List.getElem?_toArray, List.getElem?_cons_succ, List.getElem?_cons_zero]; rfl) (fun K hK => ?_) AllReadyH.nil)
    have OW := Lib.hid (own_below HW.out.own BW.out)
    have CW7 := Lib.hid ((mild_below BW.out).cells HW.out.cell)
    have HBW := Lib.hid ((mild_below BW.out).cells HB.out)
    refine step_pushh rfl _ _ rfl W0.heap.size (.slice q m c) o nb x HX.out (by rfl) OW.out (by rfl) HN.out HL.out (Nat.le_trans HW.out.bel.size BW.out.size) (m + 1) (by rw [HM.out]) ?_
    intro p7 c7 cx o7 oth7 loc7
    have O7 := Lib.hid o7
    have HB7 := Lib.hid ((oth7.block b (Array.getElem?_eq_some_iff.1 HBW.out).1 (fun e => by have h1 := own_lt HWE.out.own b e; have h2 := HBE.out; omega)).trans HBW.out)
    have C7 := Lib.hid ((oth7.block wk (Array.getElem?_eq_some_iff.1 CW7.out).1 (fun e => own_apart OW.out CW7.out (by decide) e)).trans CW7.out)
    have OT7 : Hid (Only (fun j => (Value.slice q m c).ownBlock = some j) w cx) := Lib.hid ((Only.of_below (S := fun j => (Value.slice q m c).ownBlock = some j) (BA.out.trans (BW.out.mono BA.out.size))).trans oth7 (fun _ h => h) (fun _ _ h => h))
    have LOC7 : Hid (∀ j, (Value.slice p7 (m + 1) c7).ownBlock = some j → (Value.slice q m c).ownBlock = some j ∨ w.heap.size ≤ j) := Lib.hid (fun j hj => (loc7 j hj).imp id (fun h => Nat.le_trans (Nat.le_trans BA.out.size BW.out.size) h))
    clear o7 oth7 loc7 OW CW7 HBW BW HN
    rename World => cw
    refine hK.out _ _ (hld_row HX.out HB7.out) (fun hHeld => ?_)
    clear hK K
    try simp only [Act.put, List.setIfInBounds_toArray, List.set_cons_zero, List.set_cons_succ]
    refine wpAnyH_take (i := 8) (v := ?_) (by simp only [List.getElem?_toArray, List.getElem?_cons_succ, List.getElem?_cons_zero]; rfl) (by kernel_rfl) (by kernel_rfl) (by kernel_rfl) (fun _ _ _ h => h) (Or.inl ⟨by rfl, ?_⟩) (by assumption) ?_
    rotate_left
    · intro w hSw
      try dsimp only at hSw
      go_simp
      try with_reducible rfl
    try simp only [Act.put, List.setIfInBounds_toArray, List.set_cons_zero, List.set_cons_succ]
    refine wpAnyH_take (i := 9) (v := ?_) (by simp only [List.getElem?_toArray, List.getElem?_cons_succ, List.getElem?_cons_zero]; rfl) (by kernel_rfl) (by kernel_rfl) (by kernel_rfl) (fun _ _ _ h => h) (Or.inl ⟨by rfl, ?_⟩) (by assumption) ?_
    rotate_left
    · intro w hSw
      try dsimp only at hSw
      go_simp
      try with_reducible rfl
    try simp only [Act.put, List.setIfInBounds_toArray, List.set_cons_zero, List.set_cons_succ]
    refine wpAnyH_ready (rs := [10]) (by kernel_rfl) (by simp) ?_
    refine (AllReadyH.cons (by simp only [List.getElem?_toArray, List.getElem?_cons_succ, List.getElem?_cons_zero]; rfl) (fun K hK => ?_) AllReadyH.nil)
    have hc := cell_obj C7.out 2 rfl
    have hf : cw.frozen? ⟨wk, 2, none⟩ = false := frozen_of_row _ _ _ _ _ C7.out
    have OS : Only (fun j => j = wk) cw (cw.setCell ⟨wk, 2, none⟩ (.slice p7 (m + 1) c7)) := (Only.refl (fun j => j = wk) cw).setCell (p := ⟨wk, 2, none⟩) rfl _
    have HB8 := Lib.hid ((OS.block b (Array.getElem?_eq_some_iff.1 HB7.out).1 HNB.out).trans HB7.out)
    have C8 := Lib.hid (wk_set C7.out (.slice p7 (m + 1) c7))
    have O8 := Lib.hid (own_keep O7.out OS (fun j hj e => own_apart O7.out C7.out (by decide) (by rw [hj, e])))
    have OT8 : Hid (Only (wS wk ml (.slice q m c)) w (cw.setCell ⟨wk, 2, none⟩ (.slice p7 (m + 1) c7))) := Lib.hid (OT7.out.trans OS (fun _ h => .inr (.inr h)) (fun _ _ h => .inl h))
    have HLM : Hid (ml < w.heap.size ∧ b ≠ ml ∧ wk ≠ ml) := Lib.hid (by
      obtain ⟨R, h1, _⟩ := HWE.out.set
      have h2 := h1.lt'
      have h3 := HBE.out
      refine ⟨by omega, by omega, fun e => ?_⟩
      obtain ⟨M, h4, _⟩ := h1.ex
      obtain ⟨es, cc, h5⟩ := h4.ismap
      rw [← e, HWE.out.cell] at h5
      cases h5)
    have S8 : Hid (∃ R, SetH (cw.setCell ⟨wk, 2, none⟩ (.slice p7 (m + 1) c7)) ml R ∧ ∀ y, y ∈ R ↔ y ∈ o) := Lib.hid (by
      obtain ⟨R, h1, h2⟩ := HWE.out.set
      refine ⟨R, h1.step (OT7.out.trans OS (fun _ h => Or.inl h) (fun _ _ h => Or.inr h)) (fun h => ?_), h2⟩
      rcases h with h | h
      · obtain ⟨M, h4, _⟩ := h1.ex
        exact own_ne_map HWE.out.own h4 h
      · exact HLM.out.2.2 h.symm)
    go_simp
    clear hc hf OS C7 HB7 O7 OT7
    refine hK.out _ _ (hld_row HX.out HB8.out) (fun hHeld => ?_)
    clear hK K
    try simp only [Act.put, List.setIfInBounds_toArray, List.set_cons_zero, List.set_cons_succ]
    refine wpAnyH_done (by kernel_rfl) ?_ _
    refine NoPanic.normal ?_
    clear hHeld
    generalize cw.setCell ⟨wk, 2, none⟩ (.slice p7 (m + 1) c7) = w2 at *
    have bq : Below w2.heap.size w2 w2.drew := blw_qt _ 1 w2
    have C9 := Lib.hid ((mild_below bq).cells C8.out)
    have HB9 := Lib.hid ((mild_below bq).cells HB8.out)
    have O9 := Lib.hid (own_below O8.out bq)
    have OT9 : Hid (Only (wS wk ml (.slice q m c)) w w2.drew) := Lib.hid (OT8.out.trans (Only.of_below (S := wS wk ml (.slice q m c)) bq) (fun _ h => h) (fun _ _ h => h))
    have S9 : Hid (∃ R, SetH w2.drew ml R ∧ ∀ y, y ∈ R ↔ y ∈ o) := Lib.hid (by
      obtain ⟨R, h1, h2⟩ := S8.out
      exact ⟨R, h1.kb bq h1.lt', h2⟩)
    clear bq C8 HB8 O8 OT8 S8
    go_wp2_with fail
    try simp only [List.append]
    refine wp_region_noPanic ?_
    refine wp_region_held_drew (S := (fun V => V.cell? ⟨wk, 3, none⟩ = some (.map (some ml)) ∧ (hld ⟨b, 0, none⟩).run Try.prog V = .ok (.agg (hv x)) V)) (by kernel_rfl) ⟨cell_obj C9.out 3 rfl, hld_row HX.out HB9.out⟩ (fun hHeld => ?_)
    generalize w2.drew = w3 at *
    obtain ⟨R, hS, hR⟩ := S9.out
    obtain ⟨wm, hmu, ⟨R', s5, hR', _⟩, o5⟩ := setH_upd Try.underlying57 hS x HX.out (by have := nodup_le (setH_nodup hS) (fun y hy => (hR y).1 hy); have := HL.out; omega)
    have HMU := Lib.hid hmu
    have HNM : Hid ((Value.slice p7 (m + 1) c7).ownBlock ≠ some ml) := Lib.hid (by
      obtain ⟨M, h4, _⟩ := hS.ex
      exact own_ne_map O9.out h4)
    have CM := Lib.hid ((o5.block wk (Array.getElem?_eq_some_iff.1 C9.out).1 HLM.out.2.2).trans C9.out)
    have HBM := Lib.hid ((o5.block b (Array.getElem?_eq_some_iff.1 HB9.out).1 HLM.out.2.1).trans HB9.out)
    have OM := Lib.hid (own_keep O9.out o5 (fun j hj e => HNM.out (by rw [hj, e])))
    have OTM : Hid (Only (wS wk ml (.slice q m c)) w wm) := Lib.hid (OT9.out.trans o5 (fun _ h => h) (fun _ _ h => .inr (.inl h)))
    have SM : Hid (∃ R, SetH wm ml R ∧ ∀ y, y ∈ R ↔ y ∈ o ++ [x]) := Lib.hid ⟨R', s5, fun y => by
      rw [hR', hR, List.mem_append, List.mem_singleton]
      exact or_comm⟩
    clear hmu hS hR s5 hR' o5 C9 HB9 O9 OT9 S9
    refine wpAnyH_take (i := 0) (v := ?_) (by simp only [List.getElem?_toArray, List.getElem?_cons_zero]; rfl) (by kernel_rfl) (by kernel_rfl) (by kernel_rfl) (fun _ _ _ h => h) (Or.inl ⟨by rfl, ?_⟩) (by assumption) ?_
    rotate_left
    · intro w hSw
      try dsimp only at hSw
      go_simp
      try with_reducible rfl
    try simp only [Act.put, List.setIfInBounds_toArray, List.set_cons_zero, List.set_cons_succ]
    refine wpAnyH_take (i := 1) (v := ?_) (by simp only [List.getElem?_toArray, List.getElem?_cons_succ, List.getElem?_cons_zero]; rfl) (by kernel_rfl) (by kernel_rfl) (by kernel_rfl) (fun _ _ _ h => h) (Or.inl ⟨by rfl, ?_⟩) (by assumption) ?_
    rotate_left
    · intro w hSw
      try dsimp only at hSw
      go_simp
      try with_reducible rfl
    try simp only [Act.put, List.setIfInBounds_toArray, List.set_cons_zero, List.set_cons_succ]
    refine wpAnyH_take (i := 2) (v := ?_) (by simp only [List.getElem?_toArray, List.getElem?_cons_succ, List.getElem?_cons_zero]; rfl) (by kernel_rfl) (by kernel_rfl) (by kernel_rfl) (fun _ _ _ h => h) (Or.inl ⟨by rfl, ?_⟩) (by assumption) ?_
    rotate_left
    · intro w hSw
      try dsimp only at hSw
      go_simp
      try with_reducible rfl
    try simp only [Act.put, List.setIfInBounds_toArray, List.set_cons_zero, List.set_cons_succ]
    refine wpAnyH_take (i := 3) (v := ?_) (by simp only [List.getElem?_toArray, List.getElem?_cons_succ, List.getElem?_cons_zero]; rfl) (by kernel_rfl) (by kernel_rfl) (by kernel_rfl) (fun _ _ _ h => h) (Or.inl ⟨by rfl, ?_⟩) (by assumption) ?_
    rotate_left
    · intro w hSw
      try dsimp only at hSw
      go_simp
      try with_reducible rfl
    try simp only [Act.put, List.setIfInBounds_toArray, List.set_cons_zero, List.set_cons_succ]
    refine wpAnyH_take (i := 4) (v := ?_) (by simp only [List.getElem?_toArray, List.getElem?_cons_succ, List.getElem?_cons_zero]; rfl) (by kernel_rfl) (by kernel_rfl) (by kernel_rfl) (fun _ _ _ h => h) (Or.inl ⟨by rfl, ?_⟩) (by assumption) ?_
    rotate_left
    · intro w hSw
      try dsimp only at hSw
      go_simp
      try with_reducible rfl
    try simp only [Act.put, List.setIfInBounds_toArray, List.set_cons_zero, List.set_cons_succ]
    refine wpAnyH_take (i := 5) (v := ?_) (by simp only [List.getElem?_toArray, List.getElem?_cons_succ, List.getElem?_cons_zero]; rfl) (by kernel_rfl) (by kernel_rfl) (by kernel_rfl) (fun _ _ _ h => h) (Or.inl ⟨by rfl, ?_⟩) (by assumption) ?_
    rotate_left
    · intro w hSw
      try dsimp only at hSw
      go_simp
      try with_reducible rfl
    try simp only [Act.put, List.setIfInBounds_toArray, List.set_cons_zero, List.set_cons_succ]
    refine wpAnyH_ready (rs := [6]) (by kernel_rfl) (by simp) ?_
    refine AllReadyH.cons (by simp only [List.getElem?_toArray, List.getElem?_cons_succ, List.getElem?_cons_zero]; rfl) (fun K hK => ?_) AllReadyH.nil
    refine step_upd rfl _ _ _ rfl (by rfl) (by rfl) (by rfl) HMU.out ?_
    refine hK.out _ _ ⟨cell_obj CM.out 3 rfl, hld_row HX.out HBM.out⟩ (fun hHeld => ?_)
    clear hK K
    try simp only [Act.put, List.setIfInBounds_toArray, List.set_cons_zero, List.set_cons_succ]
    refine wpAnyH_done (by kernel_rfl) ?_ _
    refine NoPanic.normal ?_
    clear hHeld
    go_wp2_with fail
    refine bodyPost_end (results_none rfl _ _ _) rfl ?_
    exact ⟨rfl, _, ⟨HWE.out.far OTM.out, CM.out, HWE.out.ga, OM.out, SM.out, HWE.out.h32.app (H32.one HX.out), HWE.out.lo⟩, OTM.out, LOC7.out⟩
  · refine step_sl1 x HX.out (by rfl) (by rfl) ?_
    have HN := Lib.hid (heap_alloc_last cw (.cells (hv x) 28))
    have BW := Lib.hid (BW.out.trans ((below_al11 cw (.cells (hv x) 28)).mono BW.out.size))
    generalize cw.alloc (.cells (hv x) 28) = cx at *
    generalize cw.heap.size = nb at *
    rename World => cw
    refine hK.out _ _ (HLD.out _ BW.out) (fun hHeld => ?_)
    clear hK K
    try simp only [Act.put, List.setIfInBounds_toArray, List.set_cons_zero, List.set_cons_succ]
    refine wpAnyH_ready (rs := [4]) (by kernel_rfl) (by simp) ?_
    refine (AllReadyH.cons (by simp only [List.getElem?_toArray, List.getElem?_cons_succ, List.getElem?_cons_zero]; rfl) (fun K hK => ?_) AllReadyH.nil)
    have hc := HC.out cw BW.out
    go_simp
    clear hc
    refine hK.out _ _ (HLD.out _ BW.out) (fun hHeld => ?_)
    clear hK K
    try simp only [Act.put, List.setIfInBounds_toArray, List.set_cons_zero, List.set_cons_succ]
    refine wpAnyH_ready (rs := [7]) (by kernel_rfl) (by simp) ?_
    refine (AllReadyH.cons (by simp only [List.getElem?_toArray, List.getElem?_cons_succ, List.getElem?_cons_zero]; rfl) (fun K hK => ?_) AllReadyH.nil)
    have OW := Lib.hid (own_below HW.out.own BW.out)
    have CW7 := Lib.hid ((mild_below BW.out).cells HW.out.cell)
    have HBW := Lib.hid ((mild_below BW.out).cells HB.out)
    refine step_pushh rfl _ _ rfl W0.heap.size (.slice q m c) o nb x HX.out (by rfl) OW.out (by rfl) HN.out HL.out (Nat.le_trans HW.out.bel.size BW.out.size) (m + 1) (by rw [HM.out]) ?_
    intro p7 c7 cx o7 oth7 loc7
    have O7 := Lib.hid o7
    have HB7 := Lib.hid ((oth7.block b (Array.getElem?_eq_some_iff.1 HBW.out).1 (fun e => by have h1 := own_lt HWE.out.own b e; have h2 := HBE.out; omega)).trans HBW.out)
    have C7 := Lib.hid ((oth7.block wk (Array.getElem?_eq_some_iff.1 CW7.out).1 (fun e => own_apart OW.out CW7.out (by decide) e)).trans CW7.out)
    have OT7 : Hid (Only (fun j => (Value.slice q m c).ownBlock = some j) w cx) := Lib.hid ((Only.of_below (S := fun j => (Value.slice q m c).ownBlock = some j) (BA.out.trans (BW.out.mono BA.out.size))).trans oth7 (fun _ h => h) (fun _ _ h => h))
    have LOC7 : Hid (∀ j, (Value.slice p7 (m + 1) c7).ownBlock = some j → (Value.slice q m c).ownBlock = some j ∨ w.heap.size ≤ j) := Lib.hid (fun j hj => (loc7 j hj).imp id (fun h => Nat.le_trans (Nat.le_trans BA.out.size BW.out.size) h))
    clear o7 oth7 loc7 OW CW7 HBW BW HN
    rename World => cw
    refine hK.out _ _ (hld_row HX.out HB7.out) (fun hHeld => ?_)
    clear hK K
    try simp only [Act.put, List.setIfInBounds_toArray, List.set_cons_zero, List.set_cons_succ]
    refine wpAnyH_take (i := 8) (v := ?_) (by simp only [List.getElem?_toArray, List.getElem?_cons_succ, List.getElem?_cons_zero]; rfl) (by kernel_rfl) (by kernel_rfl) (by kernel_rfl) (fun _ _ _ h => h) (Or.inl ⟨by rfl, ?_⟩) (by assumption) ?_
    rotate_left
    · intro w hSw
      try dsimp only at hSw
      go_simp
      try with_reducible rfl
    try simp only [Act.put, List.setIfInBounds_toArray, List.set_cons_zero, List.set_cons_succ]
    refine wpAnyH_take (i := 9) (v := ?_) (by simp only [List.getElem?_toArray, List.getElem?_cons_succ, List.getElem?_cons_zero]; rfl) (by kernel_rfl) (by kernel_rfl) (by kernel_rfl) (fun _ _ _ h => h) (Or.inl ⟨by rfl, ?_⟩) (by assumption) ?_
    rotate_left
    · intro w hSw
      try dsimp only at hSw
      go_simp
      try with_reducible rfl
    try simp only [Act.put, List.setIfInBounds_toArray, List.set_cons_zero, List.set_cons_succ]
    refine wpAnyH_ready (rs := [10]) (by kernel_rfl) (by simp) ?_
    refine (AllReadyH.cons (by simp only [List.getElem?_toArray, List.getElem?_cons_succ, List.getElem?_cons_zero]; rfl) (fun K hK => ?_) AllReadyH.nil)
    have hc := cell_obj C7.out 2 rfl
    have hf : cw.frozen? ⟨wk, 2, none⟩ = false := frozen_of_row _ _ _ _ _ C7.out
    have OS : Only (fun j => j = wk) cw (cw.setCell ⟨wk, 2, none⟩ (.slice p7 (m + 1) c7)) := (Only.refl (fun j => j = wk) cw).setCell (p := ⟨wk, 2, none⟩) rfl _
    have HB8 := Lib.hid ((OS.block b (Array.getElem?_eq_some_iff.1 HB7.out).1 HNB.out).trans HB7.out)
    have C8 := Lib.hid (wk_set C7.out (.slice p7 (m + 1) c7))
    have O8 := Lib.hid (own_keep O7.out OS (fun j hj e => own_apart O7.out C7.out (by decide) (by rw [hj, e])))
    have OT8 : Hid (Only (wS wk ml (.slice q m c)) w (cw.setCell ⟨wk, 2, none⟩ (.slice p7 (m + 1) c7))) := Lib.hid (OT7.out.trans OS (fun _ h => .inr (.inr h)) (fun _ _ h => .inl h))
    have HLM : Hid (ml < w.heap.size ∧ b ≠ ml ∧ wk ≠ ml) := Lib.hid (by
      obtain ⟨R, h1, _⟩ := HWE.out.set
      have h2 := h1.lt'
      have h3 := HBE.out
      refine ⟨by omega, by omega, fun e => ?_⟩
      obtain ⟨M, h4, _⟩ := h1.ex
      obtain ⟨es, cc, h5⟩ := h4.ismap
      rw [← e, HWE.out.cell] at h5
      cases h5)
    have S8 : Hid (∃ R, SetH (cw.setCell ⟨wk, 2, none⟩ (.slice p7 (m + 1) c7)) ml R ∧ ∀ y, y ∈ R ↔ y ∈ o) := Lib.hid (by
      obtain ⟨R, h1, h2⟩ := HWE.out.set
      refine ⟨R, h1.step (OT7.out.trans OS (fun _ h => Or.inl h) (fun _ _ h => Or.inr h)) (fun h => ?_), h2⟩
      rcases h with h | h
      · obtain ⟨M, h4, _⟩ := h1.ex
        exact own_ne_map HWE.out.own h4 h
      · exact HLM.out.2.2 h.symm)
    go_simp
    clear hc hf OS C7 HB7 O7 OT7
    refine hK.out _ _ (hld_row HX.out HB8.out) (fun hHeld => ?_)
    clear hK K
    try simp only [Act.put, List.setIfInBounds_toArray, List.set_cons_zero, List.set_cons_succ]
    refine wpAnyH_done (by kernel_rfl) ?_ _
    refine NoPanic.normal ?_
    clear hHeld
    generalize cw.setCell ⟨wk, 2, none⟩ (.slice p7 (m + 1) c7) = w2 at *
    have bq : Below w2.heap.size w2 w2.drew := blw_qt _ 1 w2
    have C9 := Lib.hid ((mild_below bq).cells C8.out)
    have HB9 := Lib.hid ((mild_below bq).cells HB8.out)
    have O9 := Lib.hid (own_below O8.out bq)
    have OT9 : Hid (Only (wS wk ml (.slice q m c)) w w2.drew) := Lib.hid (OT8.out.trans (Only.of_below (S := wS wk ml (.slice q m c)) bq) (fun _ h => h) (fun _ _ h => h))
    have S9 : Hid (∃ R, SetH w2.drew ml R ∧ ∀ y, y ∈ R ↔ y ∈ o) := Lib.hid (by
      obtain ⟨R, h1, h2⟩ := S8.out
      exact ⟨R, h1.kb bq h1.lt', h2⟩)
    clear bq C8 HB8 O8 OT8 S8
    go_wp2_with fail
    try simp only [List.append]
    refine wp_region_noPanic ?_
    refine wp_region_held_drew (S := (fun V => V.cell? ⟨wk, 3, none⟩ = some (.map (some ml)) ∧ (hld ⟨b, 0, none⟩).run Try.prog V = .ok (.agg (hv x)) V)) (by kernel_rfl) ⟨cell_obj C9.out 3 rfl, hld_row HX.out HB9.out⟩ (fun hHeld => ?_)
    generalize w2.drew = w3 at *
    obtain ⟨R, hS, hR⟩ := S9.out
    obtain ⟨wm, hmu, ⟨R', s5, hR', _⟩, o5⟩ := setH_upd Try.underlying57 hS x HX.out (by have := nodup_le (setH_nodup hS) (fun y hy => (hR y).1 hy); have := HL.out; omega)
    have HMU := Lib.hid hmu
    have HNM : Hid ((Value.slice p7 (m + 1) c7).ownBlock ≠ some ml) := Lib.hid (by
      obtain ⟨M, h4, _⟩ := hS.ex
      exact own_ne_map O9.out h4)
    have CM := Lib.hid ((o5.block wk (Array.getElem?_eq_some_iff.1 C9.out).1 HLM.out.2.2).trans C9.out)
    have HBM := Lib.hid ((o5.block b (Array.getElem?_eq_some_iff.1 HB9.out).1 HLM.out.2.1).trans HB9.out)
    have OM := Lib.hid (own_keep O9.out o5 (fun j hj e => HNM.out (by rw [hj, e])))
    have OTM : Hid (Only (wS wk ml (.slice q m c)) w wm) := Lib.hid (OT9.out.trans o5 (fun _ h => h) (fun _ _ h => .inr (.inl h)))
    have SM : Hid (∃ R, SetH wm ml R ∧ ∀ y, y ∈ R ↔ y ∈ o ++ [x]) := Lib.hid ⟨R', s5, fun y => by
      rw [hR', hR, List.mem_append, List.mem_singleton]
      exact or_comm⟩
    clear hmu hS hR s5 hR' o5 C9 HB9 O9 OT9 S9
    refine wpAnyH_take (i := 0) (v := ?_) (by simp only [List.getElem?_toArray, List.getElem?_cons_zero]; rfl) (by kernel_rfl) (by kernel_rfl) (by kernel_rfl) (fun _ _ _ h => h) (Or.inl ⟨by rfl, ?_⟩) (by assumption) ?_
    rotate_left
    · intro w hSw
      try dsimp only at hSw
      go_simp
      try with_reducible rfl
    try simp only [Act.put, List.setIfInBounds_toArray, List.set_cons_zero, List.set_cons_succ]
    refine wpAnyH_take (i := 1) (v := ?_) (by simp only [List.getElem?_toArray, List.getElem?_cons_succ, List.getElem?_cons_zero]; rfl) (by kernel_rfl) (by kernel_rfl) (by kernel_rfl) (fun _ _ _ h => h) (Or.inl ⟨by rfl, ?_⟩) (by assumption) ?_
    rotate_left
    · intro w hSw
      try dsimp only at hSw
      go_simp
      try with_reducible rfl
    try simp only [Act.put, List.setIfInBounds_toArray, List.set_cons_zero, List.set_cons_succ]
    refine wpAnyH_take (i := 2) (v := ?_) (by simp only [List.getElem?_toArray, List.getElem?_cons_succ, List.getElem?_cons_zero]; rfl) (by kernel_rfl) (by kernel_rfl) (by kernel_rfl) (fun _ _ _ h => h) (Or.inl ⟨by rfl, ?_⟩) (by assumption) ?_
    rotate_left
    · intro w hSw
      try dsimp only at hSw
      go_simp
      try with_reducible rfl
    try simp only [Act.put, List.setIfInBounds_toArray, List.set_cons_zero, List.set_cons_succ]
    refine wpAnyH_take (i := 3) (v := ?_) (by simp only [List.getElem?_toArray, List.getElem?_cons_succ, List.getElem?_cons_zero]; rfl) (by kernel_rfl) (by kernel_rfl) (by kernel_rfl) (fun _ _ _ h => h) (Or.inl ⟨by rfl, ?_⟩) (by assumption) ?_
    rotate_left
    · intro w hSw
      try dsimp only at hSw
      go_simp
      try with_reducible rfl
    try simp only [Act.put, List.setIfInBounds_toArray, List.set_cons_zero, List.set_cons_succ]
    refine wpAnyH_take (i := 4) (v := ?_) (by simp only [List.getElem?_toArray, List.getElem?_cons_succ, List.getElem?_cons_zero]; rfl) (by kernel_rfl) (by kernel_rfl) (by kernel_rfl) (fun _ _ _ h => h) (Or.inl ⟨by rfl, ?_⟩) (by assumption) ?_
    rotate_left
    · intro w hSw
      try dsimp only at hSw
      go_simp
      try with_reducible rfl
    try simp only [Act.put, List.setIfInBounds_toArray, List.set_cons_zero, List.set_cons_succ]
    refine wpAnyH_take (i := 5) (v := ?_) (by simp only [List.getElem?_toArray, List.getElem?_cons_succ, List.getElem?_cons_zero]; rfl) (by kernel_rfl) (by kernel_rfl) (by kernel_rfl) (fun _ _ _ h => h) (Or.inl ⟨by rfl, ?_⟩) (by assumption) ?_
    rotate_left
    · intro w hSw
      try dsimp only at hSw
      go_simp
      try with_reducible rfl
    try simp only [Act.put, List.setIfInBounds_toArray, List.set_cons_zero, List.set_cons_succ]
    refine wpAnyH_ready (rs := [6]) (by kernel_rfl) (by simp) ?_
    refine AllReadyH.cons (by simp only [List.getElem?_toArray, List.getElem?_cons_succ, List.getElem?_cons_zero]; rfl) (fun K hK => ?_) AllReadyH.nil
    refine step_upd rfl _ _ _ rfl (by rfl) (by rfl) (by rfl) HMU.out ?_
    refine hK.out _ _ ⟨cell_obj CM.out 3 rfl, hld_row HX.out HBM.out⟩ (fun hHeld => ?_)
    clear hK K
    try simp only [Act.put, List.setIfInBounds_toArray, List.set_cons_zero, List.set_cons_succ]
    refine wpAnyH_done (by kernel_rfl) ?_ _
    refine NoPanic.normal ?_
    clear hHeld
    go_wp2_with fail
    refine bodyPost_end (results_none rfl _ _ _) rfl ?_
    exact ⟨rfl, _, ⟨HWE.out.far OTM.out, CM.out, HWE.out.ga, OM.out, SM.out, HWE.out.h32.app (H32.one HX.out), HWE.out.lo⟩, OTM.out, LOC7.out⟩
end Go.Proofs.Ythfkmfepeafgjaa
namespace Go.Proofs.Ythfkmfepeafgjaa
open Go.RowKit
open Go.Maps

theorem fn_some (k : FuncId) (a c : Array Value) (w : World) : (binOp .eql 29 (.func (.func k) a c) .nilFunc).run Try.prog w = .ok (.bool false) w := by kernel_rfl
theorem fn_none (w : World) : (binOp .eql 29 .nilFunc .nilFunc).run Try.prog w = .ok (.bool true) w := by kernel_rfl
/-- What a done function is: none, or one that answers D. -/
def Dn (W0 : World) (fv : Value) (D : Key → Bool) : Prop := (fv = .nilFunc ∧ ∀ h, D h = false) ∨ ∃ k c, fv = .func (.func k) #[] c ∧ (∀ args w, (callFunc k args).run Try.prog w = .ok (.enter k args) w) ∧ ∀ V, Below W0.heap.size W0 V → ∀ h : Key, h.length = 32 → Calls Try.prog k (#[.agg (hv h)] ++ c) V fun e w' => e = .returned (.bool (D h)) ∧ Below V.heap.size V w'
theorem idleD (w : World) :
    CallsD Try.prog 75 #[] .returning w fun e u' w' => e = .returned (.tuple #[]) ∧ u' = .returning ∧ w' = w := by
  refine callsD_of_wpS Try.func75 rfl fun c₀ cs hu => ?_
  apply wpS_region
  simp [wpOpsS, go_sem, recoverD, hu, Try.ntmps75]
  cases c₀
  simp_all [bodyPostS, results, Try.results75]
set_option linter.unusedSimpArgs false in
set_option maxRecDepth 20000 in
set_option maxHeartbeats 4000000 in
attribute [local go_sem ↓] hld_open in
theorem isdone_to (W0 w : World) (wk g bm ml : Nat) (X : Lx) (fv lv : Value) (o : List Key) (H : WK W0 w wk g bm ml X fv lv o) (D : Key → Bool) (hD : Dn W0 fv D) (x : Key) (hx : x.length = 32) :
    Calls Try.prog 67 #[wkp wk, .agg (hv x)] w fun e w' => e = .returned (.bool (D x)) ∧ Below w.heap.size w w' := by
  have BA := Lib.hid (below_al11 w (.cells (hv x) 28))
  have HB := Lib.hid (heap_alloc_last w (.cells (hv x) 28))
  have HW := Lib.hid (H.kb BA.out)
  have HX := Lib.hid hx
  obtain ⟨d, hd⟩ : ∃ d, d = D x := ⟨_, rfl⟩
  have HDE := Lib.hid hd
  rw [← hd]
  clear hx hd H
  rcases hD with ⟨rfl, h0⟩ | ⟨k, c, rfl, hcf, h1⟩
  · have hd0 : d = false := by rw [HDE.out]; exact h0 x
    subst hd0
    have hnil := fn_none
    have hc := HW.out.c (i := 1) rfl
    clear h0
    go_enter_defers Try.func67, Try.ntmps67
    go_wp2_with fail
    simp [bodyPostD, Leaves, settle, results, Try.results67, go_sem]
    exact BA.out
  · have hns := fn_some k #[] c
    have hc := HW.out.c (i := 1) rfl
    have HCF := Lib.hid hcf
    have H1 := Lib.hid h1
    clear h1 hcf
    go_enter_defers Try.func67, Try.ntmps67
    go_upto_region 4 with fail
    clear hc
    generalize w.alloc (.cells (hv x) 28) = w0 at *
    generalize w.heap.size = b at HB ⊢
    have bq : Below w0.heap.size w0 w0.drew := blw_qt _ 1 w0
    have HWq := Lib.hid (HW.out.kb bq)
    have HBq := Lib.hid ((mild_below bq).cells HB.out)
    have Bq : Hid (Below w.heap.size w w0.drew) := Lib.hid (BA.out.trans (bq.mono BA.out.size))
    clear bq
    go_wp2_with fail
    try simp only [List.append]
    refine wp_region_noPanic ?_
    refine wp_region_held_drew (S := (fun V => V.cell? ⟨wk, 1, none⟩ = some (.func (.func k) #[] c) ∧ (hld ⟨b, 0, none⟩).run Try.prog V = .ok (.agg (hv x)) V)) (by kernel_rfl) ⟨HWq.out.c (i := 1) rfl, hld_row HX.out HBq.out⟩ (fun hHeld => ?_)
    generalize w0.drew = cw at *
    refine wpAnyH_take (i := 0) (v := ?_) (by simp only [List.getElem?_toArray, List.getElem?_cons_zero]; rfl) (by kernel_rfl) (by kernel_rfl) (by kernel_rfl) (fun _ _ _ h => h) (Or.inl ⟨by rfl, ?_⟩) (by assumption) ?_
    rotate_left
    · intro w hSw
      try dsimp only at hSw
      go_simp
      try with_reducible rfl
    try simp only [Act.put, List.setIfInBounds_toArray, List.set_cons_zero, List.set_cons_succ]
    refine wpAnyH_take (i := 1) (v := ?_) (by simp only [List.getElem?_toArray, List.getElem?_cons_succ, List.getElem?_cons_zero]; rfl) (by kernel_rfl) (by kernel_rfl) (by kernel_rfl) (fun _ _ _ h => h) (Or.inl ⟨by rfl, ?_⟩) (by assumption) ?_
    rotate_left
    · intro w hSw
      try dsimp only at hSw
      go_simp
      try with_reducible rfl
    try simp only [Act.put, List.setIfInBounds_toArray, List.set_cons_zero, List.set_cons_succ]
    refine wpAnyH_take (i := 2) (v := ?_) (by simp only [List.getElem?_toArray, List.getElem?_cons_succ, List.getElem?_cons_zero]; rfl) (by kernel_rfl) (by kernel_rfl) (by kernel_rfl) (fun _ _ _ h => h) (Or.inl ⟨by rfl, ?_⟩) (by assumption) ?_
    rotate_left
    · intro w hSw
      try dsimp only at hSw
      go_simp
      try with_reducible rfl
    try simp only [Act.put, List.setIfInBounds_toArray, List.set_cons_zero, List.set_cons_succ]
    refine wpAnyH_take (i := 3) (v := ?_) (by simp only [List.getElem?_toArray, List.getElem?_cons_succ, List.getElem?_cons_zero]; rfl) (by kernel_rfl) (by kernel_rfl) (by kernel_rfl) (fun _ _ _ h => h) (Or.inl ⟨by rfl, ?_⟩) (by assumption) ?_
    rotate_left
    · intro w hSw
      try dsimp only at hSw
      go_simp
      try with_reducible rfl
    try simp only [Act.put, List.setIfInBounds_toArray, List.set_cons_zero, List.set_cons_succ]
    refine wpAnyH_take (i := 4) (v := ?_) (by simp only [List.getElem?_toArray, List.getElem?_cons_succ, List.getElem?_cons_zero]; rfl) (by kernel_rfl) (by kernel_rfl) (by kernel_rfl) (fun _ _ _ h => h) (Or.inl ⟨by rfl, ?_⟩) (by assumption) ?_
    rotate_left
    · intro w hSw
      try dsimp only at hSw
      go_simp
      try with_reducible rfl
    try simp only [Act.put, List.setIfInBounds_toArray, List.set_cons_zero, List.set_cons_succ]
    have hcf := HCF.out
    refine wpAnyH_ready (rs := [5]) (by kernel_rfl) (by simp) ?_
    refine AllReadyH.cons (by simp only [List.getElem?_toArray, List.getElem?_cons_succ, List.getElem?_cons_zero]; rfl) (fun K hK => ?_) AllReadyH.nil
    go_simp
    refine (H1.out cw HWq.out.bel x HX.out).mono ?_
    rintro e cx ⟨rfl, bb⟩
    rw [← HDE.out]
    have HWX := Lib.hid (HWq.out.kb bb)
    have HBX := Lib.hid ((mild_below bb).cells HBq.out)
    have BX := Lib.hid (Bq.out.trans (bb.mono Bq.out.size))
    clear bb HWq HBq Bq
    go_wp2_with fail
    refine hK.out _ _ ⟨HWX.out.c (i := 1) rfl, hld_row HX.out HBX.out⟩ (fun hHeld => ?_)
    clear hK K
    try simp only [Act.put, List.setIfInBounds_toArray, List.set_cons_zero, List.set_cons_succ]
    refine wpAnyH_take (i := 6) (v := ?_) (by simp only [List.getElem?_toArray, List.getElem?_cons_succ, List.getElem?_cons_zero]; rfl) (by kernel_rfl) (by kernel_rfl) (by kernel_rfl) (fun _ _ _ h => h) (Or.inl ⟨by rfl, ?_⟩) (by assumption) ?_
    rotate_left
    · intro w hSw
      try dsimp only at hSw
      go_simp
      try with_reducible rfl
    try simp only [Act.put, List.setIfInBounds_toArray, List.set_cons_zero, List.set_cons_succ]
    refine wpAnyH_done (by kernel_rfl) ?_ _
    refine NoPanic.normal ?_
    clear hHeld
    go_wp2_with fail
    refine leaves_cons (f := 75) (args := #[]) (by simp) (by simp [go_sem]) ?_
    refine (idleD _).mono ?_
    rintro e u' w'' ⟨rfl, rfl, rfl⟩
    simp [Leaves, settle, results, Try.results67, go_sem]
    exact BX.out
end Go.Proofs.Ythfkmfepeafgjaa
namespace Go.Proofs.Ythfkmfepeafgjaa
open Go.RowKit
open Go.Maps

/-- The block that a slice lies in. -/
def sblk : Value → Option Nat
  | .slice (some a) _ _ => some a.block
  | _ => none
theorem HSeen.keep {w w' : World} {v : Value} {E : List Key} {S : Nat → Prop} (h : HSeen w v E) (ho : Only S w w') (hb : ∀ b, sblk v = some b → ¬ S b) : HSeen w' v E := by
  rcases h with h1 | ⟨a, cap, rfl, h2, h3⟩
  · exact .inl h1
  · refine .inr ⟨a, cap, rfl, h2, fun j u hj => ?_⟩
    have h4 := h3 j u hj
    rw [World.cell?_of_block (ho.block _ (World.block_lt_of_cell? w _ h4) (hb _ (by show some a.block = some (a.add j).block; unfold Addr.add; by_cases e : j = 0 <;> simp [e])))]
    exact h4
theorem einfo : (Try.prog.info? 92).map (fun i => (i.zero, i.size, i.bytes)) = some (some (.agg czer), 33, 56) := by kernel_rfl
/-- A stack of one's own; what is left of each commit's parents is read. -/
structure Sk (W : World) (B : Nat) (lv v : Value) (S : Lx) : Prop where
  own : W.ownsRow B 92 33 v S.length (cfT S)
  h32 : T32 S
  lit : ∀ x ∈ S, HSeen W x.2.1 x.2.2 ∧ H32 x.2.2 ∧ ∀ b, sblk x.2.1 = some b → (∃ cs, W.heap[b]? = some (.cells cs 28 (0, 0))) ∧ lv.ownBlock ≠ some b
theorem sk_nil (W : World) (B : Nat) (lv : Value) : Sk W B lv (.slice none 0 0) [] := ⟨World.ownsRow_nil _ _ _ _, (fun _ h => by cases h), (fun _ h => by cases h)⟩
/-- It stays as something else turns. -/
theorem Sk.keep {W W' : World} {B : Nat} {lv lv' v : Value} {S : Lx} {P : Nat → Prop} (h : Sk W B lv v S) (ho : Only P W W') (h1 : ∀ j, v.ownBlock = some j → ¬ P j) (h2 : ∀ b cs, W.heap[b]? = some (.cells cs 28 (0, 0)) → lv.ownBlock ≠ some b → ¬ P b ∧ lv'.ownBlock ≠ some b) : Sk W' B lv' v S := by
  refine ⟨own_keep h.own ho h1, h.h32, fun x hx => ?_⟩
  obtain ⟨h3, h4, h5⟩ := h.lit x hx
  refine ⟨h3.keep ho (fun b hb => ?_), h4, fun b hb => ?_⟩
  · obtain ⟨⟨cs, h6⟩, h7⟩ := h5 b hb
    exact (h2 b cs h6 h7).1
  · obtain ⟨⟨cs, h6⟩, h7⟩ := h5 b hb
    exact ⟨⟨cs, (ho.block b (Array.getElem?_eq_some_iff.1 h6).1 (h2 b cs h6 h7).1).trans h6⟩, (h2 b cs h6 h7).2⟩
theorem Sk.kb {W W' : World} {B : Nat} {lv v : Value} {S : Lx} (h : Sk W B lv v S) (k : Below W.heap.size W W') : Sk W' B lv v S := h.keep (P := fun _ => False) (Only.of_below k) (fun _ _ h => h) (fun _ _ _ h => ⟨id, h⟩)
theorem Sk.shape {W : World} {B : Nat} {lv v : Value} {S : Lx} (h : Sk W B lv v S) : ∃ p n c, v = .slice p n c ∧ n = S.length := by
  rcases h.own.2 with ⟨h1, h2⟩ | ⟨g, cap, cur, h1, _⟩
  · exact ⟨none, 0, 0, h1, h2.symm⟩
  · exact ⟨_, _, _, h1, rfl⟩
theorem ent_built (h : Key) (u : Value) (hh : h.length = 32) (hu : u.cells = #[u]) : Try.prog.built 92 [(0, .agg (hv h)), (1, u)] = some (cmv h u) := by
  have hi : (Try.prog.info? 92).map (fun i => i.zero.map (·.cells.size)) = some (some 33) := by kernel_rfl
  have hf : (Try.prog.underlying 92).map (fun d => match d with | .struct fs => fs.toList.mapM (fun f => (Try.prog.info? f.type).map fun i => (f.offset, i.size)) | _ => none) = some (some [(0, 32), (32, 1)]) := by kernel_rfl
  have hs : (hv h).size = 32 := by rw [hv_size, hh]
  unfold cmv
  generalize hv h = h at hs ⊢
  unfold Program.built
  cases hit : Try.prog.info? 92 with
  | none => rw [hit] at hi; cases hi
  | some it =>
    rw [hit] at hi
    cases hun : Try.prog.underlying 92 with
    | none => rw [hun] at hf; cases hf
    | some d =>
      rw [hun] at hf
      cases d with
      | struct fs =>
        simp only [Option.map_some, Option.some.injEq] at hf
        simp only [hf]
        cases hz : it.zero with
        | none => simp [hz] at hi
        | some z =>
          simp only [Option.map_some, Option.some.injEq, hz] at hi
          have hsz : ∀ x : Array Value, (x.zipIdx.foldl (fun (cs : Array Value) (p : Value × Nat) => cs.setIfInBounds (0 + p.2) p.1) z.cells) = (x.toList.zipIdx.foldl (fun (cs : Array Value) (p : Value × Nat) => cs.setIfInBounds (0 + p.2) p.1) z.cells) := fun x => by
            rw [← Array.foldl_toList, Array.toList_zipIdx]
          have hg := fold_get h.toList 0 z.cells
          have hn : (h.toList.zipIdx.foldl (fun (cs : Array Value) (p : Value × Nat) => cs.setIfInBounds (0 + p.2) p.1) z.cells).size = 33 := by
            rw [← hi]
            generalize h.toList.zipIdx = q
            generalize z.cells = y
            induction q generalizing y with
            | nil => rfl
            | cons a q ih => rw [List.foldl_cons, ih]; simp
          simp only [Instr.fill, List.getElem?_toArray, List.getElem?_cons_zero, List.getElem?_cons_succ, show (Value.agg h).cells = h from rfl, hs, hi, hu, hsz]
          generalize h.toList.zipIdx.foldl (fun (cs : Array Value) (p : Value × Nat) => cs.setIfInBounds (0 + p.2) p.1) z.cells = y at hg hn
          simp only [hn]
          simp
          apply Array.ext_getElem?
          intro i
          have := hg i
          simp only [Array.length_toList, hs, hi] at this
          rw [Array.getElem?_setIfInBounds, Array.getElem?_push, hn, hs]
          by_cases h1 : i = 32
          · subst h1; simp
          · rw [if_neg (by omega), if_neg h1, this]
            by_cases h2 : i < 32
            · rw [if_pos (by omega)]; simp
            · rw [if_neg (by omega)]
              rw [Array.getElem?_eq_none (by omega), Array.getElem?_eq_none (by omega)]
      | _ => simp at hf
/-- append of one row. -/
theorem run_push_ent (w : World) (ty : TypeId) (B : Nat) (v : Value) (S : Lx) (b : Nat) (h : Key) (u : Value) (ps : List Key) (hh : h.length = 32) (hu1 : u.oneCell' = true) (hown : w.ownsRow B 92 33 v S.length (cfT S)) (hb : w.heap[b]? = some (.cells (cf [(h, u)]).toArray 92 (0, 0))) (hs : S.length + 1 ≤ 1000000) (hB : B ≤ w.heap.size) :
    ∃ v' w', (Builtin.append_ #[88, 88] ty #[v, .slice (some ⟨b, 0, none⟩) 1 1]).run Try.prog w = .ok v' w' ∧ w'.ownsRow B 92 33 v' (S ++ [(h, (u, ps))]).length (cfT (S ++ [(h, (u, ps))])) ∧ Only (fun j => v.ownBlock = some j) w w' ∧ ∀ j, v'.ownBlock = some j → v.ownBlock = some j ∨ w.heap.size ≤ j := by
  obtain ⟨i0, hi0, hz0, hz1, hz2⟩ := info_parts einfo
  have hf : S.length + 1 ≤ maxLen ∧ (S.length + 1) * 56 ≤ 140737488355328 := by unfold maxLen; omega
  have h32 : ∀ c ∈ [(h, u)], c.1.length = 32 := fun c hc => by rw [List.mem_singleton.1 hc]; exact hh
  have h1 : ∀ z ∈ cf [(h, u)], z.oneCell' = true := fun z hz => by
    rw [cf_one] at hz
    rcases List.mem_append.1 hz with h3 | h3
    · have := hv_one h
      rw [← hv_list] at h3
      exact Array.all_eq_true_iff_forall_mem.1 this z (Array.mem_toList_iff.1 h3)
    · rw [List.mem_singleton.1 h3]; exact hu1
  obtain ⟨v', w', hr, h2, h3, h4, h5⟩ := run_append_own_at (P := Try.prog) (w := w) B 88 ty 92 i0 _ 33 56 Try.underlying88 hi0 hz0 hz1 hz2 rfl (by decide) v S.length (cfT S) hown ⟨b, 0, none⟩ 1 1 (cf [(h, u)]) (by rw [cf_length h32]; rfl) (fun j z hj => by rw [Addr.add_lit, Nat.zero_add, cell_of_row w b j _ _ _ hb, List.getElem?_toArray]; exact hj) h1 hf.1 hf.2 hB
  refine ⟨v', w', hr, ?_, (Only.refl _ w).grown h3 (fun k _ e => e), fun j hj => ?_⟩
  · rw [List.length_append, cfT_app]
    exact h2
  · rcases h5 with h5 | h5
    · rw [h5] at hj; exact .inl hj
    · rw [h5] at hj
      injection hj with hj
      exact .inr (by omega)
section
variable {ops : Array Oper} {rest : List Oper} {a : Act} {Q : Exit → Act → World → Prop} {o : Oper} {w : World}
theorem push_ent (hgd : o.guard = none) (s x : Operand) (ho : o.op = .call { callee := .builtin .append, args := #[s, x], argTypes := #[88, 88] })
    (B : Nat) (v : Value) (S : Lx) (b : Nat) (h : Key) (u : Value) (ps : List Key) (hh : h.length = 32) (hu1 : u.oneCell' = true) (hs : a.eval s = v) (hown : w.ownsRow B 92 33 v S.length (cfT S)) (hx : a.eval x = .slice (some ⟨b, 0, none⟩) 1 1) (hb : w.heap[b]? = some (.cells (cf [(h, u)]).toArray 92 (0, 0))) (hl : S.length + 1 ≤ 1000000) (hB : B ≤ w.heap.size)
    (hk : ∀ v' w', w'.ownsRow B 92 33 v' (S ++ [(h, (u, ps))]).length (cfT (S ++ [(h, (u, ps))])) → Only (fun j => v.ownBlock = some j) w w' → (∀ j, v'.ownBlock = some j → v.ownBlock = some j ∨ w.heap.size ≤ j) → wpList Try.prog ops Q rest (a.put o.dst v') w') :
    wpList Try.prog ops Q (o :: rest) a w := by
  refine wpList_plain hgd fun K hK => ?_
  obtain ⟨v', w', hr, h1, h2, h3⟩ := run_push_ent w o.type B v S b h u ps hh hu1 hown hb hl hB
  unfold Oper.wp execOp
  simp only [ho, resolve, invoke, builtin, Sem.run_bind, Sem.run_pure, Result.andThen_ok, List.map_toArray, List.map_cons, List.map_nil, hs, hx, hr]
  exact hK _ _ (hk v' w' h1 h2 h3)
theorem push_ent1 (hgd : o.guard = none) (x : Operand) (ho : o.op = .buildSlice 88 1 #[(0, x)]) (h : Key) (u : Value) (hh : h.length = 32) (hx : a.eval x = .agg (cmv h u))
    (hk : wpList Try.prog ops Q rest (a.put o.dst (.slice (some ⟨w.heap.size, 0, none⟩) 1 1)) (w.alloc (.cells (cf [(h, u)]).toArray 92))) : wpList Try.prog ops Q (o :: rest) a w := by
  refine wpList_plain hgd fun K hK => ?_
  obtain ⟨i0, hi0, hz0, hz1, hz2⟩ := info_parts einfo
  have hrun : (Instr.buildSlice 88 1 #[(0, .agg (cmv h u))]).run Try.prog w = .ok (.slice (some ⟨w.heap.size, 0, none⟩) 1 1) (w.alloc (.cells (cf [(h, u)]).toArray 92)) := by
    refine run_buildSlice w 88 92 1 _ (cf [(h, u)]).toArray i0 (.agg czer) Try.underlying88 hi0 hz0 (by rw [hz1]; omega) (by rw [hz1]; omega) ?_
    rw [hz1]
    exact (by
      have := Great.fill_whole (s := 33) (by decide) ([(h, u)].map fun c => Value.agg (cmv c.1 c.2)) ((Array.range ([(h, u)].length * 33)).map ((Value.agg czer).cells[· % (Value.agg czer).cells.size]!)) (fun v hvm => by
        obtain ⟨c, hm, rfl⟩ := List.mem_map.1 hvm
        rw [List.mem_singleton.1 hm]
        exact cmv_size hh u) (by simp)
      rw [cf_flat] at this
      exact this)
  unfold Oper.wp execOp
  simp only [ho, Sem.run_bind, Sem.run_pure, Result.andThen_ok, List.map_toArray, List.map_cons, List.map_nil, hx, hrun]
  exact hK _ _ hk
theorem push_bent {dst : Option Tmp} {T : TypeId} {pos : String} {after : Array Edge} {x y : Operand} (h : Key) (v : Value) (hh : h.length = 32) (hc : v.cells = #[v]) (hx : a.eval x = .agg (hv h)) (hy : a.eval y = v)
    (hk : wpList Try.prog ops Q rest (a.put dst (.agg (cmv h v))) w) :
    wpList Try.prog ops Q (⟨dst, .build 92 #[(0, x), (1, y)], T, pos, after, none⟩ :: rest) a w :=
  build_to (vals := #[(0, .agg (hv h)), (1, v)]) (ent_built h v hh hc) (by simp [hx, hy]) hk
end
theorem own_nomap {W : World} {B : Nat} {e : TypeId} {s : Nat} {v : Value} {n : Nat} {xs : List Value} {b : Nat} {es : Array MapEntry} {c : Nat} (h : W.ownsRow B e s v n xs) (hm : W.heap[b]? = some (.map es c)) : v.ownBlock ≠ some b := fun e => by
  obtain ⟨cs, h1, _⟩ := own_type h e
  rw [hm] at h1; cases h1
theorem WK.keep {W0 W W' : World} {wk g bm ml : Nat} {X : Lx} {fv lv : Value} {o : List Key} {P : Nat → Prop} (h : WK W0 W wk g bm ml X fv lv o) (ho : Only P W W') (hlo : ∀ j, P j → W0.heap.size ≤ j) (h1 : ¬ P wk) (h2 : ¬ P ml) (h3 : ∀ j, lv.ownBlock = some j → ¬ P j) : WK W0 W' wk g bm ml X fv lv o := by
  obtain ⟨R, h4, h5⟩ := h.set
  exact ⟨h.bel.trans (ho.below h.bel.size hlo), (ho.block wk (Array.getElem?_eq_some_iff.1 h.cell).1 h1).trans h.cell, h.ga, own_keep h.own ho h3, ⟨R, h4.step ho h2, h5⟩, h.h32, h.lo⟩
/-- The walk stays as its stack turns. -/
theorem WK.stk {W0 W W' : World} {wk g bm ml : Nat} {X : Lx} {fv lv v : Value} {o : List Key} {n : Nat} {xs : List Value} (h : WK W0 W wk g bm ml X fv lv o) (hs : W.ownsRow W0.heap.size 92 33 v n xs) (ho : Only (fun j => v.ownBlock = some j) W W') : WK W0 W' wk g bm ml X fv lv o := by
  refine h.keep ho (fun j hj => own_from hs j hj) (own_apart hs h.cell (by decide)) (fun e => ?_) (fun j hj e => ?_)
  · obtain ⟨R, h4, _⟩ := h.set
    obtain ⟨M, h5, _⟩ := h4.ex
    obtain ⟨es, cc, h6⟩ := h5.ismap
    exact own_nomap hs h6 e
  · obtain ⟨cs, h6, _⟩ := own_type hs e
    exact own_apart h.own h6 (by decide) hj
theorem ent_lit_new {W : World} {B : Nat} {lv u : Value} {ps : List Key} (h : HOwn W B u ps) (hlv : ∀ j, lv.ownBlock = some j → j < B) (b : Nat) (hb : sblk u = some b) : (∃ cs, W.heap[b]? = some (.cells cs 28 (0, 0))) ∧ lv.ownBlock ≠ some b := by
  rcases h.2 with ⟨rfl, _⟩ | ⟨g, cap, cur, rfl, h1, h2, _⟩
  · cases hb
  · have e : g = b := by simpa [sblk] using hb
    subst e
    exact ⟨⟨cur, h2⟩, fun e => by have := hlv g e; omega⟩
theorem Sk.push {W w6 : World} {B B' : Nat} {lv v v6 u : Value} {S : Lx} {x : Key} {ps : List Key} (h : Sk W B lv v S) (hx : x.length = 32) (OP : HOwn W B' u ps) (hp : H32 ps) (hlv : ∀ j, lv.ownBlock = some j → j < B')
    (O6 : w6.ownsRow B 92 33 v6 (S ++ [(x, (u, ps))]).length (cfT (S ++ [(x, (u, ps))]))) (oth : Only (fun j => v.ownBlock = some j) W w6) : Sk w6 B lv v6 (S ++ [(x, (u, ps))]) := by
  have hne : ∀ b, (∃ cs, W.heap[b]? = some (.cells cs 28 (0, 0))) → v.ownBlock ≠ some b := fun b ⟨cs, hb⟩ => own_apart h.own hb (by decide)
  have hlit : ∀ y ∈ S ++ [(x, (u, ps))], HSeen W y.2.1 y.2.2 ∧ H32 y.2.2 ∧ ∀ b, sblk y.2.1 = some b → (∃ cs, W.heap[b]? = some (.cells cs 28 (0, 0))) ∧ lv.ownBlock ≠ some b := fun y hy => by
    rcases List.mem_append.1 hy with hy | hy
    · exact h.lit y hy
    · rw [List.mem_singleton.1 hy]
      exact ⟨HSeen.own OP, hp, ent_lit_new OP hlv⟩
  refine ⟨O6, fun y hy => ?_, fun y hy => ?_⟩
  · rcases List.mem_append.1 hy with hy | hy
    · exact h.h32 y hy
    · rw [List.mem_singleton.1 hy]; exact hx
  · obtain ⟨h3, h4, h5⟩ := hlit y hy
    refine ⟨h3.keep oth (fun b hb => hne b (h5 b hb).1), h4, fun b hb => ?_⟩
    obtain ⟨⟨cs, h6⟩, h7⟩ := h5 b hb
    exact ⟨⟨cs, (oth.block b (Array.getElem?_eq_some_iff.1 h6).1 (hne b ⟨cs, h6⟩)).trans h6⟩, h7⟩
theorem h32_adjX {G : Gr} (W : Wf G) (x : Key) : H32 (adj G x) := fun p hp => by
  obtain ⟨ps, e1, e2⟩ := adj_some hp
  exact (W.h32 _ (aget_mem e1)).2 p e2
/-- What enter does. -/
def EnPost (W0 w : World) (wk g bm ml : Nat) (X : Lx) (fv lv v : Value) (o : List Key) (D : Key → Bool) (S : Lx) (x : Key) (e : Ending) (w' : World) : Prop :=
  ∃ v', e = .returned v' ∧ WK W0 w' wk g bm ml X fv lv o ∧ Only (fun j => v.ownBlock = some j) w w' ∧ (∀ j, v'.ownBlock = some j → v.ownBlock = some j ∨ w.heap.size ≤ j) ∧
    (((x ∈ o ∨ D x = true) ∧ v' = v ∧ Sk w' W0.heap.size lv v S) ∨ (x ∉ o ∧ D x = false ∧ ∃ u, Sk w' W0.heap.size lv v' (S ++ [(x, (u, adj (gr X) x))])))
set_option linter.unusedSimpArgs false in
set_option maxRecDepth 20000 in
set_option maxHeartbeats 8000000 in
attribute [local go_sem ↓] hld_open in
theorem enter_to (W0 w : World) (wk g bm ml : Nat) (X : Lx) (fv lv : Value) (o : List Key) (H : WK W0 w wk g bm ml X fv lv o) (D : Key → Bool) (hD : Dn W0 fv D) (HW : Wf (gr X)) (v : Value) (S : Lx) (HS : Sk w W0.heap.size lv v S) (x : Key) (hx : x.length = 32) (hl : S.length + 1 ≤ 100000) :
    Calls Try.prog 48 #[wkp wk, v, .agg (hv x)] w (EnPost W0 w wk g bm ml X fv lv v o D S x) := by
  obtain ⟨q, m, c, rfl, hm⟩ := HS.shape
  clear hm
  have BA := Lib.hid (below_al11 w (.cells (hv x) 28))
  have HB := Lib.hid (heap_alloc_last w (.cells (hv x) 28))
  have HK := Lib.hid (H.kb BA.out)
  have HX := Lib.hid hx
  have HWF := Lib.hid HW
  have HSK := Lib.hid HS
  have HSW := Lib.hid (HS.kb BA.out)
  have HDN := Lib.hid hD
  have HL := Lib.hid hl
  have HKE := Lib.hid H
  clear H hx HW HS hD hl
  go_enter Try.func48, Try.ntmps48
  go_upto_region 1 with fail
  generalize w.alloc (.cells (hv x) 28) = w0 at *
  generalize hb : w.heap.size = b at HB
  have HBE := Lib.hid hb
  clear hb
  have hld0 := hld_row HX.out HB.out
  obtain ⟨d, hd⟩ : ∃ d, d = decide (x ∈ o) := ⟨_, rfl⟩
  have HD := Lib.hid hd
  have HHS := Lib.hid (whas_to W0 w0 wk g bm ml X fv lv o HK.out x HX.out)
  rw [← hd] at HHS
  clear hd
  go_wp2_with fail
  refine HHS.out.mono ?_
  rintro e w1 ⟨rfl, b1⟩
  have B1 := Lib.hid (BA.out.trans (b1.mono BA.out.size))
  have K1 := Lib.hid (HK.out.kb b1)
  have S1 := Lib.hid (HSW.out.kb b1)
  have HB1 := Lib.hid ((mild_below b1).cells HB.out)
  have hld1 := hld_row HX.out HB1.out
  clear b1 HK HSW HB hld0
  cases d with
  | true =>
    go_wp2_with fail
    go_ret
    exact ⟨_, rfl, K1.out, Only.of_below B1.out, fun j hj => .inl hj, .inl ⟨.inl (of_decide_eq_true HD.out.symm), rfl, S1.out⟩⟩
  | false =>
    obtain ⟨d2, hd2⟩ : ∃ d2, d2 = D x := ⟨_, rfl⟩
    have HD2 := Lib.hid hd2
    have HDO := Lib.hid (isdone_to W0 w1 wk g bm ml X fv lv o K1.out D HDN.out x HX.out)
    rw [← hd2] at HDO
    clear hd2
    go_wp2_with fail
    refine HDO.out.mono ?_
    rintro e w2 ⟨rfl, b2⟩
    have B2 := Lib.hid (B1.out.trans (b2.mono B1.out.size))
    have K2 := Lib.hid (K1.out.kb b2)
    have S2 := Lib.hid (S1.out.kb b2)
    have HB2 := Lib.hid ((mild_below b2).cells HB1.out)
    clear b2 K1 S1 HB1 hld1 B1
    cases d2 with
    | true =>
      go_wp2_with fail
      go_ret
      exact ⟨_, rfl, K2.out, Only.of_below B2.out, fun j hj => .inl hj, .inl ⟨.inr HD2.out.symm, rfl, S2.out⟩⟩
    | false =>
      go_upto_region 3 with fail
      have bq : Below w2.heap.size w2 w2.drew := blw_qt _ 1 w2
      have B3 : Hid (Below w.heap.size w w2.drew) := Lib.hid (B2.out.trans (bq.mono B2.out.size))
      have K3 := Lib.hid (K2.out.kb bq)
      have S3 := Lib.hid (S2.out.kb bq)
      have HB3 := Lib.hid ((mild_below bq).cells HB2.out)
      clear bq B2 K2 S2 HB2
      go_wp2_with fail
      try simp only [List.append]
      refine wp_region_noPanic ?_
      refine wp_region_held_drew (S := (fun V => V.cell? ⟨wk, 0, none⟩ = some (gp g) ∧ (hld ⟨b, 0, none⟩).run Try.prog V = .ok (.agg (hv x)) V)) (by kernel_rfl) ⟨K3.out.c (i := 0) rfl, hld_row HX.out HB3.out⟩ (fun hHeld => ?_)
      generalize w2.drew = cw at *
      refine wpAnyH_take (i := 0) (v := ?_) (by simp only [List.getElem?_toArray, List.getElem?_cons_zero]; rfl) (by kernel_rfl) (by kernel_rfl) (by kernel_rfl) (fun _ _ _ h => h) (Or.inl ⟨by rfl, ?_⟩) (by assumption) ?_
      rotate_left
      · intro w hSw
        try dsimp only at hSw
        go_simp
        try with_reducible rfl
      try simp only [Act.put, List.setIfInBounds_toArray, List.set_cons_zero, List.set_cons_succ]
      refine wpAnyH_take (i := 1) (v := ?_) (by simp only [List.getElem?_toArray, List.getElem?_cons_succ, List.getElem?_cons_zero]; rfl) (by kernel_rfl) (by kernel_rfl) (by kernel_rfl) (fun _ _ _ h => h) (Or.inl ⟨by rfl, ?_⟩) (by assumption) ?_
      rotate_left
      · intro w hSw
        try dsimp only at hSw
        go_simp
        try with_reducible rfl
      try simp only [Act.put, List.setIfInBounds_toArray, List.set_cons_zero, List.set_cons_succ]
      refine wpAnyH_take (i := 2) (v := ?_) (by simp only [List.getElem?_toArray, List.getElem?_cons_succ, List.getElem?_cons_zero]; rfl) (by kernel_rfl) (by kernel_rfl) (by kernel_rfl) (fun _ _ _ h => h) (Or.inl ⟨by rfl, ?_⟩) (by assumption) ?_
      rotate_left
      · intro w hSw
        try dsimp only at hSw
        go_simp
        try with_reducible rfl
      try simp only [Act.put, List.setIfInBounds_toArray, List.set_cons_zero, List.set_cons_succ]
      refine wpAnyH_take (i := 3) (v := ?_) (by simp only [List.getElem?_toArray, List.getElem?_cons_succ, List.getElem?_cons_zero]; rfl) (by kernel_rfl) (by kernel_rfl) (by kernel_rfl) (fun _ _ _ h => h) (Or.inl ⟨by rfl, ?_⟩) (by assumption) ?_
      rotate_left
      · intro w hSw
        try dsimp only at hSw
        go_simp
        try with_reducible rfl
      try simp only [Act.put, List.setIfInBounds_toArray, List.set_cons_zero, List.set_cons_succ]
      refine wpAnyH_take (i := 4) (v := ?_) (by simp only [List.getElem?_toArray, List.getElem?_cons_succ, List.getElem?_cons_zero]; rfl) (by kernel_rfl) (by kernel_rfl) (by kernel_rfl) (fun _ _ _ h => h) (Or.inl ⟨by rfl, ?_⟩) (by assumption) ?_
      rotate_left
      · intro w hSw
        try dsimp only at hSw
        go_simp
        try with_reducible rfl
      try simp only [Act.put, List.setIfInBounds_toArray, List.set_cons_zero, List.set_cons_succ]
      refine wpAnyH_ready (rs := [5]) (by kernel_rfl) (by simp) ?_
      refine AllReadyH.cons (by simp only [List.getElem?_toArray, List.getElem?_cons_succ, List.getElem?_cons_zero]; rfl) (fun K hK => ?_) AllReadyH.nil
      go_simp
      refine (parents_to cw g bm X x HX.out K3.out.g (HWF.out.parm 1000000 (by decide))).mono ?_
      rintro e cx ⟨vp, rfl, op, bb⟩
      have HAJ : (aget x (gr X)).getD [] = adj (gr X) x := rfl
      rw [HAJ] at op
      obtain ⟨pp, lp, cp, rfl, hlp⟩ := own_sh op
      have OP := Lib.hid op
      have B4 := Lib.hid (B3.out.trans (bb.mono B3.out.size))
      have K4 := Lib.hid (K3.out.kb bb)
      have S4 := Lib.hid (S3.out.kb bb)
      have HB4 := Lib.hid ((mild_below bb).cells HB3.out)
      have HCW : Hid (∀ j, lv.ownBlock = some j → j < cw.heap.size) := Lib.hid (own_lt K3.out.own)
      clear bb op hlp HAJ B3 K3 S3 HB3
      generalize (aget x (gr X)).isSome = hs0
      go_wp2_with fail
      refine hK.out _ _ ⟨K4.out.c (i := 0) rfl, hld_row HX.out HB4.out⟩ (fun hHeld => ?_)
      clear hK K
      try simp only [Act.put, List.setIfInBounds_toArray, List.set_cons_zero, List.set_cons_succ]
      refine wpAnyH_take (i := 6) (v := ?_) (by simp only [List.getElem?_toArray, List.getElem?_cons_succ, List.getElem?_cons_zero]; rfl) (by kernel_rfl) (by kernel_rfl) (by kernel_rfl) (fun _ _ _ h => h) (Or.inl ⟨by rfl, ?_⟩) (by assumption) ?_
      rotate_left
      · intro w hSw
        try dsimp only at hSw
        go_simp
        try with_reducible rfl
      try simp only [Act.put, List.setIfInBounds_toArray, List.set_cons_zero, List.set_cons_succ]
      refine wpAnyH_take (i := 7) (v := ?_) (by simp only [List.getElem?_toArray, List.getElem?_cons_succ, List.getElem?_cons_zero]; rfl) (by kernel_rfl) (by kernel_rfl) (by kernel_rfl) (fun _ _ _ h => h) (Or.inl ⟨by rfl, ?_⟩) (by assumption) ?_
      rotate_left
      · intro w hSw
        try dsimp only at hSw
        go_simp
        try with_reducible rfl
      try simp only [Act.put, List.setIfInBounds_toArray, List.set_cons_zero, List.set_cons_succ]
      refine wpAnyH_take (i := 8) (v := ?_) (by simp only [List.getElem?_toArray, List.getElem?_cons_succ, List.getElem?_cons_zero]; rfl) (by kernel_rfl) (by kernel_rfl) (by kernel_rfl) (fun _ _ _ h => h) (Or.inl ⟨by rfl, ?_⟩) (by assumption) ?_
      rotate_left
      · intro w hSw
        try dsimp only at hSw
        go_simp
        try with_reducible rfl
      try simp only [Act.put, List.setIfInBounds_toArray, List.set_cons_zero, List.set_cons_succ]
      refine wpAnyH_take (i := 9) (v := ?_) (by simp only [List.getElem?_toArray, List.getElem?_cons_succ, List.getElem?_cons_zero]; rfl) (by kernel_rfl) (by kernel_rfl) (by kernel_rfl) (fun _ _ _ h => h) (Or.inl ⟨by rfl, ?_⟩) (by assumption) ?_
      rotate_left
      · intro w hSw
        try dsimp only at hSw
        go_simp
        try with_reducible rfl
      try simp only [Act.put, List.setIfInBounds_toArray, List.set_cons_zero, List.set_cons_succ]
      refine wpAnyH_take (i := 10) (v := ?_) (by simp only [List.getElem?_toArray, List.getElem?_cons_succ, List.getElem?_cons_zero]; rfl) (by kernel_rfl) (by kernel_rfl) (by kernel_rfl) (fun _ _ _ h => h) (Or.inl ⟨by rfl, ?_⟩) (by assumption) ?_
      rotate_left
      · intro w hSw
        try dsimp only at hSw
        go_simp
        try with_reducible rfl
      try simp only [Act.put, List.setIfInBounds_toArray, List.set_cons_zero, List.set_cons_succ]
      refine wpAnyH_done (by kernel_rfl) ?_ _
      refine NoPanic.normal ?_
      clear hHeld
      have hld4 := hld_row HX.out HB4.out
      have AL := Lib.hid (below_al11 cx (.cells (cf [(x, .slice pp lp cp)]).toArray 92))
      have HN5 := Lib.hid (heap_alloc_last cx (.cells (cf [(x, .slice pp lp cp)]).toArray 92))
      have K5 := Lib.hid (K4.out.kb AL.out)
      have S5 := Lib.hid (S4.out.kb AL.out)
      have OP5 := Lib.hid (own_below OP.out AL.out)
      have B5 := Lib.hid (B4.out.trans (AL.out.mono B4.out.size))
      go_wp2_with (first
        | (at_builtin; refine push_ent rfl (.tmp 27) (.tmp 31) rfl W0.heap.size (.slice q m c) S cx.heap.size x (.slice pp lp cp) (adj (gr X) x) HX.out rfl rfl S5.out.own rfl HN5.out (by have := HL.out; omega) K5.out.bel.size ?_; intro v6 w6 o6 oth6 loc6; have O6 := Lib.hid o6; have OT6 := Lib.hid oth6; have LO6 := Lib.hid loc6; clear o6 oth6 loc6)
        | (refine push_ent1 rfl _ rfl x (.slice pp lp cp) HX.out rfl ?_)
        | (refine push_bent x (.slice pp lp cp) HX.out rfl rfl rfl ?_))
      go_ret
      refine ⟨v6, rfl, K5.out.stk S5.out.own OT6.out, (Only.of_below (S := fun j => (Value.slice q m c).ownBlock = some j) B5.out).trans OT6.out (fun _ h => h) (fun _ _ h => h), fun j hj => (LO6.out j hj).imp id (fun h => Nat.le_trans B5.out.size h), .inr ⟨of_decide_eq_false HD.out.symm, HD2.out.symm, _, S5.out.push HX.out OP5.out (h32_adjX HWF.out x) HCW.out O6.out OT6.out⟩⟩
end Go.Proofs.Ythfkmfepeafgjaa
namespace Go.Proofs.Ythfkmfepeafgjaa
open Go.RowKit
open Go.Maps

/-- The stack as the plain mathematics has it: the last one first. -/
def stk (S : Lx) : List (Key × List Key) := S.reverse.map fun x => (x.1, x.2.2)
theorem stk_snoc (S : Lx) (x : Key × (Value × List Key)) : stk (S ++ [x]) = (x.1, x.2.2) :: stk S := by simp [stk]
theorem Run.len {G : Gr} {D : Key → Bool} {n : Nat} {o : List Key} {st : List (Key × List Key)} {o' : List Key} (r : Run G D n o st o') : o.length + st.length ≤ o'.length := by
  induction r with
  | nil o => simp
  | cons a t ih =>
    obtain ⟨r, e⟩ := a.pre
    rw [e, List.length_append, List.length_append, List.length_singleton] at ih
    rw [List.length_cons]
    omega
/-- The uppermost commit has no parent left: it is listed. -/
theorem Run.pop {G : Gr} {D : Key → Bool} {n : Nat} {o : List Key} {h : Key} {st : List (Key × List Key)} {o' : List Key} (r : Run G D n o ((h, []) :: st) o') : ∃ m, m < n ∧ Run G D m (o ++ [h]) st o' := by
  cases r with
  | cons a t =>
    cases a
    exact ⟨_, by omega, t⟩
/-- The next parent is entered, or passed over. -/
theorem Run.next {G : Gr} {D : Key → Bool} {n : Nat} {o : List Key} {h p : Key} {ps : List Key} {st : List (Key × List Key)} {o' : List Key} (r : Run G D n o ((h, p :: ps) :: st) o') :
    ∃ m, m < n ∧ ((p ∈ o ∨ D p = true) → Run G D m o ((h, ps) :: st) o') ∧ (p ∉ o → D p = false → Run G D m o ((p, adj G p) :: (h, ps) :: st) o') := by
  cases r with
  | cons a t =>
    cases a with
    | skip hk v => exact ⟨_, by omega, fun _ => .cons v t, fun h1 h2 => absurd hk (by simp [h1, h2])⟩
    | go h1 h2 v1 v2 => exact ⟨_, by omega, fun hk => absurd hk (by simp [h1, h2]), fun _ _ => .cons v1 (.cons v2 t)⟩
theorem Run.done {G : Gr} {D : Key → Bool} {n : Nat} {o o' : List Key} (r : Run G D n o [] o') : o' = o := by cases r; rfl
/-- The uppermost commit, in memory. -/
theorem Sk.top {W : World} {B : Nat} {lv : Value} {p : Option Addr} {n c : Nat} {S : Lx} {x : Key × (Value × List Key)} (h : Sk W B lv (.slice p n c) (S ++ [x])) : ∃ g cur, p = some ⟨g, 0, none⟩ ∧ B ≤ g ∧ n = S.length + 1 ∧ n ≤ c ∧ W.heap[g]? = some (.cells cur 92 (0, 0)) ∧ W.rangeAt g (S.length * 33) (us (nmb x.1) ++ [x.2.1]) := by
  rcases h.own.2 with ⟨h1, h2⟩ | ⟨g, cap, cur, h1, hb, hg, hn, hm, hs, hc⟩
  · simp at h2
  · simp only [Value.slice.injEq] at h1
    obtain ⟨rfl, rfl, rfl⟩ := h1
    refine ⟨g, cur, rfl, hb, by simp, hn, hg, fun j u hj => ?_⟩
    have hx32 : x.1.length = 32 := h.h32 x (by simp)
    have hS32 : T32 S := h.h32.sub fun y hy => by simp [hy]
    have hj33 : j < 33 := by rw [← row33 hx32 x.2.1]; exact (List.getElem?_eq_some_iff.1 hj).1
    rw [cell_of_row W g _ _ _ _ hg]
    have e : (cfT (S ++ [x]))[S.length * 33 + j]? = some u := by
      rw [cfT_at h.h32 (i := S.length) (x := x) (by simp) hj33]; exact hj
    have hl : (cfT (S ++ [x])).length = (S ++ [x]).length * 33 := cfT_len h.h32
    rw [← hc, List.getElem?_take, if_pos (by rw [List.length_append, List.length_singleton]; omega)] at e
    simpa using e
theorem Sk.cut {W : World} {B : Nat} {lv : Value} {p : Option Addr} {n c : Nat} {S : Lx} {x : Key × (Value × List Key)} (h : Sk W B lv (.slice p n c) (S ++ [x])) : Sk W B lv (.slice p S.length c) S := by
  have hS32 : T32 S := h.h32.sub fun y hy => by simp [hy]
  refine ⟨?_, hS32, fun y hy => h.lit y (by simp [hy])⟩
  rcases h.own.2 with ⟨h1, h2⟩ | ⟨g, cap, cur, h1, hb, hg, hn, hm, hs, hc⟩
  · simp at h2
  · simp only [Value.slice.injEq] at h1
    obtain ⟨rfl, rfl, rfl⟩ := h1
    rw [List.length_append, List.length_singleton] at hn hc
    refine ⟨cfT_len hS32, .inr ⟨g, c, cur, rfl, hb, hg, by omega, hm, hs, ?_⟩⟩
    have e : cur.toList.take (S.length * 33) = (cur.toList.take ((S.length + 1) * 33)).take (S.length * 33) := by rw [List.take_take]; congr 1; omega
    rw [e, hc, cfT_app, List.take_left' (cfT_len hS32)]
/-- One parent less. -/
theorem HSeen.tail {W : World} {b o n c : Nat} {k : Key} {E : List Key} (h : HSeen W (.slice (some ⟨b, o, none⟩) n c) (k :: E)) (hk : k.length = 32) : HSeen W (.slice (if c = 1 then some ⟨b, o, none⟩ else some ⟨b, o + 32, none⟩) (n - 1) (c - 1)) E := by
  rcases h with ⟨h1, _⟩ | ⟨a, cap, h1, h2, h3⟩
  · cases h1
  · injection h1 with e1 e2 e3
    injection e1 with e1
    subst e1 e3
    rw [List.length_cons] at e2 h2
    by_cases hc : c = 1
    · rw [if_pos hc]
      obtain rfl : E = [] := List.eq_nil_of_length_eq_zero (by omega)
      exact .inr ⟨⟨b, o, none⟩, c - 1, by rw [e2]; rfl, by simp, fun j u hj => by simp [fl] at hj⟩
    · rw [if_neg hc]
      refine .inr ⟨⟨b, o + 32, none⟩, c - 1, by rw [e2]; rfl, by omega, fun j u hj => ?_⟩
      have hl : (us (nmb k)).length = 32 := by rw [usn_length, hk]
      have e : fl (k :: E) = us (nmb k) ++ fl E := by rw [show k :: E = [k] ++ E from rfl, fl_app, fl_one]
      have h4 := h3 (32 + j) u (by rw [e, List.getElem?_append_right (by omega), hl, Nat.add_sub_cancel_left]; exact hj)
      rw [Addr.add_lit] at h4 ⊢
      rw [Nat.add_assoc]; exact h4
theorem cfT_set {S : Lx} (hS : T32 S) {k : Key} (hk : k.length = 32) (u u' : Value) (ps ps' : List Key) : (cfT (S ++ [(k, (u, ps))])).set (S.length * 33 + 32) u' = cfT (S ++ [(k, (u', ps'))]) := by
  have e1 : ∀ (z : Value) (qs : List Key), cfT [(k, (z, qs))] = us (nmb k) ++ [z] := fun z qs => cf_one (k, z)
  rw [cfT_app, cfT_app, e1, e1, List.set_append_right _ _ (by rw [cfT_len hS]; omega), cfT_len hS, Nat.add_sub_cancel_left, List.set_append_right _ _ (by rw [usn_length, hk]; exact Nat.le_refl _), usn_length, hk]
  rfl
theorem Sk.set {W : World} {B : Nat} {lv : Value} {g n c : Nat} {S : Lx} {k : Key} {u u' : Value} {ps ps' : List Key} (h : Sk W B lv (.slice (some ⟨g, 0, none⟩) n c) (S ++ [(k, (u, ps))])) (hu : HSeen W u' ps') (hp : H32 ps') (hb : ∀ b, sblk u' = some b → sblk u = some b) :
    Sk (W.setCell ⟨g, S.length * 33 + 32, none⟩ u') B lv (.slice (some ⟨g, 0, none⟩) n c) (S ++ [(k, (u', ps'))]) ∧ Only (fun j => (Value.slice (some ⟨g, 0, none⟩) n c).ownBlock = some j) W (W.setCell ⟨g, S.length * 33 + 32, none⟩ u') := by
  have ho : Only (fun j => (Value.slice (some ⟨g, 0, none⟩) n c).ownBlock = some j) W (W.setCell ⟨g, S.length * 33 + 32, none⟩ u') := (Only.refl (fun j => (Value.slice (some ⟨g, 0, none⟩) n c).ownBlock = some j) W).setCell (p := ⟨g, S.length * 33 + 32, none⟩) rfl _
  have hk : k.length = 32 := h.h32 (k, (u, ps)) (by simp)
  have hS : T32 S := h.h32.sub fun y hy => by simp [hy]
  have hne : ∀ b, (∃ cs, W.heap[b]? = some (.cells cs 28 (0, 0))) → (Value.slice (some ⟨g, 0, none⟩) n c).ownBlock ≠ some b := fun b ⟨cs, hb⟩ => own_apart h.own hb (by decide)
  have hlit : ∀ y ∈ S ++ [(k, (u', ps'))], HSeen W y.2.1 y.2.2 ∧ H32 y.2.2 ∧ ∀ b, sblk y.2.1 = some b → (∃ cs, W.heap[b]? = some (.cells cs 28 (0, 0))) ∧ lv.ownBlock ≠ some b := fun y hy => by
    rcases List.mem_append.1 hy with hy | hy
    · exact h.lit y (by simp [hy])
    · rw [List.mem_singleton.1 hy]
      exact ⟨hu, hp, fun b h9 => (h.lit (k, (u, ps)) (by simp)).2.2 b (hb b h9)⟩
  refine ⟨⟨?_, fun y hy => ?_, fun y hy => ?_⟩, ho⟩
  · rcases h.own.2 with ⟨h1, _⟩ | ⟨g', cap, cur, h1, hB, hg, hn, hm, hs, hc⟩
    · cases h1
    · simp only [Value.slice.injEq, Option.some.injEq, Addr.mk.injEq, and_true] at h1
      obtain ⟨rfl, h2, rfl⟩ := h1
      rw [List.length_append, List.length_singleton] at hn hc h2
      refine ⟨cfT_len (fun y hy => ?_), .inr ⟨g, c, cur.setIfInBounds (S.length * 33 + 32) u', by rw [List.length_append, List.length_singleton, h2], hB, heap_setCell_same W g _ _ _ _ hg, by rw [List.length_append, List.length_singleton]; exact hn, hm, by rw [Array.size_setIfInBounds]; exact hs, ?_⟩⟩
      · rcases List.mem_append.1 hy with hy | hy
        · exact hS y hy
        · rw [List.mem_singleton.1 hy]; exact hk
      · rw [Array.toList_setIfInBounds, List.length_append, List.length_singleton, List.take_set, hc]
        exact cfT_set hS hk u u' ps ps'
  · rcases List.mem_append.1 hy with hy | hy
    · exact hS y hy
    · rw [List.mem_singleton.1 hy]; exact hk
  · obtain ⟨h3, h4, h5⟩ := hlit y hy
    refine ⟨h3.keep ho (fun b hb => hne b (h5 b hb).1), h4, fun b hb => ?_⟩
    obtain ⟨⟨cs, h6⟩, h7⟩ := h5 b hb
    exact ⟨⟨cs, (ho.block b (Array.getElem?_eq_some_iff.1 h6).1 (hne b ⟨cs, h6⟩)).trans h6⟩, h7⟩
/-- The stack stays as the walk turns. -/
theorem Sk.wk {W0 W W' : World} {wk g bm ml : Nat} {X : Lx} {fv lv lv' v : Value} {o : List Key} {S : Lx} (h : Sk W W0.heap.size lv v S) (K : WK W0 W wk g bm ml X fv lv o) (ho : Only (wS wk ml lv) W W') (loc : ∀ j, lv'.ownBlock = some j → lv.ownBlock = some j ∨ W.heap.size ≤ j) : Sk W' W0.heap.size lv' v S := by
  obtain ⟨es, cc, hml⟩ : ∃ es cc, W.heap[ml]? = some (.map es cc) := by
    obtain ⟨R, h4, _⟩ := K.set
    obtain ⟨M, h5, _⟩ := h4.ex
    exact h5.ismap
  refine h.keep ho (fun j hj e => ?_) (fun b cs hb hl => ⟨fun e => ?_, fun e => ?_⟩)
  · rcases e with rfl | rfl | e
    · exact own_apart h.own K.cell (by decide) hj
    · exact own_nomap h.own hml hj
    · obtain ⟨cs, h6, _⟩ := own_type h.own hj
      exact own_apart K.own h6 (by decide) e
  · rcases e with rfl | rfl | e
    · rw [K.cell] at hb
      injection hb with hb
      injection hb with _ hb _
      revert hb; decide
    · rw [hml] at hb; cases hb
    · exact hl e
  · rcases loc b e with h1 | h1
    · exact hl h1
    · have := (Array.getElem?_eq_some_iff.1 hb).1; omega
theorem vis_idx {t : Nat} (ht : t + 1 ≤ 2000) : wrap64 (t : Int) = (t : Int) ∧ (0 : Int) ≤ (t : Int) ∧ (t : Int) < (t : Int) + 1 ∧ (t : Int) + 1 > 0 := by
  unfold wrap64; omega
/-- What a visit does. -/
def ViPost (W0 w : World) (wk g bm ml : Nat) (X : Lx) (fv lv : Value) (o' : List Key) (e : Ending) (w' : World) : Prop :=
  e = .returned (.tuple #[]) ∧ ∃ lv', WK W0 w' wk g bm ml X fv lv' o' ∧ Only (wS wk ml lv) w w' ∧ ∀ j, lv'.ownBlock = some j → lv.ownBlock = some j ∨ w.heap.size ≤ j
set_option linter.unusedSimpArgs false in
set_option maxRecDepth 20000 in
set_option maxHeartbeats 8000000 in
attribute [local go_sem ↓] hld_open in
theorem visit_to (W0 w : World) (wk g bm ml : Nat) (X : Lx) (fv lv : Value) (o : List Key) (H : WK W0 w wk g bm ml X fv lv o) (D : Key → Bool) (hD : Dn W0 fv D) (HW : Wf (gr X)) (x : Key) (hx : x.length = 32) (N : Nat) (o' : List Key) (hv' : VL (gr X) D N o [x] o') (ho' : o'.length ≤ 1000) :
    Calls Try.prog 32 #[wkp wk, .agg (hv x)] w (ViPost W0 w wk g bm ml X fv lv o') := by
  have BA := Lib.hid (below_al11 w (.cells (hv x) 28))
  have HB := Lib.hid (heap_alloc_last w (.cells (hv x) 28))
  have HK := Lib.hid (H.kb BA.out)
  have HX := Lib.hid hx
  have HWF := Lib.hid HW
  have HDN := Lib.hid hD
  have HO := Lib.hid ho'
  have HV := Lib.hid hv'.one
  clear H hx HW hD ho' hv'
  go_enter Try.func32, Try.ntmps32
  go_upto_region 1 with fail
  generalize w.alloc (.cells (hv x) 28) = w0 at *
  generalize hb : w.heap.size = b at HB
  clear hb
  have hld0 := hld_row HX.out HB.out
  have HEN := Lib.hid (enter_to W0 w0 wk g bm ml X fv lv o HK.out D HDN.out HWF.out (.slice none 0 0) [] (sk_nil w0 W0.heap.size lv) x HX.out (by decide))
  go_wp2_with fail
  refine HEN.out.mono ?_
  rintro e w1 ⟨v1, rfl, k1, o1, loc1, h1⟩
  obtain ⟨S, m, hS, hR⟩ : ∃ S m, Sk w1 W0.heap.size lv v1 S ∧ Run (gr X) D m o (stk S) o' := by
    rcases h1 with ⟨hk, rfl, hs⟩ | ⟨h2, h3, u, hs⟩
    · refine ⟨[], 0, hs, ?_⟩
      rcases HV.out with ⟨_, rfl⟩ | ⟨h2, h3, _⟩
      · exact .nil _
      · exact absurd hk (by simp [h2, h3])
    · rcases HV.out with ⟨hk, _⟩ | ⟨_, _, m, hr⟩
      · exact absurd hk (by simp [h2, h3])
      · exact ⟨_, m, hs, hr⟩
  have K1 := Lib.hid k1
  have S1 := Lib.hid hS
  have R1 := Lib.hid hR
  have O1 : Hid (Only (wS wk ml lv) w w1) := Lib.hid ((Only.of_below (S := wS wk ml lv) BA.out).trans o1 (fun _ h => h) (fun _ _ h => by cases h))
  obtain ⟨q1, n1, c1, rfl, hn1⟩ := hS.shape
  have L1 : Hid (∀ j, (Value.slice q1 n1 c1).ownBlock = some j → w.heap.size ≤ j) := Lib.hid (fun j hj => (loc1 j hj).elim (fun h => by cases h) (fun h => Nat.le_trans BA.out.size h))
  have N1 := Lib.hid hn1
  clear k1 o1 loc1 h1 hS hR hn1 HEN hld0 HK HV HB
  go_wp2_with fail
  go_loopg [4] m (fun k v4 wr => ∃ (lc : Value) (oc : List Key) (S : Lx) (q : Option Addr) (n c : Nat), v4 = .slice q n c ∧ Hid (n = S.length) ∧ Hid (WK W0 wr wk g bm ml X fv lc oc) ∧ Hid (Sk wr W0.heap.size lc (.slice q n c) S) ∧ Hid (Run (gr X) D k oc (stk S) o') ∧ Hid (Only (wS wk ml lv) w wr) ∧ Hid (∀ j, lc.ownBlock = some j → lv.ownBlock = some j ∨ w.heap.size ≤ j) ∧ Hid (∀ j, (Value.slice q n c).ownBlock = some j → w.heap.size ≤ j))
  case atStart => exact ⟨lv, o, S, q1, n1, c1, rfl, N1, K1, S1, R1, O1, Lib.hid (fun j hj => .inl hj), L1⟩
  case round =>
    clear N1 K1 S1 R1 O1 L1
    obtain ⟨lc, oc, S, q, n, c, rfl, HN, K, SK, R, OW, LC, LS⟩ := hrel
    cases hS : S.reverse with
    | nil =>
      obtain rfl : S = [] := by simpa using hS
      obtain rfl : n = 0 := HN.out
      clear hS
      go_wp2_with fail
      refine bodyPost_end (results_none rfl _ _ _) rfl ?_
      have e := R.out.done
      subst e
      exact ⟨rfl, lc, K.out, OW.out, LC.out⟩
    | cons x0 S' =>
      obtain ⟨S2, rfl⟩ : ∃ S2, S = S2 ++ [x0] := ⟨S'.reverse, by rw [← List.reverse_reverse S, hS, List.reverse_cons]⟩
      clear hS S'
      obtain ⟨h, u, ps⟩ := x0
      obtain ⟨sb, cur, rfl, hB, hn, hnc, hg, hrg⟩ := SK.out.top
      dsimp only at hrg
      have hlen := R.out.len
      have hstl : (stk (S2 ++ [(h, (u, ps))])).length = S2.length + 1 := by simp [stk]
      rw [hstl] at hlen
      have hh32 : h.length = 32 := SK.out.h32 (h, (u, ps)) (by simp)
      obtain ⟨hus, hp32, hub⟩ := SK.out.lit (h, (u, ps)) (by simp)
      dsimp only at hus hp32 hub
      obtain ⟨pu, cu, rfl⟩ := hus.shape
      obtain ⟨m, hm⟩ : ∃ m, m = S2.length := ⟨_, rfl⟩
      rw [← hm] at hn hrg hlen
      subst hn
      obtain ⟨i1, i2, i3, i4⟩ := vis_idx (t := m) (by have := HO.out; omega)
      have hcm : (m : Int) ≤ (c : Int) := by omega
      have hcu : wr.cell? ⟨sb, m * 33 + 32, none⟩ = some (.slice pu ps.length cu) := hrg 32 _ (by rw [List.getElem?_append_right (by rw [usn_length, hh32]; exact Nat.le_refl _), usn_length, hh32]; rfl)
      have hldh := hld_range hh32 (rng_pre hrg)
      have HH := Lib.hid hh32
      have HM := Lib.hid hm
      have HLN : Hid (oc.length + 1 ≤ 1000 ∧ S2.length + 1 ≤ 1000) := Lib.hid (by have := HO.out; omega)
      have HUS := Lib.hid hus
      have HP32 := Lib.hid hp32
      have HR : Hid (Run (gr X) D gk oc ((h, ps) :: stk S2) o') := Lib.hid (by have := R.out; rwa [stk_snoc] at this)
      have HRNG := Lib.hid hrg
      have HG := Lib.hid hg
      obtain ⟨lu, hlu⟩ : ∃ lu, lu = ps.length := ⟨_, rfl⟩
      rw [← hlu] at hcu HUS
      rw [← hlu] at SK
      have HLU := Lib.hid hlu
      clear hg hrg hlen hstl hh32 hus hp32 hub hm hlu HN R hB hnc
      cases ps with
      | nil =>
        obtain rfl : lu = 0 := HLU.out
        go_wp2_with fail
        refine (wadd_to W0 wr wk g bm ml X fv lc oc K.out h HH.out (by have := HLN.out; omega)).mono ?_
        rintro e w5 ⟨rfl, lc', k5, o5, l5⟩
        have SK5 := Lib.hid (SK.out.wk K.out o5 l5).cut
        obtain ⟨m', hm', r'⟩ := HR.out.pop
        have HM5 := Lib.hid hm'
        have R5 := Lib.hid r'
        have K5 := Lib.hid k5
        have OW5 : Hid (Only (wS wk ml lv) w w5) := Lib.hid (OW.out.trans o5 (fun _ h => h) (fun j hj h => by
          rcases h with h | h | h
          · exact .inl h
          · exact .inr (.inl h)
          · rcases LC.out j h with h | h
            · exact .inr (.inr h)
            · omega))
        have LC5 : Hid (∀ j, lc'.ownBlock = some j → lv.ownBlock = some j ∨ w.heap.size ≤ j) := Lib.hid (fun j hj => (l5 j hj).elim (LC.out j) (fun h => .inr (Nat.le_trans OW.out.size h)))
        clear k5 o5 l5 hm' r' hcu hldh
        go_wp2_with fail
        go_roundg m'
        case measure => exact HM5.out
        case rel => exact ⟨lc', oc ++ [h], S2, _, m, c, rfl, HM, K5, Lib.hid (by rw [HM.out]; exact SK5.out), R5, OW5, LC5, Lib.hid (fun j hj => LS.out j hj)⟩
      | cons p ps =>
        obtain ⟨lw, rfl⟩ : ∃ lw, lu = lw + 1 := ⟨ps.length, HLU.out⟩
        have hp0 : p.length = 32 := HP32.out p List.mem_cons_self
        obtain ⟨b, o0, c', e1, hr0⟩ := HUS.out.at HP32.out (i := 0) (by simp)
        injection e1 with e1 e2 e3
        subst e1
        rw [Nat.zero_mul, Nat.add_zero] at hr0
        have hldp := hld_range hp0 hr0
        have hlc : lw + 1 ≤ cu := by
          rcases HUS.out with ⟨h1, _⟩ | ⟨a, cap, h1, h2, _⟩
          · cases h1
          · injection h1 with _ h1 h3; omega
        have HLC := Lib.hid hlc
        have st := hst_cells p hp0 wr
        have hks : (hv p).size = 32 := by rw [hv_size, hp0]
        have AL := Lib.hid (below_al11 wr (.cells (hv p) 28))
        have HBP := Lib.hid (heap_alloc_last wr (.cells (hv p) 28))
        have K5 := Lib.hid (K.out.kb AL.out)
        have SK5 := Lib.hid (SK.out.kb AL.out)
        have OW5 : Hid (Only (wS wk ml lv) w (wr.alloc (.cells (hv p) 28))) := Lib.hid (OW.out.trans (Only.of_below (S := wS wk ml lv) AL.out) (fun _ h => h) (fun _ _ h => h))
        have HG5 := Lib.hid ((mild_below AL.out).cells HG.out)
        have HUS5 := Lib.hid (HUS.out.mild (mild_below AL.out))
        have HP := Lib.hid hp0
        have hcu5 := (mild_below AL.out).cell hcu
        have hf5 : (wr.alloc (.cells (hv p) 28)).frozen? ⟨sb, m * 33 + 32, none⟩ = false := frozen_of_row _ _ _ _ _ HG5.out
        have hb1 : (1 : Int) ≤ (lw : Int) + 1 := by omega
        have hb2 : (lw : Int) + 1 ≤ cu := by omega
        have hb3 : (1 : Int) ≤ cu := by omega
        clear hp0 e2 e3 hr0 hlc
        go_upto_region 8 with fail
        clear st
        generalize wr.alloc (.cells (hv p) 28) = w5 at *
        generalize wr.heap.size = pb at *
        go_upto_region 9 with fail
        have hTL : HSeen w5 (.slice (if cu = 1 then some ⟨b, o0, none⟩ else some ⟨b, o0 + 32, none⟩) lw (cu - 1)) ps := HUS5.out.tail HP.out
        have hSB : ∀ b', sblk (.slice (if cu = 1 then some ⟨b, o0, none⟩ else some ⟨b, o0 + 32, none⟩) lw (cu - 1)) = some b' → sblk (.slice (some ⟨b, o0, none⟩) (lw + 1) cu) = some b' := fun b' h9 => by
          split at h9 <;> exact h9
        have hset := SK5.out.set hTL (fun y hy => HP32.out y (List.mem_cons_of_mem _ hy)) hSB
        rw [← HM.out] at hset
        obtain ⟨s6, o6⟩ := hset
        have SK6 := Lib.hid s6
        have K6 := Lib.hid (K5.out.stk SK5.out.own o6)
        have HB6 := Lib.hid ((o6.block pb (Array.getElem?_eq_some_iff.1 HBP.out).1 (own_apart SK5.out.own HBP.out (by decide))).trans HBP.out)
        have OW6 := Lib.hid (OW5.out.trans o6 (fun _ h => h) (fun j hj h => by have := LS.out j h; omega))
        clear hTL hSB s6 o6 hcu5 hf5 hb1 hb2 hb3 hldp K5 SK5 OW5 HBP HG5 HUS5
        generalize (Value.slice (if cu = 1 then some ⟨b, o0, none⟩ else some ⟨b, o0 + 32, none⟩) lw (cu - 1)) = u' at *
        generalize w5.setCell ⟨sb, m * 33 + 32, none⟩ u' = w6 at *
        have hld6 := hld_row HP.out HB6.out
        have HEN := Lib.hid (enter_to W0 w6 wk g bm ml X fv lc oc K6.out D HDN.out HWF.out (.slice (some ⟨sb, 0, none⟩) (m + 1) c) (S2 ++ [(h, (u', ps))]) SK6.out p HP.out (by have := HLN.out; rw [List.length_append, List.length_singleton]; omega))
        go_wp2_with fail
        refine HEN.out.mono ?_
        rintro e w7 ⟨v7, rfl, k7, o7, loc7, h7⟩
        obtain ⟨m', hm', r1, r2⟩ := HR.out.next
        obtain ⟨S7, hS7, hR7⟩ : ∃ S7, Sk w7 W0.heap.size lc v7 S7 ∧ Run (gr X) D m' oc (stk S7) o' := by
          rcases h7 with ⟨hk, rfl, hs⟩ | ⟨h8, h9, u, hs⟩
          · exact ⟨_, hs, by rw [stk_snoc]; exact r1 hk⟩
          · exact ⟨_, hs, by rw [stk_snoc, stk_snoc]; exact r2 h8 h9⟩
        have HM7 := Lib.hid hm'
        have K7 := Lib.hid k7
        have SK7 := Lib.hid hS7
        have R7 := Lib.hid hR7
        have OW7 : Hid (Only (wS wk ml lv) w w7) := Lib.hid (OW6.out.trans o7 (fun _ h => h) (fun j hj h => by have := LS.out j h; omega))
        have LS7 : Hid (∀ j, v7.ownBlock = some j → w.heap.size ≤ j) := Lib.hid (fun j hj => (loc7 j hj).elim (LS.out j) (fun h => Nat.le_trans OW6.out.size h))
        obtain ⟨q7, n7, c7, rfl, hn7⟩ := hS7.shape
        have HN7 := Lib.hid hn7
        clear k7 o7 loc7 h7 hm' r1 r2 hS7 hR7 hn7 HEN hld6
        go_wp2_with fail
        go_roundg m'
        case measure => exact HM7.out
        case rel => exact ⟨lc, oc, S7, q7, n7, c7, rfl, HN7, K7, SK7, R7, OW7, LC, LS7⟩
end Go.Proofs.Ythfkmfepeafgjaa
