/- What the hand's Request puts together: what is still to be done, and which numbers were seen. No condition. -/
import Derived.Test.YthfkmfepeafgjaaHndT
import Derived.Test.YthfkmfepeafgjaaGenRow
namespace Go.Proofs.Ythfkmfepeafgjaa
open Go.RowKit
open Go.Maps

/-- Numbers to be done: read, in blocks that came in or of numbers. -/
def Td (W : World) (B : Nat) (v : Value) (l : List Int) : Prop :=
  ∃ a cap, v = .slice a l.length cap ∧ l.length ≤ cap ∧ (a = none → cap = 0) ∧ ∀ j x, l[j]? = some x → ∃ a', a = some a' ∧ (a'.block < B ∨ ∃ cs, W.heap[a'.block]? = some (.cells cs 3 (0, 0))) ∧ W.cell? (a'.add j) = some (.int .i64 x)
theorem add_block (a : Addr) (j : Nat) : (a.add j).block = a.block := by unfold Addr.add; split <;> rfl
theorem add_one_add (a : Addr) (j : Nat) : (a.add 1).add j = a.add (j + 1) := by
  unfold Addr.add
  by_cases h : j = 0
  · subst h; simp
  · simp [h]; omega
theorem add_zero_add (a : Addr) : a.add 0 = a := by simp [Addr.add]
theorem Td.only {W W' : World} {B : Nat} {v : Value} {l : List Int} {S : Nat → Prop} (h : Td W B v l) (k : Only S W W') (hS : ∀ j, S j → B ≤ j ∧ ∀ cs, W.heap[j]? ≠ some (.cells cs 3 (0, 0))) : Td W' B v l := by
  obtain ⟨a, cap, h1, h2, h3, h4⟩ := h
  refine ⟨a, cap, h1, h2, h3, fun j x hj => ?_⟩
  obtain ⟨a', e1, e2, e3⟩ := h4 j x hj
  have hn : ¬ S a'.block := fun hs => by
    obtain ⟨g1, g2⟩ := hS _ hs
    rcases e2 with e2 | ⟨cs, e2⟩
    · omega
    · exact g2 cs e2
  have hb : W'.heap[a'.block]? = W.heap[a'.block]? := k.block _ (by have := World.block_lt_of_cell? W _ e3; rwa [add_block] at this) hn
  refine ⟨a', e1, ?_, ?_⟩
  · rcases e2 with e2 | ⟨cs, e2⟩
    · exact .inl e2
    · exact .inr ⟨cs, by rw [hb]; exact e2⟩
  · have hb2 : W'.heap[(a'.add j).block]? = W.heap[(a'.add j).block]? := by rw [add_block]; exact hb
    rw [World.cell?_of_block hb2]; exact e3
theorem Td.kb {W W' : World} {B : Nat} {v : Value} {l : List Int} (h : Td W B v l) (k : Below W.heap.size W W') : Td W' B v l := h.only (S := fun _ => False) (Only.of_below k) (fun _ h => h.elim)
theorem Td.seen {W : World} {B : Nat} {v : Value} {l : List Int} (h : Td W B v l) : ISeen W v l := by
  obtain ⟨a, cap, h1, h2, h3, h4⟩ := h
  cases a with
  | none =>
    have hc := h3 rfl
    subst hc
    have hl : l = [] := List.eq_nil_of_length_eq_zero (by omega)
    subst hl
    exact .inl ⟨h1, rfl⟩
  | some a =>
    refine .inr ⟨a, cap, h1, h2, fun j x hj => ?_⟩
    obtain ⟨a', e1, e2, e3⟩ := h4 j x hj
    injection e1 with e1
    rw [e1]; exact e3
theorem Td.own {W : World} {A B : Nat} {v : Value} {l : List Int} (h : IOwns W A v l) : Td W B v l := by
  have hs := IOwns.seen h
  rcases hs with ⟨rfl, rfl⟩ | ⟨a, cap, rfl, hc, hx⟩
  · exact ⟨none, 0, rfl, Nat.le_refl _, fun _ => rfl, fun j x hj => by simp at hj⟩
  · refine ⟨some a, cap, rfl, hc, (fun h => by cases h), fun j x hj => ⟨a, rfl, .inr ?_, hx j x hj⟩⟩
    rcases h.2 with ⟨e1, _⟩ | ⟨g, cap', cur, e1, _, hg, _⟩
    · cases e1
    · injection e1 with e1
      injection e1 with e1
      subst e1
      exact ⟨_, hg⟩
theorem Td.came {w W : World} {v : Value} {l : List Int} (h : ISeen w v l) (k : Below w.heap.size w W) : Td W w.heap.size v l := by
  rcases h with ⟨rfl, rfl⟩ | ⟨a, cap, rfl, hc, hx⟩
  · exact ⟨none, 0, rfl, Nat.le_refl _, fun _ => rfl, fun j x hj => by simp at hj⟩
  · refine ⟨some a, cap, rfl, hc, (fun h => by cases h), fun j x hj => ⟨a, rfl, .inl ?_, ?_⟩⟩
    · have := World.block_lt_of_cell? w _ (hx j x hj)
      rwa [add_block] at this
    · have h1 := hx j x hj
      rw [World.cell?_of_block (k.block _ (World.block_lt_of_cell? w _ h1))]; exact h1
theorem ISeen.pre {w : World} {p : Option Addr} {n c m : Nat} {l : List Int} (h : ISeen w (.slice p n c) l) (hm : m ≤ n) : ISeen w (.slice p m c) (l.take m) := by
  rcases h with ⟨h1, h2⟩ | ⟨a, cap, h1, h2, h3⟩
  · injection h1 with e1 e2 e3
    subst e1 e2 e3 h2
    obtain rfl : m = 0 := by omega
    exact .inl ⟨rfl, rfl⟩
  · injection h1 with e1 e2 e3
    subst e1 e3 e2
    have hl : (l.take m).length = m := by rw [List.length_take]; omega
    refine .inr ⟨a, c, by rw [hl], by rw [hl]; omega, fun j x hj => h3 j x ?_⟩
    rw [List.getElem?_take] at hj
    split at hj
    · exact hj
    · cases hj
/-- Its first one is taken. -/
theorem Td.first {W : World} {B : Nat} {p : Option Addr} {n cap : Nat} {x : Int} {l : List Int} (h : Td W B (.slice p n cap) (x :: l)) : ∃ a, p = some a ∧ W.cell? a = some (.int .i64 x) ∧ n = l.length + 1 ∧ n ≤ cap := by
  obtain ⟨a', cap', h1, h2, h3, h4⟩ := h
  injection h1 with h1 h5 h6
  subst h6 h1
  obtain ⟨a, e1, e2, e3⟩ := h4 0 x rfl
  rw [add_zero_add] at e3
  exact ⟨a, e1, e3, by rw [h5]; rfl, by rw [h5]; exact h2⟩
theorem Td.rest {W : World} {B : Nat} {a : Addr} {n cap m : Nat} {x : Int} {l : List Int} (h : Td W B (.slice (some a) n cap) (x :: l)) (hm : m = l.length) : Td W B (.slice (if cap = 1 then some a else some (a.add 1)) m (cap - 1)) l := by
  obtain ⟨a', cap', h1, h2, h3, h4⟩ := h
  injection h1 with h1 h5 h6
  subst h6 hm
  rw [List.length_cons] at h2
  refine ⟨_, _, rfl, by omega, (fun h => by split at h <;> cases h), fun j y hj => ?_⟩
  have hj' := (List.getElem?_eq_some_iff.1 hj).1
  obtain ⟨a'', e1, e2, e3⟩ := h4 (j + 1) y (by simpa using hj)
  rw [← h1] at e1
  injection e1 with e1
  subst e1
  rw [if_neg (by omega)]
  exact ⟨_, rfl, by rw [add_block]; exact e2, by rw [add_one_add]; exact e3⟩
section
variable {ops : Array Oper} {rest : List Oper} {a : Act} {Q : Exit → Act → World → Prop} {o : Oper} {w : World} {K : Act → World → Prop} {X : Prop}
/-- append of numbers to some of one's own (not nil). -/
theorem step_app_ints (hgd : o.guard = none) (s x : Operand) (ho : o.op = .call { callee := .builtin .append, args := #[s, x], argTypes := #[33, 33] })
    (B : Nat) (v u : Value) (n m : Nat) (l k : List Int) (hv' : v ≠ .slice none 0 0) (hs : a.eval s = v) (hown : w.ownsRow B 3 1 v n (l.map (Value.int .i64))) (hn : n = l.length) (hx : a.eval x = u) (hu : ISeen w u k) (hm : m = n + k.length) (hl : m ≤ 1000000) (hB : B ≤ w.heap.size)
    (h : ∀ (g c : Nat) (w' : World), w'.ownsRow B 3 1 (.slice (some ⟨g, 0, none⟩) m c) m ((l ++ k).map (Value.int .i64)) → Only (fun j => v.ownBlock = some j) w w' → (v.ownBlock = some g ∨ g = w.heap.size) → K (a.put o.dst (.slice (some ⟨g, 0, none⟩) m c)) w') :
    if Region.wanted o (yielded ops a.tmps) = true then Oper.wp Try.prog o a w K Q else X := by
  obtain ⟨i0, hi0, hz0, hz1, hz2⟩ := info_parts iinfo
  subst hm
  refine step_append_row hgd s x ho Try.underlying33 hi0 hz0 hz1 hz2 rfl (by decide) B v n _ hv' hs hown u k.length (k.map (Value.int .i64)) hx ?_ (by simp) (fun u hu => by obtain ⟨y, _, rfl⟩ := List.mem_map.1 hu; rfl) (by unfold maxLen; omega) (by omega) hB ?_
  · rcases hu with ⟨h1, h2⟩ | ⟨ad, c, h1, _, h2⟩
    · exact .inl ⟨h1, by rw [h2]; rfl, by rw [h2]; rfl⟩
    · refine .inr ⟨ad, c, h1, fun j y hj => ?_⟩
      rw [List.getElem?_map] at hj
      cases hk : k[j]? with
      | none => rw [hk] at hj; cases hj
      | some z => rw [hk, Option.map_some, Option.some.injEq] at hj; subst hj; exact h2 j z hk
  · intro g cap w' o' gr hg
    exact h g cap w' (by rw [List.map_append]; exact o') ((Only.refl _ w).grown gr (fun k _ e => e)) hg
/-- The same, plain. -/
theorem push_app_ints (hgd : o.guard = none) (s x : Operand) (ho : o.op = .call { callee := .builtin .append, args := #[s, x], argTypes := #[33, 33] })
    (B : Nat) (v u : Value) (n m : Nat) (l k : List Int) (hv' : v ≠ .slice none 0 0) (hs : a.eval s = v) (hown : w.ownsRow B 3 1 v n (l.map (Value.int .i64))) (hn : n = l.length) (hx : a.eval x = u) (hu : ISeen w u k) (hm : m = n + k.length) (hl : m ≤ 1000000) (hB : B ≤ w.heap.size)
    (h : ∀ (g c : Nat) (w' : World), w'.ownsRow B 3 1 (.slice (some ⟨g, 0, none⟩) m c) m ((l ++ k).map (Value.int .i64)) → Only (fun j => v.ownBlock = some j) w w' → (v.ownBlock = some g ∨ g = w.heap.size) → wpList Try.prog ops Q rest (a.put o.dst (.slice (some ⟨g, 0, none⟩) m c)) w') :
    wpList Try.prog ops Q (o :: rest) a w := by
  refine wpList_plain hgd fun K hK => ?_
  have h9 := step_app_ints (K := K) (Q := Q) (X := True) (ops := ops) hgd s x ho B v u n m l k hv' hs hown hn hx hu hm hl hB (fun g c w' a1 a2 a3 => hK _ _ (h g c w' a1 a2 a3))
  rwa [if_pos (by simp [Region.wanted, hgd])] at h9
/-- An empty slice of numbers is made, plain. -/
theorem push_empty (hgd : o.guard = none) (ho : o.op = .buildSlice 33 0 #[]) (h : wpList Try.prog ops Q rest (a.put o.dst (.slice (some ⟨w.heap.size, 0, none⟩) 0 0)) (w.alloc (.cells #[] 3))) : wpList Try.prog ops Q (o :: rest) a w := by
  obtain ⟨i0, hi0, hz0, hz1, hz2⟩ := info_parts iinfo
  refine wpList_plain hgd fun K hK => ?_
  have h9 := step_build_empty (K := K) (Q := Q) (X := True) (ops := ops) hgd ho Try.underlying33 hi0 (hK _ _ h)
  rwa [if_pos (by simp [Region.wanted, hgd])] at h9
theorem step_empty_ints (hgd : o.guard = none) (ho : o.op = .buildSlice 33 0 #[]) (h : K (a.put o.dst (.slice (some ⟨w.heap.size, 0, none⟩) 0 0)) (w.alloc (.cells #[] 3))) : if Region.wanted o (yielded ops a.tmps) = true then Oper.wp Try.prog o a w K Q else X := by
  obtain ⟨i0, hi0, hz0, hz1, hz2⟩ := info_parts iinfo
  exact step_build_empty hgd ho Try.underlying33 hi0 h
/-- append of one hash, plain. -/
theorem push_hash11 (hgd : o.guard = none) (s x : Operand) (ho : o.op = .call { callee := .builtin .append, args := #[s, x], argTypes := #[25, 25] })
    (B : Nat) (v : Value) (l : List Key) (b : Nat) (k : Key) (hk : k.length = 32) (hs : a.eval s = v) (hown : HOwn w B v l) (hx : a.eval x = .slice (some ⟨b, 0, none⟩) 1 1) (hu : w.heap[b]? = some (.cells (hv k) 28 (0, 0))) (hl : l.length + 1 ≤ 1000000) (hB : B ≤ w.heap.size)
    (m : Nat) (hm : m = l.length + 1)
    (h : ∀ (p : Option Addr) (c : Nat) (w' : World), HOwn w' B (.slice p m c) (l ++ [k]) → Only (fun j => v.ownBlock = some j) w w' → (∀ j, (Value.slice p m c).ownBlock = some j → v.ownBlock = some j ∨ w.heap.size ≤ j) → wpList Try.prog ops Q rest (a.put o.dst (.slice p m c)) w') :
    wpList Try.prog ops Q (o :: rest) a w := by
  refine wpList_plain hgd fun K hK => ?_
  have h9 := step_pushh (K := K) (Q := Q) (X := True) (ops := ops) hgd s x ho B v l b k hk hs hown hx hu hl hB m hm (fun p c w' a1 a2 a3 => hK _ _ (h p c w' a1 a2 a3))
  rwa [if_pos (by simp [Region.wanted, hgd])] at h9
end
/-- Which numbers were seen. -/
def InB (W : World) (ib : Nat) (bs : List Bool) : Prop := W.heap[ib]? = some (.cells (bs.map Value.bool).toArray 98 (0, 0)) ∧ bs.length = 60
def lft (bs : List Bool) : Nat := bs.countP (fun b => !b)
theorem lft_le {bs : List Bool} : lft bs ≤ bs.length := List.countP_le_length
theorem lft_set {bs : List Bool} {n : Nat} (h : bs[n]? = some false) : lft (bs.set n true) + 1 = lft bs := by
  obtain ⟨hn, he⟩ := List.getElem?_eq_some_iff.1 h
  unfold lft
  rw [List.countP_set hn, he]
  have : 0 < bs.countP (fun b => !b) := List.countP_pos_iff.2 ⟨false, List.mem_of_getElem? h, rfl⟩
  simp
  omega
theorem lft_set_le {bs : List Bool} {n : Nat} : lft (bs.set n true) ≤ lft bs := by
  by_cases hn : n < bs.length
  · unfold lft
    rw [List.countP_set hn]
    simp
  · rw [List.set_eq_of_length_le (by omega)]; exact Nat.le_refl _
def lfw (W : World) (ib : Nat) : Nat := match W.heap[ib]? with | some (.cells cs _ _) => cs.toList.countP (fun v => match v with | .bool b => !b | _ => false) | _ => 0
theorem InB.lfw {W : World} {ib : Nat} {bs : List Bool} (h : InB W ib bs) : lfw W ib = lft bs := by
  unfold Go.Proofs.Ythfkmfepeafgjaa.lfw lft
  rw [h.1]
  simp [List.countP_map, Function.comp_def]
theorem InB.cell {W : World} {ib : Nat} {bs : List Bool} (h : InB W ib bs) {n : Nat} {b : Bool} (hb : bs[n]? = some b) : W.cell? ⟨ib, n, none⟩ = some (.bool b) := by
  rw [cell_of_row W ib n _ _ _ h.1]
  simp [hb]
theorem InB.set {W : World} {ib : Nat} {bs : List Bool} (h : InB W ib bs) {n : Nat} (hn : n < 60) : InB (W.setCell ⟨ib, n, none⟩ (.bool true)) ib (bs.set n true) ∧ Only (fun j => j = ib) W (W.setCell ⟨ib, n, none⟩ (.bool true)) := by
  refine ⟨⟨?_, by rw [List.length_set]; exact h.2⟩, (Only.refl (fun j => j = ib) W).setCell (p := ⟨ib, n, none⟩) rfl _⟩
  rw [heap_setCell_same W ib n _ _ _ h.1]
  congr 2
  apply Array.ext_getElem?
  intro i
  rw [Array.getElem?_setIfInBounds]
  simp only [List.getElem?_toArray, List.getElem?_map, List.getElem?_set, List.size_toArray, List.length_map]
  by_cases e : n = i
  · subst e
    by_cases h2 : n < bs.length
    · simp [h2]
    · have := h.2; omega
  · simp [e]
theorem InB.kb {W W' : World} {ib : Nat} {bs : List Bool} (h : InB W ib bs) (k : Below W.heap.size W W') : InB W' ib bs := ⟨(mild_below k).cells h.1, h.2⟩
theorem InB.free {W : World} {ib : Nat} {bs : List Bool} (h : InB W ib bs) (i : Nat) : W.frozen? ⟨ib, i, none⟩ = false := frozen_of_row _ _ _ _ _ h.1
section
variable {W W' w : World} {B rb bx rz ib : Nat} {vc vh vL vH : Value} {g grp how : Int} {C : Cv} {cs : List Cm} {hs : List Key} {bs : List Bool}
theorem RI.inb (H : RI W B rb vc vh g C cs hs) (I : InB W ib bs) (o : Only (fun j => j = ib) W W') : RI W' B rb vc vh g C cs hs := by
  refine H.keep o (fun e => ?_) (fun j hj e => own_apart H.row I.1 (by decide) (by rw [hj, e])) (fun j hj e => own_apart H.heads I.1 (by decide) (by rw [hj, e])) (fun c hc j hj e => ?_)
  · have := H.cell; rw [e, I.1] at this; injection this with this; injection this with _ this _; exact absurd this (by decide)
  · obtain ⟨d, _, _, o, _⟩ := H.pos hc
    exact own_apart o I.1 (by decide) (by rw [hj, e])
theorem XS.inb (H : XS w W B bx rz rb vL vH grp how) (I : InB W ib bs) (hi : B ≤ ib) (o : Only (fun j => j = ib) W W') : XS w W' B bx rz rb vL vH grp how := by
  refine ⟨H.bel.trans (o.below (H.hB ▸ H.bel.size) fun k hk => hk ▸ hi), H.hB, (o.block bx (Array.getElem?_eq_some_iff.1 H.xb).1 fun e => ?_).trans H.xb, (o.block rz (Array.getElem?_eq_some_iff.1 H.zero).1 fun e => ?_).trans H.zero, H.ne⟩
  · have := H.xb; rw [e, I.1] at this; injection this with this; injection this with _ this _; exact absurd this (by decide)
  · have := H.zero; rw [e, I.1] at this; injection this with this; injection this with _ this _; exact absurd this (by decide)
/-- What was seen stays as the request turns. -/
theorem InB.far (I : InB W ib bs) {v : Value} {e : TypeId} {s n : Nat} {xs : List Value} (ho : Only (fun j => j = rb ∨ v.ownBlock = some j) W W') (o : W.ownsRow B e s v n xs) (he : e ≠ 98) {rc : Array Value} (hrb : W.heap[rb]? = some (.cells rc 64 (0, 0))) : InB W' ib bs := by
  refine ⟨(ho.block ib (Array.getElem?_eq_some_iff.1 I.1).1 fun h => ?_).trans I.1, I.2⟩
  rcases h with h | h
  · have := I.1; rw [h, hrb] at this; injection this with this; injection this with _ this _; exact absurd this (by decide)
  · exact own_apart o I.1 (fun h => he h.symm) h
end
theorem RI.apart {W W' : World} {B rb : Nat} {vc vh : Value} {g : Int} {C : Cv} {cs : List Cm} {hs : List Key} (R : RI W B rb vc vh g C cs hs) (ho : Only (fun j => j = rb ∨ vc.ownBlock = some j) W W') :
    (∀ v l, Td W B v l → Td W' B v l) ∧ (∀ A v n xs, W.ownsRow A 3 1 v n xs → W'.ownsRow A 3 1 v n xs) ∧ ∀ ib bs, InB W ib bs → InB W' ib bs := by
  have ht : ∀ j, (j = rb ∨ vc.ownBlock = some j) → B ≤ j ∧ ∀ cs, W.heap[j]? ≠ some (.cells cs 3 (0, 0)) := fun j hj => by
    rcases hj with rfl | hj
    · exact ⟨R.lo, fun cs e => by rw [R.cell] at e; injection e with e; injection e with _ e _; exact absurd e (by decide)⟩
    · obtain ⟨cs', h1, h2⟩ := own_type R.row hj
      exact ⟨h2, fun cs e => by rw [h1] at e; injection e with e; injection e with _ e _; exact absurd e (by decide)⟩
  refine ⟨fun v l h => h.only ho ht, fun A v n xs h => own_keep h ho (fun j hj e => ?_), fun ib bs I => I.far ho R.row (by decide) R.cell⟩
  obtain ⟨cs', h1, _⟩ := own_type h hj
  exact (ht j e).2 cs' h1
theorem RI.form {W : World} {B rb : Nat} {vc vh : Value} {g : Int} {C : Cv} {cs : List Cm} {hs : List Key} (R : RI W B rb vc vh g C cs hs) : CForm vc cs.length := by
  rcases R.row.2 with ⟨h1, _⟩ | ⟨b, cap, cur, h1, _, _, h2, _⟩
  · exact .inl h1
  · exact .inr ⟨b, cap, by rw [h1, R.len], by rw [← R.len]; exact h2⟩
/-- What is handed back lies in the result's cell. -/
theorem XS.done {W w : World} {B rb bx rz : Nat} {vc vh vL vH : Value} {g grp how : Int} {C : Cv} {cs : List Cm} {hs : List Key} (X : XS w W B bx rz rb vL vH grp how) (R : RI W B rb vc vh g C cs hs) (hz : B ≤ rz) (p1 p2 p3 : Value) :
    ((((W.setCell ⟨rz, 0, none⟩ p1).setCell ⟨rz, 1, none⟩ p2).setCell ⟨rz, 2, none⟩ p3).heap[rz]? = some (.cells #[p1, p2, p3] 64 (0, 0))) ∧
    RI (((W.setCell ⟨rz, 0, none⟩ p1).setCell ⟨rz, 1, none⟩ p2).setCell ⟨rz, 2, none⟩ p3) B rb vc vh g C cs hs ∧ Below w.heap.size w (((W.setCell ⟨rz, 0, none⟩ p1).setCell ⟨rz, 1, none⟩ p2).setCell ⟨rz, 2, none⟩ p3) := by
  have h1 : (W.setCell ⟨rz, 0, none⟩ p1).heap[rz]? = some (.cells #[p1, .slice none 0 0, .int .i64 0] 64 (0, 0)) := by rw [heap_setCell_same W rz 0 _ _ _ X.zero]; rfl
  have h2 : ((W.setCell ⟨rz, 0, none⟩ p1).setCell ⟨rz, 1, none⟩ p2).heap[rz]? = some (.cells #[p1, p2, .int .i64 0] 64 (0, 0)) := by rw [heap_setCell_same _ rz 1 _ _ _ h1]; rfl
  have ho : Only (fun j => j = rz) W (((W.setCell ⟨rz, 0, none⟩ p1).setCell ⟨rz, 1, none⟩ p2).setCell ⟨rz, 2, none⟩ p3) :=
    (((Only.refl (fun j => j = rz) W).setCell (p := ⟨rz, 0, none⟩) rfl _).setCell (p := ⟨rz, 1, none⟩) rfl _).setCell (p := ⟨rz, 2, none⟩) rfl _
  refine ⟨by rw [heap_setCell_same _ rz 2 _ _ _ h2]; rfl, R.keep ho (fun e => X.ne e.symm) (fun j hj e => own_apart R.row X.zero (by decide) (by rw [hj, e])) (fun j hj e => own_apart R.heads X.zero (by decide) (by rw [hj, e])) (fun c hc j hj e => ?_), X.of.trans (ho.below X.of.size fun k hk => by rw [hk, ← X.hB]; exact hz)⟩
  obtain ⟨d, _, _, o, _⟩ := R.pos hc
  exact own_apart o X.zero (by decide) (by rw [hj, e])
end Go.Proofs.Ythfkmfepeafgjaa
