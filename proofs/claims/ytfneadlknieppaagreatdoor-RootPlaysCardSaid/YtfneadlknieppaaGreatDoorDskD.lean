/- Files by name as a list in ascending order: plain mathematics. No condition. · How a disk lies in memory: its struct, the map of its files, what is pending. No condition. -/
import Derived.Test.YtfneadlknieppaaGreatDoorOctKit
import Derived.Maps.OwnSet
import Derived.Lib.BufferMore
namespace Go.Proofs.YtfneadlknieppaaGreatDoor
open Go.RowKit
open Go.Maps

abbrev Key := List UInt8

theorem bb_irrefl : ∀ a : Key, bytesBefore a a = false
  | [] => rfl
  | x :: a => by simp [bytesBefore, bb_irrefl a, UInt8.lt_irrefl]
theorem bb_trans : ∀ a b c : Key, bytesBefore a b = true → bytesBefore b c = true → bytesBefore a c = true
  | [], [], _, h, _ => by simp [bytesBefore] at h
  | [], _ :: _, [], _, h => by simp [bytesBefore] at h
  | [], _ :: _, _ :: _, _, _ => rfl
  | _ :: _, [], _, h, _ => by simp [bytesBefore] at h
  | _ :: _, _ :: _, [], _, h => by simp [bytesBefore] at h
  | x :: a, y :: b, z :: c, h1, h2 => by
    simp only [bytesBefore, Bool.or_eq_true, Bool.and_eq_true, decide_eq_true_eq, beq_iff_eq] at h1 h2 ⊢
    rcases h1 with h1 | ⟨rfl, h1⟩
    · rcases h2 with h2 | ⟨rfl, h2⟩
      · exact .inl (UInt8.lt_trans h1 h2)
      · exact .inl h1
    · rcases h2 with h2 | ⟨rfl, h2⟩
      · exact .inl h2
      · exact .inr ⟨rfl, bb_trans a b c h1 h2⟩
theorem bb_total : ∀ a b : Key, bytesBefore a b = true ∨ a = b ∨ bytesBefore b a = true
  | [], [] => .inr (.inl rfl)
  | [], _ :: _ => .inl rfl
  | _ :: _, [] => .inr (.inr rfl)
  | x :: a, y :: b => by
    simp only [bytesBefore, Bool.or_eq_true, Bool.and_eq_true, decide_eq_true_eq, beq_iff_eq]
    by_cases h1 : x < y
    · exact .inl (.inl h1)
    by_cases h2 : y < x
    · exact .inr (.inr (.inl h2))
    obtain rfl : x = y := UInt8.le_antisymm (UInt8.not_lt.1 h2) (UInt8.not_lt.1 h1)
    rcases bb_total a b with h | rfl | h
    · exact .inl (.inr ⟨rfl, h⟩)
    · exact .inr (.inl rfl)
    · exact .inr (.inr (.inr ⟨rfl, h⟩))

section
variable {α β : Type}
/-- A file laid in its place. -/
def ains (x : Key × α) : List (Key × α) → List (Key × α)
  | [] => [x]
  | y :: r => if bytesBefore x.1 y.1 then x :: y :: r else y :: ains x r
def adel (n : Key) (l : List (Key × α)) : List (Key × α) := l.filter fun p => !(p.1 == n)
def aput (n : Key) (a : α) (l : List (Key × α)) : List (Key × α) := ains (n, a) (adel n l)
def aget (n : Key) (l : List (Key × α)) : Option α := (l.find? fun p => p.1 == n).map (·.2)

theorem fpos {m : Key} {y : Key × α} {l : List (Key × α)} (h : (y.1 == m) = true) : (y :: l).find? (fun p => p.1 == m) = some y := List.find?_cons_of_pos (p := fun p : Key × α => p.1 == m) h
theorem fneg {m : Key} {y : Key × α} {l : List (Key × α)} (h : ¬ (y.1 == m) = true) : (y :: l).find? (fun p => p.1 == m) = l.find? (fun p => p.1 == m) := List.find?_cons_of_neg (p := fun p : Key × α => p.1 == m) h
theorem gpos {m : Key} {y : Key × α} {l : List (Key × α)} (h : y.1 = m) : aget m (y :: l) = some y.2 := by unfold aget; rw [fpos (by simpa using h)]; rfl
theorem gneg {m : Key} {y : Key × α} {l : List (Key × α)} (h : ¬ y.1 = m) : aget m (y :: l) = aget m l := by unfold aget; rw [fneg (by simpa using h)]
def AAsc (l : List (Key × α)) : Prop := l.Pairwise fun p q => bytesBefore p.1 q.1 = true
theorem AAsc.nil : AAsc ([] : List (Key × α)) := List.Pairwise.nil
theorem AAsc.del {l : List (Key × α)} (h : AAsc l) (n : Key) : AAsc (adel n l) := h.sublist List.filter_sublist
theorem ains_mem (x : Key × α) : ∀ (l : List (Key × α)) (y : Key × α), y ∈ ains x l ↔ y = x ∨ y ∈ l
  | [], y => by simp [ains]
  | z :: l, y => by
    rw [ains]
    split
    · simp
    · simp only [List.mem_cons, ains_mem x l y]
      constructor
      · rintro (h | h | h) <;> simp [h]
      · rintro (h | h | h) <;> simp [h]
theorem adel_mem (n : Key) (l : List (Key × α)) (y : Key × α) : y ∈ adel n l ↔ y ∈ l ∧ y.1 ≠ n := by
  simp [adel, List.mem_filter]
theorem AAsc.ins {x : Key × α} : ∀ {l : List (Key × α)}, AAsc l → (∀ y ∈ l, y.1 ≠ x.1) → AAsc (ains x l)
  | [], _, _ => List.pairwise_singleton _ _
  | y :: l, h, hx => by
    obtain ⟨h1, h2⟩ := List.pairwise_cons.1 h
    rw [ains]
    split
    · rename_i hb
      refine List.pairwise_cons.2 ⟨fun z hz => ?_, h⟩
      rcases List.mem_cons.1 hz with rfl | hz
      · exact hb
      · exact bb_trans _ _ _ hb (h1 z hz)
    · rename_i hb
      refine List.pairwise_cons.2 ⟨fun z hz => ?_, AAsc.ins h2 (fun z hz => hx z (List.mem_cons_of_mem _ hz))⟩
      rcases (ains_mem _ _ _).1 hz with rfl | hz
      · rcases bb_total y.1 z.1 with h3 | h3 | h3
        · exact h3
        · exact absurd h3 (hx y List.mem_cons_self)
        · exact absurd h3 hb
      · exact h1 z hz
theorem AAsc.put {l : List (Key × α)} (h : AAsc l) (n : Key) (a : α) : AAsc (aput n a l) :=
  (h.del n).ins fun y hy => ((adel_mem n l y).1 hy).2

theorem aget_ins_same (n : Key) (a : α) : ∀ l : List (Key × α), (∀ y ∈ l, y.1 ≠ n) → aget n (ains (n, a) l) = some a
  | [], _ => by simp [ains, aget]
  | y :: l, h => by
    have h1 : y.1 ≠ n := h y List.mem_cons_self
    have ih := aget_ins_same n a l (fun z hz => h z (List.mem_cons_of_mem _ hz))
    rw [ains]
    split
    · simp [aget]
    · rw [gneg h1]; exact ih
theorem aget_ins_other (n m : Key) (a : α) (hne : m ≠ n) : ∀ l : List (Key × α), aget m (ains (n, a) l) = aget m l
  | [] => by simp [ains, aget, Ne.symm hne]
  | y :: l => by
    have ih := aget_ins_other n m a hne l
    rw [ains]
    split
    · simp [aget, Ne.symm hne]
    · by_cases h : y.1 = m
      · rw [gpos h, gpos h]
      · rw [gneg h, gneg h]; exact ih
theorem aget_del_same (n : Key) (l : List (Key × α)) : aget n (adel n l) = none := by
  unfold aget
  rw [List.find?_eq_none.2 (fun y hy => by simpa using ((adel_mem n l y).1 hy).2)]
  rfl
theorem aget_del_other (n m : Key) (hne : m ≠ n) : ∀ l : List (Key × α), aget m (adel n l) = aget m l
  | [] => rfl
  | y :: l => by
    have ih := aget_del_other n m hne l
    unfold adel at ih ⊢
    by_cases h : y.1 = n
    · rw [List.filter_cons_of_neg (by simp [h]), gneg (by rw [h]; exact Ne.symm hne)]
      exact ih
    · rw [List.filter_cons_of_pos (by simpa using h)]
      by_cases h2 : y.1 = m
      · rw [gpos h2, gpos h2]
      · rw [gneg h2, gneg h2]; exact ih
theorem aget_put_same (n : Key) (a : α) (l : List (Key × α)) : aget n (aput n a l) = some a := aget_ins_same n a _ fun y hy => ((adel_mem n l y).1 hy).2
theorem aget_put_other (n m : Key) (a : α) (hne : m ≠ n) (l : List (Key × α)) : aget m (aput n a l) = aget m l := by
  rw [aput, aget_ins_other n m a hne, aget_del_other n m hne]
theorem aget_nil (n : Key) : aget n ([] : List (Key × α)) = none := rfl
theorem aget_mem {n : Key} {a : α} {l : List (Key × α)} (h : aget n l = some a) : (n, a) ∈ l := by
  unfold aget at h
  obtain ⟨p, hp, rfl⟩ := Option.map_eq_some_iff.1 h
  have h1 := List.mem_of_find?_eq_some hp
  have h2 := List.find?_some hp
  simp only [beq_iff_eq] at h2
  rw [← h2]; exact h1
theorem aget_of_mem {n : Key} {a : α} : ∀ {l : List (Key × α)}, AAsc l → (n, a) ∈ l → aget n l = some a
  | [], _, h => by cases h
  | y :: l, hs, h => by
    obtain ⟨h1, h2⟩ := List.pairwise_cons.1 hs
    rcases List.mem_cons.1 h with rfl | h
    · simp [aget]
    · have h3 := h1 _ h
      have h4 : y.1 ≠ n := fun e => by rw [e] at h3; rw [bb_irrefl] at h3; cases h3
      rw [gneg h4]; exact aget_of_mem h2 h

theorem asc_head_min {y z : Key × α} {l : List (Key × α)} (h : AAsc (y :: l)) (hz : z ∈ l) : bytesBefore y.1 z.1 = true := (List.pairwise_cons.1 h).1 z hz
/-- Two lists in ascending order that answer alike are one. -/
theorem aext : ∀ {l m : List (Key × α)}, AAsc l → AAsc m → (∀ n, aget n l = aget n m) → l = m
  | [], [], _, _, _ => rfl
  | [], y :: m, _, _, h => by have := h y.1; simp [aget] at this
  | y :: l, [], _, _, h => by have := h y.1; simp [aget] at this
  | y :: l, z :: m, hl, hm, h => by
    have e : y = z := by
      have h1 := h y.1
      have h2 := h z.1
      have hy : aget y.1 (y :: l) = some y.2 := by simp [aget]
      have hz : aget z.1 (z :: m) = some z.2 := by simp [aget]
      rw [hy] at h1
      rw [hz] at h2
      have m1 := aget_mem h1.symm
      have m2 := aget_mem h2
      rcases List.mem_cons.1 m1 with e1 | m1
      · rw [← e1]
      · rcases List.mem_cons.1 m2 with e2 | m2
        · rw [← e2]
        · have b1 := asc_head_min hm m1
          have b2 := asc_head_min hl m2
          have b3 := bb_trans _ _ _ b1 b2
          rw [bb_irrefl] at b3
          cases b3
    subst e
    obtain ⟨l1, l2⟩ := List.pairwise_cons.1 hl
    obtain ⟨m1, m2⟩ := List.pairwise_cons.1 hm
    refine congrArg _ (aext l2 m2 fun n => ?_)
    have h0 := h n
    by_cases hn : y.1 = n
    · have a1 : aget n l = none := by
        cases hg : aget n l with
        | none => rfl
        | some a => have := l1 _ (aget_mem hg); rw [hn, bb_irrefl] at this; cases this
      have a2 : aget n m = none := by
        cases hg : aget n m with
        | none => rfl
        | some a => have := m1 _ (aget_mem hg); rw [hn, bb_irrefl] at this; cases this
      rw [a1, a2]
    · rwa [gneg hn, gneg hn] at h0

/-- What all files come to. -/
def asum (f : α → Nat) (l : List (Key × α)) : Nat := (l.map fun p => f p.2).sum
theorem asum_ins (f : α → Nat) (x : Key × α) : ∀ l, asum f (ains x l) = f x.2 + asum f l
  | [] => by simp [ains, asum]
  | y :: l => by
    have ih := asum_ins f x l
    rw [ains]
    split
    · simp [asum]
    · simp only [asum, List.map_cons, List.sum_cons] at ih ⊢; omega
def olen (f : α → Nat) : Option α → Nat
  | none => 0
  | some a => f a
theorem adel_none {n : Key} : ∀ {l : List (Key × α)}, aget n l = none → adel n l = l
  | [], _ => rfl
  | y :: l, h => by
    by_cases hy : y.1 = n
    · rw [gpos hy] at h; cases h
    · rw [gneg hy] at h
      have ih := adel_none (l := l) h
      unfold adel at ih ⊢
      rw [List.filter_cons_of_pos (by simpa using hy), ih]
theorem asum_del (f : α → Nat) (n : Key) : ∀ {l : List (Key × α)}, AAsc l → asum f (adel n l) + olen f (aget n l) = asum f l
  | [], _ => rfl
  | y :: l, h => by
    obtain ⟨h1, h2⟩ := List.pairwise_cons.1 h
    have ih := asum_del f n h2
    by_cases hy : y.1 = n
    · have a1 : aget n l = none := by
        cases hg : aget n l with
        | none => rfl
        | some a => have := h1 _ (aget_mem hg); rw [hy, bb_irrefl] at this; cases this
      have a2 : adel n (y :: l) = l := by
        have := adel_none a1
        unfold adel at this ⊢
        rw [List.filter_cons_of_neg (by simp [hy]), this]
      have a3 : aget n (y :: l) = some y.2 := gpos hy
      rw [a2, a3]
      simp only [olen, asum, List.map_cons, List.sum_cons]; omega
    · have a2 : adel n (y :: l) = y :: adel n l := by unfold adel; rw [List.filter_cons_of_pos (by simpa using hy)]
      have a3 : aget n (y :: l) = aget n l := gneg hy
      rw [a2, a3]
      simp only [asum, List.map_cons, List.sum_cons] at ih ⊢; omega
theorem asum_put (f : α → Nat) (n : Key) (a : α) {l : List (Key × α)} (h : AAsc l) : asum f (aput n a l) + olen f (aget n l) = f a + asum f l := by
  rw [aput, asum_ins]
  have := asum_del f n h
  simp only; omega

/-- Files of which less is told. -/
def amap (g : α → β) (l : List (Key × α)) : List (Key × β) := l.map fun p => (p.1, g p.2)
theorem amap_ins (g : α → β) (x : Key × α) : ∀ l, amap g (ains x l) = ains (x.1, g x.2) (amap g l)
  | [] => rfl
  | y :: l => by
    have ih := amap_ins g x l
    simp only [ains, amap, List.map_cons] at ih ⊢
    split <;> simp [ih]
theorem amap_del (g : α → β) (n : Key) (l : List (Key × α)) : amap g (adel n l) = adel n (amap g l) := by
  unfold amap adel
  rw [List.filter_map]
  rfl
theorem amap_put (g : α → β) (n : Key) (a : α) (l : List (Key × α)) : amap g (aput n a l) = aput n (g a) (amap g l) := by
  rw [aput, amap_ins, amap_del]; rfl
theorem amap_get (g : α → β) (n : Key) : ∀ l : List (Key × α), aget n (amap g l) = (aget n l).map g
  | [] => rfl
  | y :: l => by
    have ih := amap_get g n l
    unfold amap at ih ⊢
    rw [List.map_cons]
    by_cases hy : y.1 = n
    · rw [gpos hy, gpos (by exact hy)]; rfl
    · rw [gneg hy, gneg (by exact hy)]; exact ih
theorem amap_asc (g : α → β) {l : List (Key × α)} (h : AAsc l) : AAsc (amap g l) := List.pairwise_map.2 h
theorem asum_amap (f : β → Nat) (g : α → β) (l : List (Key × α)) : asum f (amap g l) = asum (fun a => f (g a)) l := by
  simp [asum, amap, Function.comp_def]
end

/-- A file in memory: the slice that holds it, and its bytes. -/
abbrev Ent := Value × List Int
/-- What the map of the files reads as. -/
def mapOf (L : List (Key × Ent)) : DataW Value := .map (L.map fun e => (.string e.1, .held e.2.1))
/-- A map's element read as what it is. -/
def rdv (v : Value) : Option (DataW Value × List MemPlace) := some (.held v, [])
theorem same_str (a b : Key) : (Lit.string a).sameKey (.string b) = (a == b) := rfl
theorem mapOf_ins (n : Key) (x : Ent) : ∀ L : List (Key × Ent), DataW.insert (Lit.string n, DataW.held x.1) (L.map fun e => (Lit.string e.1, DataW.held e.2.1)) = (ains (n, x) L).map fun e => (Lit.string e.1, DataW.held e.2.1)
  | [] => rfl
  | y :: L => by
    have ih := mapOf_ins n x L
    simp only [ains, List.map_cons, DataW.insert, Lit.before] at ih ⊢
    by_cases hb : bytesBefore n y.1 = true
    · simp [hb]
    · simp [hb, ih]
theorem mapOf_del (n : Key) (L : List (Key × Ent)) : (mapOf L).del (.string n) = mapOf (adel n L) := by
  unfold mapOf DataW.del adel
  simp only [List.filter_map]
  rfl
theorem mapOf_put (n : Key) (v : Value) (xs : List Int) (L : List (Key × Ent)) : (mapOf L).put (.string n) (.held v) = mapOf (aput n (v, xs) L) := by
  have h := mapOf_del n L
  unfold mapOf DataW.del at h
  unfold mapOf DataW.put
  simp only [DataW.map.injEq] at h ⊢
  rw [h]
  exact mapOf_ins n (v, xs) _
theorem mapOf_find (n : Key) : ∀ L : List (Key × Ent), ((L.map fun e => (Lit.string e.1, (DataW.held e.2.1 : DataW Value))).find? fun p => p.1.sameKey (.string n)) = (aget n L).map fun x => (Lit.string n, DataW.held x.1)
  | [] => rfl
  | y :: L => by
    have ih := mapOf_find n L
    rw [List.map_cons]
    by_cases hy : (y.1 == n) = true
    · rw [List.find?_cons_of_pos (p := fun p : Lit × DataW Value => p.1.sameKey (.string n)) (by exact hy)]
      simp only [beq_iff_eq] at hy
      rw [gpos hy, hy]; rfl
    · rw [List.find?_cons_of_neg (p := fun p : Lit × DataW Value => p.1.sameKey (.string n)) (by exact hy), ih, gneg (by simpa using hy)]
theorem mapOf_at (n : Key) (z : Value) (L : List (Key × Ent)) : (mapOf L).atKey (.string n) (.held z) = .held (match aget n L with | some x => x.1 | none => z) := by
  unfold mapOf DataW.atKey
  simp only [mapOf_find]
  cases aget n L <;> rfl
theorem mapOf_has (n : Key) (L : List (Key × Ent)) : Maps.has (mapOf L) (.string n) = (aget n L).isSome := by
  unfold mapOf Maps.has
  simp only
  rw [← List.isSome_find?]
  rw [mapOf_find]
  cases aget n L <;> rfl
end Go.Proofs.YtfneadlknieppaaGreatDoor
namespace Go.Proofs.YtfneadlknieppaaGreatDoor
open Go.RowKit
open Go.Maps

/-- An error of the project, by its number. -/
abbrev eno (k : Int) : Value := .iface 38 (.int .i64 k)
/-- An error's value; 0: none. -/
def enoOf (k : Int) : Value := if k = 0 then .nilIface else eno k
abbrev stv (n : Key) : Value := .string ⟨n.toArray⟩

/-- What the struct's cells hold. -/
structure Cst where
  room : Int
  mb : Nat
  used : Int
  pv : Value
  fuse : Int
  dead : Bool
  works : Int
def DAt (w : World) (b : Nat) (c : Cst) : Prop :=
  w.heap[b]? = some (.cells #[.int .i64 c.room, .map (some c.mb), .int .i64 c.used, c.pv, .int .i64 c.fuse, .bool c.dead, .int .i64 c.works] 71 (0, 0))
section
variable {w w' : World} {b : Nat} {c : Cst}
theorem DAt.lt (h : DAt w b c) : b < w.heap.size := lt_of_block h
theorem DAt.c0 (h : DAt w b c) : w.cell? ⟨b, 0, none⟩ = some (.int .i64 c.room) := by rw [cell_of_row w b 0 _ _ _ h]; rfl
theorem DAt.c1 (h : DAt w b c) : w.cell? ⟨b, 1, none⟩ = some (.map (some c.mb)) := by rw [cell_of_row w b 1 _ _ _ h]; rfl
theorem DAt.c2 (h : DAt w b c) : w.cell? ⟨b, 2, none⟩ = some (.int .i64 c.used) := by rw [cell_of_row w b 2 _ _ _ h]; rfl
theorem DAt.c3 (h : DAt w b c) : w.cell? ⟨b, 3, none⟩ = some c.pv := by rw [cell_of_row w b 3 _ _ _ h]; rfl
theorem DAt.c4 (h : DAt w b c) : w.cell? ⟨b, 4, none⟩ = some (.int .i64 c.fuse) := by rw [cell_of_row w b 4 _ _ _ h]; rfl
theorem DAt.c5 (h : DAt w b c) : w.cell? ⟨b, 5, none⟩ = some (.bool c.dead) := by rw [cell_of_row w b 5 _ _ _ h]; rfl
theorem DAt.c6 (h : DAt w b c) : w.cell? ⟨b, 6, none⟩ = some (.int .i64 c.works) := by rw [cell_of_row w b 6 _ _ _ h]; rfl
theorem DAt.fz (h : DAt w b c) (i : Nat) : w.frozen? ⟨b, i, none⟩ = false := by
  have h' : w.heap[b]? = some _ := h
  simp [World.frozen?, h']
theorem DAt.set2 (h : DAt w b c) (u : Int) : DAt (w.setCell ⟨b, 2, none⟩ (.int .i64 u)) b { c with used := u } := Lib.heap_setCell_same h _
theorem DAt.set3 (h : DAt w b c) (v : Value) : DAt (w.setCell ⟨b, 3, none⟩ v) b { c with pv := v } := Lib.heap_setCell_same h _
theorem DAt.set4 (h : DAt w b c) (u : Int) : DAt (w.setCell ⟨b, 4, none⟩ (.int .i64 u)) b { c with fuse := u } := Lib.heap_setCell_same h _
theorem DAt.set5 (h : DAt w b c) (u : Bool) : DAt (w.setCell ⟨b, 5, none⟩ (.bool u)) b { c with dead := u } := Lib.heap_setCell_same h _
theorem DAt.set6 (h : DAt w b c) (u : Int) : DAt (w.setCell ⟨b, 6, none⟩ (.int .i64 u)) b { c with works := u } := Lib.heap_setCell_same h _
theorem DAt.kept {S : Nat → Prop} (h : DAt w b c) (ho : Only S w w') (hb : ¬ S b) : DAt w' b c := (ho.block b h.lt hb).trans h
theorem DAt.kb (h : DAt w b c) (hb : Below w.heap.size w w') : DAt w' b c := h.kept (S := fun _ => False) (Only.of_below hb) (fun h => h)
theorem Only.one {a : World} {S : Nat → Prop} (h : Only S a w) {b i : Nat} (hb : S b) (v : Value) : Only S a (w.setCell ⟨b, i, none⟩ v) := h.setCell (p := ⟨b, i, none⟩) hb v
end

/-- The keys' law and the elements' zero. -/
theorem skeyed : Keyed Tryz.prog 9 := string_keyed Tryz.underlying9
theorem szero (w : World) : (zeroValue 37).run Tryz.prog w = .ok (.slice none 0 0) w := by kernel_rfl
theorem rdv_nil : rdv (.slice none 0 0) = some (.held (.slice none 0 0), []) := rfl
theorem skey (n : Key) (h : n.length ≤ maxLen) : keyOf Tryz.prog 9 (stv n) = some (.string n) := by
  have h1 := WideMaps.keyOf_string_mk (s := ⟨n.toArray⟩) Tryz.underlying9 (by exact h)
  simpa using h1

/-- Block mb is the map of the files L. -/
def MAt (w : World) (mb : Nat) (L : List (Key × Ent)) : Prop := w.ownsMap Tryz.prog 9 rdv mb L.length (mapOf L)
theorem fold_len : ∀ l : List (Lit × DataW Value), (l.foldr DataW.insert []).length = l.length := length_sorted
theorem MAt.of {w : World} {mb n : Nat} {L : List (Key × Ent)} (h : w.ownsMap Tryz.prog 9 rdv mb n (mapOf L)) : MAt w mb L := by
  obtain ⟨es, clock, h1, h2, _, h4⟩ := h
  refine ⟨es, clock, h1, h2, ?_, h4⟩
  have h5 : (mapOf L) = _ := h4
  unfold mapOf at h5
  have h6 := congrArg List.length (DataW.map.inj h5)
  rw [length_sorted] at h6
  simp at h6
  omega
section
variable {w w' : World} {mb : Nat} {L : List (Key × Ent)}
theorem MAt.lt (h : MAt w mb L) : mb < w.heap.size := World.ownsMap.lt h
theorem MAt.kept {S : Nat → Prop} (h : MAt w mb L) (ho : Only S w w') (hb : ¬ S mb) : MAt w' mb L := by
  obtain ⟨es, clock, h1, h2⟩ := h
  exact ⟨es, clock, (ho.block mb (Array.getElem?_eq_some_iff.1 h1).1 hb).trans h1, h2⟩
theorem MAt.kb (h : MAt w mb L) (hb : Below w.heap.size w w') : MAt w' mb L := h.kept (S := fun _ => False) (Only.of_below hb) (fun h => h)
/-- Which slice a name has; nil where there is none. -/
def valAt (n : Key) (L : List (Key × Ent)) : Value := match aget n L with | some x => x.1 | none => .slice none 0 0
def bytesAt (n : Key) (L : List (Key × Ent)) : List Int := match aget n L with | some x => x.2 | none => []
theorem MAt.look (h : MAt w mb L) (n : Key) (hn : n.length ≤ maxLen) : (Instr.lookup 68 (.map (some mb)) (stv n) false).run Tryz.prog w = .ok (valAt n L) w := by
  obtain ⟨v, ps, hrun, hv⟩ := World.ownsMap.lookup h skeyed Tryz.underlying68 (szero w) rdv_nil (skey n hn)
  rw [mapOf_at] at hv
  have e := congrArg Prod.fst (Option.some.inj hv)
  simp only [DataW.held.injEq] at e
  rw [hrun, e]; rfl
theorem MAt.lookOk (h : MAt w mb L) (n : Key) (hn : n.length ≤ maxLen) : (Instr.lookup 68 (.map (some mb)) (stv n) true).run Tryz.prog w = .ok (.tuple #[valAt n L, .bool (aget n L).isSome]) w := by
  obtain ⟨v, ps, hrun, hv⟩ := World.ownsMap.look_ok h skeyed Tryz.underlying68 (szero w) rdv_nil (skey n hn)
  rw [mapOf_at] at hv
  rw [mapOf_has] at hrun
  have e := congrArg Prod.fst (Option.some.inj hv)
  simp only [DataW.held.injEq] at e
  rw [hrun, e]; rfl
theorem MAt.store (h : MAt w mb L) (n : Key) (hn : n.length ≤ maxLen) (hl : L.length < maxLen) (v : Value) (xs : List Int) :
    ∃ w', (Instr.mapUpdate 68 (.map (some mb)) (stv n) v).run Tryz.prog w = .ok () w' ∧ MAt w' mb (aput n (v, xs) L) ∧ Only (fun k => k = mb) w w' := by
  obtain ⟨w', hrun, h1, h2⟩ := World.ownsMap.update h skeyed Tryz.underlying68 hl (skey n hn) (R := rdv) (val := v) rfl
  rw [mapOf_put n v xs] at h1
  exact ⟨w', hrun, MAt.of h1, (Only.refl _ w).grown h2 (fun k _ e => by cases e; rfl)⟩
theorem MAt.drop (h : MAt w mb L) (n : Key) (hn : n.length ≤ maxLen) (ty : TypeId) :
    ∃ w', (Builtin.delete_ #[68, 9] ty #[.map (some mb), stv n]).run Tryz.prog w = .ok (.tuple #[]) w' ∧ MAt w' mb (adel n L) ∧ Only (fun k => k = mb) w w' := by
  obtain ⟨w', hrun, h1, h2⟩ := World.ownsMap.drop h skeyed Tryz.underlying68 (skey n hn) ty
  rw [mapOf_del] at h1
  exact ⟨w', hrun, MAt.of h1, (Only.refl _ w).grown h2.grown (fun k _ e => by cases e; rfl)⟩
end

/-- A pending change. -/
structure Chg where
  kind : Int
  name : Key
  to : Key
  size : Nat
  was : Bool
  lost : Value
  xs : List Int
def Chg.row (c : Chg) : List Value := [.int .i64 c.kind, stv c.name, stv c.to, .int .i64 c.size, .bool c.was, c.lost]
def crows (P : List Chg) : List Value := P.flatMap Chg.row
theorem crows_length : ∀ P, (crows P).length = P.length * 6
  | [] => rfl
  | c :: P => by
    have := crows_length P
    unfold crows at this ⊢
    rw [List.flatMap_cons, List.length_append, this]; simp [Chg.row]; omega
/-- pv is the slice of the pending changes P. -/
abbrev PAt (w : World) (B : Nat) (pv : Value) (P : List Chg) : Prop := w.ownsRow B 74 6 pv P.length (crows P)
theorem own_kept {w w' : World} {B e size n : Nat} {v : Value} {xs : List Value} {S : Nat → Prop} (h : w.ownsRow B e size v n xs) (ho : Only S w w') (hS : ∀ k, v.ownBlock = some k → ¬ S k) : w'.ownsRow B e size v n xs := by
  refine ⟨h.1, ?_⟩
  rcases h.2 with h1 | ⟨g, cap, cur, rfl, h2, hg, h3⟩
  · exact .inl h1
  · exact .inr ⟨g, cap, cur, rfl, h2, (ho.block g (Array.getElem?_eq_some_iff.1 hg).1 (hS g rfl)).trans hg, h3⟩
theorem own_slice {w : World} {B e size n : Nat} {v : Value} {xs : List Value} (h : w.ownsRow B e size v n xs) : ∃ p cap, v = .slice p n cap := by
  rcases h.2 with ⟨rfl, rfl⟩ | ⟨g, cap, cur, rfl, _⟩
  · exact ⟨none, 0, rfl⟩
  · exact ⟨_, _, rfl⟩
theorem own_type {w : World} {B e size n : Nat} {v : Value} {xs : List Value} (h : w.ownsRow B e size v n xs) {k : Nat} (hk : v.ownBlock = some k) : ∃ cs, w.heap[k]? = some (.cells cs e (0, 0)) := by
  rcases h.2 with ⟨rfl, _⟩ | ⟨g, cap, cur, rfl, h2, hg, h3⟩
  · simp [Value.ownBlock] at hk
  · simp [Value.ownBlock] at hk; subst hk; exact ⟨_, hg⟩
/-- A slice of bytes that the call owns. -/
abbrev BOwn (w : World) (B : Nat) (v : Value) (xs : List Int) : Prop := w.ownsRow B 5 1 v xs.length (us xs)
/-- Every file and every lost piece owns its bytes. -/
structure Own (w : World) (B : Nat) (L : List (Key × Ent)) (P : List Chg) : Prop where
  file : ∀ e ∈ L, BOwn w B e.2.1 e.2.2
  lost : ∀ c ∈ P, BOwn w B c.lost c.xs
/-- Whether v lies in block k. -/
def own1 (k : Nat) (v : Value) : Nat := if v.ownBlock = some k then 1 else 0
def cntL (k : Nat) (L : List (Key × Ent)) : Nat := asum (fun x => own1 k x.1) L
def cntP (k : Nat) (P : List Chg) : Nat := (P.map fun c => own1 k c.lost).sum
/-- No two of them lie in one block. -/
def Sep (L : List (Key × Ent)) (P : List Chg) : Prop := ∀ k, cntL k L + cntP k P ≤ 1
theorem own1_nil (k : Nat) : own1 k (.slice none 0 0) = 0 := by simp [own1, Value.ownBlock]
theorem own1_self {k : Nat} {v : Value} (h : v.ownBlock = some k) : own1 k v = 1 := by simp [own1, h]
theorem own1_le (k : Nat) (v : Value) : own1 k v ≤ 1 := by unfold own1; split <;> omega
theorem olen_val (k : Nat) (n : Key) (L : List (Key × Ent)) : olen (fun x : Ent => own1 k x.1) (aget n L) = own1 k (valAt n L) := by
  unfold valAt; cases aget n L with
  | none => rw [olen, own1_nil]
  | some x => rfl
theorem cntL_del (k : Nat) (n : Key) {L : List (Key × Ent)} (h : AAsc L) : cntL k (adel n L) + own1 k (valAt n L) = cntL k L := by rw [← olen_val]; exact asum_del _ n h
theorem cntL_put (k : Nat) (n : Key) (x : Ent) {L : List (Key × Ent)} (h : AAsc L) : cntL k (aput n x L) + own1 k (valAt n L) = own1 k x.1 + cntL k L := by rw [← olen_val]; exact asum_put _ n x h
theorem asum_pos {α : Type} {f : α → Nat} {l : List (Key × α)} {e : Key × α} (h : e ∈ l) : f e.2 ≤ asum f l := by
  induction l with
  | nil => cases h
  | cons y l ih =>
    simp only [asum, List.map_cons, List.sum_cons] at ih ⊢
    rcases List.mem_cons.1 h with rfl | h
    · omega
    · have := ih h; omega
theorem cntL_mem {k : Nat} {L : List (Key × Ent)} {e : Key × Ent} (h : e ∈ L) : own1 k e.2.1 ≤ cntL k L := asum_pos (f := fun x : Ent => own1 k x.1) h
theorem cntP_mem {k : Nat} {P : List Chg} {c : Chg} (h : c ∈ P) : own1 k c.lost ≤ cntP k P := by
  induction P with
  | nil => cases h
  | cons y l ih =>
    simp only [cntP, List.map_cons, List.sum_cons] at ih ⊢
    rcases List.mem_cons.1 h with rfl | h
    · omega
    · have := ih h; omega
theorem cntP_app (k : Nat) (P Q : List Chg) : cntP k (P ++ Q) = cntP k P + cntP k Q := by simp [cntP]
/-- What all files come to. -/
def tot (L : List (Key × Ent)) : Nat := asum (fun x => x.2.length) L
theorem olen_bytes (n : Key) (L : List (Key × Ent)) : olen (fun x : Ent => x.2.length) (aget n L) = (bytesAt n L).length := by
  unfold bytesAt; cases aget n L <;> rfl
theorem tot_del (n : Key) {L : List (Key × Ent)} (h : AAsc L) : tot (adel n L) + (bytesAt n L).length = tot L := by rw [← olen_bytes]; exact asum_del _ n h
theorem tot_put (n : Key) (x : Ent) {L : List (Key × Ent)} (h : AAsc L) : tot (aput n x L) + (bytesAt n L).length = x.2.length + tot L := by rw [← olen_bytes]; exact asum_put _ n x h
theorem tot_mem {L : List (Key × Ent)} {e : Key × Ent} (h : e ∈ L) : e.2.2.length ≤ tot L := asum_pos (f := fun x : Ent => x.2.length) h
theorem bytesAt_le (n : Key) (L : List (Key × Ent)) : (bytesAt n L).length ≤ tot L := by
  unfold bytesAt
  cases h : aget n L with
  | none => simp
  | some x => exact tot_mem (e := (n, x)) (aget_mem h)
/-- Each file's slice has its bytes' length. -/
def Shp (L : List (Key × Ent)) : Prop := ∀ e ∈ L, ∃ p cap, e.2.1 = .slice p e.2.2.length cap
theorem Own.shp {w : World} {B : Nat} {L : List (Key × Ent)} {P : List Chg} (h : Own w B L P) : Shp L := fun e he => own_slice (h.file e he)
theorem Shp.at {L : List (Key × Ent)} (h : Shp L) (n : Key) : ∃ p cap, valAt n L = .slice p (bytesAt n L).length cap := by
  unfold valAt bytesAt
  cases hg : aget n L with
  | none => exact ⟨none, 0, rfl⟩
  | some x => exact h _ (aget_mem hg)
theorem Shp.del {L : List (Key × Ent)} (h : Shp L) (n : Key) : Shp (adel n L) := fun e he => h e ((adel_mem n L e).1 he).1
theorem Shp.put {L : List (Key × Ent)} (h : Shp L) (n : Key) {v : Value} {xs : List Int} (hv : ∃ p cap, v = .slice p xs.length cap) : Shp (aput n (v, xs) L) := fun e he => by
  rcases (ains_mem _ _ _).1 he with rfl | he
  · exact hv
  · exact h.del n e he
theorem Own.at {w : World} {B : Nat} {L : List (Key × Ent)} {P : List Chg} (h : Own w B L P) (n : Key) : BOwn w B (valAt n L) (bytesAt n L) := by
  unfold valAt bytesAt
  cases hg : aget n L with
  | none => exact World.ownsRow_nil _ _ _ _
  | some x => exact h.file _ (aget_mem hg)
end Go.Proofs.YtfneadlknieppaaGreatDoor
