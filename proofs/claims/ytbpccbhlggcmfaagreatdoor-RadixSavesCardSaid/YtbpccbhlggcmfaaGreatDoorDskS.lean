/- Files by name as a list in ascending order: plain mathematics. No condition. · How a disk lies in memory: its struct, the map of its files, what is pending. No condition. · The small calls of the disk: modulo, begin, pass, Works, Dead, Used, Pending, Fuse. Conditions: the numbers are no greater than a program's may be. · strings.Clone: the same bytes. Condition: the string is within what a string may take up. · What put and drop do with a file. Conditions: the numbers are no greater than a program's may be. · What drop, restore and shorten do. Conditions: the numbers are no greater than a program's may be. · What pend does: one more pending change. Conditions: the numbers are no greater than a program's may be. -/
import Derived.Test.YtbpccbhlggcmfaaGreatDoorOctBits
import Derived.Maps.OwnSet
import Derived.Lib.BufferMore
import Derived.Shelf.Strconv.Clone
import Derived.BigQuiet
import Derived.Deep.RegionHeld3
import Derived.Deep.RegionLaw
import Derived.Test.YtbpccbhlggcmfaaGreatDoorGenOps
import Derived.Deep.AppendLies
namespace Go.Proofs.YtbpccbhlggcmfaaGreatDoor
open Go.RowKit
open Go.Maps

abbrev Key := List UInt8

theorem bb_irrefl : ∀ a : Key, bytesBefore a a = false
  | [] => rfl
  | x :: a => by simp [bytesBefore, bb_irrefl a, UInt8.lt_irrefl]
theorem bb_trans : ∀ a b c : Key, bytesBefore a b = true → bytesBefore b c = true → bytesBefore a c = true
  | [], [], _, h, _ => by simp [bytesBefore] at h
  | [], _ :: _, [], _, h => by simp [bytesBefore] at h
  | [], _ :: _, _ :: _, _, _ => rfl
  | _ :: _, [], _, h, _ => by simp [bytesBefore] at h
  | _ :: _, _ :: _, [], _, h => by simp [bytesBefore] at h
  | x :: a, y :: b, z :: c, h1, h2 => by
    simp only [bytesBefore, Bool.or_eq_true, Bool.and_eq_true, decide_eq_true_eq, beq_iff_eq] at h1 h2 ⊢
    rcases h1 with h1 | ⟨rfl, h1⟩
    · rcases h2 with h2 | ⟨rfl, h2⟩
      · exact .inl (UInt8.lt_trans h1 h2)
      · exact .inl h1
    · rcases h2 with h2 | ⟨rfl, h2⟩
      · exact .inl h2
      · exact .inr ⟨rfl, bb_trans a b c h1 h2⟩
theorem bb_total : ∀ a b : Key, bytesBefore a b = true ∨ a = b ∨ bytesBefore b a = true
  | [], [] => .inr (.inl rfl)
  | [], _ :: _ => .inl rfl
  | _ :: _, [] => .inr (.inr rfl)
  | x :: a, y :: b => by
    simp only [bytesBefore, Bool.or_eq_true, Bool.and_eq_true, decide_eq_true_eq, beq_iff_eq]
    by_cases h1 : x < y
    · exact .inl (.inl h1)
    by_cases h2 : y < x
    · exact .inr (.inr (.inl h2))
    obtain rfl : x = y := UInt8.le_antisymm (UInt8.not_lt.1 h2) (UInt8.not_lt.1 h1)
    rcases bb_total a b with h | rfl | h
    · exact .inl (.inr ⟨rfl, h⟩)
    · exact .inr (.inl rfl)
    · exact .inr (.inr (.inr ⟨rfl, h⟩))

section
variable {α β : Type}
/-- A file laid in its place. -/
def ains (x : Key × α) : List (Key × α) → List (Key × α)
  | [] => [x]
  | y :: r => if bytesBefore x.1 y.1 then x :: y :: r else y :: ains x r
def adel (n : Key) (l : List (Key × α)) : List (Key × α) := l.filter fun p => !(p.1 == n)
def aput (n : Key) (a : α) (l : List (Key × α)) : List (Key × α) := ains (n, a) (adel n l)
def aget (n : Key) (l : List (Key × α)) : Option α := (l.find? fun p => p.1 == n).map (·.2)

theorem fpos {m : Key} {y : Key × α} {l : List (Key × α)} (h : (y.1 == m) = true) : (y :: l).find? (fun p => p.1 == m) = some y := List.find?_cons_of_pos (p := fun p : Key × α => p.1 == m) h
theorem fneg {m : Key} {y : Key × α} {l : List (Key × α)} (h : ¬ (y.1 == m) = true) : (y :: l).find? (fun p => p.1 == m) = l.find? (fun p => p.1 == m) := List.find?_cons_of_neg (p := fun p : Key × α => p.1 == m) h
theorem gpos {m : Key} {y : Key × α} {l : List (Key × α)} (h : y.1 = m) : aget m (y :: l) = some y.2 := by unfold aget; rw [fpos (by simpa using h)]; rfl
theorem gneg {m : Key} {y : Key × α} {l : List (Key × α)} (h : ¬ y.1 = m) : aget m (y :: l) = aget m l := by unfold aget; rw [fneg (by simpa using h)]
def AAsc (l : List (Key × α)) : Prop := l.Pairwise fun p q => bytesBefore p.1 q.1 = true
theorem AAsc.nil : AAsc ([] : List (Key × α)) := List.Pairwise.nil
theorem AAsc.del {l : List (Key × α)} (h : AAsc l) (n : Key) : AAsc (adel n l) := h.sublist List.filter_sublist
theorem ains_mem (x : Key × α) : ∀ (l : List (Key × α)) (y : Key × α), y ∈ ains x l ↔ y = x ∨ y ∈ l
  | [], y => by simp [ains]
  | z :: l, y => by
    rw [ains]
    split
    · simp
    · simp only [List.mem_cons, ains_mem x l y]
      constructor
      · rintro (h | h | h) <;> simp [h]
      · rintro (h | h | h) <;> simp [h]
theorem adel_mem (n : Key) (l : List (Key × α)) (y : Key × α) : y ∈ adel n l ↔ y ∈ l ∧ y.1 ≠ n := by
  simp [adel, List.mem_filter]
theorem AAsc.ins {x : Key × α} : ∀ {l : List (Key × α)}, AAsc l → (∀ y ∈ l, y.1 ≠ x.1) → AAsc (ains x l)
  | [], _, _ => List.pairwise_singleton _ _
  | y :: l, h, hx => by
    obtain ⟨h1, h2⟩ := List.pairwise_cons.1 h
    rw [ains]
    split
    · rename_i hb
      refine List.pairwise_cons.2 ⟨fun z hz => ?_, h⟩
      rcases List.mem_cons.1 hz with rfl | hz
      · exact hb
      · exact bb_trans _ _ _ hb (h1 z hz)
    · rename_i hb
      refine List.pairwise_cons.2 ⟨fun z hz => ?_, AAsc.ins h2 (fun z hz => hx z (List.mem_cons_of_mem _ hz))⟩
      rcases (ains_mem _ _ _).1 hz with rfl | hz
      · rcases bb_total y.1 z.1 with h3 | h3 | h3
        · exact h3
        · exact absurd h3 (hx y List.mem_cons_self)
        · exact absurd h3 hb
      · exact h1 z hz
theorem AAsc.put {l : List (Key × α)} (h : AAsc l) (n : Key) (a : α) : AAsc (aput n a l) :=
  (h.del n).ins fun y hy => ((adel_mem n l y).1 hy).2

theorem aget_ins_same (n : Key) (a : α) : ∀ l : List (Key × α), (∀ y ∈ l, y.1 ≠ n) → aget n (ains (n, a) l) = some a
  | [], _ => by simp [ains, aget]
  | y :: l, h => by
    have h1 : y.1 ≠ n := h y List.mem_cons_self
    have ih := aget_ins_same n a l (fun z hz => h z (List.mem_cons_of_mem _ hz))
    rw [ains]
    split
    · simp [aget]
    · rw [gneg h1]; exact ih
theorem aget_ins_other (n m : Key) (a : α) (hne : m ≠ n) : ∀ l : List (Key × α), aget m (ains (n, a) l) = aget m l
  | [] => by simp [ains, aget, Ne.symm hne]
  | y :: l => by
    have ih := aget_ins_other n m a hne l
    rw [ains]
    split
    · simp [aget, Ne.symm hne]
    · by_cases h : y.1 = m
      · rw [gpos h, gpos h]
      · rw [gneg h, gneg h]; exact ih
theorem aget_del_same (n : Key) (l : List (Key × α)) : aget n (adel n l) = none := by
  unfold aget
  rw [List.find?_eq_none.2 (fun y hy => by simpa using ((adel_mem n l y).1 hy).2)]
  rfl
theorem aget_del_other (n m : Key) (hne : m ≠ n) : ∀ l : List (Key × α), aget m (adel n l) = aget m l
  | [] => rfl
  | y :: l => by
    have ih := aget_del_other n m hne l
    unfold adel at ih ⊢
    by_cases h : y.1 = n
    · rw [List.filter_cons_of_neg (by simp [h]), gneg (by rw [h]; exact Ne.symm hne)]
      exact ih
    · rw [List.filter_cons_of_pos (by simpa using h)]
      by_cases h2 : y.1 = m
      · rw [gpos h2, gpos h2]
      · rw [gneg h2, gneg h2]; exact ih
theorem aget_put_same (n : Key) (a : α) (l : List (Key × α)) : aget n (aput n a l) = some a := aget_ins_same n a _ fun y hy => ((adel_mem n l y).1 hy).2
theorem aget_put_other (n m : Key) (a : α) (hne : m ≠ n) (l : List (Key × α)) : aget m (aput n a l) = aget m l := by
  rw [aput, aget_ins_other n m a hne, aget_del_other n m hne]
theorem aget_nil (n : Key) : aget n ([] : List (Key × α)) = none := rfl
theorem aget_mem {n : Key} {a : α} {l : List (Key × α)} (h : aget n l = some a) : (n, a) ∈ l := by
  unfold aget at h
  obtain ⟨p, hp, rfl⟩ := Option.map_eq_some_iff.1 h
  have h1 := List.mem_of_find?_eq_some hp
  have h2 := List.find?_some hp
  simp only [beq_iff_eq] at h2
  rw [← h2]; exact h1
theorem aget_of_mem {n : Key} {a : α} : ∀ {l : List (Key × α)}, AAsc l → (n, a) ∈ l → aget n l = some a
  | [], _, h => by cases h
  | y :: l, hs, h => by
    obtain ⟨h1, h2⟩ := List.pairwise_cons.1 hs
    rcases List.mem_cons.1 h with rfl | h
    · simp [aget]
    · have h3 := h1 _ h
      have h4 : y.1 ≠ n := fun e => by rw [e] at h3; rw [bb_irrefl] at h3; cases h3
      rw [gneg h4]; exact aget_of_mem h2 h

theorem asc_head_min {y z : Key × α} {l : List (Key × α)} (h : AAsc (y :: l)) (hz : z ∈ l) : bytesBefore y.1 z.1 = true := (List.pairwise_cons.1 h).1 z hz
/-- Two lists in ascending order that answer alike are one. -/
theorem aext : ∀ {l m : List (Key × α)}, AAsc l → AAsc m → (∀ n, aget n l = aget n m) → l = m
  | [], [], _, _, _ => rfl
  | [], y :: m, _, _, h => by have := h y.1; simp [aget] at this
  | y :: l, [], _, _, h => by have := h y.1; simp [aget] at this
  | y :: l, z :: m, hl, hm, h => by
    have e : y = z := by
      have h1 := h y.1
      have h2 := h z.1
      have hy : aget y.1 (y :: l) = some y.2 := by simp [aget]
      have hz : aget z.1 (z :: m) = some z.2 := by simp [aget]
      rw [hy] at h1
      rw [hz] at h2
      have m1 := aget_mem h1.symm
      have m2 := aget_mem h2
      rcases List.mem_cons.1 m1 with e1 | m1
      · rw [← e1]
      · rcases List.mem_cons.1 m2 with e2 | m2
        · rw [← e2]
        · have b1 := asc_head_min hm m1
          have b2 := asc_head_min hl m2
          have b3 := bb_trans _ _ _ b1 b2
          rw [bb_irrefl] at b3
          cases b3
    subst e
    obtain ⟨l1, l2⟩ := List.pairwise_cons.1 hl
    obtain ⟨m1, m2⟩ := List.pairwise_cons.1 hm
    refine congrArg _ (aext l2 m2 fun n => ?_)
    have h0 := h n
    by_cases hn : y.1 = n
    · have a1 : aget n l = none := by
        cases hg : aget n l with
        | none => rfl
        | some a => have := l1 _ (aget_mem hg); rw [hn, bb_irrefl] at this; cases this
      have a2 : aget n m = none := by
        cases hg : aget n m with
        | none => rfl
        | some a => have := m1 _ (aget_mem hg); rw [hn, bb_irrefl] at this; cases this
      rw [a1, a2]
    · rwa [gneg hn, gneg hn] at h0

/-- What all files come to. -/
def asum (f : α → Nat) (l : List (Key × α)) : Nat := (l.map fun p => f p.2).sum
theorem asum_ins (f : α → Nat) (x : Key × α) : ∀ l, asum f (ains x l) = f x.2 + asum f l
  | [] => by simp [ains, asum]
  | y :: l => by
    have ih := asum_ins f x l
    rw [ains]
    split
    · simp [asum]
    · simp only [asum, List.map_cons, List.sum_cons] at ih ⊢; omega
def olen (f : α → Nat) : Option α → Nat
  | none => 0
  | some a => f a
theorem adel_none {n : Key} : ∀ {l : List (Key × α)}, aget n l = none → adel n l = l
  | [], _ => rfl
  | y :: l, h => by
    by_cases hy : y.1 = n
    · rw [gpos hy] at h; cases h
    · rw [gneg hy] at h
      have ih := adel_none (l := l) h
      unfold adel at ih ⊢
      rw [List.filter_cons_of_pos (by simpa using hy), ih]
theorem asum_del (f : α → Nat) (n : Key) : ∀ {l : List (Key × α)}, AAsc l → asum f (adel n l) + olen f (aget n l) = asum f l
  | [], _ => rfl
  | y :: l, h => by
    obtain ⟨h1, h2⟩ := List.pairwise_cons.1 h
    have ih := asum_del f n h2
    by_cases hy : y.1 = n
    · have a1 : aget n l = none := by
        cases hg : aget n l with
        | none => rfl
        | some a => have := h1 _ (aget_mem hg); rw [hy, bb_irrefl] at this; cases this
      have a2 : adel n (y :: l) = l := by
        have := adel_none a1
        unfold adel at this ⊢
        rw [List.filter_cons_of_neg (by simp [hy]), this]
      have a3 : aget n (y :: l) = some y.2 := gpos hy
      rw [a2, a3]
      simp only [olen, asum, List.map_cons, List.sum_cons]; omega
    · have a2 : adel n (y :: l) = y :: adel n l := by unfold adel; rw [List.filter_cons_of_pos (by simpa using hy)]
      have a3 : aget n (y :: l) = aget n l := gneg hy
      rw [a2, a3]
      simp only [asum, List.map_cons, List.sum_cons] at ih ⊢; omega
theorem asum_put (f : α → Nat) (n : Key) (a : α) {l : List (Key × α)} (h : AAsc l) : asum f (aput n a l) + olen f (aget n l) = f a + asum f l := by
  rw [aput, asum_ins]
  have := asum_del f n h
  simp only; omega

/-- Files of which less is told. -/
def amap (g : α → β) (l : List (Key × α)) : List (Key × β) := l.map fun p => (p.1, g p.2)
theorem amap_ins (g : α → β) (x : Key × α) : ∀ l, amap g (ains x l) = ains (x.1, g x.2) (amap g l)
  | [] => rfl
  | y :: l => by
    have ih := amap_ins g x l
    simp only [ains, amap, List.map_cons] at ih ⊢
    split <;> simp [ih]
theorem amap_del (g : α → β) (n : Key) (l : List (Key × α)) : amap g (adel n l) = adel n (amap g l) := by
  unfold amap adel
  rw [List.filter_map]
  rfl
theorem amap_put (g : α → β) (n : Key) (a : α) (l : List (Key × α)) : amap g (aput n a l) = aput n (g a) (amap g l) := by
  rw [aput, amap_ins, amap_del]; rfl
theorem amap_get (g : α → β) (n : Key) : ∀ l : List (Key × α), aget n (amap g l) = (aget n l).map g
  | [] => rfl
  | y :: l => by
    have ih := amap_get g n l
    unfold amap at ih ⊢
    rw [List.map_cons]
    by_cases hy : y.1 = n
    · rw [gpos hy, gpos (by exact hy)]; rfl
    · rw [gneg hy, gneg (by exact hy)]; exact ih
theorem amap_asc (g : α → β) {l : List (Key × α)} (h : AAsc l) : AAsc (amap g l) := List.pairwise_map.2 h
theorem asum_amap (f : β → Nat) (g : α → β) (l : List (Key × α)) : asum f (amap g l) = asum (fun a => f (g a)) l := by
  simp [asum, amap, Function.comp_def]
end

/-- A file in memory: the slice that holds it, and its bytes. -/
abbrev Ent := Value × List Int
/-- What the map of the files reads as. -/
def mapOf (L : List (Key × Ent)) : DataW Value := .map (L.map fun e => (.string e.1, .held e.2.1))
/-- A map's element read as what it is. -/
def rdv (v : Value) : Option (DataW Value × List MemPlace) := some (.held v, [])
theorem same_str (a b : Key) : (Lit.string a).sameKey (.string b) = (a == b) := rfl
theorem mapOf_ins (n : Key) (x : Ent) : ∀ L : List (Key × Ent), DataW.insert (Lit.string n, DataW.held x.1) (L.map fun e => (Lit.string e.1, DataW.held e.2.1)) = (ains (n, x) L).map fun e => (Lit.string e.1, DataW.held e.2.1)
  | [] => rfl
  | y :: L => by
    have ih := mapOf_ins n x L
    simp only [ains, List.map_cons, DataW.insert, Lit.before] at ih ⊢
    by_cases hb : bytesBefore n y.1 = true
    · simp [hb]
    · simp [hb, ih]
theorem mapOf_del (n : Key) (L : List (Key × Ent)) : (mapOf L).del (.string n) = mapOf (adel n L) := by
  unfold mapOf DataW.del adel
  simp only [List.filter_map]
  rfl
theorem mapOf_put (n : Key) (v : Value) (xs : List Int) (L : List (Key × Ent)) : (mapOf L).put (.string n) (.held v) = mapOf (aput n (v, xs) L) := by
  have h := mapOf_del n L
  unfold mapOf DataW.del at h
  unfold mapOf DataW.put
  simp only [DataW.map.injEq] at h ⊢
  rw [h]
  exact mapOf_ins n (v, xs) _
theorem mapOf_find (n : Key) : ∀ L : List (Key × Ent), ((L.map fun e => (Lit.string e.1, (DataW.held e.2.1 : DataW Value))).find? fun p => p.1.sameKey (.string n)) = (aget n L).map fun x => (Lit.string n, DataW.held x.1)
  | [] => rfl
  | y :: L => by
    have ih := mapOf_find n L
    rw [List.map_cons]
    by_cases hy : (y.1 == n) = true
    · rw [List.find?_cons_of_pos (p := fun p : Lit × DataW Value => p.1.sameKey (.string n)) (by exact hy)]
      simp only [beq_iff_eq] at hy
      rw [gpos hy, hy]; rfl
    · rw [List.find?_cons_of_neg (p := fun p : Lit × DataW Value => p.1.sameKey (.string n)) (by exact hy), ih, gneg (by simpa using hy)]
theorem mapOf_at (n : Key) (z : Value) (L : List (Key × Ent)) : (mapOf L).atKey (.string n) (.held z) = .held (match aget n L with | some x => x.1 | none => z) := by
  unfold mapOf DataW.atKey
  simp only [mapOf_find]
  cases aget n L <;> rfl
theorem mapOf_has (n : Key) (L : List (Key × Ent)) : Maps.has (mapOf L) (.string n) = (aget n L).isSome := by
  unfold mapOf Maps.has
  simp only
  rw [← List.isSome_find?]
  rw [mapOf_find]
  cases aget n L <;> rfl
end Go.Proofs.YtbpccbhlggcmfaaGreatDoor
namespace Go.Proofs.YtbpccbhlggcmfaaGreatDoor
open Go.RowKit
open Go.Maps

/-- An error of the project, by its number. -/
abbrev eno (k : Int) : Value := .iface 44 (.int .i64 k)
/-- An error's value; 0: none. -/
def enoOf (k : Int) : Value := if k = 0 then .nilIface else eno k
abbrev stv (n : Key) : Value := .string ⟨n.toArray⟩

/-- What the struct's cells hold. -/
structure Cst where
  room : Int
  mb : Nat
  used : Int
  pv : Value
  fuse : Int
  dead : Bool
  works : Int
def DAt (w : World) (b : Nat) (c : Cst) : Prop :=
  w.heap[b]? = some (.cells #[.int .i64 c.room, .map (some c.mb), .int .i64 c.used, c.pv, .int .i64 c.fuse, .bool c.dead, .int .i64 c.works] 70 (0, 0))
section
variable {w w' : World} {b : Nat} {c : Cst}
theorem DAt.lt (h : DAt w b c) : b < w.heap.size := lt_of_block h
theorem DAt.c0 (h : DAt w b c) : w.cell? ⟨b, 0, none⟩ = some (.int .i64 c.room) := by rw [cell_of_row w b 0 _ _ _ h]; rfl
theorem DAt.c1 (h : DAt w b c) : w.cell? ⟨b, 1, none⟩ = some (.map (some c.mb)) := by rw [cell_of_row w b 1 _ _ _ h]; rfl
theorem DAt.c2 (h : DAt w b c) : w.cell? ⟨b, 2, none⟩ = some (.int .i64 c.used) := by rw [cell_of_row w b 2 _ _ _ h]; rfl
theorem DAt.c3 (h : DAt w b c) : w.cell? ⟨b, 3, none⟩ = some c.pv := by rw [cell_of_row w b 3 _ _ _ h]; rfl
theorem DAt.c4 (h : DAt w b c) : w.cell? ⟨b, 4, none⟩ = some (.int .i64 c.fuse) := by rw [cell_of_row w b 4 _ _ _ h]; rfl
theorem DAt.c5 (h : DAt w b c) : w.cell? ⟨b, 5, none⟩ = some (.bool c.dead) := by rw [cell_of_row w b 5 _ _ _ h]; rfl
theorem DAt.c6 (h : DAt w b c) : w.cell? ⟨b, 6, none⟩ = some (.int .i64 c.works) := by rw [cell_of_row w b 6 _ _ _ h]; rfl
theorem DAt.fz (h : DAt w b c) (i : Nat) : w.frozen? ⟨b, i, none⟩ = false := by
  have h' : w.heap[b]? = some _ := h
  simp [World.frozen?, h']
theorem DAt.set2 (h : DAt w b c) (u : Int) : DAt (w.setCell ⟨b, 2, none⟩ (.int .i64 u)) b { c with used := u } := Lib.heap_setCell_same h _
theorem DAt.set3 (h : DAt w b c) (v : Value) : DAt (w.setCell ⟨b, 3, none⟩ v) b { c with pv := v } := Lib.heap_setCell_same h _
theorem DAt.set4 (h : DAt w b c) (u : Int) : DAt (w.setCell ⟨b, 4, none⟩ (.int .i64 u)) b { c with fuse := u } := Lib.heap_setCell_same h _
theorem DAt.set5 (h : DAt w b c) (u : Bool) : DAt (w.setCell ⟨b, 5, none⟩ (.bool u)) b { c with dead := u } := Lib.heap_setCell_same h _
theorem DAt.set6 (h : DAt w b c) (u : Int) : DAt (w.setCell ⟨b, 6, none⟩ (.int .i64 u)) b { c with works := u } := Lib.heap_setCell_same h _
theorem DAt.kept {S : Nat → Prop} (h : DAt w b c) (ho : Only S w w') (hb : ¬ S b) : DAt w' b c := (ho.block b h.lt hb).trans h
theorem DAt.kb (h : DAt w b c) (hb : Below w.heap.size w w') : DAt w' b c := h.kept (S := fun _ => False) (Only.of_below hb) (fun h => h)
theorem Only.one {a : World} {S : Nat → Prop} (h : Only S a w) {b i : Nat} (hb : S b) (v : Value) : Only S a (w.setCell ⟨b, i, none⟩ v) := h.setCell (p := ⟨b, i, none⟩) hb v
end

/-- The keys' law and the elements' zero. -/
theorem skeyed : Keyed Tryz.prog 9 := string_keyed Tryz.underlying9
theorem szero (w : World) : (zeroValue 71).run Tryz.prog w = .ok (.slice none 0 0) w := by kernel_rfl
theorem rdv_nil : rdv (.slice none 0 0) = some (.held (.slice none 0 0), []) := rfl
theorem skey (n : Key) (h : n.length ≤ maxLen) : keyOf Tryz.prog 9 (stv n) = some (.string n) := by
  have h1 := WideMaps.keyOf_string_mk (s := ⟨n.toArray⟩) Tryz.underlying9 (by exact h)
  simpa using h1

/-- Block mb is the map of the files L. -/
def MAt (w : World) (mb : Nat) (L : List (Key × Ent)) : Prop := w.ownsMap Tryz.prog 9 rdv mb L.length (mapOf L)
theorem fold_len : ∀ l : List (Lit × DataW Value), (l.foldr DataW.insert []).length = l.length := length_sorted
theorem MAt.of {w : World} {mb n : Nat} {L : List (Key × Ent)} (h : w.ownsMap Tryz.prog 9 rdv mb n (mapOf L)) : MAt w mb L := by
  obtain ⟨es, clock, h1, h2, _, h4⟩ := h
  refine ⟨es, clock, h1, h2, ?_, h4⟩
  have h5 : (mapOf L) = _ := h4
  unfold mapOf at h5
  have h6 := congrArg List.length (DataW.map.inj h5)
  rw [length_sorted] at h6
  simp at h6
  omega
section
variable {w w' : World} {mb : Nat} {L : List (Key × Ent)}
theorem MAt.lt (h : MAt w mb L) : mb < w.heap.size := World.ownsMap.lt h
theorem MAt.kept {S : Nat → Prop} (h : MAt w mb L) (ho : Only S w w') (hb : ¬ S mb) : MAt w' mb L := by
  obtain ⟨es, clock, h1, h2⟩ := h
  exact ⟨es, clock, (ho.block mb (Array.getElem?_eq_some_iff.1 h1).1 hb).trans h1, h2⟩
theorem MAt.kb (h : MAt w mb L) (hb : Below w.heap.size w w') : MAt w' mb L := h.kept (S := fun _ => False) (Only.of_below hb) (fun h => h)
/-- Which slice a name has; nil where there is none. -/
def valAt (n : Key) (L : List (Key × Ent)) : Value := match aget n L with | some x => x.1 | none => .slice none 0 0
def bytesAt (n : Key) (L : List (Key × Ent)) : List Int := match aget n L with | some x => x.2 | none => []
theorem MAt.look (h : MAt w mb L) (n : Key) (hn : n.length ≤ maxLen) : (Instr.lookup 67 (.map (some mb)) (stv n) false).run Tryz.prog w = .ok (valAt n L) w := by
  obtain ⟨v, ps, hrun, hv⟩ := World.ownsMap.lookup h skeyed Tryz.underlying67 (szero w) rdv_nil (skey n hn)
  rw [mapOf_at] at hv
  have e := congrArg Prod.fst (Option.some.inj hv)
  simp only [DataW.held.injEq] at e
  rw [hrun, e]; rfl
theorem MAt.lookOk (h : MAt w mb L) (n : Key) (hn : n.length ≤ maxLen) : (Instr.lookup 67 (.map (some mb)) (stv n) true).run Tryz.prog w = .ok (.tuple #[valAt n L, .bool (aget n L).isSome]) w := by
  obtain ⟨v, ps, hrun, hv⟩ := World.ownsMap.look_ok h skeyed Tryz.underlying67 (szero w) rdv_nil (skey n hn)
  rw [mapOf_at] at hv
  rw [mapOf_has] at hrun
  have e := congrArg Prod.fst (Option.some.inj hv)
  simp only [DataW.held.injEq] at e
  rw [hrun, e]; rfl
theorem MAt.store (h : MAt w mb L) (n : Key) (hn : n.length ≤ maxLen) (hl : L.length < maxLen) (v : Value) (xs : List Int) :
    ∃ w', (Instr.mapUpdate 67 (.map (some mb)) (stv n) v).run Tryz.prog w = .ok () w' ∧ MAt w' mb (aput n (v, xs) L) ∧ Only (fun k => k = mb) w w' := by
  obtain ⟨w', hrun, h1, h2⟩ := World.ownsMap.update h skeyed Tryz.underlying67 hl (skey n hn) (R := rdv) (val := v) rfl
  rw [mapOf_put n v xs] at h1
  exact ⟨w', hrun, MAt.of h1, (Only.refl _ w).grown h2 (fun k _ e => by cases e; rfl)⟩
theorem MAt.drop (h : MAt w mb L) (n : Key) (hn : n.length ≤ maxLen) (ty : TypeId) :
    ∃ w', (Builtin.delete_ #[67, 9] ty #[.map (some mb), stv n]).run Tryz.prog w = .ok (.tuple #[]) w' ∧ MAt w' mb (adel n L) ∧ Only (fun k => k = mb) w w' := by
  obtain ⟨w', hrun, h1, h2⟩ := World.ownsMap.drop h skeyed Tryz.underlying67 (skey n hn) ty
  rw [mapOf_del] at h1
  exact ⟨w', hrun, MAt.of h1, (Only.refl _ w).grown h2.grown (fun k _ e => by cases e; rfl)⟩
end

/-- A pending change. -/
structure Chg where
  kind : Int
  name : Key
  to : Key
  size : Nat
  was : Bool
  lost : Value
  xs : List Int
def Chg.row (c : Chg) : List Value := [.int .i64 c.kind, stv c.name, stv c.to, .int .i64 c.size, .bool c.was, c.lost]
def crows (P : List Chg) : List Value := P.flatMap Chg.row
theorem crows_length : ∀ P, (crows P).length = P.length * 6
  | [] => rfl
  | c :: P => by
    have := crows_length P
    unfold crows at this ⊢
    rw [List.flatMap_cons, List.length_append, this]; simp [Chg.row]; omega
/-- pv is the slice of the pending changes P. -/
abbrev PAt (w : World) (B : Nat) (pv : Value) (P : List Chg) : Prop := w.ownsRow B 120 6 pv P.length (crows P)
theorem own_kept {w w' : World} {B e size n : Nat} {v : Value} {xs : List Value} {S : Nat → Prop} (h : w.ownsRow B e size v n xs) (ho : Only S w w') (hS : ∀ k, v.ownBlock = some k → ¬ S k) : w'.ownsRow B e size v n xs := by
  refine ⟨h.1, ?_⟩
  rcases h.2 with h1 | ⟨g, cap, cur, rfl, h2, hg, h3⟩
  · exact .inl h1
  · exact .inr ⟨g, cap, cur, rfl, h2, (ho.block g (Array.getElem?_eq_some_iff.1 hg).1 (hS g rfl)).trans hg, h3⟩
theorem own_slice {w : World} {B e size n : Nat} {v : Value} {xs : List Value} (h : w.ownsRow B e size v n xs) : ∃ p cap, v = .slice p n cap := by
  rcases h.2 with ⟨rfl, rfl⟩ | ⟨g, cap, cur, rfl, _⟩
  · exact ⟨none, 0, rfl⟩
  · exact ⟨_, _, rfl⟩
theorem own_type {w : World} {B e size n : Nat} {v : Value} {xs : List Value} (h : w.ownsRow B e size v n xs) {k : Nat} (hk : v.ownBlock = some k) : ∃ cs, w.heap[k]? = some (.cells cs e (0, 0)) := by
  rcases h.2 with ⟨rfl, _⟩ | ⟨g, cap, cur, rfl, h2, hg, h3⟩
  · simp [Value.ownBlock] at hk
  · simp [Value.ownBlock] at hk; subst hk; exact ⟨_, hg⟩
/-- A slice of bytes that the call owns. -/
abbrev BOwn (w : World) (B : Nat) (v : Value) (xs : List Int) : Prop := w.ownsRow B 5 1 v xs.length (us xs)
/-- Every file and every lost piece owns its bytes. -/
structure Own (w : World) (B : Nat) (L : List (Key × Ent)) (P : List Chg) : Prop where
  file : ∀ e ∈ L, BOwn w B e.2.1 e.2.2
  lost : ∀ c ∈ P, BOwn w B c.lost c.xs
/-- Whether v lies in block k. -/
def own1 (k : Nat) (v : Value) : Nat := if v.ownBlock = some k then 1 else 0
def cntL (k : Nat) (L : List (Key × Ent)) : Nat := asum (fun x => own1 k x.1) L
def cntP (k : Nat) (P : List Chg) : Nat := (P.map fun c => own1 k c.lost).sum
/-- No two of them lie in one block. -/
def Sep (L : List (Key × Ent)) (P : List Chg) : Prop := ∀ k, cntL k L + cntP k P ≤ 1
theorem own1_nil (k : Nat) : own1 k (.slice none 0 0) = 0 := by simp [own1, Value.ownBlock]
theorem own1_self {k : Nat} {v : Value} (h : v.ownBlock = some k) : own1 k v = 1 := by simp [own1, h]
theorem own1_le (k : Nat) (v : Value) : own1 k v ≤ 1 := by unfold own1; split <;> omega
theorem olen_val (k : Nat) (n : Key) (L : List (Key × Ent)) : olen (fun x : Ent => own1 k x.1) (aget n L) = own1 k (valAt n L) := by
  unfold valAt; cases aget n L with
  | none => rw [olen, own1_nil]
  | some x => rfl
theorem cntL_del (k : Nat) (n : Key) {L : List (Key × Ent)} (h : AAsc L) : cntL k (adel n L) + own1 k (valAt n L) = cntL k L := by rw [← olen_val]; exact asum_del _ n h
theorem cntL_put (k : Nat) (n : Key) (x : Ent) {L : List (Key × Ent)} (h : AAsc L) : cntL k (aput n x L) + own1 k (valAt n L) = own1 k x.1 + cntL k L := by rw [← olen_val]; exact asum_put _ n x h
theorem asum_pos {α : Type} {f : α → Nat} {l : List (Key × α)} {e : Key × α} (h : e ∈ l) : f e.2 ≤ asum f l := by
  induction l with
  | nil => cases h
  | cons y l ih =>
    simp only [asum, List.map_cons, List.sum_cons] at ih ⊢
    rcases List.mem_cons.1 h with rfl | h
    · omega
    · have := ih h; omega
theorem cntL_mem {k : Nat} {L : List (Key × Ent)} {e : Key × Ent} (h : e ∈ L) : own1 k e.2.1 ≤ cntL k L := asum_pos (f := fun x : Ent => own1 k x.1) h
theorem cntP_mem {k : Nat} {P : List Chg} {c : Chg} (h : c ∈ P) : own1 k c.lost ≤ cntP k P := by
  induction P with
  | nil => cases h
  | cons y l ih =>
    simp only [cntP, List.map_cons, List.sum_cons] at ih ⊢
    rcases List.mem_cons.1 h with rfl | h
    · omega
    · have := ih h; omega
theorem cntP_app (k : Nat) (P Q : List Chg) : cntP k (P ++ Q) = cntP k P + cntP k Q := by simp [cntP]
/-- What all files come to. -/
def tot (L : List (Key × Ent)) : Nat := asum (fun x => x.2.length) L
theorem olen_bytes (n : Key) (L : List (Key × Ent)) : olen (fun x : Ent => x.2.length) (aget n L) = (bytesAt n L).length := by
  unfold bytesAt; cases aget n L <;> rfl
theorem tot_del (n : Key) {L : List (Key × Ent)} (h : AAsc L) : tot (adel n L) + (bytesAt n L).length = tot L := by rw [← olen_bytes]; exact asum_del _ n h
theorem tot_put (n : Key) (x : Ent) {L : List (Key × Ent)} (h : AAsc L) : tot (aput n x L) + (bytesAt n L).length = x.2.length + tot L := by rw [← olen_bytes]; exact asum_put _ n x h
theorem tot_mem {L : List (Key × Ent)} {e : Key × Ent} (h : e ∈ L) : e.2.2.length ≤ tot L := asum_pos (f := fun x : Ent => x.2.length) h
theorem bytesAt_le (n : Key) (L : List (Key × Ent)) : (bytesAt n L).length ≤ tot L := by
  unfold bytesAt
  cases h : aget n L with
  | none => simp
  | some x => exact tot_mem (e := (n, x)) (aget_mem h)
/-- Each file's slice has its bytes' length. -/
def Shp (L : List (Key × Ent)) : Prop := ∀ e ∈ L, ∃ p cap, e.2.1 = .slice p e.2.2.length cap
theorem Own.shp {w : World} {B : Nat} {L : List (Key × Ent)} {P : List Chg} (h : Own w B L P) : Shp L := fun e he => own_slice (h.file e he)
theorem Shp.at {L : List (Key × Ent)} (h : Shp L) (n : Key) : ∃ p cap, valAt n L = .slice p (bytesAt n L).length cap := by
  unfold valAt bytesAt
  cases hg : aget n L with
  | none => exact ⟨none, 0, rfl⟩
  | some x => exact h _ (aget_mem hg)
theorem Shp.del {L : List (Key × Ent)} (h : Shp L) (n : Key) : Shp (adel n L) := fun e he => h e ((adel_mem n L e).1 he).1
theorem Shp.put {L : List (Key × Ent)} (h : Shp L) (n : Key) {v : Value} {xs : List Int} (hv : ∃ p cap, v = .slice p xs.length cap) : Shp (aput n (v, xs) L) := fun e he => by
  rcases (ains_mem _ _ _).1 he with rfl | he
  · exact hv
  · exact h.del n e he
theorem Own.at {w : World} {B : Nat} {L : List (Key × Ent)} {P : List Chg} (h : Own w B L P) (n : Key) : BOwn w B (valAt n L) (bytesAt n L) := by
  unfold valAt bytesAt
  cases hg : aget n L with
  | none => exact World.ownsRow_nil _ _ _ _
  | some x => exact h.file _ (aget_mem hg)
end Go.Proofs.YtbpccbhlggcmfaaGreatDoor
namespace Go.Proofs.YtbpccbhlggcmfaaGreatDoor
open Go.RowKit

/-- What pass leaves, and what it returns. -/
def Cst.pass (c : Cst) : Cst := if c.fuse = 0 then { c with dead := true } else { c with fuse := if 0 < c.fuse then c.fuse - 1 else c.fuse, works := c.works + 1 }
theorem pass_to (w : World) (b : Nat) (c : Cst) (h : DAt w b c) (hw : 0 ≤ c.works) (hw' : c.works < 4611686018427387904) (hf : c.fuse < 9223372036854775808) :
    Calls Tryz.prog 52 #[.pointer (some ⟨b,0,none⟩)] w fun e w' => e = .returned (if c.fuse = 0 then eno 7 else .nilIface) ∧ DAt w' b c.pass ∧ Only (fun k => k = b) w w' := by
  have c4 := h.c4
  have c5 := h.c5
  have c6 := h.c6
  have f4 := h.fz 4
  have f5 := h.fz 5
  have f6 := h.fz 6
  have H := Lib.hid h
  clear h
  unfold Cst.pass
  by_cases h0 : c.fuse = 0
  · rw [h0] at c4
    rw [if_pos h0, if_pos h0]
    go_enter Tryz.func52, Tryz.ntmps52
    go_wp2
    go_ret
    exact ⟨rfl, H.out.set5 true, (Only.refl _ _).one (S := fun k => k = b) rfl _⟩
  · rw [if_neg h0, if_neg h0]
    by_cases h1 : 0 < c.fuse
    · rw [if_pos h1]
      go_enter Tryz.func52, Tryz.ntmps52
      go_wp2
      go_ret
      exact ⟨rfl, (H.out.set4 _).set6 _, ((Only.refl _ _).one (S := fun k => k = b) rfl _).one (S := fun k => k = b) rfl _⟩
    · rw [if_neg h1]
      go_enter Tryz.func52, Tryz.ntmps52
      go_wp2
      go_ret
      exact ⟨rfl, H.out.set6 _, (Only.refl _ _).one (S := fun k => k = b) rfl _⟩

/-- Whether a name may be. -/
def okName (n : Key) : Bool := decide (1 ≤ n.length) && decide (n.length ≤ 20)
/-- What begin returns for names and a disk that is dead or not. -/
def bgErr (l : List Key) (dead : Bool) : Value := if l.all okName then (if dead then eno 7 else .nilIface) else eno 1
theorem begin_nil (w : World) (b : Nat) (c : Cst) (h : DAt w b c) :
    Calls Tryz.prog 51 #[.pointer (some ⟨b,0,none⟩), .slice none 0 0] w fun e w' => e = .returned (bgErr [] c.dead) ∧ w = w' := by
  have c5 := h.c5
  clear h
  cases hd : c.dead <;> rw [hd] at c5
  all_goals
    go_enter Tryz.func51, Tryz.ntmps51
    go_wp2
    refine wp_loop_rounds 1 ?_
    rw [rounds_succ]
    go_wp2
    go_ret
    exact ⟨rfl, rfl⟩
theorem str_size (n : Key) : (⟨n.toArray⟩ : ByteArray).size = n.length := rfl
theorem begin_one (w : World) (b : Nat) (c : Cst) (h : DAt w b c) (n : Key) (a : Addr) (cap : Nat) (ha : w.cell? a = some (stv n)) (hn : n.length ≤ 4611686018427387904) :
    Calls Tryz.prog 51 #[.pointer (some ⟨b,0,none⟩), .slice (some a) 1 cap] w fun e w' => e = .returned (bgErr [n] c.dead) ∧ w = w' := by
  have c5 := h.c5
  have hsz := str_size n
  have ha0 : w.cell? (a.add 0) = some (stv n) := ha
  clear h
  unfold bgErr
  rw [show [n].all okName = okName n from by simp]
  by_cases h1 : n.length < 1
  · have e : okName n = false := by simp [okName]; omega
    rw [e]
    have h1' : (n.length : Int) < 1 := by omega
    go_enter Tryz.func51, Tryz.ntmps51
    go_wp2
    refine wp_loop_rounds 2 ?_
    rw [rounds_succ]
    go_wp2
    go_ret
    exact ⟨rfl, rfl⟩
  · have h1' : ¬ (n.length : Int) < 1 := by omega
    by_cases h2 : 20 < n.length
    · have e : okName n = false := by simp [okName]; omega
      rw [e]
      have h2' : 20 < (n.length : Int) := by omega
      go_enter Tryz.func51, Tryz.ntmps51
      go_wp2
      refine wp_loop_rounds 2 ?_
      rw [rounds_succ]
      go_wp2
      go_ret
      exact ⟨rfl, rfl⟩
    · have e : okName n = true := by simp [okName]; omega
      rw [e]
      have h2' : ¬ 20 < (n.length : Int) := by omega
      cases hd : c.dead <;> rw [hd] at c5
      all_goals
        go_enter Tryz.func51, Tryz.ntmps51
        go_wp2
        refine wp_loop_rounds 2 ?_
        rw [rounds_succ]
        go_wp2
        rw [rounds_succ]
        go_wp2
        go_ret
        exact ⟨rfl, rfl⟩
end Go.Proofs.YtbpccbhlggcmfaaGreatDoor
namespace Go.Proofs.YtbpccbhlggcmfaaGreatDoor
open Go.RowKit Go.Shelf
def Tryz.hclone_ren : Go.Shelf.Ren := ⟨fun | 316 => 56 | n => n, fun | 9 => 9 | 3 => 3 | 4 => 4 | 37 => 71 | 0 => 0 | 127 => 161 | 5 => 5 | n => n, fun | n => n⟩
theorem Tryz.hclone : Go.Proofs.LaysM.n316 Tryz.prog Tryz.hclone_ren := {
  mixed := by kernel_rfl
  f316 := Tryz.func56.trans (congrArg some (by kernel_rfl))
  t0 := Tryz.underlying0
  a0 := Tryz.isAgg0
  z0 := Tryz.sizeOf0
  v0 := Tryz.zeroValue0
  t3 := Tryz.underlying3
  a3 := Tryz.isAgg3
  z3 := Tryz.sizeOf3
  v3 := Tryz.zeroValue3
  t4 := Tryz.underlying4
  a4 := Tryz.isAgg4
  z4 := Tryz.sizeOf4
  v4 := Tryz.zeroValue4
  t9 := Tryz.underlying9
  a9 := Tryz.isAgg9
  z9 := Tryz.sizeOf9
  v9 := Tryz.zeroValue9
  t37 := Tryz.underlying71
  a37 := Tryz.isAgg71
  z37 := Tryz.sizeOf71
  v37 := Tryz.zeroValue71
  t127 := Tryz.underlying161
  a127 := Tryz.isAgg161
  z127 := Tryz.sizeOf161
  v127 := Tryz.zeroValue161
  t5 := Tryz.underlying5
  a5 := Tryz.isAgg5
  z5 := Tryz.sizeOf5
  v5 := Tryz.zeroValue5
  i0 := by kernel_rfl
  i3 := by kernel_rfl
  i4 := by kernel_rfl
  i5 := by kernel_rfl
  i9 := by kernel_rfl
  i37 := by kernel_rfl
  i127 := by kernel_rfl }
theorem sclone_to (w : World) (s : ByteArray) (h : s.size ≤ 281474976710656) : Calls Tryz.prog 27 #[.string s] w fun e w' => e = .returned (.string s) ∧ Below w.heap.size w w' := by
  have hc : Calls Tryz.prog 56 #[.string s] w fun e w' => e = .returned (.string s) ∧ Below w.heap.size w w' := Any.stringslite_Clone Tryz.hclone s w h
  go_enter Tryz.func27, Tryz.ntmps27
  go_wp2_with fail
  refine hc.mono ?_
  rintro e w1 ⟨rfl, b1⟩
  go_wp2_with fail
  go_ret
  exact ⟨rfl, b1⟩
end Go.Proofs.YtbpccbhlggcmfaaGreatDoor
namespace Go.Proofs.YtbpccbhlggcmfaaGreatDoor
open Go.RowKit
open Go.Maps

/-- A file laid. -/
def PutPost (w : World) (b : Nat) (c : Cst) (L : List (Key × Ent)) (n : Key) (v : Value) (xs : List Int) (e : Ending) (w' : World) : Prop :=
  e = .returned (.tuple #[]) ∧ DAt w' b { c with used := c.used + (xs.length - (bytesAt n L).length) } ∧ MAt w' c.mb (aput n (v, xs) L) ∧ Only (fun k => k = b ∨ k = c.mb) w w'
set_option maxRecDepth 20000 in
set_option maxHeartbeats 2000000 in
theorem put_to (w : World) (b : Nat) (c : Cst) (L : List (Key × Ent)) (n : Key) (p : Option Addr) (cap : Nat) (xs : List Int) (h : DAt w b c) (hm : MAt w c.mb L) (hbm : b ≠ c.mb) (hs : Shp L) (hn : n.length ≤ maxLen) (hl : L.length < maxLen)
    (hx : xs.length ≤ 2305843009213693952) (hy : (bytesAt n L).length ≤ 2305843009213693952) (hu : 0 ≤ c.used) (hu2 : c.used ≤ 2305843009213693952) (hn2 : n.length ≤ 281474976710656) :
    Calls Tryz.prog 54 #[.pointer (some ⟨b,0,none⟩), stv n, .slice p xs.length cap] w (PutPost w b c L n (.slice p xs.length cap) xs) := by
  obtain ⟨p1, cap1, hv1⟩ := hs.at n
  have hlk : (Instr.lookup 67 (.map (some c.mb)) (stv n) false).run Tryz.prog w.drew = .ok (.slice p1 (bytesAt n L).length cap1) w.drew := by
    rw [← hv1]; exact MAt.look (w := w.drew) hm n hn
  have c1 := h.c1
  have c2 := h.c2
  have f2 := h.fz 2
  have H := Lib.hid h
  have HM := Lib.hid hm
  have HS := Lib.hid (And.intro hn hl)
  have HN2 := Lib.hid hn2
  clear h hm hn hl hs hv1 hn2
  unfold PutPost
  generalize (bytesAt n L).length = m1 at *
  go_enter Tryz.func54, Tryz.ntmps54
  go_wp2_with fail
  go_region
  have hw1 : ∃ u, u = c.used + ((xs.length : Int) - m1) := ⟨_, rfl⟩
  obtain ⟨u, hu'⟩ := hw1
  have HD1 : Hid (DAt ((w.setCell ⟨b, 2, none⟩ (.int .i64 (c.used + ((xs.length : Int) - m1)))).drew) b { c with used := u }) := Lib.hid (by rw [hu']; exact DAt.set2 (w := w.drew) H.out _)
  have HO1 : Hid (Only (fun k => k = b ∨ k = c.mb) w (w.setCell ⟨b, 2, none⟩ (.int .i64 (c.used + ((xs.length : Int) - m1)))).drew) := Lib.hid ((Only.refl _ w).drew.one (S := fun k => k = b ∨ k = c.mb) (.inl rfl) _)
  have HM1 : Hid (MAt (w.setCell ⟨b, 2, none⟩ (.int .i64 (c.used + ((xs.length : Int) - m1)))).drew c.mb L) := Lib.hid (HM.out.kept (S := fun k => k = b) ((Only.refl _ w).drew.one (S := fun k => k = b) rfl _) (fun e => hbm e.symm))
  rw [← hu'] at HD1 HO1 HM1 ⊢
  have HU := Lib.hid hu'
  clear c1 c2 f2 hlk H HM hu'
  go_wp2_with fail
  generalize (w.setCell ⟨b, 2, none⟩ (.int .i64 u)).drew = w1 at *
  have hc1 : w1.cell? ⟨b, 1, none⟩ = some (.map (some c.mb)) := HD1.out.c1
  try simp only [List.append]
  refine wp_region_noPanic ?_
  refine wp_region_held_drew (S := (fun W => W.cell? ⟨b, 1, none⟩ = some (.map (some c.mb)))) (by kernel_rfl) hc1 (fun hHeld => ?_)
  refine wpAnyH_take (i := 0) (v := ?_) (by simp only [List.getElem?_toArray, List.getElem?_cons_zero]; rfl) (by kernel_rfl) (by kernel_rfl) (by kernel_rfl) (fun _ _ _ h => h) (Or.inl ⟨by rfl, ?_⟩) (by assumption) ?_
  rotate_left
  · intro w hSw
    try dsimp only at hSw
    go_simp
    try with_reducible rfl
  try simp only [Act.put, List.setIfInBounds_toArray, List.set_cons_zero, List.set_cons_succ]
  refine wpAnyH_take (i := 1) (v := ?_) (by simp only [List.getElem?_toArray, List.getElem?_cons_succ, List.getElem?_cons_zero]; rfl) (by kernel_rfl) (by kernel_rfl) (by kernel_rfl) (fun _ _ _ h => h) (Or.inl ⟨by rfl, ?_⟩) (by assumption) ?_
  rotate_left
  · intro w hSw
    try dsimp only at hSw
    go_simp
    try with_reducible rfl
  try simp only [Act.put, List.setIfInBounds_toArray, List.set_cons_zero, List.set_cons_succ]
  refine wpAnyH_take (i := 2) (v := ?_) (by simp only [List.getElem?_toArray, List.getElem?_cons_succ, List.getElem?_cons_zero]; rfl) (by kernel_rfl) (by kernel_rfl) (by kernel_rfl) (fun _ _ _ h => h) (Or.inl ⟨by rfl, ?_⟩) (by assumption) ?_
  rotate_left
  · intro w hSw
    try dsimp only at hSw
    go_simp
    try with_reducible rfl
  try simp only [Act.put, List.setIfInBounds_toArray, List.set_cons_zero, List.set_cons_succ]
  refine wpAnyH_take (i := 3) (v := ?_) (by simp only [List.getElem?_toArray, List.getElem?_cons_succ, List.getElem?_cons_zero]; rfl) (by kernel_rfl) (by kernel_rfl) (by kernel_rfl) (fun _ _ _ h => h) (Or.inl ⟨by rfl, ?_⟩) (by assumption) ?_
  rotate_left
  · intro w hSw
    try dsimp only at hSw
    go_simp
    try with_reducible rfl
  try simp only [Act.put, List.setIfInBounds_toArray, List.set_cons_zero, List.set_cons_succ]
  refine wpAnyH_take (i := 4) (v := ?_) (by simp only [List.getElem?_toArray, List.getElem?_cons_succ, List.getElem?_cons_zero]; rfl) (by kernel_rfl) (by kernel_rfl) (by kernel_rfl) (fun _ _ _ h => h) (Or.inl ⟨by rfl, ?_⟩) (by assumption) ?_
  rotate_left
  · intro w hSw
    try dsimp only at hSw
    go_simp
    try with_reducible rfl
  try simp only [Act.put, List.setIfInBounds_toArray, List.set_cons_zero, List.set_cons_succ]
  refine wpAnyH_take (i := 6) (v := ?_) (by simp only [List.getElem?_toArray, List.getElem?_cons_succ, List.getElem?_cons_zero]; rfl) (by kernel_rfl) (by kernel_rfl) (by kernel_rfl) (fun _ _ _ h => h) (Or.inl ⟨by rfl, ?_⟩) (by assumption) ?_
  rotate_left
  · intro w hSw
    try dsimp only at hSw
    go_simp
    try with_reducible rfl
  try simp only [Act.put, List.setIfInBounds_toArray, List.set_cons_zero, List.set_cons_succ]
  refine wpAnyH_ready (rs := [5]) (by kernel_rfl) (by simp) ?_
  refine AllReadyH.cons (by simp only [List.getElem?_toArray, List.getElem?_cons_succ, List.getElem?_cons_zero]; rfl) (fun K hK => ?_) AllReadyH.nil
  go_simp
  refine (sclone_to _ ⟨n.toArray⟩ HN2.out).mono ?_
  rintro e w3 ⟨rfl, b3⟩
  have HD3 := Lib.hid (DAt.kb (w := w1.drew) HD1.out b3)
  have HM3 := Lib.hid (MAt.kb (w := w1.drew) HM1.out b3)
  have HO3 := Lib.hid (HO1.out.drew.trans (T := fun _ => False) (Only.of_below (w := w1.drew) b3) (fun _ h => h) (fun _ _ h => h.elim))
  have hc3 : w3.cell? ⟨b, 1, none⟩ = some (.map (some c.mb)) := HD3.out.c1
  obtain ⟨w4, hrun, hm4, ho4⟩ := HM3.out.store n HS.out.1 HS.out.2 (.slice p xs.length cap) xs
  have HD4 := Lib.hid (HD3.out.kept ho4 hbm)
  have HM4 := Lib.hid hm4
  have HO4 := Lib.hid (HO3.out.trans ho4 (fun _ h => h) (fun _ _ h => .inr h))
  have hc4 : w4.cell? ⟨b, 1, none⟩ = some (.map (some c.mb)) := HD4.out.c1
  clear b3 hm4 ho4
  go_wp2_with fail
  refine hK.out _ _ hc3 (fun hHeld => ?_)
  clear hK K
  try simp only [Act.put, List.setIfInBounds_toArray, List.set_cons_zero, List.set_cons_succ]
  refine wpAnyH_ready (rs := [7]) (by kernel_rfl) (by simp) ?_
  refine AllReadyH.cons (by simp only [List.getElem?_toArray, List.getElem?_cons_succ, List.getElem?_cons_zero]; rfl) (fun K hK => ?_) AllReadyH.nil
  go_simp
  refine hK.out _ _ hc4 (fun hHeld => ?_)
  clear hK K
  try simp only [Act.put, List.setIfInBounds_toArray, List.set_cons_zero, List.set_cons_succ]
  refine wpAnyH_done (by kernel_rfl) ?_ _
  refine NoPanic.normal ?_
  go_end0
  refine ⟨rfl, ?_, HM4.out, HO4.out⟩
  rw [← HU.out]
  exact HD4.out
end Go.Proofs.YtbpccbhlggcmfaaGreatDoor
namespace Go.Proofs.YtbpccbhlggcmfaaGreatDoor
open Go.RowKit
open Go.Maps

/-- A file removed. -/
def DropPost (w : World) (b : Nat) (c : Cst) (L : List (Key × Ent)) (n : Key) (e : Ending) (w' : World) : Prop :=
  e = .returned (.tuple #[]) ∧ DAt w' b { c with used := c.used - (bytesAt n L).length } ∧ MAt w' c.mb (adel n L) ∧ Only (fun k => k = b ∨ k = c.mb) w w'
theorem own_mono {w : World} {B C e size n : Nat} {v : Value} {xs : List Value} (h : w.ownsRow B e size v n xs) (hc : C ≤ B) : w.ownsRow C e size v n xs := by
  refine ⟨h.1, ?_⟩
  rcases h.2 with h1 | ⟨g, cap, cur, h1, h2, h3⟩
  · exact .inl h1
  · exact .inr ⟨g, cap, cur, h1, Nat.le_trans hc h2, h3⟩
theorem own_take {w : World} {B : Nat} {g : Nat} {cap : Nat} {xs : List Int} (h : BOwn w B (.slice (some ⟨g, 0, none⟩) xs.length cap) xs) (n : Nat) (hn : n ≤ xs.length) : BOwn w B (.slice (some ⟨g, 0, none⟩) n cap) (xs.take n) := by
  have hl : (xs.take n).length = n := by rw [List.length_take]; omega
  refine ⟨by simp, ?_⟩
  rcases h.2 with ⟨h1, _⟩ | ⟨g', cap', cur, h1, h2, h3, h4, h5, h6, h7⟩
  · cases h1
  · cases h1
    refine .inr ⟨g, cap, cur, by rw [hl], h2, h3, by rw [hl]; omega, h5, h6, ?_⟩
    rw [hl]
    have : cur.toList.take (n * 1) = (cur.toList.take (xs.length * 1)).take n := by rw [List.take_take]; congr 1; omega
    rw [this, h7, us, us, List.map_take]

/-- The first n bytes of a slice, in the same block or in a new one. -/
def ShPost (w : World) (B : Nat) (v : Value) (xs : List Int) (e : Ending) (w' : World) : Prop :=
  ∃ v', e = .returned v' ∧ BOwn w' B v' xs ∧ Below w.heap.size w w' ∧ ∀ k, v'.ownBlock = some k → v.ownBlock = some k ∨ w.heap.size ≤ k
set_option maxRecDepth 20000 in
set_option maxHeartbeats 2000000 in
theorem shorten_to (w : World) (B : Nat) (v : Value) (xs : List Int) (n : Nat) (hn : n ≤ xs.length) (h : BOwn w B v xs) (hB : B ≤ w.heap.size) (hx : xs.length ≤ 140737488351232) :
    Calls Tryz.prog 55 #[v, .int .i64 n] w (ShPost w B v (xs.take n)) := by
  have hl : (xs.take n).length = n := by rw [List.length_take]; omega
  rcases h.2 with ⟨rfl, h0⟩ | ⟨g, cap, cur, rfl, h2, h3, h4, h5, h6, h7⟩
  · obtain rfl : xs = [] := List.eq_nil_of_length_eq_zero h0
    obtain rfl : n = 0 := by simpa using hn
    clear h h0 hl hn hx
    go_enter Tryz.func55, Tryz.ntmps55
    go_wp2
    go_ret
    exact ⟨_, rfl, World.ownsRow_nil _ _ _ _, Below.refl _ _, fun k hk => .inl hk⟩
  · have hcap : cap ≤ 9223372036854775807 := h5
    have hnc : n ≤ cap := by omega
    have ht := own_take h n hn
    have HT := Lib.hid ht
    have HC := Lib.hid (clone_any w (.slice (some ⟨g, 0, none⟩) n cap) (xs.take n) (by rw [hl]; omega) (Seen.own ht))
    have HB := Lib.hid hB
    clear h ht h2 h3 h4 h6 h7 hB
    by_cases hq : (n : Int) < (cap : Int) / 4
    · have hq' : (n : Int) < Int.tdiv (cap : Int) 4 := by rw [Int.tdiv_eq_ediv_of_nonneg (by omega)]; exact hq
      go_enter Tryz.func55, Tryz.ntmps55
      go_wp2_with (refine HC.out.mono ?_; rintro e w1 ⟨v1, rfl, o1, b1⟩; have O1 := Lib.hid o1; have B1 := Lib.hid b1; clear o1 b1)
      all_goals go_ret
      exact ⟨_, rfl, own_mono O1.out HB.out, B1.out, fun k hk => .inr (O1.out.lt k hk).1⟩
    · have hq' : ¬ (n : Int) < Int.tdiv (cap : Int) 4 := by rw [Int.tdiv_eq_ediv_of_nonneg (by omega)]; exact hq
      go_enter Tryz.func55, Tryz.ntmps55
      go_wp2_with (refine HC.out.mono ?_; rintro e w1 ⟨v1, rfl, o1, b1⟩; have O1 := Lib.hid o1; have B1 := Lib.hid b1; clear o1 b1)
      all_goals go_ret
      exact ⟨_, rfl, HT.out, Below.refl _ _, fun k hk => .inl hk⟩

end Go.Proofs.YtbpccbhlggcmfaaGreatDoor
namespace Go.Proofs.YtbpccbhlggcmfaaGreatDoor
open Go.RowKit
open Go.Maps

theorem chinfo : (Tryz.prog.info? 120).map (fun i => (i.zero, i.size, i.bytes)) = some (some (.agg #[.int .i64 0, .string ⟨#[]⟩, .string ⟨#[]⟩, .int .i64 0, .bool false, .slice none 0 0]), 6, 80) := by kernel_rfl
/-- A change as a value. -/
def Chg.val (g : Chg) : Value := .agg #[.int .i64 g.kind, stv g.name, stv g.to, .int .i64 g.size, .bool g.was, g.lost]
/-- A change of its own in memory. -/
def CAt (w : World) (k : Nat) (g : Chg) : Prop := w.heap[k]? = some (.cells #[.int .i64 g.kind, stv g.name, stv g.to, .int .i64 g.size, .bool g.was, g.lost] 120 (0, 0))
section
variable {w w' : World} {k : Nat} {g : Chg}
theorem CAt.lt (h : CAt w k g) : k < w.heap.size := lt_of_block h
theorem CAt.c0 (h : CAt w k g) : w.cell? ⟨k, 0, none⟩ = some (.int .i64 g.kind) := by rw [cell_of_row w k 0 _ _ _ h]; rfl
theorem CAt.c1 (h : CAt w k g) : w.cell? ⟨k, 1, none⟩ = some (stv g.name) := by rw [cell_of_row w k 1 _ _ _ h]; rfl
theorem CAt.c2 (h : CAt w k g) : w.cell? ⟨k, 2, none⟩ = some (stv g.to) := by rw [cell_of_row w k 2 _ _ _ h]; rfl
theorem CAt.c3 (h : CAt w k g) : w.cell? ⟨k, 3, none⟩ = some (.int .i64 g.size) := by rw [cell_of_row w k 3 _ _ _ h]; rfl
theorem CAt.c4 (h : CAt w k g) : w.cell? ⟨k, 4, none⟩ = some (.bool g.was) := by rw [cell_of_row w k 4 _ _ _ h]; rfl
theorem CAt.c5 (h : CAt w k g) : w.cell? ⟨k, 5, none⟩ = some g.lost := by rw [cell_of_row w k 5 _ _ _ h]; rfl
theorem CAt.fz (h : CAt w k g) (i : Nat) : w.frozen? ⟨k, i, none⟩ = false := by
  have h' : w.heap[k]? = some _ := h
  simp [World.frozen?, h']
theorem CAt.set1 (h : CAt w k g) : CAt (w.setCell ⟨k, 1, none⟩ (stv g.name)) k g := Lib.heap_setCell_same h _
theorem CAt.set2 (h : CAt w k g) : CAt (w.setCell ⟨k, 2, none⟩ (stv g.to)) k g := Lib.heap_setCell_same h _
theorem CAt.kept {S : Nat → Prop} (h : CAt w k g) (ho : Only S w w') (hb : ¬ S k) : CAt w' k g := (ho.block k h.lt hb).trans h
theorem CAt.kb (h : CAt w k g) (hb : Below w.heap.size w w') : CAt w' k g := h.kept (S := fun _ => False) (Only.of_below hb) (fun h => h)
end

theorem row_one {g : Chg} (h : g.lost.oneCell' = true) : ∀ u ∈ g.row, u.oneCell' = true := by
  intro u hu
  simp only [Chg.row, List.mem_cons, List.not_mem_nil, or_false] at hu
  rcases hu with rfl | rfl | rfl | rfl | rfl | rfl
  all_goals first | rfl | exact h
theorem pend_fits {n : Nat} (h : n ≤ 1000000000) : n + 1 ≤ maxLen ∧ (n + 1) * 80 ≤ 140737488355328 := by unfold maxLen; omega
theorem pv_apart {w : World} {B b : Nat} {c : Cst} {P : List Chg} (h : DAt w b c) (hp : PAt w B c.pv P) : ¬ c.pv.ownBlock = some b := by
  intro e
  obtain ⟨cs, hcs⟩ := own_type hp e
  have h' : w.heap[b]? = some _ := h
  rw [hcs] at h'
  simp at h'
theorem pv_apart' {w : World} {B b : Nat} {c : Cst} {v : Value} {P : List Chg} (h : DAt w b c) (hp : PAt w B v P) : ∀ k, v.ownBlock = some k → ¬ k = b := by
  rintro k hk rfl
  obtain ⟨cs, hcs⟩ := own_type hp hk
  have h' : w.heap[k]? = some _ := h
  rw [hcs] at h'
  simp at h'
/-- One more change is pending. -/
def PendPost (w : World) (B b : Nat) (c : Cst) (P : List Chg) (g : Chg) (e : Ending) (w' : World) : Prop :=
  e = .returned (.tuple #[]) ∧ ∃ pv', DAt w' b { c with pv := pv' } ∧ PAt w' B pv' (P ++ [g]) ∧ Only (fun k => k = b ∨ c.pv.ownBlock = some k) w w' ∧ (∀ k, pv'.ownBlock = some k → c.pv.ownBlock = some k ∨ w.heap.size ≤ k)
set_option maxRecDepth 20000 in
set_option maxHeartbeats 2000000 in
theorem pend_to (w : World) (B b : Nat) (c : Cst) (P : List Chg) (g : Chg) (h : DAt w b c) (hp : PAt w B c.pv P) (hB : B ≤ w.heap.size) (hl : P.length ≤ 1000000000) (hn : g.name.length ≤ 281474976710656) (ht : g.to.length ≤ 281474976710656) (hlo : g.lost.oneCell' = true) :
    Calls Tryz.prog 53 #[.pointer (some ⟨b,0,none⟩), g.val] w (PendPost w B b c P g) := by
  obtain ⟨i0, hi0, hz0, hz1, hz2⟩ := info_parts chinfo
  have HN := Lib.hid (And.intro hn ht)
  have HD1 : Hid (DAt (w.alloc (.cells #[.int .i64 g.kind, stv g.name, stv g.to, .int .i64 g.size, .bool g.was, g.lost] 120)) b c) := Lib.hid (h.kb ((Below.refl _ w).alloc (Nat.le_refl _) _))
  have HP1 : Hid (PAt (w.alloc (.cells #[.int .i64 g.kind, stv g.name, stv g.to, .int .i64 g.size, .bool g.was, g.lost] 120)) B c.pv P) := Lib.hid (hp.alloc _)
  have HC1 : Hid (CAt (w.alloc (.cells #[.int .i64 g.kind, stv g.name, stv g.to, .int .i64 g.size, .bool g.was, g.lost] 120)) w.heap.size g) := Lib.hid (heap_alloc_new w _)
  have HB1 : Hid (Below w.heap.size w (w.alloc (.cells #[.int .i64 g.kind, stv g.name, stv g.to, .int .i64 g.size, .bool g.was, g.lost] 120))) := Lib.hid ((Below.refl _ w).alloc (Nat.le_refl _) _)
  have HPK := Lib.hid (fun k (hk : c.pv.ownBlock = some k) => (hp.lt k hk).2)
  have HLT := Lib.hid h.lt
  have HBB := Lib.hid hB
  have HLO := Lib.hid hlo
  have HLP := Lib.hid (pend_fits hl)
  clear h hp hn ht hB hlo hl
  unfold Chg.val
  go_enter Tryz.func53, Tryz.ntmps53
  go_wp2_with fail
  generalize w.alloc (.cells #[.int .i64 g.kind, stv g.name, stv g.to, .int .i64 g.size, .bool g.was, g.lost] 120) = w1 at *
  have q1 : (w1.drew).cell? ⟨w.heap.size, 1, none⟩ = some (stv g.name) ∧ (w1.drew).cell? ⟨w.heap.size, 2, none⟩ = some (stv g.to) := ⟨HC1.out.c1, HC1.out.c2⟩
  have PK : Hid (∀ k, c.pv.ownBlock = some k → ¬ k = w.heap.size) := Lib.hid (by
    intro k hk e
    have := HPK.out k hk
    omega)
  try simp only [List.append]
  refine wp_region_noPanic ?_
  refine wp_region_held_drew (S := (fun W => W.cell? ⟨w.heap.size, 1, none⟩ = some (stv g.name) ∧ W.cell? ⟨w.heap.size, 2, none⟩ = some (stv g.to))) (by kernel_rfl) q1 (fun hHeld => ?_)
  refine wpAnyH_take (i := 0) (v := ?_) (by simp only [List.getElem?_toArray, List.getElem?_cons_zero]; rfl) (by kernel_rfl) (by kernel_rfl) (by kernel_rfl) (fun _ _ _ h => h) (Or.inl ⟨by rfl, ?_⟩) (by assumption) ?_
  rotate_left
  · intro w hSw
    try dsimp only at hSw
    go_simp
    try with_reducible rfl
  try simp only [Act.put, List.setIfInBounds_toArray, List.set_cons_zero, List.set_cons_succ]
  refine wpAnyH_take (i := 1) (v := ?_) (by simp only [List.getElem?_toArray, List.getElem?_cons_succ, List.getElem?_cons_zero]; rfl) (by kernel_rfl) (by kernel_rfl) (by kernel_rfl) (fun _ _ _ h => h) (Or.inl ⟨by rfl, ?_⟩) (by assumption) ?_
  rotate_left
  · intro w hSw
    try dsimp only at hSw
    go_simp
    try with_reducible rfl
  try simp only [Act.put, List.setIfInBounds_toArray, List.set_cons_zero, List.set_cons_succ]
  refine wpAnyH_take (i := 3) (v := ?_) (by simp only [List.getElem?_toArray, List.getElem?_cons_succ, List.getElem?_cons_zero]; rfl) (by kernel_rfl) (by kernel_rfl) (by kernel_rfl) (fun _ _ _ h => h) (Or.inl ⟨by rfl, ?_⟩) (by assumption) ?_
  rotate_left
  · intro w hSw
    try dsimp only at hSw
    go_simp
    try with_reducible rfl
  try simp only [Act.put, List.setIfInBounds_toArray, List.set_cons_zero, List.set_cons_succ]
  refine wpAnyH_take (i := 4) (v := ?_) (by simp only [List.getElem?_toArray, List.getElem?_cons_succ, List.getElem?_cons_zero]; rfl) (by kernel_rfl) (by kernel_rfl) (by kernel_rfl) (fun _ _ _ h => h) (Or.inl ⟨by rfl, ?_⟩) (by assumption) ?_
  rotate_left
  · intro w hSw
    try dsimp only at hSw
    go_simp
    try with_reducible rfl
  try simp only [Act.put, List.setIfInBounds_toArray, List.set_cons_zero, List.set_cons_succ]
  refine wpAnyH_ready (rs := [2]) (by kernel_rfl) (by simp) ?_
  refine AllReadyH.cons (by simp only [List.getElem?_toArray, List.getElem?_cons_succ, List.getElem?_cons_zero]; rfl) (fun K hK => ?_) AllReadyH.nil
  go_simp
  refine (sclone_to _ ⟨g.name.toArray⟩ HN.out.1).mono ?_
  rintro e W2 ⟨rfl, b2⟩
  have HD2 := Lib.hid (DAt.kb (w := w1.drew) HD1.out b2)
  have HP2 : Hid (PAt W2 B c.pv P) := Lib.hid (own_kept (w := w1.drew) HP1.out (S := fun _ => False) (Only.of_below b2) (fun _ _ h => h))
  have HC2 := Lib.hid (CAt.kb (w := w1.drew) HC1.out b2)
  have HB2 := Lib.hid (Below.trans (b := w1.drew) HB1.out.drew (b2.mono HB1.out.size))
  have q2 : W2.cell? ⟨w.heap.size, 1, none⟩ = some (stv g.name) ∧ W2.cell? ⟨w.heap.size, 2, none⟩ = some (stv g.to) := ⟨HC2.out.c1, HC2.out.c2⟩
  clear b2
  go_wp2_with fail
  refine hK.out _ _ q2 (fun hHeld => ?_)
  clear hK K
  try simp only [Act.put, List.setIfInBounds_toArray, List.set_cons_zero, List.set_cons_succ]
  refine wpAnyH_take (i := 6) (v := ?_) (by simp only [List.getElem?_toArray, List.getElem?_cons_succ, List.getElem?_cons_zero]; rfl) (by kernel_rfl) (by kernel_rfl) (by kernel_rfl) (fun _ _ _ h => h) (Or.inl ⟨by rfl, ?_⟩) (by assumption) ?_
  rotate_left
  · intro w hSw
    try dsimp only at hSw
    go_simp
    try with_reducible rfl
  try simp only [Act.put, List.setIfInBounds_toArray, List.set_cons_zero, List.set_cons_succ]
  refine wpAnyH_ready (rs := [5]) (by kernel_rfl) (by simp) ?_
  refine AllReadyH.cons (by simp only [List.getElem?_toArray, List.getElem?_cons_succ, List.getElem?_cons_zero]; rfl) (fun K hK => ?_) AllReadyH.nil
  go_simp
  refine (sclone_to _ ⟨g.to.toArray⟩ HN.out.2).mono ?_
  rintro e W3 ⟨rfl, b3⟩
  have HD3 := Lib.hid (DAt.kb (w := W2) HD2.out b3)
  have HP3 : Hid (PAt W3 B c.pv P) := Lib.hid (own_kept (w := W2) HP2.out (S := fun _ => False) (Only.of_below b3) (fun _ _ h => h))
  have HC3 := Lib.hid (CAt.kb (w := W2) HC2.out b3)
  have HB3 := Lib.hid (Below.trans (b := W2) HB2.out (b3.mono HB2.out.size))
  have q3 : W3.cell? ⟨w.heap.size, 1, none⟩ = some (stv g.name) ∧ W3.cell? ⟨w.heap.size, 2, none⟩ = some (stv g.to) := ⟨HC3.out.c1, HC3.out.c2⟩
  clear b3
  go_wp2_with fail
  refine hK.out _ _ q3 (fun hHeld => ?_)
  clear hK K
  try simp only [Act.put, List.setIfInBounds_toArray, List.set_cons_zero, List.set_cons_succ]
  have f3 := HC3.out.fz 1
  have c3 := HC3.out.c1
  refine wpAnyH_ready (rs := [7]) (by kernel_rfl) (by simp) ?_
  refine AllReadyH.cons (by simp only [List.getElem?_toArray, List.getElem?_cons_succ, List.getElem?_cons_zero]; rfl) (fun K hK => ?_) AllReadyH.nil
  go_simp
  refine hK.out _ _ ⟨(HC3.out.set1).c1, (HC3.out.set1).c2⟩ (fun hHeld => ?_)
  clear hK K
  try simp only [Act.put, List.setIfInBounds_toArray, List.set_cons_zero, List.set_cons_succ]
  have HD4 := Lib.hid (HD3.out.kept ((Only.refl _ _).one (S := fun k => k = w.heap.size) (b := w.heap.size) (i := 1) rfl (stv g.name)) (by have := HLT.out; omega))
  have HP4 : Hid (PAt (W3.setCell ⟨w.heap.size, 1, none⟩ (stv g.name)) B c.pv P) := Lib.hid (own_kept HP3.out ((Only.refl _ _).one (S := fun k => k = w.heap.size) (b := w.heap.size) (i := 1) rfl (stv g.name)) PK.out)
  have HC4 := Lib.hid HC3.out.set1
  have HB4 := Lib.hid (HB3.out.setCell (p := ⟨w.heap.size, 1, none⟩) (Nat.le_refl _) (stv g.name))
  clear f3 c3
  generalize W3.setCell ⟨w.heap.size, 1, none⟩ (stv g.name) = W4 at *
  refine wpAnyH_take (i := 8) (v := ?_) (by simp only [List.getElem?_toArray, List.getElem?_cons_succ, List.getElem?_cons_zero]; rfl) (by kernel_rfl) (by kernel_rfl) (by kernel_rfl) (fun _ _ _ h => h) (Or.inl ⟨by rfl, ?_⟩) (by assumption) ?_
  rotate_left
  · intro w hSw
    try dsimp only at hSw
    go_simp
    try with_reducible rfl
  try simp only [Act.put, List.setIfInBounds_toArray, List.set_cons_zero, List.set_cons_succ]
  have f4 := HC4.out.fz 2
  have c4 := HC4.out.c2
  refine wpAnyH_ready (rs := [9]) (by kernel_rfl) (by simp) ?_
  refine AllReadyH.cons (by simp only [List.getElem?_toArray, List.getElem?_cons_succ, List.getElem?_cons_zero]; rfl) (fun K hK => ?_) AllReadyH.nil
  go_simp
  refine hK.out _ _ ⟨(HC4.out.set2).c1, (HC4.out.set2).c2⟩ (fun hHeld => ?_)
  clear hK K
  try simp only [Act.put, List.setIfInBounds_toArray, List.set_cons_zero, List.set_cons_succ]
  have HD5 := Lib.hid (HD4.out.kept ((Only.refl _ _).one (S := fun k => k = w.heap.size) (b := w.heap.size) (i := 2) rfl (stv g.to)) (by have := HLT.out; omega))
  have HP5 : Hid (PAt (W4.setCell ⟨w.heap.size, 2, none⟩ (stv g.to)) B c.pv P) := Lib.hid (own_kept HP4.out ((Only.refl _ _).one (S := fun k => k = w.heap.size) (b := w.heap.size) (i := 2) rfl (stv g.to)) PK.out)
  have HC5 := Lib.hid HC4.out.set2
  have HB5 := Lib.hid (HB4.out.setCell (p := ⟨w.heap.size, 2, none⟩) (Nat.le_refl _) (stv g.to))
  clear f4 c4
  generalize W4.setCell ⟨w.heap.size, 2, none⟩ (stv g.to) = W5 at *
  refine wpAnyH_done (by kernel_rfl) ?_ _
  refine NoPanic.normal ?_
  have c3 := HD5.out.c3
  have hf3 := HD5.out.fz 3
  have hbl := HD5.out.lt
  have e0 := HC5.out.c0
  have e1 := HC5.out.c1
  have e2 := HC5.out.c2
  have e3 := HC5.out.c3
  have e4 := HC5.out.c4
  have e5 := HC5.out.c5
  clear q1 q2 q3
  go_wp2_with fail
  have hcl := HC5.out.lt
  have WF := Lib.hid HB5.out.size
  have HN6 : Hid (∀ j u, g.row[j]? = some u → (W5.alloc (.cells #[.int .i64 g.kind, stv g.name, stv g.to, .int .i64 g.size, .bool g.was, g.lost] 120)).cell? ((⟨W5.heap.size, 0, none⟩ : Addr).add j) = some u) := Lib.hid (World.news_of_block (cs := #[.int .i64 g.kind, stv g.name, stv g.to, .int .i64 g.size, .bool g.was, g.lost]) (t := 120) (fr := (0, 0)) (heap_alloc_new W5 _))
  have HP7 : Hid (PAt (W5.alloc (.cells #[.int .i64 g.kind, stv g.name, stv g.to, .int .i64 g.size, .bool g.was, g.lost] 120)) B c.pv P) := Lib.hid (HP5.out.alloc _)
  have HD7 : Hid (DAt (W5.alloc (.cells #[.int .i64 g.kind, stv g.name, stv g.to, .int .i64 g.size, .bool g.was, g.lost] 120)) b c) := Lib.hid (HD5.out.kb ((Below.refl _ W5).alloc (Nat.le_refl _) _))
  have HB7 : Hid (Below w.heap.size w (W5.alloc (.cells #[.int .i64 g.kind, stv g.name, stv g.to, .int .i64 g.size, .bool g.was, g.lost] 120))) := Lib.hid (HB5.out.alloc HB5.out.size _)
  have HZ : Hid (((W5.alloc (.cells #[.int .i64 g.kind, stv g.name, stv g.to, .int .i64 g.size, .bool g.was, g.lost] 120)).drew).heap.size = W5.heap.size + 1) := Lib.hid (by show (W5.alloc (.cells #[.int .i64 g.kind, stv g.name, stv g.to, .int .i64 g.size, .bool g.was, g.lost] 120)).heap.size = _; simp)
  generalize hwb : W5.heap.size = wb at *
  go_region_law
    ((refine step_append_lies _ (by rfl) _ _ _ (by rfl) B 120 i0 _ 6 80 Tryz.underlying68 hi0 hz0 hz1 hz2 rfl (by omega) c.pv P.length (crows P) (by rfl) (HP7.out.drew) ⟨wb, 0, none⟩ 1 1 g.row (by rfl) (by rfl) (fun j u hj => HN6.out j u hj) (row_one HLO.out) (by decide) HLP.out.1 HLP.out.2 (Nat.le_trans HBB.out HB7.out.size) _ HZ.out ?_; intro gg cap w8 own8 grow8 hat8 hlt8; have O8 := Lib.hid own8; have HO8 : Hid (Only (fun k => c.pv.ownBlock = some k) (W5.alloc (.cells #[.int .i64 g.kind, stv g.name, stv g.to, .int .i64 g.size, .bool g.was, g.lost] 120)) w8) := Lib.hid ((Only.refl _ _).drew.grown grow8 (fun k _ e => e)); have HD8 : Hid (DAt w8 b c) := Lib.hid (HD7.out.kept HO8.out (pv_apart HD7.out HP7.out)); have HAT := Lib.hid hat8; have f8 := HD8.out.fz 3; have c8 := HD8.out.c3; clear own8 grow8 hat8 hlt8))
  all_goals
    go_end0
    refine ⟨rfl, .slice (some ⟨gg, 0, none⟩) (P.length + 1) cap, HD8.out.set3 _, ?_, ?_, ?_⟩
    · have h9 : PAt w8 B (.slice (some ⟨gg, 0, none⟩) (P.length + 1) cap) (P ++ [g]) := ⟨by rw [crows_length], by
        have := O8.out.2
        rw [show (P ++ [g]).length = P.length + 1 from by simp, show crows (P ++ [g]) = crows P ++ g.row from by simp [crows]]
        exact this⟩
      exact own_kept h9 ((Only.refl _ w8).one (S := fun k => k = b) (b := b) (i := 3) rfl _) (pv_apart' HD8.out h9)
    · have o1 : Only (fun k => k = b ∨ c.pv.ownBlock = some k) w (W5.alloc (.cells #[.int .i64 g.kind, stv g.name, stv g.to, .int .i64 g.size, .bool g.was, g.lost] 120)) := Only.of_below HB7.out
      have o2 := o1.trans HO8.out (fun _ h => h) (fun _ _ h => .inr h)
      exact o2.one (.inl rfl) _
    · intro k hk
      simp only [Value.ownBlock, Option.some.injEq] at hk
      subst hk
      rcases HAT.out with h | h
      · exact .inl h
      · exact .inr (by have := WF.out; omega)
end Go.Proofs.YtbpccbhlggcmfaaGreatDoor
