/- Things by name as a list in ascending order: plain mathematics. No condition. -/
import Derived.Test.YthfkmfepeafgjaaOctBits
import Derived.Maps.OwnSet
namespace Go.Proofs.Ythfkmfepeafgjaa
open Go.RowKit
open Go.Maps

abbrev Key := List UInt8

theorem bb_irrefl : ∀ a : Key, bytesBefore a a = false
  | [] => rfl
  | x :: a => by simp [bytesBefore, bb_irrefl a, UInt8.lt_irrefl]
theorem bb_trans : ∀ a b c : Key, bytesBefore a b = true → bytesBefore b c = true → bytesBefore a c = true
  | [], [], _, h, _ => by simp [bytesBefore] at h
  | [], _ :: _, [], _, h => by simp [bytesBefore] at h
  | [], _ :: _, _ :: _, _, _ => rfl
  | _ :: _, [], _, h, _ => by simp [bytesBefore] at h
  | _ :: _, _ :: _, [], _, h => by simp [bytesBefore] at h
  | x :: a, y :: b, z :: c, h1, h2 => by
    simp only [bytesBefore, Bool.or_eq_true, Bool.and_eq_true, decide_eq_true_eq, beq_iff_eq] at h1 h2 ⊢
    rcases h1 with h1 | ⟨rfl, h1⟩
    · rcases h2 with h2 | ⟨rfl, h2⟩
      · exact .inl (UInt8.lt_trans h1 h2)
      · exact .inl h1
    · rcases h2 with h2 | ⟨rfl, h2⟩
      · exact .inl h2
      · exact .inr ⟨rfl, bb_trans a b c h1 h2⟩
theorem bb_total : ∀ a b : Key, bytesBefore a b = true ∨ a = b ∨ bytesBefore b a = true
  | [], [] => .inr (.inl rfl)
  | [], _ :: _ => .inl rfl
  | _ :: _, [] => .inr (.inr rfl)
  | x :: a, y :: b => by
    simp only [bytesBefore, Bool.or_eq_true, Bool.and_eq_true, decide_eq_true_eq, beq_iff_eq]
    by_cases h1 : x < y
    · exact .inl (.inl h1)
    by_cases h2 : y < x
    · exact .inr (.inr (.inl h2))
    obtain rfl : x = y := UInt8.le_antisymm (UInt8.not_lt.1 h2) (UInt8.not_lt.1 h1)
    rcases bb_total a b with h | rfl | h
    · exact .inl (.inr ⟨rfl, h⟩)
    · exact .inr (.inl rfl)
    · exact .inr (.inr (.inr ⟨rfl, h⟩))

section
variable {α β : Type}
/-- A file laid in its place. -/
def ains (x : Key × α) : List (Key × α) → List (Key × α)
  | [] => [x]
  | y :: r => if bytesBefore x.1 y.1 then x :: y :: r else y :: ains x r
def adel (n : Key) (l : List (Key × α)) : List (Key × α) := l.filter fun p => !(p.1 == n)
def aput (n : Key) (a : α) (l : List (Key × α)) : List (Key × α) := ains (n, a) (adel n l)
def aget (n : Key) (l : List (Key × α)) : Option α := (l.find? fun p => p.1 == n).map (·.2)

theorem fpos {m : Key} {y : Key × α} {l : List (Key × α)} (h : (y.1 == m) = true) : (y :: l).find? (fun p => p.1 == m) = some y := List.find?_cons_of_pos (p := fun p : Key × α => p.1 == m) h
theorem fneg {m : Key} {y : Key × α} {l : List (Key × α)} (h : ¬ (y.1 == m) = true) : (y :: l).find? (fun p => p.1 == m) = l.find? (fun p => p.1 == m) := List.find?_cons_of_neg (p := fun p : Key × α => p.1 == m) h
theorem gpos {m : Key} {y : Key × α} {l : List (Key × α)} (h : y.1 = m) : aget m (y :: l) = some y.2 := by unfold aget; rw [fpos (by simpa using h)]; rfl
theorem gneg {m : Key} {y : Key × α} {l : List (Key × α)} (h : ¬ y.1 = m) : aget m (y :: l) = aget m l := by unfold aget; rw [fneg (by simpa using h)]
def AAsc (l : List (Key × α)) : Prop := l.Pairwise fun p q => bytesBefore p.1 q.1 = true
theorem AAsc.nil : AAsc ([] : List (Key × α)) := List.Pairwise.nil
theorem AAsc.del {l : List (Key × α)} (h : AAsc l) (n : Key) : AAsc (adel n l) := h.sublist List.filter_sublist
theorem ains_mem (x : Key × α) : ∀ (l : List (Key × α)) (y : Key × α), y ∈ ains x l ↔ y = x ∨ y ∈ l
  | [], y => by simp [ains]
  | z :: l, y => by
    rw [ains]
    split
    · simp
    · simp only [List.mem_cons, ains_mem x l y]
      constructor
      · rintro (h | h | h) <;> simp [h]
      · rintro (h | h | h) <;> simp [h]
theorem adel_mem (n : Key) (l : List (Key × α)) (y : Key × α) : y ∈ adel n l ↔ y ∈ l ∧ y.1 ≠ n := by
  simp [adel, List.mem_filter]
theorem AAsc.ins {x : Key × α} : ∀ {l : List (Key × α)}, AAsc l → (∀ y ∈ l, y.1 ≠ x.1) → AAsc (ains x l)
  | [], _, _ => List.pairwise_singleton _ _
  | y :: l, h, hx => by
    obtain ⟨h1, h2⟩ := List.pairwise_cons.1 h
    rw [ains]
    split
    · rename_i hb
      refine List.pairwise_cons.2 ⟨fun z hz => ?_, h⟩
      rcases List.mem_cons.1 hz with rfl | hz
      · exact hb
      · exact bb_trans _ _ _ hb (h1 z hz)
    · rename_i hb
      refine List.pairwise_cons.2 ⟨fun z hz => ?_, AAsc.ins h2 (fun z hz => hx z (List.mem_cons_of_mem _ hz))⟩
      rcases (ains_mem _ _ _).1 hz with rfl | hz
      · rcases bb_total y.1 z.1 with h3 | h3 | h3
        · exact h3
        · exact absurd h3 (hx y List.mem_cons_self)
        · exact absurd h3 hb
      · exact h1 z hz
theorem AAsc.put {l : List (Key × α)} (h : AAsc l) (n : Key) (a : α) : AAsc (aput n a l) :=
  (h.del n).ins fun y hy => ((adel_mem n l y).1 hy).2

theorem aget_ins_same (n : Key) (a : α) : ∀ l : List (Key × α), (∀ y ∈ l, y.1 ≠ n) → aget n (ains (n, a) l) = some a
  | [], _ => by simp [ains, aget]
  | y :: l, h => by
    have h1 : y.1 ≠ n := h y List.mem_cons_self
    have ih := aget_ins_same n a l (fun z hz => h z (List.mem_cons_of_mem _ hz))
    rw [ains]
    split
    · simp [aget]
    · rw [gneg h1]; exact ih
theorem aget_ins_other (n m : Key) (a : α) (hne : m ≠ n) : ∀ l : List (Key × α), aget m (ains (n, a) l) = aget m l
  | [] => by simp [ains, aget, Ne.symm hne]
  | y :: l => by
    have ih := aget_ins_other n m a hne l
    rw [ains]
    split
    · simp [aget, Ne.symm hne]
    · by_cases h : y.1 = m
      · rw [gpos h, gpos h]
      · rw [gneg h, gneg h]; exact ih
theorem aget_del_same (n : Key) (l : List (Key × α)) : aget n (adel n l) = none := by
  unfold aget
  rw [List.find?_eq_none.2 (fun y hy => by simpa using ((adel_mem n l y).1 hy).2)]
  rfl
theorem aget_del_other (n m : Key) (hne : m ≠ n) : ∀ l : List (Key × α), aget m (adel n l) = aget m l
  | [] => rfl
  | y :: l => by
    have ih := aget_del_other n m hne l
    unfold adel at ih ⊢
    by_cases h : y.1 = n
    · rw [List.filter_cons_of_neg (by simp [h]), gneg (by rw [h]; exact Ne.symm hne)]
      exact ih
    · rw [List.filter_cons_of_pos (by simpa using h)]
      by_cases h2 : y.1 = m
      · rw [gpos h2, gpos h2]
      · rw [gneg h2, gneg h2]; exact ih
theorem aget_put_same (n : Key) (a : α) (l : List (Key × α)) : aget n (aput n a l) = some a := aget_ins_same n a _ fun y hy => ((adel_mem n l y).1 hy).2
theorem aget_put_other (n m : Key) (a : α) (hne : m ≠ n) (l : List (Key × α)) : aget m (aput n a l) = aget m l := by
  rw [aput, aget_ins_other n m a hne, aget_del_other n m hne]
theorem aget_nil (n : Key) : aget n ([] : List (Key × α)) = none := rfl
theorem aget_mem {n : Key} {a : α} {l : List (Key × α)} (h : aget n l = some a) : (n, a) ∈ l := by
  unfold aget at h
  obtain ⟨p, hp, rfl⟩ := Option.map_eq_some_iff.1 h
  have h1 := List.mem_of_find?_eq_some hp
  have h2 := List.find?_some hp
  simp only [beq_iff_eq] at h2
  rw [← h2]; exact h1
theorem aget_of_mem {n : Key} {a : α} : ∀ {l : List (Key × α)}, AAsc l → (n, a) ∈ l → aget n l = some a
  | [], _, h => by cases h
  | y :: l, hs, h => by
    obtain ⟨h1, h2⟩ := List.pairwise_cons.1 hs
    rcases List.mem_cons.1 h with rfl | h
    · simp [aget]
    · have h3 := h1 _ h
      have h4 : y.1 ≠ n := fun e => by rw [e] at h3; rw [bb_irrefl] at h3; cases h3
      rw [gneg h4]; exact aget_of_mem h2 h

theorem asc_head_min {y z : Key × α} {l : List (Key × α)} (h : AAsc (y :: l)) (hz : z ∈ l) : bytesBefore y.1 z.1 = true := (List.pairwise_cons.1 h).1 z hz
/-- Two lists in ascending order that answer alike are one. -/
theorem aext : ∀ {l m : List (Key × α)}, AAsc l → AAsc m → (∀ n, aget n l = aget n m) → l = m
  | [], [], _, _, _ => rfl
  | [], y :: m, _, _, h => by have := h y.1; simp [aget] at this
  | y :: l, [], _, _, h => by have := h y.1; simp [aget] at this
  | y :: l, z :: m, hl, hm, h => by
    have e : y = z := by
      have h1 := h y.1
      have h2 := h z.1
      have hy : aget y.1 (y :: l) = some y.2 := by simp [aget]
      have hz : aget z.1 (z :: m) = some z.2 := by simp [aget]
      rw [hy] at h1
      rw [hz] at h2
      have m1 := aget_mem h1.symm
      have m2 := aget_mem h2
      rcases List.mem_cons.1 m1 with e1 | m1
      · rw [← e1]
      · rcases List.mem_cons.1 m2 with e2 | m2
        · rw [← e2]
        · have b1 := asc_head_min hm m1
          have b2 := asc_head_min hl m2
          have b3 := bb_trans _ _ _ b1 b2
          rw [bb_irrefl] at b3
          cases b3
    subst e
    obtain ⟨l1, l2⟩ := List.pairwise_cons.1 hl
    obtain ⟨m1, m2⟩ := List.pairwise_cons.1 hm
    refine congrArg _ (aext l2 m2 fun n => ?_)
    have h0 := h n
    by_cases hn : y.1 = n
    · have a1 : aget n l = none := by
        cases hg : aget n l with
        | none => rfl
        | some a => have := l1 _ (aget_mem hg); rw [hn, bb_irrefl] at this; cases this
      have a2 : aget n m = none := by
        cases hg : aget n m with
        | none => rfl
        | some a => have := m1 _ (aget_mem hg); rw [hn, bb_irrefl] at this; cases this
      rw [a1, a2]
    · rwa [gneg hn, gneg hn] at h0

/-- What all files come to. -/
def asum (f : α → Nat) (l : List (Key × α)) : Nat := (l.map fun p => f p.2).sum
theorem asum_ins (f : α → Nat) (x : Key × α) : ∀ l, asum f (ains x l) = f x.2 + asum f l
  | [] => by simp [ains, asum]
  | y :: l => by
    have ih := asum_ins f x l
    rw [ains]
    split
    · simp [asum]
    · simp only [asum, List.map_cons, List.sum_cons] at ih ⊢; omega
def olen (f : α → Nat) : Option α → Nat
  | none => 0
  | some a => f a
theorem adel_none {n : Key} : ∀ {l : List (Key × α)}, aget n l = none → adel n l = l
  | [], _ => rfl
  | y :: l, h => by
    by_cases hy : y.1 = n
    · rw [gpos hy] at h; cases h
    · rw [gneg hy] at h
      have ih := adel_none (l := l) h
      unfold adel at ih ⊢
      rw [List.filter_cons_of_pos (by simpa using hy), ih]
theorem asum_del (f : α → Nat) (n : Key) : ∀ {l : List (Key × α)}, AAsc l → asum f (adel n l) + olen f (aget n l) = asum f l
  | [], _ => rfl
  | y :: l, h => by
    obtain ⟨h1, h2⟩ := List.pairwise_cons.1 h
    have ih := asum_del f n h2
    by_cases hy : y.1 = n
    · have a1 : aget n l = none := by
        cases hg : aget n l with
        | none => rfl
        | some a => have := h1 _ (aget_mem hg); rw [hy, bb_irrefl] at this; cases this
      have a2 : adel n (y :: l) = l := by
        have := adel_none a1
        unfold adel at this ⊢
        rw [List.filter_cons_of_neg (by simp [hy]), this]
      have a3 : aget n (y :: l) = some y.2 := gpos hy
      rw [a2, a3]
      simp only [olen, asum, List.map_cons, List.sum_cons]; omega
    · have a2 : adel n (y :: l) = y :: adel n l := by unfold adel; rw [List.filter_cons_of_pos (by simpa using hy)]
      have a3 : aget n (y :: l) = aget n l := gneg hy
      rw [a2, a3]
      simp only [asum, List.map_cons, List.sum_cons] at ih ⊢; omega
theorem asum_put (f : α → Nat) (n : Key) (a : α) {l : List (Key × α)} (h : AAsc l) : asum f (aput n a l) + olen f (aget n l) = f a + asum f l := by
  rw [aput, asum_ins]
  have := asum_del f n h
  simp only; omega

/-- Files of which less is told. -/
def amap (g : α → β) (l : List (Key × α)) : List (Key × β) := l.map fun p => (p.1, g p.2)
theorem amap_ins (g : α → β) (x : Key × α) : ∀ l, amap g (ains x l) = ains (x.1, g x.2) (amap g l)
  | [] => rfl
  | y :: l => by
    have ih := amap_ins g x l
    simp only [ains, amap, List.map_cons] at ih ⊢
    split <;> simp [ih]
theorem amap_del (g : α → β) (n : Key) (l : List (Key × α)) : amap g (adel n l) = adel n (amap g l) := by
  unfold amap adel
  rw [List.filter_map]
  rfl
theorem amap_put (g : α → β) (n : Key) (a : α) (l : List (Key × α)) : amap g (aput n a l) = aput n (g a) (amap g l) := by
  rw [aput, amap_ins, amap_del]; rfl
theorem amap_get (g : α → β) (n : Key) : ∀ l : List (Key × α), aget n (amap g l) = (aget n l).map g
  | [] => rfl
  | y :: l => by
    have ih := amap_get g n l
    unfold amap at ih ⊢
    rw [List.map_cons]
    by_cases hy : y.1 = n
    · rw [gpos hy, gpos (by exact hy)]; rfl
    · rw [gneg hy, gneg (by exact hy)]; exact ih
theorem amap_asc (g : α → β) {l : List (Key × α)} (h : AAsc l) : AAsc (amap g l) := List.pairwise_map.2 h
theorem asum_amap (f : β → Nat) (g : α → β) (l : List (Key × α)) : asum f (amap g l) = asum (fun a => f (g a)) l := by
  simp [asum, amap, Function.comp_def]
end

/-- A map's element read as what it is. -/
def rdv (v : Value) : Option (DataW Value × List MemPlace) := some (.held v, [])
theorem same_str (a b : Key) : (Lit.string a).sameKey (.string b) = (a == b) := rfl
end Go.Proofs.Ythfkmfepeafgjaa
