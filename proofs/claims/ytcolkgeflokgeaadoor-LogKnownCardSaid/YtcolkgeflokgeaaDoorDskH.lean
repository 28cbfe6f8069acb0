/- What tear does with the last change that is left. Conditions: the numbers are no greater than a program's may be. · What pends as works on the files, and what undoing makes of them: plain mathematics. No condition. -/
import Derived.Test.YtcolkgeflokgeaaDoorDskW
import Derived.Deep.RegionHeld3
namespace Go.Proofs.YtcolkgeflokgeaaDoor
open Go.RowKit
open Go.Maps

theorem DTo.from {w w1 w' : World} {B b : Nat} {S : Nat → Prop} {c : Cst} {L : List (Key × Ent)} {Pf P : List Chg} (h : DTo w1 B b S c L Pf P w') (h0 : Only S w w1) : DTo w B b S c L Pf P w' :=
  ⟨h.1, h0.trans h.2.1 (fun _ h => h) (fun _ _ h => h), fun k hk => by
    rcases h.2.2 k hk with e | e
    · exact .inl e
    · exact .inr (Nat.le_trans h0.size e)⟩
/-- What is left behind a torn change. -/
def tearF (g : Chg) (cut : Int) (F : Fil) : Fil :=
  if g.kind = 0 then (if cut % (((fbytes g.name F).length : Int) - g.size + 1) = 0 then undoF g F else aput g.name ((fbytes g.name F).take (g.size + (cut % (((fbytes g.name F).length : Int) - g.size + 1)).toNat)) F) else undoF g F
def TearPost (w : World) (B b : Nat) (c : Cst) (L : List (Key × Ent)) (Pf P : List Chg) (g : Chg) (cut : Int) (e : Ending) (w' : World) : Prop :=
  e = .returned (.tuple #[]) ∧ ∃ u L', DTo w B b (Foot b c L (P ++ [g])) { c with used := u } L' Pf P w' ∧ fb L' = tearF g cut (fb L)
theorem only_drn {S : Nat → Prop} {w w1 : World} (h : Only S w w1) (q : Nat) : Only S w (w1.drewN q) := ⟨h.os, h.tape, h.output, h.size, h.block⟩
theorem DC.drn {w : World} {B b : Nat} {c : Cst} {L : List (Key × Ent)} {Pf P : List Chg} (h : DC w B b c L Pf P) (q : Nat) : DC (w.drewN q) B b c L Pf P := h.kept (S := fun _ => False) (Only.of_below ⟨rfl, rfl, rfl, Nat.le_refl _, fun _ _ => rfl⟩) (fun _ _ h => h)

end Go.Proofs.YtcolkgeflokgeaaDoor
namespace Go.Proofs.YtcolkgeflokgeaaDoor
open Go.RowKit
open Go.Maps

/-- A work: 0 append, 1 truncate, 2 rename, 3 remove. -/
structure Wk where
  kind : Nat
  name : Key
  to : Key
  bs : List Int
  n : Nat
def turn (F : Fil) (k : Wk) : Fil :=
  if k.kind = 0 then aput k.name (fbytes k.name F ++ k.bs) F
  else if k.kind = 1 then aput k.name ((fbytes k.name F).take k.n) F
  else if k.kind = 2 then aput k.to (fbytes k.name F) (adel k.name F)
  else adel k.name F
/-- What a work wants of the files. -/
structure Fits (F : Fil) (k : Wk) : Prop where
  kind : k.kind ≤ 3
  n1 : k.name.length ≤ 20
  n2 : k.to.length ≤ 20
  there : k.kind ≠ 0 → (aget k.name F).isSome = true
  long : k.kind = 1 → k.n ≤ (fbytes k.name F).length
/-- The change that remembers a work. -/
structure Ch (F : Fil) (k : Wk) (g : Chg) : Prop where
  kind : g.kind = (k.kind : Int)
  name : g.name = k.name
  n2 : g.to.length ≤ 20
  a1 : k.kind = 0 → g.size = (fbytes k.name F).length ∧ g.was = (aget k.name F).isSome
  a2 : k.kind = 1 → g.xs = (fbytes k.name F).drop k.n
  a3 : k.kind = 2 → g.to = k.to ∧ g.was = (aget k.to (adel k.name F)).isSome ∧ g.xs = fbytes k.to (adel k.name F)
  a4 : k.kind = 3 → g.xs = fbytes k.name F
  xl : g.xs.length ≤ totF F
theorem fbytes_le (n : Key) (F : Fil) : (fbytes n F).length ≤ totF F := by
  unfold fbytes
  cases h : aget n F with
  | none => simp
  | some x => exact asum_pos (f := List.length) (e := (n, x)) (aget_mem h)
theorem fbytes_put_same (n : Key) (xs : List Int) (F : Fil) : fbytes n (aput n xs F) = xs := by unfold fbytes; rw [aget_put_same]; rfl
theorem fbytes_put_other (n m : Key) (xs : List Int) (h : m ≠ n) (F : Fil) : fbytes m (aput n xs F) = fbytes m F := by unfold fbytes; rw [aget_put_other n m xs h]
theorem fbytes_del_other (n m : Key) (h : m ≠ n) (F : Fil) : fbytes m (adel n F) = fbytes m F := by unfold fbytes; rw [aget_del_other n m h]
theorem fbytes_none {n : Key} {F : Fil} (h : (aget n F).isSome = false) : fbytes n F = [] := by unfold fbytes; cases hg : aget n F <;> simp_all
theorem aget_of_some {n : Key} {F : Fil} (h : (aget n F).isSome = true) : aget n F = some (fbytes n F) := by unfold fbytes; cases hg : aget n F <;> simp_all
theorem turn_asc {F : Fil} (h : AAsc F) (k : Wk) : AAsc (turn F k) := by
  unfold turn
  split
  · exact h.put _ _
  · split
    · exact h.put _ _
    · split
      · exact (h.del _).put _ _
      · exact h.del _
/-- An undone work leaves the files as they were. -/
theorem undo_turn {F : Fil} {k : Wk} {g : Chg} (hF : AAsc F) (hf : Fits F k) (hc : Ch F k g) : undoF g (turn F k) = F := by
  have hT := turn_asc hF k
  have hk := hf.kind
  by_cases k0 : k.kind = 0
  · obtain ⟨hs, hw⟩ := hc.a1 k0
    have hg0 : g.kind = 0 := by rw [hc.kind, k0]; rfl
    unfold undoF
    rw [if_pos hg0, hc.name]
    have ht : turn F k = aput k.name (fbytes k.name F ++ k.bs) F := by unfold turn; rw [if_pos k0]
    cases hsome : (aget k.name F).isSome with
    | true =>
      rw [hw, hsome, if_pos rfl, ht, fbytes_put_same, hs, List.take_left]
      refine aext ((hF.put _ _).put _ _) hF fun n => ?_
      by_cases hn : n = k.name
      · subst hn; rw [aget_put_same, aget_of_some hsome]
      · rw [aget_put_other _ _ _ hn, aget_put_other _ _ _ hn]
    | false =>
      rw [hw, hsome, ht]
      simp only [Bool.false_eq_true, if_false]
      refine aext ((hF.put _ _).del _) hF fun n => ?_
      by_cases hn : n = k.name
      · subst hn; rw [aget_del_same]; cases hg : aget k.name F <;> simp_all
      · rw [aget_del_other _ _ hn, aget_put_other _ _ _ hn]
  by_cases k1 : k.kind = 1
  · have hxs := hc.a2 k1
    have hg1 : g.kind = 1 := by rw [hc.kind, k1]; rfl
    have ht : turn F k = aput k.name ((fbytes k.name F).take k.n) F := by unfold turn; rw [if_neg k0, if_pos k1]
    unfold undoF
    rw [if_neg (by omega), if_pos hg1, hc.name, ht, fbytes_put_same, hxs, List.take_append_drop]
    refine aext ((hF.put _ _).put _ _) hF fun n => ?_
    by_cases hn : n = k.name
    · subst hn; rw [aget_put_same, aget_of_some (hf.there k0)]
    · rw [aget_put_other _ _ _ hn, aget_put_other _ _ _ hn]
  by_cases k2 : k.kind = 2
  · obtain ⟨hto, hw, hxs⟩ := hc.a3 k2
    have hg2 : g.kind = 2 := by rw [hc.kind, k2]; rfl
    have ht : turn F k = aput k.to (fbytes k.name F) (adel k.name F) := by unfold turn; rw [if_neg k0, if_neg k1, if_pos k2]
    unfold undoF
    rw [if_neg (by omega), if_neg (by omega), if_pos hg2, hc.name, hto, ht, fbytes_put_same]
    cases hsome : (aget k.to (adel k.name F)).isSome with
    | true =>
      rw [hw, hsome, if_pos rfl, hxs]
      refine aext ((((hF.del _).put _ _).put _ _).put _ _) hF fun n => ?_
      by_cases hn : n = k.name
      · subst hn; rw [aget_put_same, aget_of_some (hf.there k0)]
      · rw [aget_put_other _ _ _ hn]
        by_cases hn2 : n = k.to
        · subst hn2
          rw [aget_put_same, ← aget_of_some hsome, aget_del_other _ _ hn]
        · rw [aget_put_other _ _ _ hn2, aget_put_other _ _ _ hn2, aget_del_other _ _ hn]
    | false =>
      rw [hw, hsome]
      simp only [Bool.false_eq_true, if_false]
      refine aext ((((hF.del _).put _ _).del _).put _ _) hF fun n => ?_
      by_cases hn : n = k.name
      · subst hn; rw [aget_put_same, aget_of_some (hf.there k0)]
      · rw [aget_put_other _ _ _ hn]
        by_cases hn2 : n = k.to
        · subst hn2
          rw [aget_del_same]
          rw [aget_del_other _ _ hn] at hsome
          cases hg : aget k.to F <;> simp_all
        · rw [aget_del_other _ _ hn2, aget_put_other _ _ _ hn2, aget_del_other _ _ hn]
  · have k3 : k.kind = 3 := by omega
    have hg3 : g.kind = 3 := by rw [hc.kind, k3]; rfl
    have ht : turn F k = adel k.name F := by unfold turn; rw [if_neg k0, if_neg k1, if_neg k2]
    unfold undoF
    rw [if_neg (by omega), if_neg (by omega), if_neg (by omega), hc.name, ht, hc.a4 k3]
    refine aext ((hF.del _).put _ _) hF fun n => ?_
    by_cases hn : n = k.name
    · subst hn; rw [aget_put_same, aget_of_some (hf.there k0)]
    · rw [aget_put_other _ _ _ hn, aget_del_other _ _ hn]
/-- What is left of a work that is cut. -/
def part (F : Fil) (k : Wk) (cut : Int) : Fil :=
  if k.kind = 0 then (if cut % ((k.bs.length : Int) + 1) = 0 then F else aput k.name (fbytes k.name F ++ k.bs.take (cut % ((k.bs.length : Int) + 1)).toNat) F) else F
theorem tear_turn {F : Fil} {k : Wk} {g : Chg} (cut : Int) (hF : AAsc F) (hf : Fits F k) (hc : Ch F k g) : tearF g cut (turn F k) = part F k cut := by
  have hu := undo_turn hF hf hc
  unfold tearF part
  by_cases k0 : k.kind = 0
  · obtain ⟨hs, hw⟩ := hc.a1 k0
    have hg0 : g.kind = 0 := by rw [hc.kind, k0]; rfl
    have ht : turn F k = aput k.name (fbytes k.name F ++ k.bs) F := by unfold turn; rw [if_pos k0]
    have hl : ((fbytes g.name (turn F k)).length : Int) - g.size + 1 = (k.bs.length : Int) + 1 := by
      rw [hc.name, ht, fbytes_put_same, hs, List.length_append]; omega
    rw [if_pos hg0, if_pos k0, hl, hu]
    by_cases h0 : cut % ((k.bs.length : Int) + 1) = 0
    · rw [if_pos h0, if_pos h0]
    · rw [if_neg h0, if_neg h0, hc.name, ht, fbytes_put_same, hs]
      rw [List.take_append, List.take_of_length_le (by omega), show (fbytes k.name F).length + (cut % ((k.bs.length : Int) + 1)).toNat - (fbytes k.name F).length = (cut % ((k.bs.length : Int) + 1)).toNat by omega]
      refine aext ((hF.put _ _).put _ _) (hF.put _ _) fun n => ?_
      by_cases hn : n = k.name
      · subst hn; rw [aget_put_same, aget_put_same]
      · rw [aget_put_other _ _ _ hn, aget_put_other _ _ _ hn, aget_put_other _ _ _ hn]
  · have hg0 : ¬ g.kind = 0 := by rw [hc.kind]; omega
    rw [if_neg hg0, if_neg k0, hu]

/-- Files within what a disk holds. -/
structure SmF (N : Nat) (F : Fil) : Prop where
  asc : AAsc F
  tot : totF F ≤ 16777216
  many : F.length ≤ N
def run (F : Fil) (ks : List Wk) : Fil := ks.foldl turn F
/-- The changes gs remember the works ks from F on. -/
def Hist (N : Nat) : Fil → List Wk → List Chg → Prop
  | F, [], [] => SmF N F
  | F, k :: ks, g :: gs => SmF N F ∧ Fits F k ∧ Ch F k g ∧ Hist N (turn F k) ks gs
  | _, _, _ => False
theorem Hist.length {N : Nat} : ∀ {F : Fil} {ks : List Wk} {gs : List Chg}, Hist N F ks gs → gs.length = ks.length
  | _, [], [], _ => rfl
  | _, [], _ :: _, h => h.elim
  | _, _ :: _, [], h => h.elim
  | _, _ :: _, _ :: _, h => by simp [Hist.length h.2.2.2]
theorem Hist.last {N : Nat} : ∀ {F : Fil} {ks : List Wk} {gs : List Chg}, Hist N F ks gs → SmF N (run F ks)
  | _, [], [], h => h
  | _, [], _ :: _, h => h.elim
  | _, _ :: _, [], h => h.elim
  | _, _ :: _, _ :: _, h => by have := Hist.last h.2.2.2; exact this
theorem Hist.first {N : Nat} : ∀ {F : Fil} {ks : List Wk} {gs : List Chg}, Hist N F ks gs → SmF N F
  | _, [], [], h => h
  | _, [], _ :: _, h => h.elim
  | _, _ :: _, [], h => h.elim
  | _, _ :: _, _ :: _, h => h.1
theorem Hist.take {N : Nat} : ∀ {F : Fil} {ks : List Wk} {gs : List Chg} (i : Nat), Hist N F ks gs → Hist N F (ks.take i) (gs.take i)
  | _, _, _, 0, h => by rw [List.take_zero, List.take_zero]; exact h.first
  | _, [], [], _ + 1, h => h
  | _, [], _ :: _, _ + 1, h => h.elim
  | _, _ :: _, [], _ + 1, h => h.elim
  | _, _ :: _, _ :: _, i + 1, h => ⟨h.1, h.2.1, h.2.2.1, Hist.take i h.2.2.2⟩
theorem Hist.at {N : Nat} : ∀ {F : Fil} {ks : List Wk} {gs : List Chg} (i : Nat) (_ : Hist N F ks gs) (hi : i < ks.length) (hj : i < gs.length), SmF N (run F (ks.take i)) ∧ Fits (run F (ks.take i)) ks[i] ∧ Ch (run F (ks.take i)) ks[i] gs[i]
  | _, [], _, _, _, hi, _ => by simp at hi
  | _, _ :: _, [], _, h, _, _ => h.elim
  | _, _ :: _, _ :: _, 0, h, _, _ => ⟨h.1, h.2.1, h.2.2.1⟩
  | _, _ :: _, _ :: _, i + 1, h, hi, hj => by have := Hist.at i h.2.2.2 (by simpa using hi) (by simpa using hj); exact this
theorem Hist.snoc {N : Nat} : ∀ {F : Fil} {ks : List Wk} {gs : List Chg} {k : Wk} {g : Chg}, Hist N F ks gs → Fits (run F ks) k → Ch (run F ks) k g → SmF N (turn (run F ks) k) → Hist N F (ks ++ [k]) (gs ++ [g])
  | _, [], [], _, _, h, h1, h2, h3 => ⟨h, h1, h2, h3⟩
  | _, [], _ :: _, _, _, h, _, _, _ => h.elim
  | _, _ :: _, [], _, _, h, _, _, _ => h.elim
  | _, _ :: _, _ :: _, _, _, h, h1, h2, h3 => ⟨h.1, h.2.1, h.2.2.1, Hist.snoc h.2.2.2 h1 h2 h3⟩
theorem Hist.mono {N M : Nat} (hN : N ≤ M) : ∀ {F : Fil} {ks : List Wk} {gs : List Chg}, Hist N F ks gs → Hist M F ks gs
  | _, [], [], h => ⟨h.asc, h.tot, Nat.le_trans h.many hN⟩
  | _, [], _ :: _, h => h.elim
  | _, _ :: _, [], h => h.elim
  | _, _ :: _, _ :: _, h => ⟨⟨h.1.asc, h.1.tot, Nat.le_trans h.1.many hN⟩, h.2.1, h.2.2.1, Hist.mono hN h.2.2.2⟩
theorem run_snoc (F : Fil) (ks : List Wk) (k : Wk) : run F (ks ++ [k]) = turn (run F ks) k := by simp [run]
theorem run_take_succ (F : Fil) (ks : List Wk) {i : Nat} (hi : i < ks.length) : run F (ks.take (i + 1)) = turn (run F (ks.take i)) ks[i] := by
  rw [List.take_add_one, List.getElem?_eq_getElem hi]
  exact run_snoc _ _ _
end Go.Proofs.YtcolkgeflokgeaaDoor
