/- Tables and segments of commits: plain mathematics. No condition. -/
import Derived.Below
namespace Go.Proofs.Ytadglppplgeldaa
open Go.RowKit

/-- The first ID of those that are no master ones. -/
def spl : Int := 1099511627776
structure Sg where
  lo : Int
  hi : Int
  par : List Int
  root : Bool
  head : Bool
/-- Is p an ID of a table with m masters and n others? -/
def inT (m n : Nat) (p : Int) : Bool := (decide (0 ≤ p) && decide (p < m)) || (decide (spl ≤ p) && decide (p < spl + n))
/-- The parents of an ID, if it is there. -/
def tpar (M O : List (List Int)) (p : Int) : Option (List Int) :=
  if 0 ≤ p ∧ p < M.length then M[p.toNat]? else if spl ≤ p ∧ p < spl + O.length then O[(p - spl).toNat]? else none
theorem tpar_some {M O : List (List Int)} {p : Int} (hm : (M.length : Int) < spl) : (tpar M O p).isSome = inT M.length O.length p := by
  unfold tpar inT
  by_cases h1 : 0 ≤ p ∧ p < M.length
  · rw [if_pos h1, List.getElem?_eq_getElem (by omega)]
    simp [h1.1, h1.2]
  · rw [if_neg h1]
    by_cases h2 : spl ≤ p ∧ p < spl + O.length
    · rw [if_pos h2, List.getElem?_eq_getElem (by omega)]
      simp [h2.1, h2.2]
    · rw [if_neg h2]
      have e1 : (decide (0 ≤ p) && decide (p < M.length)) = false := by simpa using h1
      have e2 : (decide (spl ≤ p) && decide (p < spl + O.length)) = false := by simpa using h2
      rw [e1, e2]; rfl
/-- May the ID have these parents? -/
def okp (m n : Nat) (id : Int) (l : List Int) : Prop := l.length ≤ 4 ∧ ∀ (j : Nat) (p : Int), l[j]? = some p → inT m n p = true ∧ p < id ∧ p ∉ l.take j
/-- May the IDs from low on have these? -/
def okl (m n : Nat) (low : Int) (L : List (List Int)) : Prop := ∀ (k : Nat) (l : List Int), L[k]? = some l → okp m n (low + k) l
def okt (M O : List (List Int)) : Prop := okl M.length O.length 0 M ∧ okl M.length O.length spl O

/-- The marks of those that have a child. -/
def mk1 (low : Int) (m : List Bool) (p : Int) : List Bool := if low ≤ p then m.set (p - low).toNat true else m
def mks (low : Int) (m : List Bool) (ps : List Int) : List Bool := ps.foldl (mk1 low) m
def hadd (low : Int) (m : List Bool) (ps : List Int) : List Bool := mks low m ps ++ [false]
theorem mk1_len (low : Int) (m : List Bool) (p : Int) : (mk1 low m p).length = m.length := by
  unfold mk1; split
  · exact List.length_set
  · rfl
theorem mks_len (low : Int) (ps : List Int) : ∀ m, (mks low m ps).length = m.length := by
  induction ps with
  | nil => intro m; rfl
  | cons p ps ih => intro m; exact (ih (mk1 low m p)).trans (mk1_len low m p)
theorem hadd_len (low : Int) (m : List Bool) (ps : List Int) : (hadd low m ps).length = m.length + 1 := by unfold hadd; rw [List.length_append, mks_len]; rfl
theorem mks_snoc (low : Int) (m : List Bool) (ps : List Int) (p : Int) : mks low m (ps ++ [p]) = mk1 low (mks low m ps) p := by unfold mks; rw [List.foldl_append]; rfl
theorem cnt_set : ∀ (m : List Bool) (k : Nat), m[k]? = some false → (m.set k true).count false + 1 = m.count false
  | [], k, h => by simp at h
  | b :: m, 0, h => by
    obtain rfl : b = false := by simpa using h
    simp
  | b :: m, k + 1, h => by
    have ih := cnt_set m k (by simpa using h)
    rw [List.set_cons_succ, List.count_cons, List.count_cons]
    omega
theorem set_same : ∀ (m : List Bool) (k : Nat), m[k]? = some true → m.set k true = m
  | [], k, h => by simp at h
  | b :: m, 0, h => by
    obtain rfl : b = true := by simpa using h
    rfl
  | b :: m, k + 1, h => by rw [List.set_cons_succ, set_same m k (by simpa using h)]
def setHi (l : List Sg) (id : Int) : List Sg := match l.getLast? with
  | none => []
  | some s => l.dropLast ++ [{ s with hi := id }]
/-- A step: the segments so far, the marks so far, the parents of the next one. -/
def stp (low : Int) (s : List Sg × List Bool) (ps : List Int) : List Sg × List Bool :=
  (if 0 < s.2.length ∧ ps = [low + s.2.length - 1] then setHi s.1 (low + s.2.length)
   else s.1 ++ [⟨low + s.2.length, low + s.2.length, ps, ps.isEmpty, (hadd low s.2 ps).count false == 1⟩], hadd low s.2 ps)
def sgr (low : Int) (L : List (List Int)) : List Sg × List Bool := L.foldl (stp low) ([], [])
def sgs (low : Int) (L : List (List Int)) : List Sg := (sgr low L).1
theorem sgr_snoc (low : Int) (L : List (List Int)) (ps : List Int) : sgr low (L ++ [ps]) = stp low (sgr low L) ps := by unfold sgr; rw [List.foldl_append]; rfl
theorem sgr_len (low : Int) (L : List (List Int)) : (sgr low L).2.length = L.length := by
  suffices h : ∀ (n : Nat) (L : List (List Int)), L.length = n → (sgr low L).2.length = L.length from h _ L rfl
  intro n
  induction n with
  | zero => intro L hL; rw [List.eq_nil_of_length_eq_zero hL]; rfl
  | succ n ih =>
    intro L hL
    rcases List.eq_nil_or_concat L with rfl | ⟨L', ps, rfl⟩
    · rfl
    · rw [List.concat_eq_append] at hL ⊢
      rw [sgr_snoc]
      show (hadd low (sgr low L').2 ps).length = _
      rw [hadd_len, ih L' (by simpa using hL), List.length_append]; rfl
theorem sgs_snoc (low : Int) (L : List (List Int)) (ps : List Int) : sgs low (L ++ [ps]) = if 0 < L.length ∧ ps = [low + L.length - 1] then setHi (sgs low L) (low + L.length) else sgs low L ++ [⟨low + L.length, low + L.length, ps, ps.isEmpty, (hadd low (sgr low L).2 ps).count false == 1⟩] := by
  unfold sgs; rw [sgr_snoc]; unfold stp; rw [sgr_len]
/-- Induction at the end of a list. -/
theorem snoc_ind {α : Type} {P : List α → Prop} (h0 : P []) (h1 : ∀ L x, P L → P (L ++ [x])) (L : List α) : P L := by
  suffices h : ∀ (n : Nat) (L : List α), L.length = n → P L from h _ L rfl
  intro n
  induction n with
  | zero => intro L hL; rw [List.eq_nil_of_length_eq_zero hL]; exact h0
  | succ n ih =>
    intro L hL
    rcases List.eq_nil_or_concat L with rfl | ⟨L', x, rfl⟩
    · exact h0
    · rw [List.concat_eq_append] at hL ⊢
      exact h1 L' x (ih L' (by simpa using hL))
theorem sgs_ne {low : Int} {L : List (List Int)} (h : 0 < L.length) : sgs low L ≠ [] := by
  revert h
  refine snoc_ind (P := fun L => 0 < L.length → sgs low L ≠ []) (fun h => by simp at h) (fun L x ih _ => ?_) L
  rw [sgs_snoc]
  split
  · rename_i hc
    unfold setHi
    cases e : (sgs low L).getLast? with
    | none => exact absurd (List.getLast?_eq_none_iff.1 e) (ih hc.1)
    | some s => simp
  · simp
theorem setHi_len (l : List Sg) (id : Int) : (setHi l id).length = l.length := by
  unfold setHi
  cases e : l.getLast? with
  | none => rw [List.getLast?_eq_none_iff.1 e]
  | some s =>
    obtain ⟨l', rfl⟩ := List.getLast?_eq_some_iff.1 e
    simp
theorem sgs_len (low : Int) (L : List (List Int)) : (sgs low L).length ≤ L.length := by
  refine snoc_ind (P := fun L => (sgs low L).length ≤ L.length) (Nat.le_refl _) (fun L x ih => ?_) L
  rw [sgs_snoc, List.length_append]
  split
  · rw [setHi_len]; exact Nat.le_succ_of_le ih
  · rw [List.length_append]; exact Nat.succ_le_succ ih
/-- The segments of a table. -/
def flt (M O : List (List Int)) : List Sg := sgs 0 M ++ sgs spl O
end Go.Proofs.Ytadglppplgeldaa
