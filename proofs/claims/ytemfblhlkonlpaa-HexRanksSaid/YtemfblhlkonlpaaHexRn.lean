/- In an ascending list of texts those that begin alike stand together: plain mathematics. No condition. -/
import Derived.Test.YtemfblhlkonlpaaHexS
namespace Go.Proofs.Ytemfblhlkonlpaa
open Go.Op

/-- What lies between two that begin with p begins with p. -/
theorem pref_between : ∀ (p a b c : List UInt8), bytesLess a b = true → bytesLess b c = true → p.isPrefixOf a = true → p.isPrefixOf c = true → p.isPrefixOf b = true
  | [], _, _, _, _, _, _, _ => by simp
  | x :: p, [], _, _, _, _, h, _ => by simp at h
  | x :: p, _ :: _, _, [], _, _, _, h => by simp at h
  | x :: p, y :: a, [], z :: c, h, _, _, _ => by simp [bytesLess] at h
  | x :: p, y :: a, u :: b, z :: c, h1, h2, h3, h4 => by
    simp only [List.isPrefixOf_cons_cons, Bool.and_eq_true, beq_iff_eq] at h3 h4 ⊢
    obtain ⟨rfl, h3⟩ := h3
    obtain ⟨rfl, h4⟩ := h4
    simp only [bytesLess, Bool.or_eq_true, Bool.and_eq_true, decide_eq_true_eq, beq_iff_eq] at h1 h2
    rcases h1 with h1 | ⟨rfl, h1⟩
    · rcases h2 with h2 | ⟨rfl, h2⟩
      · exact absurd (UInt8.lt_trans h1 h2) (UInt8.lt_irrefl _)
      · exact absurd h1 (UInt8.lt_irrefl _)
    · rcases h2 with h2 | ⟨_, h2⟩
      · exact absurd h2 (UInt8.lt_irrefl _)
      · exact ⟨rfl, pref_between p a b c h1 h2 h3 h4⟩

/-- How many begin a run among the first k. -/
def runs (f : Nat → Bool) : Nat → Nat
  | 0 => 0
  | k + 1 => runs f k + if f k && (decide (k = 0) || !f (k - 1)) then 1 else 0
/-- A set of places with no gap is one run. -/
theorem runs_one (f : Nat → Bool) (n : Nat) (hc : ∀ i j k, i < j → j < k → k < n → f i = true → f k = true → f j = true) : ∀ i, i < n → f i = true → (∀ j, j < i → f j = false) → ∀ k, k ≤ n → runs f k = if k ≤ i then 0 else 1
  | i, hi, hf, hmin, 0, _ => by simp [runs]
  | i, hi, hf, hmin, k + 1, hk => by
    have ih := runs_one f n hc i hi hf hmin k (by omega)
    rw [runs, ih]
    by_cases h1 : k < i
    · have e1 : k ≤ i := by omega
      have e2 : k + 1 ≤ i := by omega
      simp [e1, e2, hmin k h1]
    · by_cases h2 : k = i
      · subst h2
        have e2 : ¬ k + 1 ≤ k := by omega
        by_cases h0 : k = 0
        · subst h0; simp [hf]
        · simp [e2, hf, h0, hmin (k - 1) (by omega)]
      · have e1 : ¬ k ≤ i := by omega
        have e2 : ¬ k + 1 ≤ i := by omega
        have h0 : ¬ k = 0 := by omega
        cases hfk : f k with
        | false => simp [e1, e2]
        | true =>
          have hp : f (k - 1) = true := by
            by_cases h3 : k - 1 = i
            · rw [h3]; exact hf
            · exact hc i (k - 1) k (by omega) (by omega) (by omega) hf hfk
          simp [e1, e2, hp, h0]
theorem runs_all (f : Nat → Bool) (n : Nat) (hc : ∀ i j k, i < j → j < k → k < n → f i = true → f k = true → f j = true) (h : ∃ i, i < n ∧ f i = true) : runs f n = 1 := by
  have hex : ∃ i, i < n ∧ f i = true ∧ ∀ j, j < i → f j = false := by
    obtain ⟨i, hi, hf⟩ := h
    induction i using Nat.strongRecOn with
    | ind i ih =>
      by_cases hj : ∃ j, j < i ∧ f j = true
      · obtain ⟨j, hji, hfj⟩ := hj
        exact ih j hji (by omega) hfj
      · refine ⟨i, hi, hf, fun j hji => ?_⟩
        cases hfj : f j with
        | false => rfl
        | true => exact absurd ⟨j, hji, hfj⟩ hj
  obtain ⟨i, hi, hf, hmin⟩ := hex
  rw [runs_one f n hc i hi hf hmin n (Nat.le_refl _), if_neg (by omega)]
/-- Whether the hash at a place begins with p. -/
def bgn (E : List (List UInt8)) (p : List UInt8) (i : Nat) : Bool := p.isPrefixOf (tx (E.getD i []))
theorem runs_hashes {E : List (List UInt8)} (hE : H32 E) (ha : Asc E) (p : List UInt8) (h : ∃ i, i < E.length ∧ bgn E p i = true) : runs (bgn E p) E.length = 1 := by
  refine runs_all _ _ (fun i j k hij hjk hk h1 h2 => ?_) h
  unfold bgn at *
  have hi : i < E.length := by omega
  have hj : j < E.length := by omega
  have e : ∀ m (hm : m < E.length), E.getD m [] = E[m] := fun m hm => by simp [List.getD, hm]
  rw [e i hi] at h1
  rw [e k hk] at h2
  rw [e j hj]
  have a1 := List.pairwise_iff_getElem.1 ha i j hi hj hij
  have a2 := List.pairwise_iff_getElem.1 ha j k hj hk hjk
  rw [← tx_less _ _ (by rw [hE.at hi, hE.at hj])] at a1
  rw [← tx_less _ _ (by rw [hE.at hj, hE.at hk])] at a2
  exact pref_between p _ _ _ a1 a2 h1 h2
/-- Sorting what is sorted, with one more, is sorting all. -/
theorem rsort_app (l : List (List UInt8)) (x : List UInt8) : rsort (rsort l ++ [x]) = rsort (l ++ [x]) :=
  asc_ext _ _ (rsort_asc _) (rsort_asc _) fun a => by simp only [rsort_mem, List.mem_append]
end Go.Proofs.Ytemfblhlkonlpaa
