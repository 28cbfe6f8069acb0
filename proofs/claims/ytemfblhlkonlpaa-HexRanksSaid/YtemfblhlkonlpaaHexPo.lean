/- The reference's Put into nothing, its Sort, and SameHashes. Condition: the slices are within what a slice may take up. -/
import Derived.Test.YtemfblhlkonlpaaHexPu
import Derived.Laws.AppendOwnNone
namespace Go.Proofs.Ytemfblhlkonlpaa
open Go.RowKit
attribute [local go_sem ↓] hld_open heq_open hne_open

/-- The hashes of a list, in their places, each once. -/
theorem rsort_snoc (l : List (List UInt8)) (h : List UInt8) : rsort (l ++ [h]) = rput (rsort l) h := by simp [rsort, List.foldl_append]
theorem rput_length (h : List UInt8) : ∀ l, (rput l h).length ≤ l.length + 1
  | [] => by simp [rput]
  | x :: l => by
    have ih := rput_length h l
    rw [rput]
    split
    · simp; omega
    · split <;> simp
theorem rsort_length : ∀ l, (rsort l).length ≤ l.length := by
  intro l
  have : ∀ s, (l.foldl rput s).length ≤ s.length + l.length := by
    induction l with
    | nil => intro s; simp
    | cons x l ih => intro s; have h1 := ih (rput s x); have h2 := rput_length x s; simp at h1 ⊢; omega
  simpa [rsort] using this []

end Go.Proofs.Ytemfblhlkonlpaa
