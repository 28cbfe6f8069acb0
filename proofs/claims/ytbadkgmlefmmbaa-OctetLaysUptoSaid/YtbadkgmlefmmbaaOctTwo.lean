/- Two objects with one slice each, written in turn. -/
import Derived.Test.YtbadkgmlefmmbaaOctW
import Derived.Test.YtbadkgmlefmmbaaOctWv
import Derived.Test.YtbadkgmlefmmbaaOctWm
import Derived.Test.YtbadkgmlefmmbaaOctX
import Derived.Test.YtbadkgmlefmmbaaOctXv
namespace Go.Proofs.Ytbadkgmlefmmbaa
open Go.RowKit

/-- The two slices share no row. -/
def Apart2 (v u : Value) : Prop := ∀ j, v.ownBlock = some j → u.ownBlock = some j → False

section
variable {T U B b c : Nat} {w w' : World} {v u : Value} {xs ys zs : List Int}
theorem Wr.notrow (h : Wr T B w b v xs) {cs : Array Value} (hc : w.heap[c]? = some (.cells cs U (0, 0))) (hU : U ≠ 5) : v.ownBlock ≠ some c := by
  intro he
  rcases h.2.2.2 with ⟨rfl, _⟩ | ⟨g, cap, cur, rfl, _, hg, _⟩
  · simp [Value.ownBlock] at he
  · simp [Value.ownBlock] at he
    subst he
    rw [hc] at hg
    simp at hg
    exact hU hg.2
/-- The first is written: the second is as it was. -/
theorem two_first (hT : T ≠ U) (hT5 : T ≠ 5) (hU : U ≠ 5) (h : Wr T B w b v xs) (k : Wr U B w c u ys) (ha : Apart2 v u) (hw : Wrote T B w b v zs w') :
    ∃ v', Wr T B w' b v' zs ∧ Wr U B w' c u ys ∧ Apart2 v' u ∧ Below B w w' ∧ (∀ j, j < w.heap.size → j ≠ b → v.ownBlock ≠ some j → w'.heap[j]? = w.heap[j]?) := by
  obtain ⟨v', h', o, hv⟩ := hw
  have hbc : c ≠ b := by
    intro e
    subst e
    have := h.2.1
    rw [k.2.1] at this
    simp at this
    exact hT this.2.symm
  refine ⟨v', h', k.kept o ?_ ?_, ?_, h.below o, fun j hj h1 h2 => o.block j hj (by rintro (e | e); exact h1 e; exact h2 e)⟩
  · rintro (e | e)
    · exact hbc e
    · exact h.notrow k.2.1 hU e
  · intro j hj
    rintro (e | e)
    · subst e
      exact k.notrow h.2.1 hT5 hj
    · exact ha j e hj
  · intro j h1 h2
    rcases hv with hv | ⟨g, hg, hs⟩
    · exact ha j (hv ▸ h1) h2
    · rw [hg] at h1
      cases h1
      have := k.ownlt h2
      omega
end
end Go.Proofs.Ytbadkgmlefmmbaa
