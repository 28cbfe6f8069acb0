/- slices.Clone over hashes; a row of hashes in memory. Condition: the slice is within what a slice may take up. -/
import Derived.Test.YtbpccbhlggcmfaaDoorHexS
import Derived.Test.YtbpccbhlggcmfaaDoorHexP
import Derived.Lib.SliceRun
namespace Go.Proofs.YtbpccbhlggcmfaaDoor
open Go.RowKit

theorem hzinfo : (Tryd.prog.info? 33).map (fun i => (i.zero, i.size, i.bytes)) = some (some (.agg hzer), 32, 32) := by kernel_rfl

/-- The slice v holds the hashes E. -/
def HSeen (w : World) (v : Value) (E : List (List UInt8)) : Prop :=
  (v = .slice none 0 0 ∧ E = []) ∨ ∃ a cap, v = .slice (some a) E.length cap ∧ E.length ≤ cap ∧ ∀ j u, (fl E)[j]? = some u → w.cell? (a.add j) = some u
/-- It owns them. -/
abbrev HOwn (w : World) (B : Nat) (v : Value) (E : List (List UInt8)) : Prop := w.ownsRow B 33 32 v E.length (fl E)
theorem HSeen.own {w : World} {B : Nat} {v : Value} {E : List (List UInt8)} (h : HOwn w B v E) : HSeen w v E := by
  have hc : ∀ g, v.ownBlock = some g → _ := fun g hg => h.cells (g := g) hg
  rcases h.2 with ⟨rfl, h0⟩ | ⟨g, cap, cur, rfl, _, _, hn, _⟩
  · exact .inl ⟨rfl, List.eq_nil_of_length_eq_zero h0⟩
  · exact .inr ⟨_, cap, rfl, hn, hc _ rfl⟩
/-- The block of an owned row. -/
theorem HOwn.row {w : World} {B : Nat} {v : Value} {E : List (List UInt8)} (h : HOwn w B v E) (h0 : 0 < E.length) : ∃ g cap R, v = .slice (some ⟨g, 0, none⟩) E.length cap ∧ B ≤ g ∧ w.heap[g]? = some (.cells (fl E ++ R).toArray 33 (0, 0)) ∧ E.length ≤ cap ∧ cap ≤ maxLen ∧ R.length = (cap - E.length) * 32 := by
  rcases h.2 with ⟨_, hn⟩ | ⟨g, cap, cur, rfl, hb, hg, hn, hm, hs, ht⟩
  · omega
  · refine ⟨g, cap, cur.toList.drop (E.length * 32), rfl, hb, ?_, hn, hm, ?_⟩
    · rw [← ht, List.take_append_drop]; simpa using hg
    · rw [List.length_drop, Array.length_toList, hs, Nat.sub_mul]
theorem hown_mk {w : World} {B g cap n : Nat} {E : List (List UInt8)} {R : List Value} (hE : H32 E) (hn : n = E.length) (hb : B ≤ g) (hg : w.heap[g]? = some (.cells (fl E ++ R).toArray 33 (0, 0))) (hc : E.length ≤ cap) (hm : cap ≤ maxLen) (hR : R.length = (cap - E.length) * 32) : HOwn w B (.slice (some ⟨g, 0, none⟩) n cap) E := by
  subst hn
  refine ⟨fl_length hE, .inr ⟨g, cap, (fl E ++ R).toArray, rfl, hb, hg, hc, hm, ?_, ?_⟩⟩
  · show (fl E ++ R).length = cap * 32
    rw [List.length_append, fl_length hE, hR, ← Nat.add_mul]
    congr 1; omega
  · rw [show (fl E ++ R).toArray.toList = fl E ++ R from rfl, ← fl_length hE, List.take_left]

end Go.Proofs.YtbpccbhlggcmfaaDoor
