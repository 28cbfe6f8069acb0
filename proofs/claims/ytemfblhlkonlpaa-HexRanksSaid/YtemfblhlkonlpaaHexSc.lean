/- slices.Clone over hashes; a row of hashes in memory. Condition: the slice is within what a slice may take up. -/
import Derived.Test.YtemfblhlkonlpaaHexS
import Derived.Test.YtemfblhlkonlpaaHexP
import Derived.Lib.SliceRun
namespace Go.Proofs.Ytemfblhlkonlpaa
open Go.RowKit

theorem hzinfo : (Try.prog.info? 26).map (fun i => (i.zero, i.size, i.bytes)) = some (some (.agg hzer), 32, 32) := by kernel_rfl

theorem cells_puts : ∀ (vs : List Value) (o : Nat) (C : List Value) (w : World) {g : Nat} {t : TypeId}, w.heap[g]? = some (.cells C.toArray t (0, 0)) → o + vs.length ≤ C.length → (w.setCells g o vs).heap[g]? = some (.cells (puts C o vs).toArray t (0, 0))
  | [], o, C, w, g, t, h, _ => by rw [puts_nil]; exact h
  | v :: r, o, C, w, g, t, h, hl => by
    have h1 := cells_set (j := o) h v
    have ih := cells_puts r (o + 1) (C.set o v) (w.setCell ⟨g, o, none⟩ v) h1 (by simp at hl ⊢; omega)
    rw [puts_cons C o v r (by simp at hl; omega)] at ih
    exact ih

/-- The slice v holds the hashes E. -/
def HSeen (w : World) (v : Value) (E : List (List UInt8)) : Prop :=
  (v = .slice none 0 0 ∧ E = []) ∨ ∃ a cap, v = .slice (some a) E.length cap ∧ E.length ≤ cap ∧ ∀ j u, (fl E)[j]? = some u → w.cell? (a.add j) = some u
/-- It owns them. -/
abbrev HOwn (w : World) (B : Nat) (v : Value) (E : List (List UInt8)) : Prop := w.ownsRow B 26 32 v E.length (fl E)
theorem HSeen.own {w : World} {B : Nat} {v : Value} {E : List (List UInt8)} (h : HOwn w B v E) : HSeen w v E := by
  have hc : ∀ g, v.ownBlock = some g → _ := fun g hg => h.cells (g := g) hg
  rcases h.2 with ⟨rfl, h0⟩ | ⟨g, cap, cur, rfl, _, _, hn, _⟩
  · exact .inl ⟨rfl, List.eq_nil_of_length_eq_zero h0⟩
  · exact .inr ⟨_, cap, rfl, hn, hc _ rfl⟩
/-- The block of an owned row. -/
theorem HOwn.row {w : World} {B : Nat} {v : Value} {E : List (List UInt8)} (h : HOwn w B v E) (h0 : 0 < E.length) : ∃ g cap R, v = .slice (some ⟨g, 0, none⟩) E.length cap ∧ B ≤ g ∧ w.heap[g]? = some (.cells (fl E ++ R).toArray 26 (0, 0)) ∧ E.length ≤ cap ∧ cap ≤ maxLen ∧ R.length = (cap - E.length) * 32 := by
  rcases h.2 with ⟨_, hn⟩ | ⟨g, cap, cur, rfl, hb, hg, hn, hm, hs, ht⟩
  · omega
  · refine ⟨g, cap, cur.toList.drop (E.length * 32), rfl, hb, ?_, hn, hm, ?_⟩
    · rw [← ht, List.take_append_drop]; simpa using hg
    · rw [List.length_drop, Array.length_toList, hs, Nat.sub_mul]
theorem hown_mk {w : World} {B g cap n : Nat} {E : List (List UInt8)} {R : List Value} (hE : H32 E) (hn : n = E.length) (hb : B ≤ g) (hg : w.heap[g]? = some (.cells (fl E ++ R).toArray 26 (0, 0))) (hc : E.length ≤ cap) (hm : cap ≤ maxLen) (hR : R.length = (cap - E.length) * 32) : HOwn w B (.slice (some ⟨g, 0, none⟩) n cap) E := by
  subst hn
  refine ⟨fl_length hE, .inr ⟨g, cap, (fl E ++ R).toArray, rfl, hb, hg, hc, hm, ?_, ?_⟩⟩
  · show (fl E ++ R).length = cap * 32
    rw [List.length_append, fl_length hE, hR, ← Nat.add_mul]
    congr 1; omega
  · rw [show (fl E ++ R).toArray.toList = fl E ++ R from rfl, ← fl_length hE, List.take_left]

set_option maxRecDepth 20000 in
set_option maxHeartbeats 800000 in
theorem hclone_any (w : World) (v : Value) (E : List (List UInt8)) (hE : H32 E) (hl : E.length * 32 ≤ 140737488355328) (hs : HSeen w v E) :
    Calls Try.prog 28 #[v] w fun e w' => ∃ v', e = .returned v' ∧ HOwn w' w.heap.size v' E ∧ Below w.heap.size w w' := by
  obtain ⟨i0, hi0, hz0, hz1, hz2⟩ := info_parts hzinfo
  rcases hs with ⟨rfl, rfl⟩ | ⟨a, cap, rfl, hc, hu⟩
  · have hn1 : ∀ w : World, (binOp .eql 23 (.slice none 0 0) (.slice none 0 0)).run Try.prog w = .ok (.bool true) w := fun w => Lib.run_eql_slice_nil w _ _ none _ _ _ _ Try.underlying23
    clear hl hE
    go_enter Try.func28, Try.ntmps28
    go_wp2
    go_ret
    exact ⟨_, rfl, World.ownsRow_nil _ _ _ _, Below.refl _ _⟩
  · have hown := World.ownsRow_made (base := w.heap.size) (e := 26) (size := 32) w #[] 0 (Nat.le_refl _) (by decide) rfl
    have hn1 : ∀ w : World, (binOp .eql 23 (.slice (some a) E.length cap) (.slice none 0 0)).run Try.prog w = .ok (.bool false) w := fun w => Lib.run_eql_slice_nil w _ _ (some a) _ _ _ _ Try.underlying23
    have hnews : Hid (∀ j u, (fl E)[j]? = some u → (w.alloc (.cells #[] 26)).cell? (a.add j) = some u) := Lib.hid fun j u hj => by
      have h1 := hu j u hj
      have h2 := World.block_lt_of_cell? w _ h1
      rw [World.cell?_of_block (w := w) (Below.heap_alloc w _ _ h2)]; exact h1
    have HE := Lib.hid (fl_length hE)
    clear hu hE
    go_enter Try.func28, Try.ntmps28
    go_wp2_with (at_builtin; refine wpList_append_own _ (by rfl) (.tmp 5) (.tmp 6) _ (by rfl) w.heap.size 26 i0 _ 32 32 Try.underlying23 hi0 hz0 hz1 hz2 rfl (by omega) (.slice (some ⟨w.heap.size, 0, none⟩) 0 0) 0 [] (by rfl) hown a E.length cap (fl E) (by rfl) HE.out hnews.out (fl_one' E) (by simp [maxLen]; omega) (by omega) (by simp) ?_; intro v' w' hown' hgrow _)
    go_ret
    exact ⟨v', rfl, by simpa using hown', ((Below.refl _ _).alloc (Nat.le_refl _) _).grown hgrow (by simp) (by intro k hk; cases hk; exact Nat.le_refl _)⟩
end Go.Proofs.Ytemfblhlkonlpaa
