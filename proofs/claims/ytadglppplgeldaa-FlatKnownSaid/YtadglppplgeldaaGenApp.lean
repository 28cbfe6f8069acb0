/- 'append(s, x...)' of bytes at one operation of a plain region: s the call's own, x nil or not. The bytes are within what a slice may take up. · Cells written one behind the other into a block. No condition. -/
import Derived.Test.YtadglppplgeldaaOctBits
import Derived.Laws.AppendOwnNone
import Derived.Deep.Onto
import Derived.OwnWalk
namespace Go.Proofs.Ytadglppplgeldaa
open Go.RowKit

/-- Four results. -/
theorem results_tmp4 {fn : Func} {t u v x : Tmp} (h : fn.results = #[.tmp t, .tmp u, .tmp v, .tmp x]) (tmps : Array Value) (P : Program) (w : World) :
    (results fn tmps).run P w = .ok (.tuple #[tmps.getD t undef, tmps.getD u undef, tmps.getD v undef, tmps.getD x undef]) w := by
  simp [results, h, go_sem]
end Go.Proofs.Ytadglppplgeldaa
namespace Go.Proofs.Ytadglppplgeldaa
open Go.RowKit

/-- The list with vs written from o on. -/
def puts (C : List Value) (o : Nat) (vs : List Value) : List Value := C.take o ++ vs ++ C.drop (o + vs.length)
theorem puts_nil (C : List Value) (o : Nat) : puts C o [] = C := by simp [puts]
theorem puts_cons (C : List Value) (o : Nat) (v : Value) (vs : List Value) (h : o < C.length) : puts (C.set o v) (o + 1) vs = puts C o (v :: vs) := by
  unfold puts
  rw [List.take_succ_eq_append_getElem (by simpa using h), List.getElem_set_self, List.take_set_of_le (by omega), List.drop_set_of_lt (by omega), List.length_cons, show o + 1 + vs.length = o + (vs.length + 1) from by omega]
  simp
theorem cells_set {w : World} {b j : Nat} {row : List Value} {t : TypeId} (h : w.heap[b]? = some (.cells row.toArray t (0, 0))) (v : Value) : (w.setCell ⟨b, j, none⟩ v).heap[b]? = some (.cells (row.set j v).toArray t (0, 0)) := by
  unfold World.setCell
  simp only [Array.getElem?_modify, if_true, h, Option.map_some]
  simp
theorem cells_puts : ∀ (vs : List Value) (o : Nat) (C : List Value) (w : World) {g : Nat} {t : TypeId}, w.heap[g]? = some (.cells C.toArray t (0, 0)) → o + vs.length ≤ C.length → (w.setCells g o vs).heap[g]? = some (.cells (puts C o vs).toArray t (0, 0))
  | [], o, C, w, g, t, h, _ => by rw [puts_nil]; exact h
  | v :: r, o, C, w, g, t, h, hl => by
    have h1 := cells_set (j := o) h v
    have ih := cells_puts r (o + 1) (C.set o v) (w.setCell ⟨g, o, none⟩ v) h1 (by simp at hl ⊢; omega)
    rw [puts_cons C o v r (by simp at hl; omega)] at ih
    exact ih
theorem puts_take (C : List Value) (o : Nat) (vs : List Value) {k : Nat} (h : k ≤ o) (hl : o ≤ C.length) : (puts C o vs).take k = C.take k := by
  unfold puts
  rw [List.append_assoc, List.take_append_of_le_length (by rw [List.length_take]; omega), List.take_take, Nat.min_eq_left h]
theorem puts_length (C : List Value) (o : Nat) (vs : List Value) (h : o + vs.length ≤ C.length) : (puts C o vs).length = C.length := by
  unfold puts
  simp only [List.length_append, List.length_take, List.length_drop]
  omega
/-- A region that draws its order, in all its orders. -/
theorem wp_region_any_drew {P : Program} {ops : Array Oper} {Q : Exit → Act → World → Prop} {id : Nat} {a : Act} {w : World} (hm : P.follows .mixedOrders = true) (h : wpAny P .any ops Q ops.size (Array.replicate ops.size false) a w.drew) : (Code.region id ops true).wp P Q a w := wp_region_any hm h
end Go.Proofs.Ytadglppplgeldaa
