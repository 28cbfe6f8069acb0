/- How a slice of steps that came in is read: each step's two numbers and its bytes. No condition. -/
import Derived.Test.YtbadkgmlefmmbaaOctKit
import Derived.Deep.Slices
import Derived.Deep.Fields
import Derived.ChangeSame
import Derived.OpenShut
namespace Go.Proofs.Ytbadkgmlefmmbaa
open Go.RowKit Go.ChangeShapes Go.WideShapes Go.Deep

/-- Step i of the slice at ao: its three cells. -/
def StepAt (w : World) (ao : Option Addr) (i : Nat) (W N : Int) (V : Value) : Prop :=
  ∃ b o, ao = some ⟨b, o, none⟩ ∧ b < w.heap.size ∧ w.cell? ⟨b, o + i * 3, none⟩ = some (.int .i64 W) ∧ w.cell? ⟨b, o + i * 3 + 1, none⟩ = some (.int .i64 N) ∧ w.cell? ⟨b, o + i * 3 + 2, none⟩ = some V

theorem stepFields : Try.prog.underlying 36 = some (.struct #[{ name := "What", type := 3, offset := 0, embedded := false, tag := "", pkgPath := "", byteOffset := 0 }, { name := "N", type := 3, offset := 1, embedded := false, tag := "", pkgPath := "", byteOffset := 8 }, { name := "B", type := 24, offset := 2, embedded := false, tag := "", pkgPath := "", byteOffset := 16 }]) := by kernel_rfl
theorem stepCells : Try.prog.cellsOf 36 = 3 := by kernel_rfl
theorem intCells : Try.prog.cellsOf 3 = 1 := by kernel_rfl
theorem sliceCells : Try.prog.cellsOf 24 = 1 := by kernel_rfl

theorem three_of {l : List Value} (h : l.length = 3) : ∃ a b c, l = [a, b, c] := by
  match l, h with
  | [a, b, c], _ => exact ⟨a, b, c, rfl⟩

section
variable {H : Type} {enc : TypeId × Value → H} {w : World} {base : Nat} {spare : Nat → Bool} {held : Bool}
theorem open_steps {a0 : Option Addr} {len cap fuel : Nat} {d : DataW H} {p : List MemPlace} (h : DataW.trod enc Try.prog w base spare held fuel 31 [.slice a0 len cap] = some (d, p)) :
    (len ≤ cap ∧ len ≤ 9223372036854775807) ∧ (a0 = none ∧ len = 0 ∧ cap = 0 ∧ d = .nil ∨ ∃ elems rest, d = .slice elems rest ∧ elems.length = len ∧ ∀ i, i < len → ∃ (W N : Int) (V : Value) (n : Nat) (x0 x1 y : DataW H) (q : List MemPlace), StepAt w a0 i W N V ∧
      (Lit.int .i64 W).wf = true ∧ (Lit.int .i64 N).wf = true ∧ elems[i]? = some (.agg [x0, x1, y]) ∧ DataW.trod enc Try.prog w base spare held n 24 [V] = some (y, q)) := by
  rcases open_slice Try.underlying31 h with ⟨h1, h2⟩ | ⟨a, len', cap', m, n, D, Pl, hcs, hb, hl, hm, hmm, hx, hi⟩
  · simp at h1
    simp at h2
    exact ⟨⟨by omega, by omega⟩, .inl ⟨h1.1, h1.2.1, h1.2.2, h2.1⟩⟩
  · simp at hcs
    obtain ⟨rfl, rfl, rfl⟩ := hcs
    simp at hx
    refine ⟨⟨hl, by unfold maxLen at hm; omega⟩, .inr ⟨_, _, hx.1, by simp, fun i hil => ?_⟩⟩
    have him : i < m := by rw [hmm]; split <;> omega
    obtain ⟨cs, h3, h4⟩ := hi i him
    rw [stepCells] at h3
    obtain ⟨hbase, hcl, hat⟩ := World.cells?_some h3
    obtain ⟨c0, c1, c2, rfl⟩ := three_of hcl
    obtain ⟨xs, n', hn', hy, _, hxl, hf⟩ := DataW.trod_struct stepFields h4
    have f0 : DataW.trod enc Try.prog w base spare held n' 3 ((List.drop 0 [c0, c1, c2]).take (Try.prog.cellsOf 3)) = xs[0]? := hf 0 _ rfl
    have f1 : DataW.trod enc Try.prog w base spare held n' 3 ((List.drop 1 [c0, c1, c2]).take (Try.prog.cellsOf 3)) = xs[1]? := hf 1 _ rfl
    have f2 : DataW.trod enc Try.prog w base spare held n' 24 ((List.drop 2 [c0, c1, c2]).take (Try.prog.cellsOf 24)) = xs[2]? := hf 2 _ rfl
    simp only [intCells, sliceCells, List.drop_zero, List.drop_succ_cons, List.take_succ_cons, List.take_zero] at f0 f1 f2
    have hxl3 : xs.length = 3 := hxl
    match xs, hxl3 with
    | [y0, y1, y2], _ =>
      simp only [List.getElem?_cons_zero, List.getElem?_cons_succ] at f0 f1 f2
      obtain ⟨W, e0, _, w0⟩ := DataW.trod_int Try.underlying3 f0
      obtain ⟨N, e1, _, w1⟩ := DataW.trod_int Try.underlying3 f1
      simp at e0 e1
      subst e0 e1
      have g0 := hat 0 (by omega)
      have g1 := hat 1 (by omega)
      have g2 := hat 2 (by omega)
      rw [add_add] at g0 g1 g2
      obtain ⟨b, o, sp⟩ := a
      have hsp : sp = none := by
        obtain ⟨cs0, h30, _⟩ := hi 0 (by omega)
        rw [stepCells] at h30
        obtain ⟨_, hcl0, hat0⟩ := World.cells?_some h30
        obtain ⟨z0, z1, z2, rfl⟩ := three_of hcl0
        have := hat0 0 (by omega)
        rw [add_add] at this
        simpa [Addr.add] using World.cell?_spot this
      subst hsp
      simp only [Addr.add_lit, List.getElem?_cons_zero, List.getElem?_cons_succ, Nat.add_zero] at g0 g1 g2
      have hlt := World.block_lt_of_cell? w _ g0
      simp at hy
      refine ⟨W, N, c2, n', y0.1, y1.1, y2.1, y2.2, ⟨b, o, rfl, hlt, g0, g1, g2⟩, w0, w1, ?_, f2⟩
      simp [hil, hy.1]
end

/-- The numbers of all steps, as functions. -/
theorem steps_numbers {H : Type} {enc : TypeId × Value → H} {w : World} {base : Nat} {spare : Nat → Bool} {held : Bool} {a0 : Option Addr} {len cap fuel : Nat} {d : DataW H} {p : List MemPlace}
    (h : DataW.trod enc Try.prog w base spare held fuel 31 [.slice a0 len cap] = some (d, p)) :
    len ≤ 9223372036854775807 ∧ ∃ W N : Nat → Int, ∀ i, i < len → (∃ V, StepAt w a0 i (W i) (N i) V) ∧ -9223372036854775808 ≤ N i ∧ N i ≤ 9223372036854775807 := by
  obtain ⟨⟨_, hm⟩, hs⟩ := open_steps h
  refine ⟨hm, ?_⟩
  rcases hs with ⟨_, hl, _⟩ | ⟨elems, rest, _, _, he⟩
  · exact ⟨fun _ => 0, fun _ => 0, fun i hi => by omega⟩
  · obtain ⟨f, hf⟩ := choose_lt (α := Int × Int) (p := fun i x => (∃ V, StepAt w a0 i x.1 x.2 V) ∧ -9223372036854775808 ≤ x.2 ∧ x.2 ≤ 9223372036854775807) (fun i hi => by
      obtain ⟨W, N, V, n, x0, x1, y, q, hs, _, hw, _⟩ := he i hi
      exact ⟨(W, N), ⟨V, hs⟩, Go.bounds_i64 hw⟩)
    exact ⟨fun i => (f i).1, fun i => (f i).2, hf⟩
end Go.Proofs.Ytbadkgmlefmmbaa
