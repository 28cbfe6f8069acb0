/- Steps of chapter 6 that came in: what each asks for. No condition. -/
import Derived.Test.YtemfblhlkonlpaaDskO
import Derived.OpenShut
namespace Go.Proofs.Ytemfblhlkonlpaa
open Go.RowKit Go.ChangeShapes Go.WideShapes Go.Deep

theorem stepCells : Try.prog.cellsOf 53 = 6 := by kernel_rfl
theorem intCells6 : Try.prog.cellsOf 3 = 1 := by kernel_rfl
/-- The first number of each step. -/
def WSeen (w : World) (p : Option Addr) (E : List Int) : Prop := ∀ j x, E[j]? = some x → ∃ b o, p = some ⟨b, o, none⟩ ∧ w.cell? ⟨b, o + j * 6, none⟩ = some (.int .i64 x)
theorem step_first {H : Type} {enc : TypeId × Value → H} {w : World} {base : Nat} {spare : Nat → Bool} {held : Bool} {cs : List Value} {fuel : Nat} {x : DataW H × List MemPlace}
    (h : DataW.trod enc Try.prog w base spare held fuel 53 cs = some x) : ∃ n, cs[0]? = some (.int .i64 n) := by
  obtain ⟨xs, n', _, _, hl, hxl, hf⟩ := DataW.trod_struct Try.underlying53 h
  have f0 := hf 0 _ rfl
  rw [stepCells] at hl
  obtain ⟨z, r, rfl⟩ : ∃ z r, cs = z :: r := by
    cases cs with
    | nil => simp at hl
    | cons z r => exact ⟨z, r, rfl⟩
  have e0 : (List.drop 0 (z :: r)).take (Try.prog.cellsOf 3) = [z] := by rw [intCells6]; rfl
  have hx0 : ∃ y, xs[0]? = some y := by
    cases hq : xs[0]? with
    | some y => exact ⟨y, rfl⟩
    | none => exact absurd (List.getElem?_eq_none_iff.1 hq) (by have h6 : xs.length = 6 := hxl; omega)
  obtain ⟨y, hy⟩ := hx0
  rw [hy] at f0
  have f1 : DataW.trod enc Try.prog w base spare held n' 3 [z] = some y := by rw [← e0]; exact f0
  obtain ⟨m, e1, _, _⟩ := DataW.trod_int Try.underlying3 f1
  simp at e1
  exact ⟨m, by rw [e1]; rfl⟩
set_option maxRecDepth 20000 in
theorem steps_in {H : Type} {enc : TypeId × Value → H} {w : World} {base : Nat} {spare : Nat → Bool} {held : Bool} {a0 : Option Addr} {len cap fuel : Nat} {d : DataW H} {p : List MemPlace}
    (h : DataW.trod enc Try.prog w base spare held fuel 51 [.slice a0 len cap] = some (d, p)) : ∃ E : List Int, E.length = len ∧ WSeen w a0 E := by
  rcases open_slice Try.underlying51 h with ⟨h1, h2⟩ | ⟨a, len', cap', m, n, D, Pl, hcs, hb, hl, hm, hmm, hx, hi⟩
  · simp at h1
    obtain ⟨rfl, rfl, rfl⟩ := h1
    exact ⟨[], rfl, fun j x hj => by simp at hj⟩
  · simp at hcs
    obtain ⟨rfl, rfl, rfl⟩ := hcs
    obtain ⟨f, hf⟩ := choose_lt (n := len) (α := Int) (p := fun i x => ∃ b o, a = ⟨b, o, none⟩ ∧ w.cell? ⟨b, o + i * 6, none⟩ = some (.int .i64 x)) (fun i hil => by
      have him : i < m := by rw [hmm]; split <;> omega
      obtain ⟨cs, h3, h4⟩ := hi i him
      rw [stepCells] at h3
      obtain ⟨_, hcl, hat⟩ := World.cells?_some h3
      obtain ⟨x, hx⟩ := step_first h4
      have g0 := hat 0 (by omega)
      rw [add_add, Nat.add_zero, hx] at g0
      obtain ⟨b, o, sp⟩ := a
      have hsp : sp = none := by
        obtain ⟨cs0, h30, h40⟩ := hi 0 (by omega)
        rw [stepCells] at h30
        obtain ⟨_, _, hat0⟩ := World.cells?_some h30
        obtain ⟨x0, hx0⟩ := step_first h40
        have g1 := hat0 0 (by omega)
        rw [add_add, hx0] at g1
        have g2 := World.cell?_spot g1
        rw [show (0 : Nat) * 6 + 0 = 0 from rfl] at g2
        simpa [Addr.add] using g2
      subst hsp
      rw [Addr.add_lit] at g0
      exact ⟨x, b, o, rfl, g0⟩)
    refine ⟨(List.range len).map f, by simp, fun j x hj => ?_⟩
    have hjl := (List.getElem?_eq_some_iff.1 hj).1
    simp at hjl
    obtain ⟨b, o, rfl, h1⟩ := hf j hjl
    simp [hjl] at hj
    subst hj
    exact ⟨b, o, rfl, h1⟩
end Go.Proofs.Ytemfblhlkonlpaa
