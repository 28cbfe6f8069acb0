/- Steps of chapter 6 that came in: what each asks for, its name's number and its bytes. No condition. -/
import Derived.Test.YtemfblhlkonlpaaDoorDskKn
import Derived.Test.YtemfblhlkonlpaaDoorGenIn
import Derived.Deep.Slices
import Derived.Deep.Fields
import Derived.ChangeSame
import Derived.OpenShut
namespace Go.Proofs.YtemfblhlkonlpaaDoor
open Go.RowKit Go.ChangeShapes Go.WideShapes Go.Deep

theorem stepCells3 : Tryd.prog.cellsOf 82 = 6 := by kernel_rfl
theorem intCells3 : Tryd.prog.cellsOf 3 = 1 := by kernel_rfl
theorem rowCells3 : Tryd.prog.cellsOf 70 = 1 := by kernel_rfl
theorem six_of {l : List Value} (h : l.length = 6) : ∃ a b c d e f, l = [a, b, c, d, e, f] := by
  match l, h with
  | [a, b, c, d, e, f], _ => exact ⟨a, b, c, d, e, f, rfl⟩
theorem some_at {α : Type} {xs : List α} {n i : Nat} (h : xs.length = n) (hi : i < n) : ∃ y, xs[i]? = some y := ⟨xs[i]'(by omega), List.getElem?_eq_getElem _⟩
theorem step_three {H : Type} {enc : TypeId × Value → H} {w : World} {base : Nat} {spare : Nat → Bool} {held : Bool} {cs : List Value} {fuel : Nat} {x : DataW H × List MemPlace}
    (h : DataW.trod enc Tryd.prog w base spare held fuel 82 cs = some x) : ∃ (m n : Int) (q : Option Addr) (l : List Int) (c : Nat) (z2 z3 z4 : Value), cs = [.int .i64 m, .int .i64 n, z2, z3, z4, .slice q l.length c] ∧ Seen w (.slice q l.length c) l := by
  obtain ⟨xs, n', _, _, hl, hxl, hf⟩ := DataW.trod_struct Tryd.underlying82 h
  rw [stepCells3] at hl
  obtain ⟨z0, z1, z2, z3, z4, z5, rfl⟩ := six_of hl
  have hx6 : xs.length = 6 := hxl
  obtain ⟨y0, hy0⟩ := some_at hx6 (show 0 < 6 by omega)
  obtain ⟨y1, hy1⟩ := some_at hx6 (show 1 < 6 by omega)
  obtain ⟨y5, hy5⟩ := some_at hx6 (show 5 < 6 by omega)
  have f0 : DataW.trod enc Tryd.prog w base spare held n' 3 ((List.drop 0 [z0, z1, z2, z3, z4, z5]).take (Tryd.prog.cellsOf 3)) = xs[0]? := hf 0 _ rfl
  have f1 : DataW.trod enc Tryd.prog w base spare held n' 3 ((List.drop 1 [z0, z1, z2, z3, z4, z5]).take (Tryd.prog.cellsOf 3)) = xs[1]? := hf 1 _ rfl
  have f5 : DataW.trod enc Tryd.prog w base spare held n' 70 ((List.drop 5 [z0, z1, z2, z3, z4, z5]).take (Tryd.prog.cellsOf 70)) = xs[5]? := hf 5 _ rfl
  simp only [intCells3, rowCells3, List.drop_zero, List.drop_succ_cons, List.take_succ_cons, List.take_zero] at f0 f1 f5
  rw [hy0] at f0
  rw [hy1] at f1
  rw [hy5] at f5
  obtain ⟨m, e0, _, _⟩ := DataW.trod_int Tryd.underlying3 f0
  obtain ⟨n, e1, _, _⟩ := DataW.trod_int Tryd.underlying3 f1
  simp at e0 e1
  subst e0 e1
  obtain ⟨q, n0, c0, rfl⟩ : ∃ q n c, z5 = .slice q n c := by
    rcases open_slice Tryd.underlying70 f5 with ⟨h1, _⟩ | ⟨a', l', c', _, _, _, _, h1, _⟩
    · simp at h1; exact ⟨_, _, _, h1⟩
    · simp at h1; exact ⟨_, _, _, h1⟩
  obtain ⟨x, hxl, _, hs, _⟩ := bytes_in f5
  subst hxl
  exact ⟨m, n, q, x, c0, z2, z3, z4, rfl, hs⟩
structure Sp where
  what : Int
  name : Int
  q : Option Addr
  c : Nat
  b : List Int
instance : Inhabited Sp := ⟨⟨0, 0, none, 0, []⟩⟩
/-- The steps of the slice at p. -/
def SpSeen (w : World) (p : Option Addr) (E : List Sp) : Prop := ∀ j x, E[j]? = some x → ∃ b o, p = some ⟨b, o, none⟩ ∧ w.cell? ⟨b, o + j * 6, none⟩ = some (.int .i64 x.what) ∧ w.cell? ⟨b, o + j * 6 + 1, none⟩ = some (.int .i64 x.name) ∧ w.cell? ⟨b, o + j * 6 + 5, none⟩ = some (.slice x.q x.b.length x.c) ∧ Seen w (.slice x.q x.b.length x.c) x.b
set_option maxRecDepth 20000 in
theorem sps_in {H : Type} {enc : TypeId × Value → H} {w : World} {base : Nat} {spare : Nat → Bool} {held : Bool} {a0 : Option Addr} {len cap fuel : Nat} {d : DataW H} {p : List MemPlace}
    (h : DataW.trod enc Tryd.prog w base spare held fuel 79 [.slice a0 len cap] = some (d, p)) : ∃ E : List Sp, E.length = len ∧ SpSeen w a0 E := by
  rcases open_slice Tryd.underlying79 h with ⟨h1, h2⟩ | ⟨a, len', cap', m, n, D, Pl, hcs, hb, hl, hm, hmm, hx, hi⟩
  · simp at h1
    obtain ⟨rfl, rfl, rfl⟩ := h1
    exact ⟨[], rfl, fun j x hj => by simp at hj⟩
  · simp at hcs
    obtain ⟨rfl, rfl, rfl⟩ := hcs
    obtain ⟨f, hf⟩ := choose_lt (n := len) (α := Sp) (p := fun i x => ∃ b o, a = ⟨b, o, none⟩ ∧ w.cell? ⟨b, o + i * 6, none⟩ = some (.int .i64 x.what) ∧ w.cell? ⟨b, o + i * 6 + 1, none⟩ = some (.int .i64 x.name) ∧ w.cell? ⟨b, o + i * 6 + 5, none⟩ = some (.slice x.q x.b.length x.c) ∧ Seen w (.slice x.q x.b.length x.c) x.b) (fun i hil => by
      have him : i < m := by rw [hmm]; split <;> omega
      obtain ⟨cs, h3, h4⟩ := hi i him
      rw [stepCells3] at h3
      obtain ⟨_, hcl, hat⟩ := World.cells?_some h3
      obtain ⟨wt, nm, q, l, c, z2, z3, z4, rfl, hs⟩ := step_three h4
      have g0 := hat 0 (by omega)
      have g1 := hat 1 (by omega)
      have g5 := hat 5 (by omega)
      rw [add_add] at g0 g1 g5
      obtain ⟨b, o, sp⟩ := a
      have hsp : sp = none := by
        obtain ⟨cs0, h30, h40⟩ := hi 0 (by omega)
        rw [stepCells3] at h30
        obtain ⟨_, _, hat0⟩ := World.cells?_some h30
        obtain ⟨wt0, _, _, _, _, _, _, _, rfl, _⟩ := step_three h40
        have g1 := hat0 0 (by omega)
        rw [add_add, List.getElem?_cons_zero] at g1
        have g2 := World.cell?_spot g1
        rw [show (0 : Nat) * 6 + 0 = 0 from rfl] at g2
        simpa [Addr.add] using g2
      subst hsp
      rw [Addr.add_lit] at g0 g1 g5
      simp only [List.getElem?_cons_zero, List.getElem?_cons_succ, Nat.add_zero] at g0 g1 g5
      exact ⟨⟨wt, nm, q, c, l⟩, b, o, rfl, g0, by rw [Nat.add_assoc]; exact g1, by rw [Nat.add_assoc]; exact g5, hs⟩)
    refine ⟨(List.range len).map f, by simp, fun j x hj => ?_⟩
    have hjl := (List.getElem?_eq_some_iff.1 hj).1
    simp at hjl
    obtain ⟨b, o, rfl, h1⟩ := hf j hjl
    simp [hjl] at hj
    subst hj
    exact ⟨b, o, rfl, h1⟩
end Go.Proofs.YtemfblhlkonlpaaDoor
