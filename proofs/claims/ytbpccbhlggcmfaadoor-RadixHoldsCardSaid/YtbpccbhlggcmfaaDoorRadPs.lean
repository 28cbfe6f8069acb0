/- The statements' pairs as they came in. No condition. -/
import Derived.Test.YtbpccbhlggcmfaaDoorRadPr
namespace Go.Proofs.YtbpccbhlggcmfaaDoor
open Go.RowKit Go.ChangeShapes Go.WideShapes Go.Deep

theorem pairCells : Tryd.prog.cellsOf 35 = 35 := by kernel_rfl
theorem boolCells9 : Tryd.prog.cellsOf 4 = 1 := by kernel_rfl
theorem pair_cells {H : Type} {enc : TypeId × Value → H} {w : World} {base : Nat} {spare : Nat → Bool} {held : Bool} {cs : List Value} {fuel : Nat} {x : DataW H × List MemPlace}
    (h : DataW.trod enc Tryd.prog w base spare held fuel 35 cs = some x) : ∃ y : Pr, y.h.length = 32 ∧ cs = y.row := by
  obtain ⟨xs, n', _, hxx, hl, hxl, hf⟩ := DataW.trod_struct Tryd.underlying35 h
  rw [pairCells] at hl
  have hx4 : xs.length = 4 := hxl
  obtain ⟨y0, y1, y2, y3, rfl⟩ : ∃ a b c d, xs = [a, b, c, d] := by
    match xs, hx4 with
    | [a, b, c, d], _ => exact ⟨a, b, c, d, rfl⟩
  have f0 : DataW.trod enc Tryd.prog w base spare held n' 3 ((cs.drop 0).take (Tryd.prog.cellsOf 3)) = some y0 := hf 0 _ rfl
  have f1 : DataW.trod enc Tryd.prog w base spare held n' 3 ((cs.drop 1).take (Tryd.prog.cellsOf 3)) = some y1 := hf 1 _ rfl
  have f2 : DataW.trod enc Tryd.prog w base spare held n' 33 ((cs.drop 2).take (Tryd.prog.cellsOf 33)) = some y2 := hf 2 _ rfl
  have f3 : DataW.trod enc Tryd.prog w base spare held n' 4 ((cs.drop 34).take (Tryd.prog.cellsOf 4)) = some y3 := hf 3 _ rfl
  rw [i64Cells] at f0 f1
  rw [hashCells] at f2
  rw [boolCells9] at f3
  obtain ⟨m0, e0, _, _⟩ := DataW.trod_int Tryd.underlying3 f0
  obtain ⟨m1, e1, _, _⟩ := DataW.trod_int Tryd.underlying3 f1
  obtain ⟨hq, h32, e2⟩ := hash_cells f2
  obtain ⟨bb, e3⟩ : ∃ b : Bool, (cs.drop 34).take 1 = [.bool b] := by
    obtain ⟨b, hb, _⟩ := DataW.trod_bool Tryd.underlying4 f3
    exact ⟨b, hb⟩
  refine ⟨⟨m0, m1, hq, bb⟩, h32, ?_⟩
  have a0 : cs = cs.take 1 ++ ((cs.drop 1).take 1 ++ ((cs.drop 2).take 32 ++ (cs.drop 34).take 1)) := by
    have q1 : cs.drop 34 = (cs.drop 34).take 1 := (List.take_of_length_le (by rw [List.length_drop, hl]; decide)).symm
    conv => lhs; rw [← List.take_append_drop 1 cs, ← List.take_append_drop 1 (cs.drop 1), List.drop_drop, ← List.take_append_drop 32 (cs.drop 2), List.drop_drop, q1]
  rw [a0, e3, e2, e1]
  rw [List.drop_zero] at e0
  rw [e0]
  simp [Pr.row]
/-- The pairs of the slice at p. -/
def PrSeen (w : World) (p : Option Addr) (E : List Pr) : Prop := ∀ (j : Nat) (x : Pr), E[j]? = some x → ∃ b o, p = some ⟨b, o, none⟩ ∧ w.rangeAt b (o + j * 35) x.row
set_option maxRecDepth 20000 in
theorem pairs_in {H : Type} {enc : TypeId × Value → H} {w : World} {base : Nat} {spare : Nat → Bool} {held : Bool} {a0 : Option Addr} {len cap fuel : Nat} {d : DataW H} {p : List MemPlace}
    (h : DataW.trod enc Tryd.prog w base spare held fuel 22 [.slice a0 len cap] = some (d, p)) : ∃ E : List Pr, E.length = len ∧ PrSeen w a0 E ∧ ∀ x ∈ E, x.h.length = 32 := by
  rcases open_slice Tryd.underlying22 h with ⟨h1, h2⟩ | ⟨a, len', cap', m, n, D, Pl, hcs, hb0, hl, hm, hmm, hx, hi⟩
  · simp at h1
    obtain ⟨rfl, rfl, rfl⟩ := h1
    exact ⟨[], rfl, (fun j x hj => by simp at hj), fun x hx => by cases hx⟩
  · simp at hcs
    obtain ⟨rfl, rfl, rfl⟩ := hcs
    obtain ⟨f, hf⟩ := choose_lt (n := len) (α := Pr) (p := fun i x => x.h.length = 32 ∧ ∃ b o, a = ⟨b, o, none⟩ ∧ w.rangeAt b (o + i * 35) x.row) (fun i hil => by
      have him : i < m := by rw [hmm]; split <;> omega
      obtain ⟨cs, h3, h4⟩ := hi i him
      rw [pairCells] at h3
      obtain ⟨_, hcl, hat⟩ := World.cells?_some h3
      obtain ⟨y, h32, rfl⟩ := pair_cells h4
      obtain ⟨b, o, sp⟩ := a
      have hsp : sp = none := by
        obtain ⟨cs0, h30, h40⟩ := hi 0 (by omega)
        rw [pairCells] at h30
        obtain ⟨_, _, hat0⟩ := World.cells?_some h30
        obtain ⟨y0, _, rfl⟩ := pair_cells h40
        have g1 := hat0 0 (by omega)
        rw [add_add, Pr.row, show ([Value.int .i64 y0.n, .int .i64 y0.v] ++ us (nmb y0.h) ++ [.bool y0.any])[0]? = some (.int .i64 y0.n) from rfl] at g1
        have g2 := World.cell?_spot g1
        rw [show (0 : Nat) * 35 + 0 = 0 from rfl] at g2
        simpa [Addr.add] using g2
      subst hsp
      refine ⟨y, h32, b, o, rfl, fun j v hj => ?_⟩
      have hj35 : j < 35 := by have := (List.getElem?_eq_some_iff.1 hj).1; rwa [Pr.row_length h32] at this
      have g := hat j hj35
      rw [add_add, hj, Addr.add_lit] at g
      rw [show o + i * 35 + j = o + (i * 35 + j) from by omega]
      exact g)
    refine ⟨(List.range len).map f, by simp, fun j x hj => ?_, fun x hx => ?_⟩
    · have hjl := (List.getElem?_eq_some_iff.1 hj).1
      simp only [List.length_map, List.length_range] at hjl
      simp [hjl] at hj
      subst hj
      obtain ⟨b, o, rfl, hr⟩ := (hf j hjl).2
      exact ⟨b, o, rfl, hr⟩
    · obtain ⟨i, hi, rfl⟩ := List.mem_map.1 hx
      exact (hf i (List.mem_range.1 hi)).1
end Go.Proofs.YtbpccbhlggcmfaaDoor
