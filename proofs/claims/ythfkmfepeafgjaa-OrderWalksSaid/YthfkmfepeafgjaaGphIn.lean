/- How raw requests that came in are read: their raw commits, their heads. No condition. -/
import Derived.Test.YthfkmfepeafgjaaHndT
import Derived.Test.YthfkmfepeafgjaaHexInS
import Derived.OpenShut
import Derived.SizedLaws
namespace Go.Proofs.Ythfkmfepeafgjaa
open Go.RowKit Go.ChangeShapes Go.WideShapes Go.Deep

theorem isCells : Try.prog.cellsOf 33 = 1 := by kernel_rfl
theorem rawCells : Try.prog.cellsOf 96 = 3 := by kernel_rfl
theorem rawsCells : Try.prog.cellsOf 66 = 1 := by kernel_rfl
theorem rqCells : Try.prog.cellsOf 68 = 4 := by kernel_rfl
theorem three_of11 {l : List Value} (h : l.length = 3) : ∃ a b c, l = [a, b, c] := by
  match l, h with
  | [a, b, c], _ => exact ⟨a, b, c, rfl⟩
theorem four_of11 {l : List Value} (h : l.length = 4) : ∃ a b c d, l = [a, b, c, d] := by
  match l, h with
  | [a, b, c, d], _ => exact ⟨a, b, c, d, rfl⟩
theorem raw_cells11 {H : Type} {enc : TypeId × Value → H} {w : World} {base : Nat} {spare : Nat → Bool} {held : Bool} {cs : List Value} {fuel : Nat} {x : DataW H × List MemPlace}
    (h : DataW.trod enc Try.prog w base spare held fuel 96 cs = some x) : ∃ y : Rw, cs = [.int .i64 y.n, .int .i64 y.how, y.pv] ∧ ISeen w y.pv y.ps := by
  obtain ⟨xs, n', _, hxx, hl, hxl, hf⟩ := DataW.trod_struct Try.underlying96 h
  rw [rawCells] at hl
  obtain ⟨z0, z1, z2, rfl⟩ := three_of11 hl
  have hx3 : xs.length = 3 := hxl
  obtain ⟨y0, y1, y2, rfl⟩ : ∃ a b c, xs = [a, b, c] := by
    match xs, hx3 with
    | [a, b, c], _ => exact ⟨a, b, c, rfl⟩
  have f0 : DataW.trod enc Try.prog w base spare held n' 3 ((List.drop 0 [z0, z1, z2]).take (Try.prog.cellsOf 3)) = some y0 := hf 0 _ rfl
  have f1 : DataW.trod enc Try.prog w base spare held n' 3 ((List.drop 1 [z0, z1, z2]).take (Try.prog.cellsOf 3)) = some y1 := hf 1 _ rfl
  have f2 : DataW.trod enc Try.prog w base spare held n' 33 ((List.drop 2 [z0, z1, z2]).take (Try.prog.cellsOf 33)) = some y2 := hf 2 _ rfl
  simp only [i64Cells, isCells, List.drop_zero, List.drop_succ_cons, List.take_succ_cons, List.take_zero] at f0 f1 f2
  obtain ⟨m0, e0, _, _⟩ := DataW.trod_int Try.underlying3 f0
  obtain ⟨m1, e1, _, _⟩ := DataW.trod_int Try.underlying3 f1
  simp at e0 e1
  subst e0 e1
  obtain ⟨q, n0, c0, rfl⟩ : ∃ q n c, z2 = .slice q n c := by
    rcases open_slice Try.underlying33 f2 with ⟨h1, _⟩ | ⟨a', l', c', _, _, _, _, h1, _⟩
    · simp at h1; exact ⟨_, _, _, h1⟩
    · simp at h1; exact ⟨_, _, _, h1⟩
  obtain ⟨d3, p3⟩ := y2
  obtain ⟨l, hl3, hs⟩ := ints_in f2
  exact ⟨⟨m0, m1, _, l⟩, rfl, hs⟩
instance : Inhabited Rw := ⟨⟨0, 0, .slice none 0 0, []⟩⟩
set_option maxRecDepth 20000 in
theorem raws_in {H : Type} {enc : TypeId × Value → H} {w : World} {base : Nat} {spare : Nat → Bool} {held : Bool} {a0 : Option Addr} {len cap fuel : Nat} {d : DataW H} {p : List MemPlace}
    (h : DataW.trod enc Try.prog w base spare held fuel 66 [.slice a0 len cap] = some (d, p)) : ∃ E : List Rw, E.length = len ∧ RwSeen w (.slice a0 len cap) E := by
  rcases open_slice Try.underlying66 h with ⟨h1, h2⟩ | ⟨a, len', cap', m, n, D, Pl, hcs, hb0, hl, hm, hmm, hx, hi⟩
  · simp at h1
    obtain ⟨rfl, rfl, rfl⟩ := h1
    exact ⟨[], rfl, none, 0, rfl, (fun j x hj => by simp at hj)⟩
  · simp at hcs
    obtain ⟨rfl, rfl, rfl⟩ := hcs
    obtain ⟨f, hf⟩ := choose_lt (n := len) (α := Rw) (p := fun i x => ∃ b o, a = ⟨b, o, none⟩ ∧ w.rangeAt b (o + i * 3) [.int .i64 x.n, .int .i64 x.how, x.pv] ∧ ISeen w x.pv x.ps) (fun i hil => by
      have him : i < m := by rw [hmm]; split <;> omega
      obtain ⟨cs, h3, h4⟩ := hi i him
      rw [rawCells] at h3
      obtain ⟨_, hcl, hat⟩ := World.cells?_some h3
      obtain ⟨y, rfl, hs⟩ := raw_cells11 h4
      obtain ⟨b, o, sp⟩ := a
      have hsp : sp = none := by
        obtain ⟨cs0, h30, h40⟩ := hi 0 (by omega)
        rw [rawCells] at h30
        obtain ⟨_, _, hat0⟩ := World.cells?_some h30
        obtain ⟨y0, rfl, _⟩ := raw_cells11 h40
        have g1 := hat0 0 (by omega)
        rw [add_add, List.getElem?_cons_zero] at g1
        have g2 := World.cell?_spot g1
        rw [show (0 : Nat) * 3 + 0 = 0 from rfl] at g2
        simpa [Addr.add] using g2
      subst hsp
      refine ⟨y, b, o, rfl, fun k u hk => ?_, hs⟩
      have hk4 : k < 3 := (List.getElem?_eq_some_iff.1 hk).1
      have g0 := hat k hk4
      rw [add_add, Addr.add_lit, hk] at g0
      rw [Nat.add_assoc]
      exact g0)
    refine ⟨(List.range len).map f, by simp, some a, cap, by simp, (fun j x hj => ?_)⟩
    have hjl := (List.getElem?_eq_some_iff.1 hj).1
    simp at hjl
    obtain ⟨b, o, rfl, h1⟩ := hf j hjl
    simp [hjl] at hj
    subst hj
    exact ⟨b, o, rfl, h1⟩
/-- A raw request. -/
structure Rq where
  vL : Value
  L : List Rw
  vH : Value
  hs : List Int
  grp : Int
  how : Int
instance : Inhabited Rq := ⟨⟨.slice none 0 0, [], .slice none 0 0, [], 0, 0⟩⟩
def Rq.row (x : Rq) : List Value := [x.vL, x.vH, .int .i64 x.grp, .int .i64 x.how]
def Rq.In (w : World) (x : Rq) : Prop := RwSeen w x.vL x.L ∧ ISeen w x.vH x.hs
theorem rq_cells {H : Type} {enc : TypeId × Value → H} {w : World} {base : Nat} {spare : Nat → Bool} {held : Bool} {cs : List Value} {fuel : Nat} {x : DataW H × List MemPlace}
    (h : DataW.trod enc Try.prog w base spare held fuel 68 cs = some x) : ∃ y : Rq, cs = y.row ∧ y.In w := by
  obtain ⟨xs, n', _, hxx, hl, hxl, hf⟩ := DataW.trod_struct Try.underlying68 h
  rw [rqCells] at hl
  obtain ⟨z0, z1, z2, z3, rfl⟩ := four_of11 hl
  have hx4 : xs.length = 4 := hxl
  obtain ⟨y0, y1, y2, y3, rfl⟩ : ∃ a b c d, xs = [a, b, c, d] := by
    match xs, hx4 with
    | [a, b, c, d], _ => exact ⟨a, b, c, d, rfl⟩
  have f0 : DataW.trod enc Try.prog w base spare held n' 66 ((List.drop 0 [z0, z1, z2, z3]).take (Try.prog.cellsOf 66)) = some y0 := hf 0 _ rfl
  have f1 : DataW.trod enc Try.prog w base spare held n' 33 ((List.drop 1 [z0, z1, z2, z3]).take (Try.prog.cellsOf 33)) = some y1 := hf 1 _ rfl
  have f2 : DataW.trod enc Try.prog w base spare held n' 3 ((List.drop 2 [z0, z1, z2, z3]).take (Try.prog.cellsOf 3)) = some y2 := hf 2 _ rfl
  have f3 : DataW.trod enc Try.prog w base spare held n' 3 ((List.drop 3 [z0, z1, z2, z3]).take (Try.prog.cellsOf 3)) = some y3 := hf 3 _ rfl
  simp only [i64Cells, isCells, rawsCells, List.drop_zero, List.drop_succ_cons, List.take_succ_cons, List.take_zero] at f0 f1 f2 f3
  obtain ⟨m2, e2, _, _⟩ := DataW.trod_int Try.underlying3 f2
  obtain ⟨m3, e3, _, _⟩ := DataW.trod_int Try.underlying3 f3
  simp at e2 e3
  subst e2 e3
  obtain ⟨q0, n0, c0, rfl⟩ : ∃ q n c, z0 = .slice q n c := by
    rcases open_slice Try.underlying66 f0 with ⟨h1, _⟩ | ⟨a', l', c', _, _, _, _, h1, _⟩
    · simp at h1; exact ⟨_, _, _, h1⟩
    · simp at h1; exact ⟨_, _, _, h1⟩
  obtain ⟨q1, n1, c1, rfl⟩ : ∃ q n c, z1 = .slice q n c := by
    rcases open_slice Try.underlying33 f1 with ⟨h1, _⟩ | ⟨a', l', c', _, _, _, _, h1, _⟩
    · simp at h1; exact ⟨_, _, _, h1⟩
    · simp at h1; exact ⟨_, _, _, h1⟩
  obtain ⟨d0, p0⟩ := y0
  obtain ⟨d1, p1⟩ := y1
  obtain ⟨L, _, hs0⟩ := raws_in f0
  obtain ⟨l, _, hs1⟩ := ints_in f1
  exact ⟨⟨_, L, _, l, m2, m3⟩, rfl, hs0, hs1⟩
set_option maxRecDepth 20000 in
theorem rq_in {H : Type} {enc : TypeId × Value → H} {w : World} {base b0 : Nat} {spare : Nat → Bool} {held : Bool} {r : Reach} {v : Value} {d : DataW H} {p : List MemPlace}
    (hval : Value.okWide Try.prog w r b0 68 v) (h : DataW.Trod enc Try.prog w base spare held 68 v d p) : ∃ x : Rq, v = .agg x.row.toArray ∧ x.In w := by
  simp only [Value.okWide, Try.underlying68] at hval
  obtain ⟨cs, rfl, h2, _⟩ := hval
  obtain ⟨fuel, hf⟩ := h
  obtain ⟨y, hcs, hs⟩ := rq_cells hf
  refine ⟨y, ?_, hs⟩
  have : cs.toList = _ := hcs
  rw [show cs = cs.toList.toArray by simp, this]
/-- The raw requests of the slice at p. -/
def RqSeen (w : World) (p : Option Addr) (E : List Rq) : Prop := ∀ (j : Nat) (x : Rq), E[j]? = some x → ∃ b o, p = some ⟨b, o, none⟩ ∧ w.rangeAt b (o + j * 4) x.row ∧ x.In w
set_option maxRecDepth 20000 in
theorem rqs_in {H : Type} {enc : TypeId × Value → H} {w : World} {base : Nat} {spare : Nat → Bool} {held : Bool} {a0 : Option Addr} {len cap fuel : Nat} {d : DataW H} {p : List MemPlace}
    (h : DataW.trod enc Try.prog w base spare held fuel 32 [.slice a0 len cap] = some (d, p)) : ∃ E : List Rq, E.length = len ∧ RqSeen w a0 E := by
  rcases open_slice Try.underlying32 h with ⟨h1, h2⟩ | ⟨a, len', cap', m, n, D, Pl, hcs, hb0, hl, hm, hmm, hx, hi⟩
  · simp at h1
    obtain ⟨rfl, rfl, rfl⟩ := h1
    exact ⟨[], rfl, (fun j x hj => by simp at hj)⟩
  · simp at hcs
    obtain ⟨rfl, rfl, rfl⟩ := hcs
    obtain ⟨f, hf⟩ := choose_lt (n := len) (α := Rq) (p := fun i x => ∃ b o, a = ⟨b, o, none⟩ ∧ w.rangeAt b (o + i * 4) x.row ∧ x.In w) (fun i hil => by
      have him : i < m := by rw [hmm]; split <;> omega
      obtain ⟨cs, h3, h4⟩ := hi i him
      rw [rqCells] at h3
      obtain ⟨_, hcl, hat⟩ := World.cells?_some h3
      obtain ⟨y, rfl, hs⟩ := rq_cells h4
      obtain ⟨b, o, sp⟩ := a
      have hsp : sp = none := by
        obtain ⟨cs0, h30, h40⟩ := hi 0 (by omega)
        rw [rqCells] at h30
        obtain ⟨_, _, hat0⟩ := World.cells?_some h30
        obtain ⟨y0, rfl, _⟩ := rq_cells h40
        have g1 := hat0 0 (by omega)
        rw [add_add, Rq.row, List.getElem?_cons_zero] at g1
        have g2 := World.cell?_spot g1
        rw [show (0 : Nat) * 4 + 0 = 0 from rfl] at g2
        simpa [Addr.add] using g2
      subst hsp
      refine ⟨y, b, o, rfl, fun k u hk => ?_, hs⟩
      have hk4 : k < 4 := (List.getElem?_eq_some_iff.1 hk).1
      have g0 := hat k hk4
      rw [add_add, Addr.add_lit, hk] at g0
      rw [Nat.add_assoc]
      exact g0)
    refine ⟨(List.range len).map f, by simp, (fun j x hj => ?_)⟩
    have hjl := (List.getElem?_eq_some_iff.1 hj).1
    simp at hjl
    obtain ⟨b, o, rfl, h1⟩ := hf j hjl
    simp [hjl] at hj
    subst hj
    exact ⟨b, o, rfl, h1⟩
end Go.Proofs.Ythfkmfepeafgjaa
