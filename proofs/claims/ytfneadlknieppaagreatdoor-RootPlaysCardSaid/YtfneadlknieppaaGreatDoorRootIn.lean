/- How raw roots, slices of numbers and the steps of chapter 8 that came in are read. No condition. -/
import Derived.Test.YtfneadlknieppaaGreatDoorRootX
import Derived.Test.YtfneadlknieppaaGreatDoorGenIn
import Derived.Deep.Slices
import Derived.Deep.Fields
import Derived.ChangeSame
import Derived.OpenShut
import Derived.SizedLaws
namespace Go.Proofs.YtfneadlknieppaaGreatDoor
open Go.RowKit Go.ChangeShapes Go.WideShapes Go.Deep

theorem i8Cells : Tryz.prog.cellsOf 3 = 1 := by kernel_rfl
theorem r8Cells : Tryz.prog.cellsOf 29 = 1 := by kernel_rfl
theorem w8Cells : Tryz.prog.cellsOf 31 = 4 := by kernel_rfl
theorem ints8_in {H : Type} {enc : TypeId × Value → H} {w : World} {base : Nat} {spare : Nat → Bool} {held : Bool} {a0 : Option Addr} {len cap fuel : Nat} {d : DataW H} {p : List MemPlace}
    (h : DataW.trod enc Tryz.prog w base spare held fuel 29 [.slice a0 len cap] = some (d, p)) : ∃ l : List Int, l.length = len ∧ ISeen w (.slice a0 len cap) l := by
  rcases open_ints Tryz.underlying29 Tryz.underlying3 i8Cells h with ⟨hcs, hx⟩ | ⟨x, l, c, zs, hcs, _, hl, hm, hz, hx, hcell, hwz⟩
  · simp at hcs
    obtain ⟨rfl, rfl, rfl⟩ := hcs
    exact ⟨[], rfl, .inl ⟨rfl, rfl⟩⟩
  · simp at hcs
    obtain ⟨rfl, rfl, rfl⟩ := hcs
    have hzl : len ≤ zs.length := by rw [hz]; split <;> omega
    have hlen : (zs.take len).length = len := by rw [List.length_take]; omega
    refine ⟨zs.take len, hlen, .inr ⟨x, cap, by rw [hlen], by rw [hlen]; exact hl, fun j u hj => ?_⟩⟩
    have hj2 : j < len := by have := (List.getElem?_eq_some_iff.1 hj).1; simp at this; omega
    have hj3 : j < zs.length := by omega
    rw [hcell j hj3]
    rw [iv, List.getElem?_map, List.getElem?_take, if_pos hj2] at hj
    simp [List.getD] at hj ⊢
    rw [List.getElem?_eq_getElem hj3] at hj ⊢
    simpa using hj
theorem four_of8 {l : List Value} (h : l.length = 4) : ∃ a b c d, l = [a, b, c, d] := by
  match l, h with
  | [a, b, c, d], _ => exact ⟨a, b, c, d, rfl⟩
theorem raw_cells {H : Type} {enc : TypeId × Value → H} {w : World} {base : Nat} {spare : Nat → Bool} {held : Bool} {cs : List Value} {fuel : Nat} {x : DataW H × List MemPlace}
    (h : DataW.trod enc Tryz.prog w base spare held fuel 31 cs = some x) : ∃ (y : Rw) (q : Option Addr) (c : Nat), cs = [.int .i64 y.gen, .int .i64 y.idx, .int .i64 y.how, .slice q y.logs.length c] ∧ ISeen w (.slice q y.logs.length c) y.logs := by
  obtain ⟨xs, n', _, hxx, hl, hxl, hf⟩ := DataW.trod_struct Tryz.underlying31 h
  rw [w8Cells] at hl
  obtain ⟨z0, z1, z2, z3, rfl⟩ := four_of8 hl
  have hx4 : xs.length = 4 := hxl
  obtain ⟨y0, y1, y2, y3, rfl⟩ : ∃ a b c d, xs = [a, b, c, d] := by
    match xs, hx4 with
    | [a, b, c, d], _ => exact ⟨a, b, c, d, rfl⟩
  have f0 : DataW.trod enc Tryz.prog w base spare held n' 3 ((List.drop 0 [z0, z1, z2, z3]).take (Tryz.prog.cellsOf 3)) = some y0 := hf 0 _ rfl
  have f1 : DataW.trod enc Tryz.prog w base spare held n' 3 ((List.drop 1 [z0, z1, z2, z3]).take (Tryz.prog.cellsOf 3)) = some y1 := hf 1 _ rfl
  have f2 : DataW.trod enc Tryz.prog w base spare held n' 3 ((List.drop 2 [z0, z1, z2, z3]).take (Tryz.prog.cellsOf 3)) = some y2 := hf 2 _ rfl
  have f3 : DataW.trod enc Tryz.prog w base spare held n' 29 ((List.drop 3 [z0, z1, z2, z3]).take (Tryz.prog.cellsOf 29)) = some y3 := hf 3 _ rfl
  simp only [i8Cells, r8Cells, List.drop_zero, List.drop_succ_cons, List.take_succ_cons, List.take_zero] at f0 f1 f2 f3
  obtain ⟨m0, e0, _, _⟩ := DataW.trod_int Tryz.underlying3 f0
  obtain ⟨m1, e1, _, _⟩ := DataW.trod_int Tryz.underlying3 f1
  obtain ⟨m2, e2, _, _⟩ := DataW.trod_int Tryz.underlying3 f2
  simp at e0 e1 e2
  subst e0 e1 e2
  obtain ⟨q, n0, c0, rfl⟩ : ∃ q n c, z3 = .slice q n c := by
    rcases open_slice Tryz.underlying29 f3 with ⟨h1, _⟩ | ⟨a', l', c', _, _, _, _, h1, _⟩
    · simp at h1; exact ⟨_, _, _, h1⟩
    · simp at h1; exact ⟨_, _, _, h1⟩
  obtain ⟨d3, p3⟩ := y3
  obtain ⟨l, hl3, hs⟩ := ints8_in f3
  subst hl3
  exact ⟨⟨m0, m1, m2, l⟩, q, c0, rfl, hs⟩
set_option maxRecDepth 20000 in
theorem raw_in {H : Type} {enc : TypeId × Value → H} {w : World} {base b0 : Nat} {spare : Nat → Bool} {held : Bool} {r : Reach} {v : Value} {d : DataW H} {p : List MemPlace}
    (hval : Value.okWide Tryz.prog w r b0 31 v) (h : DataW.Trod enc Tryz.prog w base spare held 31 v d p) : ∃ (x : Rw) (xv : Value), v = rwv x xv ∧ ISeen w xv x.logs := by
  simp only [Value.okWide, Tryz.underlying31] at hval
  obtain ⟨cs, rfl, h2, _⟩ := hval
  obtain ⟨fuel, hf⟩ := h
  obtain ⟨y, q, c, hcs, hs⟩ := raw_cells hf
  refine ⟨y, _, ?_, hs⟩
  have : cs.toList = _ := hcs
  rw [show cs = cs.toList.toArray by simp, this]
/-- The step at hand. -/
structure Sr where
  what : Int
  n : Int
  cut : Int
  r : Rw
  q : Option Addr
  c : Nat
instance : Inhabited Sr := ⟨⟨0, 0, 0, ⟨0, 0, 0, []⟩, none, 0⟩⟩
def Sr.row (x : Sr) : List Value := [.int .i64 x.what, .int .i64 x.n, .int .i64 x.cut, .int .i64 x.r.gen, .int .i64 x.r.idx, .int .i64 x.r.how, .slice x.q x.r.logs.length x.c]
theorem s8Cells : Tryz.prog.cellsOf 33 = 7 := by kernel_rfl
theorem seven_of8 {l : List Value} (h : l.length = 7) : ∃ a b c d e f g, l = [a, b, c, d, e, f, g] := by
  match l, h with
  | [a, b, c, d, e, f, g], _ => exact ⟨a, b, c, d, e, f, g, rfl⟩
theorem step_eight {H : Type} {enc : TypeId × Value → H} {w : World} {base : Nat} {spare : Nat → Bool} {held : Bool} {cs : List Value} {fuel : Nat} {x : DataW H × List MemPlace}
    (h : DataW.trod enc Tryz.prog w base spare held fuel 33 cs = some x) : ∃ y : Sr, cs = y.row ∧ ISeen w (.slice y.q y.r.logs.length y.c) y.r.logs := by
  obtain ⟨xs, n', _, hxx, hl, hxl, hf⟩ := DataW.trod_struct Tryz.underlying33 h
  rw [s8Cells] at hl
  obtain ⟨z0, z1, z2, z3, z4, z5, z6, rfl⟩ := seven_of8 hl
  have hx4 : xs.length = 4 := hxl
  obtain ⟨y0, y1, y2, y3, rfl⟩ : ∃ a b c d, xs = [a, b, c, d] := by
    match xs, hx4 with
    | [a, b, c, d], _ => exact ⟨a, b, c, d, rfl⟩
  have f0 : DataW.trod enc Tryz.prog w base spare held n' 3 ((List.drop 0 [z0, z1, z2, z3, z4, z5, z6]).take (Tryz.prog.cellsOf 3)) = some y0 := hf 0 _ rfl
  have f1 : DataW.trod enc Tryz.prog w base spare held n' 3 ((List.drop 1 [z0, z1, z2, z3, z4, z5, z6]).take (Tryz.prog.cellsOf 3)) = some y1 := hf 1 _ rfl
  have f2 : DataW.trod enc Tryz.prog w base spare held n' 3 ((List.drop 2 [z0, z1, z2, z3, z4, z5, z6]).take (Tryz.prog.cellsOf 3)) = some y2 := hf 2 _ rfl
  have f3 : DataW.trod enc Tryz.prog w base spare held n' 31 ((List.drop 3 [z0, z1, z2, z3, z4, z5, z6]).take (Tryz.prog.cellsOf 31)) = some y3 := hf 3 _ rfl
  simp only [i8Cells, w8Cells, List.drop_zero, List.drop_succ_cons, List.take_succ_cons, List.take_zero] at f0 f1 f2 f3
  obtain ⟨m0, e0, _, _⟩ := DataW.trod_int Tryz.underlying3 f0
  obtain ⟨m1, e1, _, _⟩ := DataW.trod_int Tryz.underlying3 f1
  obtain ⟨m2, e2, _, _⟩ := DataW.trod_int Tryz.underlying3 f2
  simp at e0 e1 e2
  subst e0 e1 e2
  obtain ⟨y, q, c, hcs, hs⟩ := raw_cells f3
  simp at hcs
  obtain ⟨rfl, rfl, rfl, rfl⟩ := hcs
  exact ⟨⟨m0, m1, m2, y, q, c⟩, rfl, hs⟩
/-- The steps of the slice at p. -/
def SrSeen (w : World) (p : Option Addr) (E : List Sr) : Prop := ∀ (j : Nat) (x : Sr), E[j]? = some x → ∃ b o, p = some ⟨b, o, none⟩ ∧ (∀ i u, x.row[i]? = some u → w.cell? ⟨b, o + j * 7 + i, none⟩ = some u) ∧ ISeen w (.slice x.q x.r.logs.length x.c) x.r.logs
theorem sr_at {w : World} {p : Option Addr} {E : List Sr} (h : SrSeen w p E) {i : Nat} (hi : i < E.length) : ∃ b o, p = some ⟨b, o, none⟩ ∧ (∀ j u, E[i].row[j]? = some u → w.cell? ⟨b, o + i * 7 + j, none⟩ = some u) ∧ ISeen w (.slice E[i].q E[i].r.logs.length E[i].c) E[i].r.logs := h i _ (List.getElem?_eq_getElem hi)
set_option maxRecDepth 20000 in
theorem srs_in {H : Type} {enc : TypeId × Value → H} {w : World} {base : Nat} {spare : Nat → Bool} {held : Bool} {a0 : Option Addr} {len cap fuel : Nat} {d : DataW H} {p : List MemPlace}
    (h : DataW.trod enc Tryz.prog w base spare held fuel 22 [.slice a0 len cap] = some (d, p)) : ∃ E : List Sr, E.length = len ∧ SrSeen w a0 E := by
  rcases open_slice Tryz.underlying22 h with ⟨h1, h2⟩ | ⟨a, len', cap', m, n, D, Pl, hcs, hb0, hl, hm, hmm, hx, hi⟩
  · simp at h1
    obtain ⟨rfl, rfl, rfl⟩ := h1
    exact ⟨[], rfl, (fun j x hj => by simp at hj)⟩
  · simp at hcs
    obtain ⟨rfl, rfl, rfl⟩ := hcs
    obtain ⟨f, hf⟩ := choose_lt (n := len) (α := Sr) (p := fun i x => ∃ b o, a = ⟨b, o, none⟩ ∧ (∀ k u, x.row[k]? = some u → w.cell? ⟨b, o + i * 7 + k, none⟩ = some u) ∧ ISeen w (.slice x.q x.r.logs.length x.c) x.r.logs) (fun i hil => by
      have him : i < m := by rw [hmm]; split <;> omega
      obtain ⟨cs, h3, h4⟩ := hi i him
      rw [s8Cells] at h3
      obtain ⟨_, hcl, hat⟩ := World.cells?_some h3
      obtain ⟨y, rfl, hs⟩ := step_eight h4
      obtain ⟨b, o, sp⟩ := a
      have hsp : sp = none := by
        obtain ⟨cs0, h30, h40⟩ := hi 0 (by omega)
        rw [s8Cells] at h30
        obtain ⟨_, _, hat0⟩ := World.cells?_some h30
        obtain ⟨y0, rfl, _⟩ := step_eight h40
        have g1 := hat0 0 (by omega)
        rw [add_add, Sr.row, List.getElem?_cons_zero] at g1
        have g2 := World.cell?_spot g1
        rw [show (0 : Nat) * 7 + 0 = 0 from rfl] at g2
        simpa [Addr.add] using g2
      subst hsp
      refine ⟨y, b, o, rfl, fun k u hk => ?_, hs⟩
      have hk4 : k < 7 := (List.getElem?_eq_some_iff.1 hk).1
      have g0 := hat k hk4
      rw [add_add, Addr.add_lit, hk] at g0
      rw [Nat.add_assoc]
      exact g0)
    refine ⟨(List.range len).map f, by simp, (fun j x hj => ?_)⟩
    have hjl := (List.getElem?_eq_some_iff.1 hj).1
    simp at hjl
    obtain ⟨b, o, rfl, h1⟩ := hf j hjl
    simp [hjl] at hj
    subst hj
    exact ⟨b, o, rfl, h1⟩
end Go.Proofs.YtfneadlknieppaaGreatDoor
