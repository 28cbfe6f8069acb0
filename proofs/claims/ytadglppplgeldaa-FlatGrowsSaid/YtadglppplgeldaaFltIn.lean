/- How raw tables and segments that came in are read. No condition. -/
import Derived.Test.YtadglppplgeldaaFltW
import Derived.Deep.Slices
import Derived.Deep.Fields
import Derived.ChangeSame
import Derived.OpenShut
import Derived.SizedLaws
namespace Go.Proofs.Ytadglppplgeldaa
open Go.RowKit Go.ChangeShapes Go.WideShapes Go.Deep

theorem i14Cells : Try.prog.cellsOf 3 = 1 := by kernel_rfl
theorem b14Cells : Try.prog.cellsOf 4 = 1 := by kernel_rfl
theorem l14Cells : Try.prog.cellsOf 22 = 1 := by kernel_rfl
theorem r14Cells : Try.prog.cellsOf 39 = 2 := by kernel_rfl
theorem g14Cells : Try.prog.cellsOf 33 = 5 := by kernel_rfl
theorem ints14_in {H : Type} {enc : TypeId × Value → H} {w : World} {base : Nat} {spare : Nat → Bool} {held : Bool} {a0 : Option Addr} {len cap fuel : Nat} {d : DataW H} {p : List MemPlace}
    (h : DataW.trod enc Try.prog w base spare held fuel 22 [.slice a0 len cap] = some (d, p)) : ∃ l : List Int, RawN w a0 len cap l := by
  rcases open_ints Try.underlying22 Try.underlying3 i14Cells h with ⟨hcs, hx⟩ | ⟨x, l, c, zs, hcs, _, hl, hm, hz, hx, hcell, hwz⟩
  · simp at hcs
    obtain ⟨rfl, rfl, rfl⟩ := hcs
    exact ⟨[], rfl, ⟨none, 0, rfl, Nat.le_refl _, fun j x hj => by simp at hj⟩, fun x h => by simp at h⟩
  · simp at hcs
    obtain ⟨rfl, rfl, rfl⟩ := hcs
    have hzl : len ≤ zs.length := by rw [hz]; split <;> omega
    have hlen : (zs.take len).length = len := by rw [List.length_take]; omega
    refine ⟨zs.take len, hlen.symm, ⟨some x, cap, by rw [hlen], by rw [hlen]; exact hl, fun j u hj => ⟨x, rfl, ?_⟩⟩, fun x hx => (by have := Go.bounds_i64 (hwz x (List.mem_of_mem_take hx)); omega)⟩
    have hj2 : j < len := by have := (List.getElem?_eq_some_iff.1 hj).1; omega
    have hj3 : j < zs.length := by omega
    rw [hcell j hj3]
    rw [List.getElem?_take, if_pos hj2] at hj
    simp [List.getD, hj]
theorem slice1_cells {H : Type} {enc : TypeId × Value → H} {w : World} {base : Nat} {spare : Nat → Bool} {held : Bool} {z : Value} {fuel : Nat} {x : DataW H × List MemPlace}
    (h : DataW.trod enc Try.prog w base spare held fuel 22 [z] = some x) : ∃ q n c l, z = .slice q n c ∧ RawN w q n c l := by
  obtain ⟨q, n, c, rfl⟩ : ∃ q n c, z = .slice q n c := by
    rcases open_slice Try.underlying22 h with ⟨h1, _⟩ | ⟨a', l', c', _, _, _, _, h1, _⟩
    · simp at h1; exact ⟨_, _, _, h1⟩
    · simp at h1; exact ⟨_, _, _, h1⟩
  obtain ⟨d, p⟩ := x
  obtain ⟨l, hs⟩ := ints14_in h
  exact ⟨q, n, c, l, rfl, hs⟩
theorem two_of14 {l : List Value} (h : l.length = 2) : ∃ a b, l = [a, b] := by
  match l, h with
  | [a, b], _ => exact ⟨a, b, rfl⟩
theorem five_of14 {l : List Value} (h : l.length = 5) : ∃ a b c d e, l = [a, b, c, d, e] := by
  match l, h with
  | [a, b, c, d, e], _ => exact ⟨a, b, c, d, e, rfl⟩
theorem raw14_cells {H : Type} {enc : TypeId × Value → H} {w : World} {base : Nat} {spare : Nat → Bool} {held : Bool} {cs : List Value} {fuel : Nat} {x : DataW H × List MemPlace}
    (h : DataW.trod enc Try.prog w base spare held fuel 39 cs = some x) : ∃ pm nm cm po no co xs ys, cs = [.slice pm nm cm, .slice po no co] ∧ RawN w pm nm cm xs ∧ RawN w po no co ys := by
  obtain ⟨xs, n', _, hxx, hl, hxl, hf⟩ := DataW.trod_struct Try.underlying39 h
  rw [r14Cells] at hl
  obtain ⟨z0, z1, rfl⟩ := two_of14 hl
  have hx2 : xs.length = 2 := hxl
  obtain ⟨y0, y1, rfl⟩ : ∃ a b, xs = [a, b] := by
    match xs, hx2 with
    | [a, b], _ => exact ⟨a, b, rfl⟩
  have f0 : DataW.trod enc Try.prog w base spare held n' 22 ((List.drop 0 [z0, z1]).take (Try.prog.cellsOf 22)) = some y0 := hf 0 _ rfl
  have f1 : DataW.trod enc Try.prog w base spare held n' 22 ((List.drop 1 [z0, z1]).take (Try.prog.cellsOf 22)) = some y1 := hf 1 _ rfl
  simp only [l14Cells, List.drop_zero, List.drop_succ_cons, List.take_succ_cons, List.take_zero] at f0 f1
  obtain ⟨q, n, c, l, rfl, hs⟩ := slice1_cells f0
  obtain ⟨q', n2, c', l', rfl, hs'⟩ := slice1_cells f1
  exact ⟨_, _, _, _, _, _, _, _, rfl, hs, hs'⟩
set_option maxRecDepth 20000 in
theorem raw14_in {H : Type} {enc : TypeId × Value → H} {w : World} {base b0 : Nat} {spare : Nat → Bool} {held : Bool} {r : Reach} {v : Value} {d : DataW H} {p : List MemPlace}
    (hval : Value.okWide Try.prog w r b0 39 v) (h : DataW.Trod enc Try.prog w base spare held 39 v d p) : ∃ pm nm cm po no co xs ys, v = tv pm nm cm po no co ∧ RawN w pm nm cm xs ∧ RawN w po no co ys := by
  simp only [Value.okWide, Try.underlying39] at hval
  obtain ⟨cs, rfl, h2, _⟩ := hval
  obtain ⟨fuel, hf⟩ := h
  obtain ⟨pm, nm, cm, po, no, co, xs, ys, hcs, h3, h4⟩ := raw14_cells hf
  refine ⟨pm, nm, cm, po, no, co, xs, ys, ?_, h3, h4⟩
  have : cs.toList = _ := hcs
  rw [show cs = cs.toList.toArray by simp, this]
end Go.Proofs.Ytadglppplgeldaa
