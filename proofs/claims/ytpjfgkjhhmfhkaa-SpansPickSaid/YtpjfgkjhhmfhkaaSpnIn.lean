/- How numbers and spans that came in are read. No condition. -/
import Derived.Test.YtpjfgkjhhmfhkaaSpnQ
import Derived.Deep.Slices
import Derived.Deep.Fields
import Derived.ChangeSame
import Derived.OpenShut
import Derived.SizedLaws
namespace Go.Proofs.Ytpjfgkjhhmfhkaa
open Go.RowKit Go.ChangeShapes Go.WideShapes Go.Deep

theorem i10Cells : Try.prog.cellsOf 3 = 1 := by kernel_rfl
theorem s10Cells : Try.prog.cellsOf 23 = 2 := by kernel_rfl
theorem ints10_rng {H : Type} {enc : TypeId × Value → H} {w : World} {base : Nat} {spare : Nat → Bool} {held : Bool} {a0 : Option Addr} {len cap fuel : Nat} {d : DataW H} {p : List MemPlace}
    (h : DataW.trod enc Try.prog w base spare held fuel 29 [.slice a0 len cap] = some (d, p)) : ∃ l : List Int, l.length = len ∧ (∀ x ∈ l, x < 9223372036854775808) ∧ NSeen w (.slice a0 len cap) l := by
  rcases open_ints Try.underlying29 Try.underlying3 i10Cells h with ⟨hcs, hx⟩ | ⟨x, l, c, zs, hcs, _, hl, hm, hz, hx, hcell, hwz⟩
  · simp at hcs
    obtain ⟨rfl, rfl, rfl⟩ := hcs
    exact ⟨[], rfl, fun x h => by simp at h, none, 0, rfl, Nat.le_refl _, fun j x hj => by simp at hj⟩
  · simp at hcs
    obtain ⟨rfl, rfl, rfl⟩ := hcs
    have hzl : len ≤ zs.length := by rw [hz]; split <;> omega
    have hlen : (zs.take len).length = len := by rw [List.length_take]; omega
    refine ⟨zs.take len, hlen, fun x hx => (by have := Go.bounds_i64 (hwz x (List.mem_of_mem_take hx)); omega), some x, cap, by rw [hlen], by rw [hlen]; exact hl, fun j u hj => ⟨x, rfl, ?_⟩⟩
    have hj2 : j < len := by have := (List.getElem?_eq_some_iff.1 hj).1; omega
    have hj3 : j < zs.length := by omega
    rw [hcell j hj3]
    rw [List.getElem?_take, if_pos hj2] at hj
    simp [List.getD, hj]
theorem ints10_in {H : Type} {enc : TypeId × Value → H} {w : World} {base : Nat} {spare : Nat → Bool} {held : Bool} {a0 : Option Addr} {len cap fuel : Nat} {d : DataW H} {p : List MemPlace}
    (h : DataW.trod enc Try.prog w base spare held fuel 29 [.slice a0 len cap] = some (d, p)) : ∃ l : List Int, l.length = len ∧ NSeen w (.slice a0 len cap) l := by
  obtain ⟨l, h1, _, h2⟩ := ints10_rng h
  exact ⟨l, h1, h2⟩
theorem two_of10 {l : List Value} (h : l.length = 2) : ∃ a b, l = [a, b] := by
  match l, h with
  | [a, b], _ => exact ⟨a, b, rfl⟩
theorem span_cells {H : Type} {enc : TypeId × Value → H} {w : World} {base : Nat} {spare : Nat → Bool} {held : Bool} {cs : List Value} {fuel : Nat} {x : DataW H × List MemPlace}
    (h : DataW.trod enc Try.prog w base spare held fuel 23 cs = some x) : ∃ s : Sp, In64 s ∧ cs = [.int .i64 s.1, .int .i64 s.2] := by
  obtain ⟨xs, n', _, hxx, hl, hxl, hf⟩ := DataW.trod_struct Try.underlying23 h
  rw [s10Cells] at hl
  obtain ⟨z0, z1, rfl⟩ := two_of10 hl
  have hx2 : xs.length = 2 := hxl
  obtain ⟨y0, y1, rfl⟩ : ∃ a b, xs = [a, b] := by
    match xs, hx2 with
    | [a, b], _ => exact ⟨a, b, rfl⟩
  have f0 : DataW.trod enc Try.prog w base spare held n' 3 ((List.drop 0 [z0, z1]).take (Try.prog.cellsOf 3)) = some y0 := hf 0 _ rfl
  have f1 : DataW.trod enc Try.prog w base spare held n' 3 ((List.drop 1 [z0, z1]).take (Try.prog.cellsOf 3)) = some y1 := hf 1 _ rfl
  simp only [i10Cells, List.drop_zero, List.drop_succ_cons, List.take_succ_cons, List.take_zero] at f0 f1
  obtain ⟨m0, e0, _, w0⟩ := DataW.trod_int Try.underlying3 f0
  obtain ⟨m1, e1, _, w1⟩ := DataW.trod_int Try.underlying3 f1
  simp at e0 e1
  subst e0 e1
  have b0 := Go.bounds_i64 w0
  have b1 := Go.bounds_i64 w1
  exact ⟨(m0, m1), by unfold In64; simp only; omega, rfl⟩
instance : Inhabited Sp := ⟨(0, 0)⟩
set_option maxRecDepth 20000 in
theorem spans10_in {H : Type} {enc : TypeId × Value → H} {w : World} {base : Nat} {spare : Nat → Bool} {held : Bool} {a0 : Option Addr} {len cap fuel : Nat} {d : DataW H} {p : List MemPlace}
    (h : DataW.trod enc Try.prog w base spare held fuel 24 [.slice a0 len cap] = some (d, p)) : ∃ l : List Sp, l.length = len ∧ (∀ s ∈ l, In64 s) ∧ SSeen w (.slice a0 len cap) l := by
  rcases open_slice Try.underlying24 h with ⟨h1, h2⟩ | ⟨a, len', cap', m, n, D, Pl, hcs, hb0, hl, hm, hmm, hx, hi⟩
  · simp at h1
    obtain ⟨rfl, rfl, rfl⟩ := h1
    exact ⟨[], rfl, fun s h => by simp at h, none, 0, rfl, Nat.le_refl _, fun j x hj => by simp at hj⟩
  · simp at hcs
    obtain ⟨rfl, rfl, rfl⟩ := hcs
    obtain ⟨f, hf⟩ := choose_lt (n := len) (α := Sp) (p := fun i s => In64 s ∧ ∃ b o, a = ⟨b, o, none⟩ ∧ w.cell? ⟨b, o + i * 2, none⟩ = some (.int .i64 s.1) ∧ w.cell? ⟨b, o + i * 2 + 1, none⟩ = some (.int .i64 s.2)) (fun i hil => by
      have him : i < m := by rw [hmm]; split <;> omega
      obtain ⟨cs, h3, h4⟩ := hi i him
      rw [s10Cells] at h3
      obtain ⟨_, hcl, hat⟩ := World.cells?_some h3
      obtain ⟨s, hin, rfl⟩ := span_cells h4
      obtain ⟨b, o, sp⟩ := a
      have hsp : sp = none := by
        obtain ⟨cs0, h30, h40⟩ := hi 0 (by omega)
        rw [s10Cells] at h30
        obtain ⟨_, _, hat0⟩ := World.cells?_some h30
        obtain ⟨y0, _, rfl⟩ := span_cells h40
        have g1 := hat0 0 (by omega)
        rw [add_add, List.getElem?_cons_zero] at g1
        have g2 := World.cell?_spot g1
        rw [show (0 : Nat) * 2 + 0 = 0 from rfl] at g2
        simpa [Addr.add] using g2
      subst hsp
      refine ⟨s, hin, b, o, rfl, ?_, ?_⟩
      · have g0 := hat 0 (by omega)
        rw [add_add, Addr.add_lit] at g0
        simpa using g0
      · have g0 := hat 1 (by omega)
        rw [add_add, Addr.add_lit] at g0
        simpa [Nat.add_assoc] using g0)
    refine ⟨(List.range len).map f, by simp, fun s hs => ?_, some a, cap, by simp, by simpa using hl, (fun j x hj => ?_)⟩
    · obtain ⟨i, hi, rfl⟩ := List.mem_map.1 hs
      exact (hf i (List.mem_range.1 hi)).1
    have hjl := (List.getElem?_eq_some_iff.1 hj).1
    simp at hjl
    obtain ⟨_, b, o, rfl, h1⟩ := hf j hjl
    simp [hjl] at hj
    subst hj
    exact ⟨b, o, rfl, h1⟩
end Go.Proofs.Ytpjfgkjhhmfhkaa
