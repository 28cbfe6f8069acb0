/- How a slice of bytes that came in is read. No condition. -/
import Derived.Test.YtbpccbhlggcmfaaDoorOctKit
import Derived.Deep.Slices
import Derived.ChangeSame
import Derived.OpenShut
namespace Go.Proofs.YtbpccbhlggcmfaaDoor
open Go.RowKit Go.ChangeShapes Go.WideShapes Go.Deep

theorem u8Cells : Tryd.prog.cellsOf 5 = 1 := by kernel_rfl
theorem u8Bytes : Tryd.prog.bytesOf 5 = 1 := by kernel_rfl

theorem bytes_in {H : Type} {enc : TypeId × Value → H} {w : World} {base : Nat} {spare : Nat → Bool} {held : Bool} {a0 : Option Addr} {len cap fuel : Nat} {d : DataW H} {p : List MemPlace}
    (h : DataW.trod enc Tryd.prog w base spare held fuel 87 [.slice a0 len cap] = some (d, p)) :
    ∃ l : List Int, l.length = len ∧ Okb l ∧ Seen w (.slice a0 len cap) l ∧ (len = 0 ∨ ∃ rest, d = .slice (lits .u8 l) rest) := by
  rcases open_ints Tryd.underlying87 Tryd.underlying5 u8Cells h with ⟨hcs, hx⟩ | ⟨x, l, c, zs, hcs, _, hl, hm, hz, hx, hcell, hwz⟩
  · simp at hcs
    obtain ⟨rfl, rfl, rfl⟩ := hcs
    exact ⟨[], rfl, Okb.nil, Seen.nil _, .inl rfl⟩
  · simp at hcs
    obtain ⟨rfl, rfl, rfl⟩ := hcs
    have hzl : len ≤ zs.length := by rw [hz]; split <;> omega
    have hlen : (zs.take len).length = len := by rw [List.length_take]; omega
    refine ⟨zs.take len, hlen, fun y hy => ?_, .inr ⟨x, cap, by rw [hlen], by rw [hlen]; exact hl, fun j u hj => ?_⟩, .inr ⟨_, by simpa using congrArg Prod.fst hx⟩⟩
    · have := Go.bounds_u8 (hwz y (List.mem_of_mem_take hy))
      omega
    · have hj2 : j < len := by
        have := (List.getElem?_eq_some_iff.1 hj).1
        simp [us] at this; omega
      have hj3 : j < zs.length := by omega
      rw [hcell j hj3]
      have e : (us (zs.take len))[j]? = some (.int .u8 (zs.getD j 0)) := by simp [us, hj2, List.getD, hj3]
      rw [e] at hj
      exact hj
end Go.Proofs.YtbpccbhlggcmfaaDoor
