/- How a hash that came in is read. No condition. -/
import Derived.Test.YtbpccbhlggcmfaaDoorHexH
import Derived.Test.YtbpccbhlggcmfaaDoorGenIn
import Derived.OpenShut
namespace Go.Proofs.YtbpccbhlggcmfaaDoor
open Go.RowKit Go.ChangeShapes Go.WideShapes

/-- Cells that are bytes are a hash's cells. -/
theorem hv_of (xs : Array Value) (n : Nat) (hs : xs.size = n) (h : ∀ i, i < n → ∃ y : Int, xs[i]? = some (.int .u8 y) ∧ 0 ≤ y ∧ y < 256) : ∃ l : List UInt8, l.length = n ∧ xs = hv l := by
  refine ⟨xs.toList.map fun v => u8o (intOf v), by simp [hs], ?_⟩
  apply Array.ext_getElem?
  intro i
  by_cases hi : i < n
  · obtain ⟨y, hy, y0, y1⟩ := h i hi
    have hx : xs.toList[i]? = some (.int .u8 y) := by simpa using hy
    have e : (hv (xs.toList.map fun v => u8o (intOf v)))[i]? = some (.int .u8 y) := by
      unfold hv us nmb
      rw [List.getElem?_toArray, List.getElem?_map, List.getElem?_map, List.getElem?_map, hx]
      simp only [Option.map_some, intOf]
      rw [u8o_nat y0 y1]
    rw [hy, e]
  · rw [Array.getElem?_eq_none (by omega), Array.getElem?_eq_none (by rw [hv_size]; simp; omega)]

set_option maxRecDepth 20000 in
theorem hash_in {H : Type} {enc : TypeId × Value → H} {w : World} {base b0 : Nat} {spare : Nat → Bool} {held : Bool} {r : Reach} {v : Value} {d : DataW H} {p : List MemPlace}
    (hval : Value.okWide Tryd.prog w r b0 33 v) (h : DataW.Trod enc Tryd.prog w base spare held 33 v d p) : ∃ l : List UInt8, l.length = 32 ∧ v = .agg (hv l) := by
  have hC : Tryd.prog.cellsOf 33 = 32 := by kernel_rfl
  simp only [Value.okWide, Tryd.underlying33] at hval
  obtain ⟨cs, rfl, h2, _⟩ := hval
  obtain ⟨fuel, hf⟩ := h
  obtain ⟨xs, m, _, _, hl, hn, hx⟩ := DataW.trod_array Tryd.underlying33 hf
  rw [hC] at h2
  obtain ⟨l, hl2, rfl⟩ := hv_of cs 32 h2 fun i hi => by
    have hi2 := hx i hi
    have hxi : ∃ y, xs[i]? = some y := ⟨xs[i], List.getElem?_eq_getElem (by omega)⟩
    obtain ⟨y, hy⟩ := hxi
    rw [hy, u8Cells] at hi2
    obtain ⟨n, hc, _, wf⟩ := DataW.trod_int Tryd.underlying5 hi2
    have hb := Go.bounds_u8 wf
    refine ⟨n, ?_, by omega, by omega⟩
    have hg : ((Value.agg cs).cells.toList.drop (i * 1)).take 1 = [.int .u8 n] := hc
    rw [Nat.mul_one] at hg
    have : (Value.agg cs).cells.toList[i]? = some (.int .u8 n) := by
      have h0 := congrArg (fun l => l[0]?) hg
      simpa using h0
    simpa [Value.cells] using this
  exact ⟨l, hl2, rfl⟩
end Go.Proofs.YtbpccbhlggcmfaaDoor
