/- How a slice of bytes that came in is read. No condition. · How a hash that came in is read. No condition. -/
import Derived.Test.YtakbdnkodnlkdaaDoorOctBits
import Derived.Deep.Slices
import Derived.ChangeSame
import Derived.OpenShut
import Derived.Test.YtakbdnkodnlkdaaDoorHexH
namespace Go.Proofs.YtakbdnkodnlkdaaDoor
open Go.RowKit Go.ChangeShapes Go.WideShapes Go.Deep

theorem u8Cells : Tryd.prog.cellsOf 5 = 1 := by kernel_rfl
theorem u8Bytes : Tryd.prog.bytesOf 5 = 1 := by kernel_rfl

theorem bytes_in {H : Type} {enc : TypeId × Value → H} {w : World} {base : Nat} {spare : Nat → Bool} {held : Bool} {a0 : Option Addr} {len cap fuel : Nat} {d : DataW H} {p : List MemPlace}
    (h : DataW.trod enc Tryd.prog w base spare held fuel 132 [.slice a0 len cap] = some (d, p)) :
    ∃ l : List Int, l.length = len ∧ Okb l ∧ Seen w (.slice a0 len cap) l ∧ (len = 0 ∨ ∃ rest, d = .slice (lits .u8 l) rest) := by
  rcases open_ints Tryd.underlying132 Tryd.underlying5 u8Cells h with ⟨hcs, hx⟩ | ⟨x, l, c, zs, hcs, _, hl, hm, hz, hx, hcell, hwz⟩
  · simp at hcs
    obtain ⟨rfl, rfl, rfl⟩ := hcs
    exact ⟨[], rfl, Okb.nil, Seen.nil _, .inl rfl⟩
  · simp at hcs
    obtain ⟨rfl, rfl, rfl⟩ := hcs
    have hzl : len ≤ zs.length := by rw [hz]; split <;> omega
    have hlen : (zs.take len).length = len := by rw [List.length_take]; omega
    refine ⟨zs.take len, hlen, fun y hy => ?_, .inr ⟨x, cap, by rw [hlen], by rw [hlen]; exact hl, fun j u hj => ?_⟩, .inr ⟨_, by simpa using congrArg Prod.fst hx⟩⟩
    · have := Go.bounds_u8 (hwz y (List.mem_of_mem_take hy))
      omega
    · have hj2 : j < len := by
        have := (List.getElem?_eq_some_iff.1 hj).1
        simp [us] at this; omega
      have hj3 : j < zs.length := by omega
      rw [hcell j hj3]
      have e : (us (zs.take len))[j]? = some (.int .u8 (zs.getD j 0)) := by simp [us, hj2, List.getD, hj3]
      rw [e] at hj
      exact hj
end Go.Proofs.YtakbdnkodnlkdaaDoor
namespace Go.Proofs.YtakbdnkodnlkdaaDoor
open Go.RowKit Go.ChangeShapes Go.WideShapes

/-- Cells that are bytes are a hash's cells. -/
theorem hv_of (xs : Array Value) (n : Nat) (hs : xs.size = n) (h : ∀ i, i < n → ∃ y : Int, xs[i]? = some (.int .u8 y) ∧ 0 ≤ y ∧ y < 256) : ∃ l : List UInt8, l.length = n ∧ xs = hv l := by
  refine ⟨xs.toList.map fun v => u8o (intOf v), by simp [hs], ?_⟩
  apply Array.ext_getElem?
  intro i
  by_cases hi : i < n
  · obtain ⟨y, hy, y0, y1⟩ := h i hi
    have hx : xs.toList[i]? = some (.int .u8 y) := by simpa using hy
    have e : (hv (xs.toList.map fun v => u8o (intOf v)))[i]? = some (.int .u8 y) := by
      unfold hv us nmb
      rw [List.getElem?_toArray, List.getElem?_map, List.getElem?_map, List.getElem?_map, hx]
      simp only [Option.map_some, intOf]
      rw [u8o_nat y0 y1]
    rw [hy, e]
  · rw [Array.getElem?_eq_none (by omega), Array.getElem?_eq_none (by rw [hv_size]; simp; omega)]

set_option maxRecDepth 20000 in
theorem hash_in {H : Type} {enc : TypeId × Value → H} {w : World} {base b0 : Nat} {spare : Nat → Bool} {held : Bool} {r : Reach} {v : Value} {d : DataW H} {p : List MemPlace}
    (hval : Value.okWide Tryd.prog w r b0 26 v) (h : DataW.Trod enc Tryd.prog w base spare held 26 v d p) : ∃ l : List UInt8, l.length = 32 ∧ v = .agg (hv l) := by
  have hC : Tryd.prog.cellsOf 26 = 32 := by kernel_rfl
  simp only [Value.okWide, Tryd.underlying26] at hval
  obtain ⟨cs, rfl, h2, _⟩ := hval
  obtain ⟨fuel, hf⟩ := h
  obtain ⟨xs, m, _, _, hl, hn, hx⟩ := DataW.trod_array Tryd.underlying26 hf
  rw [hC] at h2
  obtain ⟨l, hl2, rfl⟩ := hv_of cs 32 h2 fun i hi => by
    have hi2 := hx i hi
    have hxi : ∃ y, xs[i]? = some y := ⟨xs[i], List.getElem?_eq_getElem (by omega)⟩
    obtain ⟨y, hy⟩ := hxi
    rw [hy, u8Cells] at hi2
    obtain ⟨n, hc, _, wf⟩ := DataW.trod_int Tryd.underlying5 hi2
    have hb := Go.bounds_u8 wf
    refine ⟨n, ?_, by omega, by omega⟩
    have hg : ((Value.agg cs).cells.toList.drop (i * 1)).take 1 = [.int .u8 n] := hc
    rw [Nat.mul_one] at hg
    have : (Value.agg cs).cells.toList[i]? = some (.int .u8 n) := by
      have h0 := congrArg (fun l => l[0]?) hg
      simpa using h0
    simpa [Value.cells] using this
  exact ⟨l, hl2, rfl⟩
end Go.Proofs.YtakbdnkodnlkdaaDoor
