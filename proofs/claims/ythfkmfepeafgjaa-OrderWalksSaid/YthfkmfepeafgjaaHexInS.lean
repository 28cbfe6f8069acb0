/- How a slice of bytes that came in is read. No condition. · How a hash that came in is read. No condition. · How a slice of numbers and a slice of hashes that came in are read. No condition. -/
import Derived.Test.YthfkmfepeafgjaaOctBits
import Derived.Deep.Slices
import Derived.ChangeSame
import Derived.OpenShut
import Derived.Test.YthfkmfepeafgjaaHexH
import Derived.Test.YthfkmfepeafgjaaHexSm
import Derived.Deep.Fields
namespace Go.Proofs.Ythfkmfepeafgjaa
open Go.RowKit Go.ChangeShapes Go.WideShapes Go.Deep

theorem u8Cells : Try.prog.cellsOf 5 = 1 := by kernel_rfl
theorem u8Bytes : Try.prog.bytesOf 5 = 1 := by kernel_rfl

theorem bytes_in {H : Type} {enc : TypeId × Value → H} {w : World} {base : Nat} {spare : Nat → Bool} {held : Bool} {a0 : Option Addr} {len cap fuel : Nat} {d : DataW H} {p : List MemPlace}
    (h : DataW.trod enc Try.prog w base spare held fuel 121 [.slice a0 len cap] = some (d, p)) :
    ∃ l : List Int, l.length = len ∧ Okb l ∧ Seen w (.slice a0 len cap) l ∧ (len = 0 ∨ ∃ rest, d = .slice (lits .u8 l) rest) := by
  rcases open_ints Try.underlying121 Try.underlying5 u8Cells h with ⟨hcs, hx⟩ | ⟨x, l, c, zs, hcs, _, hl, hm, hz, hx, hcell, hwz⟩
  · simp at hcs
    obtain ⟨rfl, rfl, rfl⟩ := hcs
    exact ⟨[], rfl, Okb.nil, Seen.nil _, .inl rfl⟩
  · simp at hcs
    obtain ⟨rfl, rfl, rfl⟩ := hcs
    have hzl : len ≤ zs.length := by rw [hz]; split <;> omega
    have hlen : (zs.take len).length = len := by rw [List.length_take]; omega
    refine ⟨zs.take len, hlen, fun y hy => ?_, .inr ⟨x, cap, by rw [hlen], by rw [hlen]; exact hl, fun j u hj => ?_⟩, .inr ⟨_, by simpa using congrArg Prod.fst hx⟩⟩
    · have := Go.bounds_u8 (hwz y (List.mem_of_mem_take hy))
      omega
    · have hj2 : j < len := by
        have := (List.getElem?_eq_some_iff.1 hj).1
        simp [us] at this; omega
      have hj3 : j < zs.length := by omega
      rw [hcell j hj3]
      have e : (us (zs.take len))[j]? = some (.int .u8 (zs.getD j 0)) := by simp [us, hj2, List.getD, hj3]
      rw [e] at hj
      exact hj
end Go.Proofs.Ythfkmfepeafgjaa
namespace Go.Proofs.Ythfkmfepeafgjaa
open Go.RowKit Go.ChangeShapes Go.WideShapes

/-- Cells that are bytes are a hash's cells. -/
theorem hv_of (xs : Array Value) (n : Nat) (hs : xs.size = n) (h : ∀ i, i < n → ∃ y : Int, xs[i]? = some (.int .u8 y) ∧ 0 ≤ y ∧ y < 256) : ∃ l : List UInt8, l.length = n ∧ xs = hv l := by
  refine ⟨xs.toList.map fun v => u8o (intOf v), by simp [hs], ?_⟩
  apply Array.ext_getElem?
  intro i
  by_cases hi : i < n
  · obtain ⟨y, hy, y0, y1⟩ := h i hi
    have hx : xs.toList[i]? = some (.int .u8 y) := by simpa using hy
    have e : (hv (xs.toList.map fun v => u8o (intOf v)))[i]? = some (.int .u8 y) := by
      unfold hv us nmb
      rw [List.getElem?_toArray, List.getElem?_map, List.getElem?_map, List.getElem?_map, hx]
      simp only [Option.map_some, intOf]
      rw [u8o_nat y0 y1]
    rw [hy, e]
  · rw [Array.getElem?_eq_none (by omega), Array.getElem?_eq_none (by rw [hv_size]; simp; omega)]

set_option maxRecDepth 20000 in
theorem hash_in {H : Type} {enc : TypeId × Value → H} {w : World} {base b0 : Nat} {spare : Nat → Bool} {held : Bool} {r : Reach} {v : Value} {d : DataW H} {p : List MemPlace}
    (hval : Value.okWide Try.prog w r b0 28 v) (h : DataW.Trod enc Try.prog w base spare held 28 v d p) : ∃ l : List UInt8, l.length = 32 ∧ v = .agg (hv l) := by
  have hC : Try.prog.cellsOf 28 = 32 := by kernel_rfl
  simp only [Value.okWide, Try.underlying28] at hval
  obtain ⟨cs, rfl, h2, _⟩ := hval
  obtain ⟨fuel, hf⟩ := h
  obtain ⟨xs, m, _, _, hl, hn, hx⟩ := DataW.trod_array Try.underlying28 hf
  rw [hC] at h2
  obtain ⟨l, hl2, rfl⟩ := hv_of cs 32 h2 fun i hi => by
    have hi2 := hx i hi
    have hxi : ∃ y, xs[i]? = some y := ⟨xs[i], List.getElem?_eq_getElem (by omega)⟩
    obtain ⟨y, hy⟩ := hxi
    rw [hy, u8Cells] at hi2
    obtain ⟨n, hc, _, wf⟩ := DataW.trod_int Try.underlying5 hi2
    have hb := Go.bounds_u8 wf
    refine ⟨n, ?_, by omega, by omega⟩
    have hg : ((Value.agg cs).cells.toList.drop (i * 1)).take 1 = [.int .u8 n] := hc
    rw [Nat.mul_one] at hg
    have : (Value.agg cs).cells.toList[i]? = some (.int .u8 n) := by
      have h0 := congrArg (fun l => l[0]?) hg
      simpa using h0
    simpa [Value.cells] using this
  exact ⟨l, hl2, rfl⟩
end Go.Proofs.Ythfkmfepeafgjaa
namespace Go.Proofs.Ythfkmfepeafgjaa
open Go.RowKit Go.ChangeShapes Go.WideShapes Go.Deep

theorem i64Cells : Try.prog.cellsOf 3 = 1 := by kernel_rfl
theorem ints_in {H : Type} {enc : TypeId × Value → H} {w : World} {base : Nat} {spare : Nat → Bool} {held : Bool} {a0 : Option Addr} {len cap fuel : Nat} {d : DataW H} {p : List MemPlace}
    (h : DataW.trod enc Try.prog w base spare held fuel 33 [.slice a0 len cap] = some (d, p)) : ∃ l : List Int, l.length = len ∧ ISeen w (.slice a0 len cap) l := by
  rcases open_ints Try.underlying33 Try.underlying3 i64Cells h with ⟨hcs, hx⟩ | ⟨x, l, c, zs, hcs, _, hl, hm, hz, hx, hcell, hwz⟩
  · simp at hcs
    obtain ⟨rfl, rfl, rfl⟩ := hcs
    exact ⟨[], rfl, .inl ⟨rfl, rfl⟩⟩
  · simp at hcs
    obtain ⟨rfl, rfl, rfl⟩ := hcs
    have hzl : len ≤ zs.length := by rw [hz]; split <;> omega
    have hlen : (zs.take len).length = len := by rw [List.length_take]; omega
    refine ⟨zs.take len, hlen, .inr ⟨x, cap, by rw [hlen], by rw [hlen]; exact hl, fun j u hj => ?_⟩⟩
    have hj2 : j < len := by have := (List.getElem?_eq_some_iff.1 hj).1; omega
    have hj3 : j < zs.length := by omega
    rw [hcell j hj3]
    rw [List.getElem?_take, if_pos hj2] at hj
    simp [List.getD, hj]

theorem hashCells : Try.prog.cellsOf 28 = 32 := by kernel_rfl
theorem hash_cells {H : Type} {enc : TypeId × Value → H} {w : World} {base : Nat} {spare : Nat → Bool} {held : Bool} {cs : List Value} {fuel : Nat} {x : DataW H × List MemPlace}
    (h : DataW.trod enc Try.prog w base spare held fuel 28 cs = some x) : ∃ l : List UInt8, l.length = 32 ∧ cs = us (nmb l) := by
  obtain ⟨xs, m, _, _, hl, hn, hx⟩ := DataW.trod_array Try.underlying28 h
  rw [hashCells] at hl
  obtain ⟨l, hl2, e⟩ := hv_of cs.toArray 32 (by simpa using hl) fun i hi => by
    have hi2 := hx i hi
    have hxi : ∃ y, xs[i]? = some y := ⟨xs[i], List.getElem?_eq_getElem (by omega)⟩
    obtain ⟨y, hy⟩ := hxi
    rw [hy, u8Cells] at hi2
    obtain ⟨n, hc, _, wf⟩ := DataW.trod_int Try.underlying5 hi2
    have hb := Go.bounds_u8 wf
    refine ⟨n, ?_, by omega, by omega⟩
    rw [Nat.mul_one] at hc
    have h0 := congrArg (fun l => l[0]?) hc
    simpa using h0
  exact ⟨l, hl2, by have := congrArg Array.toList e; rwa [hv_list] at this⟩

theorem hashes_in {H : Type} {enc : TypeId × Value → H} {w : World} {base : Nat} {spare : Nat → Bool} {held : Bool} {a0 : Option Addr} {len cap fuel : Nat} {d : DataW H} {p : List MemPlace}
    (h : DataW.trod enc Try.prog w base spare held fuel 25 [.slice a0 len cap] = some (d, p)) :
    ∃ E : List (List UInt8), E.length = len ∧ H32 E ∧ HSeen w (.slice a0 len cap) E ∧ (len = 0 ∨ ∃ elems rest, d = .slice elems rest ∧ elems.length = len) := by
  rcases open_slice Try.underlying25 h with ⟨h1, h2⟩ | ⟨a, len', cap', m, n, D, Pl, hcs, hb, hl, hm, hmm, hx, hi⟩
  · simp at h1
    obtain ⟨rfl, rfl, rfl⟩ := h1
    exact ⟨[], rfl, H32.nil, .inl ⟨rfl, rfl⟩, .inl rfl⟩
  · simp at hcs
    obtain ⟨rfl, rfl, rfl⟩ := hcs
    simp at hx
    obtain ⟨f, hf⟩ := choose_lt (n := len) (α := List UInt8) (p := fun i x => x.length = 32 ∧ ∀ c, c < 32 → w.cell? (a.add (i * 32 + c)) = (us (nmb x))[c]?) (fun i hil => by
      have him : i < m := by rw [hmm]; split <;> omega
      obtain ⟨cs, h3, h4⟩ := hi i him
      rw [hashCells] at h3
      obtain ⟨hbase, hcl, hat⟩ := World.cells?_some h3
      obtain ⟨x, hx1, rfl⟩ := hash_cells h4
      refine ⟨x, hx1, fun c hc => ?_⟩
      have := hat c hc
      rwa [add_add] at this)
    have hE : H32 ((List.range len).map f) := fun x hx => by
      obtain ⟨i, hi, rfl⟩ := List.mem_map.1 hx
      exact (hf i (List.mem_range.1 hi)).1
    refine ⟨(List.range len).map f, by simp, hE, .inr ⟨a, cap, by simp, by simpa using hl, fun j u hj => ?_⟩, .inr ⟨_, _, hx.1, by simp⟩⟩
    have hjl := (List.getElem?_eq_some_iff.1 hj).1
    rw [fl_length hE, List.length_map, List.length_range] at hjl
    have hi2 : j / 32 < len := by omega
    have hg := (hf (j / 32) hi2).2 (j % 32) (by omega)
    rw [show j / 32 * 32 + j % 32 = j from by omega] at hg
    rw [hg]
    have ha := fl_at hE (i := j / 32) (c := j % 32) (by simpa using hi2) (by omega)
    rw [show j / 32 * 32 + j % 32 = j from by omega, hj] at ha
    rw [ha]
    simp
theorem hashBytes : Try.prog.bytesOf 28 = 32 := by kernel_rfl
end Go.Proofs.Ythfkmfepeafgjaa
