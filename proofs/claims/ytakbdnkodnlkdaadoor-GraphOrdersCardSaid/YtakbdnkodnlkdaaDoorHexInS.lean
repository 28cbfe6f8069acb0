/- How a slice of numbers and a slice of hashes that came in are read. No condition. -/
import Derived.Test.YtakbdnkodnlkdaaDoorHexIn
import Derived.Test.YtakbdnkodnlkdaaDoorHexSm
import Derived.Deep.Slices
import Derived.Deep.Fields
import Derived.ChangeSame
namespace Go.Proofs.YtakbdnkodnlkdaaDoor
open Go.RowKit Go.ChangeShapes Go.WideShapes Go.Deep

theorem i64Cells : Tryd.prog.cellsOf 3 = 1 := by kernel_rfl
theorem ints_in {H : Type} {enc : TypeId × Value → H} {w : World} {base : Nat} {spare : Nat → Bool} {held : Bool} {a0 : Option Addr} {len cap fuel : Nat} {d : DataW H} {p : List MemPlace}
    (h : DataW.trod enc Tryd.prog w base spare held fuel 49 [.slice a0 len cap] = some (d, p)) : ∃ l : List Int, l.length = len ∧ ISeen w (.slice a0 len cap) l := by
  rcases open_ints Tryd.underlying49 Tryd.underlying3 i64Cells h with ⟨hcs, hx⟩ | ⟨x, l, c, zs, hcs, _, hl, hm, hz, hx, hcell, hwz⟩
  · simp at hcs
    obtain ⟨rfl, rfl, rfl⟩ := hcs
    exact ⟨[], rfl, .inl ⟨rfl, rfl⟩⟩
  · simp at hcs
    obtain ⟨rfl, rfl, rfl⟩ := hcs
    have hzl : len ≤ zs.length := by rw [hz]; split <;> omega
    have hlen : (zs.take len).length = len := by rw [List.length_take]; omega
    refine ⟨zs.take len, hlen, .inr ⟨x, cap, by rw [hlen], by rw [hlen]; exact hl, fun j u hj => ?_⟩⟩
    have hj2 : j < len := by have := (List.getElem?_eq_some_iff.1 hj).1; omega
    have hj3 : j < zs.length := by omega
    rw [hcell j hj3]
    rw [List.getElem?_take, if_pos hj2] at hj
    simp [List.getD, hj]

theorem hashCells : Tryd.prog.cellsOf 26 = 32 := by kernel_rfl
theorem hash_cells {H : Type} {enc : TypeId × Value → H} {w : World} {base : Nat} {spare : Nat → Bool} {held : Bool} {cs : List Value} {fuel : Nat} {x : DataW H × List MemPlace}
    (h : DataW.trod enc Tryd.prog w base spare held fuel 26 cs = some x) : ∃ l : List UInt8, l.length = 32 ∧ cs = us (nmb l) := by
  obtain ⟨xs, m, _, _, hl, hn, hx⟩ := DataW.trod_array Tryd.underlying26 h
  rw [hashCells] at hl
  obtain ⟨l, hl2, e⟩ := hv_of cs.toArray 32 (by simpa using hl) fun i hi => by
    have hi2 := hx i hi
    have hxi : ∃ y, xs[i]? = some y := ⟨xs[i], List.getElem?_eq_getElem (by omega)⟩
    obtain ⟨y, hy⟩ := hxi
    rw [hy, u8Cells] at hi2
    obtain ⟨n, hc, _, wf⟩ := DataW.trod_int Tryd.underlying5 hi2
    have hb := Go.bounds_u8 wf
    refine ⟨n, ?_, by omega, by omega⟩
    rw [Nat.mul_one] at hc
    have h0 := congrArg (fun l => l[0]?) hc
    simpa using h0
  exact ⟨l, hl2, by have := congrArg Array.toList e; rwa [hv_list] at this⟩

theorem hashes_in {H : Type} {enc : TypeId × Value → H} {w : World} {base : Nat} {spare : Nat → Bool} {held : Bool} {a0 : Option Addr} {len cap fuel : Nat} {d : DataW H} {p : List MemPlace}
    (h : DataW.trod enc Tryd.prog w base spare held fuel 31 [.slice a0 len cap] = some (d, p)) :
    ∃ E : List (List UInt8), E.length = len ∧ H32 E ∧ HSeen w (.slice a0 len cap) E ∧ (len = 0 ∨ ∃ elems rest, d = .slice elems rest ∧ elems.length = len) := by
  rcases open_slice Tryd.underlying31 h with ⟨h1, h2⟩ | ⟨a, len', cap', m, n, D, Pl, hcs, hb, hl, hm, hmm, hx, hi⟩
  · simp at h1
    obtain ⟨rfl, rfl, rfl⟩ := h1
    exact ⟨[], rfl, H32.nil, .inl ⟨rfl, rfl⟩, .inl rfl⟩
  · simp at hcs
    obtain ⟨rfl, rfl, rfl⟩ := hcs
    simp at hx
    obtain ⟨f, hf⟩ := choose_lt (n := len) (α := List UInt8) (p := fun i x => x.length = 32 ∧ ∀ c, c < 32 → w.cell? (a.add (i * 32 + c)) = (us (nmb x))[c]?) (fun i hil => by
      have him : i < m := by rw [hmm]; split <;> omega
      obtain ⟨cs, h3, h4⟩ := hi i him
      rw [hashCells] at h3
      obtain ⟨hbase, hcl, hat⟩ := World.cells?_some h3
      obtain ⟨x, hx1, rfl⟩ := hash_cells h4
      refine ⟨x, hx1, fun c hc => ?_⟩
      have := hat c hc
      rwa [add_add] at this)
    have hE : H32 ((List.range len).map f) := fun x hx => by
      obtain ⟨i, hi, rfl⟩ := List.mem_map.1 hx
      exact (hf i (List.mem_range.1 hi)).1
    refine ⟨(List.range len).map f, by simp, hE, .inr ⟨a, cap, by simp, by simpa using hl, fun j u hj => ?_⟩, .inr ⟨_, _, hx.1, by simp⟩⟩
    have hjl := (List.getElem?_eq_some_iff.1 hj).1
    rw [fl_length hE, List.length_map, List.length_range] at hjl
    have hi2 : j / 32 < len := by omega
    have hg := (hf (j / 32) hi2).2 (j % 32) (by omega)
    rw [show j / 32 * 32 + j % 32 = j from by omega] at hg
    rw [hg]
    have ha := fl_at hE (i := j / 32) (c := j % 32) (by simpa using hi2) (by omega)
    rw [show j / 32 * 32 + j % 32 = j from by omega, hj] at ha
    rw [ha]
    simp
theorem hashBytes : Tryd.prog.bytesOf 26 = 32 := by kernel_rfl
end Go.Proofs.YtakbdnkodnlkdaaDoor
