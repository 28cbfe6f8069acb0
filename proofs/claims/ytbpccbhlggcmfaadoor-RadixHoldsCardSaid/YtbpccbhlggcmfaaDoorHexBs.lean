/- A literal of hashes as one step. No condition. -/
import Derived.Test.YtbpccbhlggcmfaaDoorHexSc
import Derived.Great.BuildSlice
namespace Go.Proofs.YtbpccbhlggcmfaaDoor
open Go.RowKit
variable {ops : Array Oper} {rest : List Oper} {a : Act} {w : World} {Q : Exit → Act → World → Prop} {dst : Option Tmp} {T : TypeId} {pos : String} {after : Array Edge}

theorem fl_flat (E : List (List UInt8)) : (E.map fun h => Value.agg (hv h)).flatMap (fun v => v.cells.toList) = fl E := by
  rw [List.flatMap_map]
  unfold fl
  congr 1
theorem build_hash {E : List (List UInt8)} {parts : Array (Nat × Operand)} {len : Nat} (hE : H32 E) (hl : len = E.length) (h0 : 0 < E.length) (h1 : E.length ≤ 1000)
    (hv' : (parts.map fun (i, x) => (i, a.eval x)).toList = ((E.map fun h => Value.agg (hv h)).zipIdx 0).map fun x => (x.2, x.1))
    (h : wpList Tryd.prog ops Q rest (a.put dst (.slice (some ⟨w.heap.size, 0, none⟩) len len)) (w.alloc (.cells (fl E).toArray 33))) : wpList Tryd.prog ops Q (⟨dst, .buildSlice 28 len parts, T, pos, after, none⟩ :: rest) a w := by
  subst hl
  obtain ⟨i0, hi0, hz0, hz1, hz2⟩ := info_parts hzinfo
  refine wpList_buildSlice rfl 28 33 E.length parts rfl (fl E).toArray i0 (.agg hzer) Tryd.underlying28 hi0 hz0 (by rw [hz1]; omega) (by rw [hz1]; omega) ?_ h
  rw [hv', hz1]
  have := Great.fill_whole (s := 32) (by decide) (E.map fun h => Value.agg (hv h)) ((Array.range (E.length * 32)).map ((Value.agg hzer).cells[· % (Value.agg hzer).cells.size]!)) (fun v hvm => by
    obtain ⟨h, hm, rfl⟩ := List.mem_map.1 hvm
    show (hv h).size = 32
    rw [hv_size, hE h hm]) (by simp)
  rw [fl_flat] at this
  exact this
end Go.Proofs.YtbpccbhlggcmfaaDoor
