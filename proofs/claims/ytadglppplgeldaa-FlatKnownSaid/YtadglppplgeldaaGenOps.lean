/- Operations of a plain region on whole arrays, one at a time: load, store, move, build. No condition. -/
import Derived.Test.YtadglppplgeldaaOctBits
import Derived.Laws.Tables
import Derived.Deep.WholeRow
import Derived.Deep.MidRow
namespace Go.Proofs.Ytadglppplgeldaa
open Go.RowKit
variable {P : Program} {ops : Array Oper} {rest : List Oper} {a : Act} {w : World} {Q : Exit → Act → World → Prop} {dst : Option Tmp} {T : TypeId} {pos : String} {after : Array Edge}

theorem load_to {ty : TypeId} {x : Operand} {b o : Nat} {cs : List Value} {d : TypeDesc} (hc : w.rangeAt b o cs) (hu : P.underlying ty = some d) (hd : d.isRow = true) (hi : (P.info? ty).map (·.size) = some cs.length)
    (hx : a.eval x = .pointer (some ⟨b, o, none⟩)) (h : wpList P ops Q rest (a.put dst (.agg cs.toArray)) w) : wpList P ops Q (⟨dst, .load ty x, T, pos, after, none⟩ :: rest) a w :=
  wpList_load_mid rfl ty x rfl b o hx cs d hc hu hd hi h

theorem move_to {x : Operand} (h : wpList P ops Q rest (a.put dst (a.eval x)) w) : wpList P ops Q (⟨dst, .move x, T, pos, after, none⟩ :: rest) a w :=
  wpList_plain rfl fun _ hK => by
    unfold Oper.wp execOp
    simp only [Sem.run_pure]
    exact hK _ _ h

theorem build_to {t : TypeId} {parts : Array (Nat × Operand)} {vals : Array (Nat × Value)} {cells : Array Value} (hr : P.built t vals.toList = some cells) (hv : (parts.map fun (i, x) => (i, a.eval x)) = vals)
    (h : wpList P ops Q rest (a.put dst (.agg cells)) w) : wpList P ops Q (⟨dst, .build t parts, T, pos, after, none⟩ :: rest) a w :=
  wpList_plain rfl fun _ hK => wp_build t parts rfl (by rw [hv, hr]; rfl) (by rw [hv, hr]; exact hK _ _ h)

theorem store_to {ty : TypeId} {x y : Operand} {b o : Nat} {cells : Array Value} (ht : w.there b o cells.size) (hi : (P.info? ty).map (·.size) = some cells.size) (h1 : cells.all (·.oneCell') = true)
    (hx : a.eval x = .pointer (some ⟨b, o, none⟩)) (hy : a.eval y = .agg cells) (h : wpList P ops Q rest (a.put dst undef) (w.setCells b o cells.toList)) : wpList P ops Q (⟨dst, .store ty x y, T, pos, after, none⟩ :: rest) a w :=
  wpList_store_mid rfl ty x y rfl b o cells hx hy ht hi h1 h

theorem range_new (w : World) (h : Array Value) (t : TypeId) : (w.alloc (.cells h t)).rangeAt w.heap.size 0 h.toList := fun j v hv => by
  rw [Nat.zero_add, cell_of_row _ _ j h t (0, 0) (heap_alloc_last w _)]
  simpa using hv

theorem range_row {w : World} {p : Nat} {h : Array Value} {t : TypeId} (hp : w.heap[p]? = some (.cells h t (0, 0))) : w.rangeAt p 0 h.toList := fun j v hv => by
  rw [Nat.zero_add, cell_of_row w p j h t (0, 0) hp]
  simpa using hv

theorem Only.setCells {S : Nat → Prop} {b : Nat} (hb : S b) : ∀ (vs : List Value) (o : Nat) {a w : World}, Only S a w → Only S a (w.setCells b o vs)
  | [], _, _, _, h => h
  | v :: vs, o, _, _, h => Only.setCells hb vs (o + 1) (h.setCell (p := ⟨b, o, none⟩) hb v)

theorem there_row {w : World} {p : Nat} {h : Array Value} {t : TypeId} (hp : w.heap[p]? = some (.cells h t (0, 0))) : w.there p 0 h.size := fun j hj => by
  rw [Nat.zero_add]
  constructor
  · rw [cell_of_row w p j h t (0, 0) hp]; simp [hj]
  · have := free_of_one (w := w) (b := p) (v := .bool true) (t := t)
    clear this
    simp [World.frozen?, hp]

/-- The whole array, out of a block that was stored whole. -/
theorem loaded {t : TypeId} {d : TypeDesc} {b : Nat} {q : Array Value} (ht : w.there b 0 q.size) (hu : P.underlying t = some d) (hd : d.isRow = true) (hi : (P.info? t).map (·.size) = some q.size) :
    (loadVar t ⟨b, 0, none⟩).run P (w.setCells b 0 q.toList) = .ok (.agg q) (w.setCells b 0 q.toList) :=
  run_loadVar_mid _ b 0 t q.toList d (World.rangeAt_setCells_same _ _ _ _ (by simpa using ht)) hu hd (by simpa using hi)

end Go.Proofs.Ytadglppplgeldaa
