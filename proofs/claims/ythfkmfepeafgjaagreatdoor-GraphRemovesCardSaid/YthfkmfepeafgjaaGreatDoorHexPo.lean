/- A literal of hashes as one step. No condition. · The reference's Put: one more hash in its place. Condition: the slice is within what a slice may take up. · The reference's Put into nothing, its Sort, and SameHashes. Condition: the slices are within what a slice may take up. -/
import Derived.Test.YthfkmfepeafgjaaGreatDoorHexSk
import Derived.Great.BuildSlice
import Derived.Test.YthfkmfepeafgjaaGreatDoorHexR
import Derived.Deep.RegionHeld3
import Derived.Laws.AppendOwnNone
namespace Go.Proofs.YthfkmfepeafgjaaGreatDoor
open Go.RowKit
variable {ops : Array Oper} {rest : List Oper} {a : Act} {w : World} {Q : Exit → Act → World → Prop} {dst : Option Tmp} {T : TypeId} {pos : String} {after : Array Edge}

theorem fl_flat (E : List (List UInt8)) : (E.map fun h => Value.agg (hv h)).flatMap (fun v => v.cells.toList) = fl E := by
  rw [List.flatMap_map]
  unfold fl
  congr 1
theorem build_hash {E : List (List UInt8)} {parts : Array (Nat × Operand)} {len : Nat} (hE : H32 E) (hl : len = E.length) (h0 : 0 < E.length) (h1 : E.length ≤ 1000)
    (hv' : (parts.map fun (i, x) => (i, a.eval x)).toList = ((E.map fun h => Value.agg (hv h)).zipIdx 0).map fun x => (x.2, x.1))
    (h : wpList Tryz.prog ops Q rest (a.put dst (.slice (some ⟨w.heap.size, 0, none⟩) len len)) (w.alloc (.cells (fl E).toArray 40))) : wpList Tryz.prog ops Q (⟨dst, .buildSlice 31 len parts, T, pos, after, none⟩ :: rest) a w := by
  subst hl
  obtain ⟨i0, hi0, hz0, hz1, hz2⟩ := info_parts hzinfo
  refine wpList_buildSlice rfl 31 40 E.length parts rfl (fl E).toArray i0 (.agg hzer) Tryz.underlying31 hi0 hz0 (by rw [hz1]; omega) (by rw [hz1]; omega) ?_ h
  rw [hv', hz1]
  have := Great.fill_whole (s := 32) (by decide) (E.map fun h => Value.agg (hv h)) ((Array.range (E.length * 32)).map ((Value.agg hzer).cells[· % (Value.agg hzer).cells.size]!)) (fun v hvm => by
    obtain ⟨h, hm, rfl⟩ := List.mem_map.1 hvm
    show (hv h).size = 32
    rw [hv_size, hE h hm]) (by simp)
  rw [fl_flat] at this
  exact this
end Go.Proofs.YthfkmfepeafgjaaGreatDoor
namespace Go.Proofs.YthfkmfepeafgjaaGreatDoor
open Go.RowKit
attribute [local go_sem ↓] hld_open heq_open

theorem rput_go : ∀ (L : List (List UInt8)) (h : List UInt8) (k : Nat), k ≤ L.length → (∀ i, (hi : i < L.length) → i < k → Op.bytesLess L[i] h = true) → ((hl : k < L.length) → Op.bytesLess L[k] h = false) →
    rput L h = if hl : k < L.length then (if L[k] = h then L else L.take k ++ [h] ++ L.drop k) else L ++ [h]
  | [], h, k, hk, _, _ => by simp [rput]
  | x :: L, h, 0, hk, h1, h2 => by
    have := h2 (by simp)
    simp only [List.getElem_cons_zero] at this
    rw [rput, if_neg (by rw [this]; decide)]
    simp
  | x :: L, h, k + 1, hk, h1, h2 => by
    have h0 := h1 0 (by simp) (by omega)
    simp only [List.getElem_cons_zero] at h0
    have ih := rput_go L h k (by simpa using hk) (fun i hi hik => h1 (i + 1) (by simpa using hi) (by omega)) (fun hl => h2 (by simpa using hl))
    rw [rput, if_pos h0, ih]
    by_cases hl : k < L.length
    · rw [dif_pos hl, dif_pos (by simpa using hl)]
      simp only [List.getElem_cons_succ]
      by_cases he : L[k] = h
      · rw [if_pos he, if_pos he]
      · rw [if_neg he, if_neg he]; simp
    · rw [dif_neg hl, dif_neg (by simpa using hl)]; simp

theorem below_of_dr {w w' : World} (h : Below w.drew.heap.size w.drew w') : Below w.heap.size w w' := ⟨h.os, h.tape, h.output, h.size, h.block⟩
theorem cell_kb2 {w w' : World} {a : Addr} {u : Value} (h : w.cell? a = some u) (hb : Below w.heap.size w w') : w'.cell? a = some u := by
  rw [World.cell?_of_block (w := w) (hb.block _ (World.block_lt_of_cell? w _ h))]; exact h
theorem range_kb2 {w w' : World} {b o : Nat} {cs : List Value} (h : w.rangeAt b o cs) (hb : Below w.heap.size w w') : w'.rangeAt b o cs := fun j v hv => cell_kb2 (h j v hv) hb
theorem hi_hv2 {a : List UInt8} (ha : a.length = 32) : (Tryz.prog.info? 40).map (·.size) = some (us (nmb a)).length := by rw [← hv_list]; exact hinfo' (hv a) (by rw [hv_size, ha])
theorem news_fl (w : World) (E : List (List UInt8)) : ∀ j u, (fl E)[j]? = some u → (w.alloc (.cells (fl E).toArray 40)).cell? ((⟨w.heap.size, 0, none⟩ : Addr).add j) = some u := fun j u hj => by
  rw [Addr.add_lit, Nat.zero_add, cell_of_row _ _ j _ _ _ (heap_alloc_last w _), List.getElem?_toArray]
  exact hj
theorem put_fits {n k : Nat} (hk : k ≤ n) (hl : (n + 1) * 32 ≤ 140737488355328) : 0 + k ≤ maxLen ∧ 0 + k + 1 ≤ maxLen ∧ k + 1 + (n - k) ≤ maxLen ∧ (0 + k) * 32 ≤ 140737488355328 ∧ (0 + k + 1) * 32 ≤ 140737488355328 ∧ (k + 1 + (n - k)) * 32 ≤ 140737488355328 := by
  unfold maxLen
  omega
theorem own_as {w : World} {B B' n : Nat} {v : Value} {E : List (List UInt8)} {xs : List Value} (h : w.ownsRow B' 40 32 v n xs) (hb : B ≤ B') (hn : n = E.length) (hx : xs = fl E) : HOwn w B v E := by
  subst hn hx
  refine ⟨h.1, ?_⟩
  rcases h.2 with h1 | ⟨g, cap, cur, h1, h2, h3⟩
  · exact .inl h1
  · exact .inr ⟨g, cap, cur, h1, Nat.le_trans hb h2, h3⟩
/-- What Put leaves. -/
def PuPost (w : World) (B : Nat) (L : List (List UInt8)) (h : List UInt8) (e : Ending) (w' : World) : Prop := ∃ v', e = .returned v' ∧ HOwn w' B v' (rput L h) ∧ Below w.heap.size w w'

end Go.Proofs.YthfkmfepeafgjaaGreatDoor
namespace Go.Proofs.YthfkmfepeafgjaaGreatDoor
open Go.RowKit
attribute [local go_sem ↓] hld_open heq_open hne_open

/-- The hashes of a list, in their places, each once. -/
theorem rsort_snoc (l : List (List UInt8)) (h : List UInt8) : rsort (l ++ [h]) = rput (rsort l) h := by simp [rsort, List.foldl_append]
theorem rput_length (h : List UInt8) : ∀ l, (rput l h).length ≤ l.length + 1
  | [] => by simp [rput]
  | x :: l => by
    have ih := rput_length h l
    rw [rput]
    split
    · simp; omega
    · split <;> simp
theorem rsort_length : ∀ l, (rsort l).length ≤ l.length := by
  intro l
  have : ∀ s, (l.foldl rput s).length ≤ s.length + l.length := by
    induction l with
    | nil => intro s; simp
    | cons x l ih => intro s; have h1 := ih (rput s x); have h2 := rput_length x s; simp at h1 ⊢; omega
  simpa [rsort] using this []

end Go.Proofs.YthfkmfepeafgjaaGreatDoor
