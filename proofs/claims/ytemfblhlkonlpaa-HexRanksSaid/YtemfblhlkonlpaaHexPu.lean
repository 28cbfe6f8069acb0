/- The reference's Put: one more hash in its place. Condition: the slice is within what a slice may take up. -/
import Derived.Test.YtemfblhlkonlpaaHexSk
import Derived.Test.YtemfblhlkonlpaaHexR
import Derived.Test.YtemfblhlkonlpaaHexBs
import Derived.Deep.RegionHeld3
namespace Go.Proofs.Ytemfblhlkonlpaa
open Go.RowKit
attribute [local go_sem ↓] hld_open heq_open

theorem rput_go : ∀ (L : List (List UInt8)) (h : List UInt8) (k : Nat), k ≤ L.length → (∀ i, (hi : i < L.length) → i < k → Op.bytesLess L[i] h = true) → ((hl : k < L.length) → Op.bytesLess L[k] h = false) →
    rput L h = if hl : k < L.length then (if L[k] = h then L else L.take k ++ [h] ++ L.drop k) else L ++ [h]
  | [], h, k, hk, _, _ => by simp [rput]
  | x :: L, h, 0, hk, h1, h2 => by
    have := h2 (by simp)
    simp only [List.getElem_cons_zero] at this
    rw [rput, if_neg (by rw [this]; decide)]
    simp
  | x :: L, h, k + 1, hk, h1, h2 => by
    have h0 := h1 0 (by simp) (by omega)
    simp only [List.getElem_cons_zero] at h0
    have ih := rput_go L h k (by simpa using hk) (fun i hi hik => h1 (i + 1) (by simpa using hi) (by omega)) (fun hl => h2 (by simpa using hl))
    rw [rput, if_pos h0, ih]
    by_cases hl : k < L.length
    · rw [dif_pos hl, dif_pos (by simpa using hl)]
      simp only [List.getElem_cons_succ]
      by_cases he : L[k] = h
      · rw [if_pos he, if_pos he]
      · rw [if_neg he, if_neg he]; simp
    · rw [dif_neg hl, dif_neg (by simpa using hl)]; simp

theorem below_of_dr {w w' : World} (h : Below w.drew.heap.size w.drew w') : Below w.heap.size w w' := ⟨h.os, h.tape, h.output, h.size, h.block⟩
theorem cell_kb2 {w w' : World} {a : Addr} {u : Value} (h : w.cell? a = some u) (hb : Below w.heap.size w w') : w'.cell? a = some u := by
  rw [World.cell?_of_block (w := w) (hb.block _ (World.block_lt_of_cell? w _ h))]; exact h
theorem range_kb2 {w w' : World} {b o : Nat} {cs : List Value} (h : w.rangeAt b o cs) (hb : Below w.heap.size w w') : w'.rangeAt b o cs := fun j v hv => cell_kb2 (h j v hv) hb
theorem hi_hv2 {a : List UInt8} (ha : a.length = 32) : (Try.prog.info? 26).map (·.size) = some (us (nmb a)).length := by rw [← hv_list]; exact hinfo' (hv a) (by rw [hv_size, ha])
theorem news_fl (w : World) (E : List (List UInt8)) : ∀ j u, (fl E)[j]? = some u → (w.alloc (.cells (fl E).toArray 26)).cell? ((⟨w.heap.size, 0, none⟩ : Addr).add j) = some u := fun j u hj => by
  rw [Addr.add_lit, Nat.zero_add, cell_of_row _ _ j _ _ _ (heap_alloc_last w _), List.getElem?_toArray]
  exact hj
theorem put_fits {n k : Nat} (hk : k ≤ n) (hl : (n + 1) * 32 ≤ 140737488355328) : 0 + k ≤ maxLen ∧ 0 + k + 1 ≤ maxLen ∧ k + 1 + (n - k) ≤ maxLen ∧ (0 + k) * 32 ≤ 140737488355328 ∧ (0 + k + 1) * 32 ≤ 140737488355328 ∧ (k + 1 + (n - k)) * 32 ≤ 140737488355328 := by
  unfold maxLen
  omega
theorem own_as {w : World} {B B' n : Nat} {v : Value} {E : List (List UInt8)} {xs : List Value} (h : w.ownsRow B' 26 32 v n xs) (hb : B ≤ B') (hn : n = E.length) (hx : xs = fl E) : HOwn w B v E := by
  subst hn hx
  refine ⟨h.1, ?_⟩
  rcases h.2 with h1 | ⟨g, cap, cur, h1, h2, h3⟩
  · exact .inl h1
  · exact .inr ⟨g, cap, cur, h1, Nat.le_trans hb h2, h3⟩
/-- What Put leaves. -/
def PuPost (w : World) (B : Nat) (L : List (List UInt8)) (h : List UInt8) (e : Ending) (w' : World) : Prop := ∃ v', e = .returned v' ∧ HOwn w' B v' (rput L h) ∧ Below w.heap.size w w'

end Go.Proofs.Ytemfblhlkonlpaa
