/- The reference's Digit, IsPrefix, Text, Begins, Less. No condition but on a text's length. -/
import Derived.Test.YthfkmfepeafgjaaHexE
import Derived.Test.YthfkmfepeafgjaaHexP
import Derived.Laws.Concat
namespace Go.Proofs.Ythfkmfepeafgjaa
open Go.RowKit

theorem below_drn {n m : Nat} {w w' : World} (h : Below n w w') : Below n w (w'.drewN m) := ⟨h.os, h.tape, h.output, h.size, h.block⟩
/-- The sixteen digits. -/
def dtab : ByteArray := ⟨#[48, 49, 50, 51, 52, 53, 54, 55, 56, 57, 97, 98, 99, 100, 101, 102]⟩
theorem dtab_at : ∀ n, n < 16 → dtab.extract n (n + 1) = ⟨#[dg n]⟩ := by decide
theorem dtab_slice (i j : Int) (h0 : 0 ≤ i) (h1 : i < 16) (hj : j = i + 1) (w : World) : (Instr.slice 9 (.string dtab) (some (.int .u8 i)) (some (.int .u8 j)) none).run Try.prog w = .ok (.string ⟨#[dg i.toNat]⟩) w := by
  subst hj
  have hs : dtab.size = 16 := rfl
  rw [run_slice_string_if w 9 dtab .u8 .u8 i (i + 1) Try.underlying9, if_pos (by rw [hs]; omega), if_pos (by omega)]
  have e : (i + 1).toNat = i.toNat + 1 := by omega
  rw [e, dtab_at i.toNat (by omega)]
theorem app_str (a : List UInt8) (c : UInt8) (ha : a.length ≤ 64) (w : World) : (Op.stringOp .add ⟨a.toArray⟩ ⟨#[c]⟩).run Try.prog w = .ok (.string ⟨(a ++ [c]).toArray⟩) w :=
  run_string_add_lists w a [c] (by omega) (by simp)

attribute [local go_sem ↓] hld_open
theorem begins_long {s p : List UInt8} (hs : s.length = 64) (h : ¬ p.length ≤ 64) : p.isPrefixOf s = false := pre_long (by omega)
theorem less_at : ∀ {a b : List UInt8} {k : Nat} (ha : k < a.length) (hb : k < b.length), a.take k = b.take k → a[k] ≠ b[k] → Op.bytesLess a b = decide (a[k] < b[k])
  | x :: a, y :: b, 0, _, _, _, hn => by
    have hn' : x ≠ y := hn
    simp [Op.bytesLess, hn']
  | x :: a, y :: b, k + 1, ha, hb, ht, hn => by
    simp only [List.take_succ_cons, List.cons.injEq] at ht
    obtain ⟨rfl, ht⟩ := ht
    have ih := less_at (a := a) (b := b) (k := k) (by simpa using ha) (by simpa using hb) ht hn
    simp only [Op.bytesLess, UInt8.lt_irrefl, decide_false, Bool.false_or, beq_self_eq_true, Bool.true_and, ih, List.getElem_cons_succ]
  | [], _, _, ha, _, _, _ => by simp at ha
  | _ :: _, [], _, _, hb, _, _ => by simp at hb
theorem u8_ne {x y : UInt8} (h : ¬ (x.toNat : Int) = y.toNat) : x ≠ y := fun e => h (by rw [e])
theorem u8_eq {x y : UInt8} (h : (x.toNat : Int) = y.toNat) : x = y := UInt8.toNat_inj.1 (by omega)
theorem u8_ltd (x y : UInt8) : decide (x < y) = decide ((x.toNat : Int) < y.toNat) := by rw [Bool.eq_iff_iff]; simp [UInt8.lt_iff_toNat_lt]
theorem take_more {a b : List UInt8} {k : Nat} (ha : k < a.length) (hb : k < b.length) (h : a.take k = b.take k) (he : a[k] = b[k]) : a.take (k + 1) = b.take (k + 1) := by
  rw [List.take_succ_eq_append_getElem ha, List.take_succ_eq_append_getElem hb, h, he]

set_option maxRecDepth 20000 in
set_option maxHeartbeats 2000000 in
theorem rless_to (w : World) (a b : List UInt8) (ha : a.length = 32) (hb : b.length = 32) : Calls Try.prog 54 #[.agg (hv a), .agg (hv b)] w fun e w' => e = .returned (.bool (Op.bytesLess a b)) ∧ Below w.heap.size w w' := by
  have BA := Lib.hid (((Below.refl w.heap.size w).alloc (Nat.le_refl _) (.cells (hv a) 28)).alloc (by simp) (.cells (hv b) 28))
  have h1 : ((w.alloc (.cells (hv a) 28)).alloc (.cells (hv b) 28)).heap[w.heap.size]? = some (.cells (hv a) 28 (0, 0)) := (Below.heap_alloc _ _ _ (by simp)).trans (heap_alloc_last w _)
  have h2 := heap_alloc_last (w.alloc (.cells (hv a) 28)) (.cells (hv b) 28)
  rw [show (w.alloc (.cells (hv a) 28)).heap.size = w.heap.size + 1 from by simp] at h2
  have H1 := Lib.hid h1
  have H2 := Lib.hid h2
  have HA := Lib.hid ha
  have HB := Lib.hid hb
  generalize hr : Op.bytesLess a b = r
  have HR := Lib.hid hr
  clear ha hb h1 h2 hr
  go_enter Try.func54, Try.ntmps54
  go_wp2
  generalize (w.alloc (.cells (hv a) 28)).alloc (.cells (hv b) 28) = w0 at *
  go_loopw [5] (fun i wr => ∃ (k : Nat), k ≤ 32 ∧ i = .int .i64 k ∧ Hid (a.take k = b.take k) ∧ ∃ n, wr = w0.drewN n) (fun i _ => 32 - (intOf i).toNat)
  case atStart => exact ⟨0, by omega, rfl, Lib.hid rfl, 0, rfl⟩
  case round =>
    obtain ⟨k, hk, rfl, HT, n, rfl⟩ := hrel
    by_cases hlt : k < 32
    · have hka : k < a.length := by rw [HA.out]; exact hlt
      have hkb : k < b.length := by rw [HB.out]; exact hlt
      have hc1 : w0.cell? ⟨w.heap.size, k, none⟩ = some (.int .u8 (a[k].toNat : Int)) := by
        rw [cell_of_row w0 w.heap.size k (hv a) _ (0, 0) H1.out]
        exact hv_get hka
      have hc2 : w0.cell? ⟨w.heap.size + 1, k, none⟩ = some (.int .u8 (b[k].toNat : Int)) := by
        rw [cell_of_row w0 (w.heap.size + 1) k (hv b) _ (0, 0) H2.out]
        exact hv_get hkb
      have hk32 : (k : Int) < 32 := by omega
      by_cases hab : (a[k].toNat : Int) = b[k].toNat
      · have HN := Lib.hid (take_more hka hkb HT.out (u8_eq hab))
        rw [← hab] at hc2
        clear hab
        go_wp2_with fail
        go_quiet (fail)
        go_wp2
        refine ⟨⟨k + 1, by omega, by go_num, HN, _, rfl⟩, by simp [intOf]; omega⟩
      · have hr := less_at hka hkb HT.out (u8_ne hab)
        rw [HR.out, u8_ltd] at hr
        generalize (a[k].toNat : Int) = x at *
        generalize (b[k].toNat : Int) = y at *
        have HX := Lib.hid hr
        clear hr
        have hbe : (x == y) = false := by simpa using hab
        go_wp2_with fail
        go_quiet (fail)
        go_wp2_with fail
        go_quiet (fail)
        go_wp2
        go_ret
        exact ⟨ret_bool (by rw [HX.out]), below_drn (below_drn (below_drn BA.out))⟩
    · obtain rfl : k = 32 := by omega
      have hk32 : ¬ ((32 : Nat) : Int) < 32 := by omega
      have hab : a = b := by
        have := HT.out
        rwa [List.take_of_length_le (by rw [HA.out]; exact Nat.le_refl _), List.take_of_length_le (by rw [HB.out]; exact Nat.le_refl _)] at this
      have HX : Hid (r = false) := Lib.hid (by rw [← HR.out, hab]; exact less_irrefl b)
      clear hab
      go_wp2_with fail
      go_ret
      exact ⟨ret_bool (by rw [HX.out]), below_drn BA.out⟩
end Go.Proofs.Ythfkmfepeafgjaa
