/- The reference's Digit, IsPrefix, Text, Begins, Less. No condition but on a text's length. -/
import Derived.Test.YtemfblhlkonlpaaHexC
import Derived.Test.YtemfblhlkonlpaaHexP
import Derived.Laws.Concat
namespace Go.Proofs.Ytemfblhlkonlpaa
open Go.RowKit

theorem below_drn {n m : Nat} {w w' : World} (h : Below n w w') : Below n w (w'.drewN m) := ⟨h.os, h.tape, h.output, h.size, h.block⟩
/-- The sixteen digits. -/
def dtab : ByteArray := ⟨#[48, 49, 50, 51, 52, 53, 54, 55, 56, 57, 97, 98, 99, 100, 101, 102]⟩
theorem dtab_at : ∀ n, n < 16 → dtab.extract n (n + 1) = ⟨#[dg n]⟩ := by decide
theorem dtab_slice (i j : Int) (h0 : 0 ≤ i) (h1 : i < 16) (hj : j = i + 1) (w : World) : (Instr.slice 9 (.string dtab) (some (.int .u8 i)) (some (.int .u8 j)) none).run Try.prog w = .ok (.string ⟨#[dg i.toNat]⟩) w := by
  subst hj
  have hs : dtab.size = 16 := rfl
  rw [run_slice_string_if w 9 dtab .u8 .u8 i (i + 1) Try.underlying9, if_pos (by rw [hs]; omega), if_pos (by omega)]
  have e : (i + 1).toNat = i.toNat + 1 := by omega
  rw [e, dtab_at i.toNat (by omega)]
theorem app_str (a : List UInt8) (c : UInt8) (ha : a.length ≤ 64) (w : World) : (Op.stringOp .add ⟨a.toArray⟩ ⟨#[c]⟩).run Try.prog w = .ok (.string ⟨(a ++ [c]).toArray⟩) w :=
  run_string_add_lists w a [c] (by omega) (by simp)

attribute [local go_sem ↓] hld_open
theorem begins_long {s p : List UInt8} (hs : s.length = 64) (h : ¬ p.length ≤ 64) : p.isPrefixOf s = false := pre_long (by omega)
theorem less_at : ∀ {a b : List UInt8} {k : Nat} (ha : k < a.length) (hb : k < b.length), a.take k = b.take k → a[k] ≠ b[k] → Op.bytesLess a b = decide (a[k] < b[k])
  | x :: a, y :: b, 0, _, _, _, hn => by
    have hn' : x ≠ y := hn
    simp [Op.bytesLess, hn']
  | x :: a, y :: b, k + 1, ha, hb, ht, hn => by
    simp only [List.take_succ_cons, List.cons.injEq] at ht
    obtain ⟨rfl, ht⟩ := ht
    have ih := less_at (a := a) (b := b) (k := k) (by simpa using ha) (by simpa using hb) ht hn
    simp only [Op.bytesLess, UInt8.lt_irrefl, decide_false, Bool.false_or, beq_self_eq_true, Bool.true_and, ih, List.getElem_cons_succ]
  | [], _, _, ha, _, _, _ => by simp at ha
  | _ :: _, [], _, _, hb, _, _ => by simp at hb
theorem u8_ne {x y : UInt8} (h : ¬ (x.toNat : Int) = y.toNat) : x ≠ y := fun e => h (by rw [e])
theorem u8_eq {x y : UInt8} (h : (x.toNat : Int) = y.toNat) : x = y := UInt8.toNat_inj.1 (by omega)
theorem u8_ltd (x y : UInt8) : decide (x < y) = decide ((x.toNat : Int) < y.toNat) := by rw [Bool.eq_iff_iff]; simp [UInt8.lt_iff_toNat_lt]
theorem take_more {a b : List UInt8} {k : Nat} (ha : k < a.length) (hb : k < b.length) (h : a.take k = b.take k) (he : a[k] = b[k]) : a.take (k + 1) = b.take (k + 1) := by
  rw [List.take_succ_eq_append_getElem ha, List.take_succ_eq_append_getElem hb, h, he]

end Go.Proofs.Ytemfblhlkonlpaa
