/- Plain arithmetic: a record's bytes, and what is read of the bytes at the beginning. -/
import Derived.Test.YtdnpgdhkeofphaaDoorOctEnc
import Derived.Test.YtdnpgdhkeofphaaDoorCrcM
namespace Go.Proofs.YtdnpgdhkeofphaaDoor
open Go.RowKit

/-- The bytes of a record. -/
def hdr (k : Int) (l : List Int) : List Int := be k 1 ++ be l.length 4
def frm (k : Int) (l : List Int) : List Int := hdr k l ++ be (crc (hdr k l ++ l) : Nat) 4 ++ l

/-- The record at the beginning: its kind, body, size; the last: the number of the error, 0 for none. -/
def nxt (l : List Int) : Int × List Int × Int × Int :=
  if l.length < 9 then (0, [], 0, 3)
  else if bv (l.take 1) = 0 ∨ 1048576 < bv ((l.drop 1).take 4) then (0, [], 0, 2)
  else if (l.length : Int) < 9 + bv ((l.drop 1).take 4) then (0, [], 0, 3)
  else if (crc (l.take 5 ++ (l.drop 9).take (bv ((l.drop 1).take 4)).toNat) : Nat) = bv ((l.drop 5).take 4) then (bv (l.take 1), (l.drop 9).take (bv ((l.drop 1).take 4)).toNat, 9 + bv ((l.drop 1).take 4), 0)
  else (0, [], 0, 4)

theorem bv_range : ∀ {l : List Int}, Okb l → 0 ≤ bv l ∧ bv l < 256 ^ l.length
  | [], _ => by simp [bv]
  | x :: l, h => by
    have ih := bv_range h.tail
    have hx := h x (List.mem_cons_self ..)
    rw [bv_cons, List.length_cons, Int.pow_succ]
    have hp : (0 : Int) < 256 ^ l.length := Int.pow_pos (by decide)
    generalize (256 : Int) ^ l.length = p at *
    have h1 : 0 ≤ x * p := Int.mul_nonneg hx.1 (by omega)
    have h2 : x * p ≤ 255 * p := Int.mul_le_mul_of_nonneg_right (by omega) (by omega)
    omega
theorem be_mod (n : Int) (p : Int) : ∀ m, be (n + 256 ^ m * p) m = be n m
  | 0 => rfl
  | j + 1 => by
    have e : n + 256 ^ (j + 1) * p = n + 256 ^ j * (256 * p) := by rw [Int.pow_succ, Int.mul_assoc]
    rw [be, be, e, be_mod n (256 * p) j]
    congr 1
    rw [byteAt, byteAt, IntKind.wrap_u8', IntKind.wrap_u8', pow8, Int.add_mul_ediv_left _ _ (Int.ne_of_gt (Int.pow_pos (by decide)))]
    omega
theorem be_bv : ∀ {l : List Int}, Okb l → be (bv l) l.length = l
  | [], _ => rfl
  | x :: l, h => by
    have hx := h x (List.mem_cons_self ..)
    have hr := bv_range h.tail
    rw [List.length_cons, be, bv_cons]
    have e : x * 256 ^ l.length + bv l = bv l + 256 ^ l.length * x := by rw [Int.mul_comm]; omega
    rw [e, be_mod, be_bv h.tail]
    congr 1
    rw [byteAt, IntKind.wrap_u8', pow8, Int.add_mul_ediv_left _ _ (Int.ne_of_gt (Int.pow_pos (by decide))), Int.ediv_eq_zero_of_lt hr.1 hr.2]
    omega

theorem be_bv' {l : List Int} {m : Nat} (h : Okb l) (hm : l.length = m) : be (bv l) m = l := hm ▸ be_bv h

section
variable {l : List Int} (ok : Okb l) (h9 : 9 ≤ l.length)
include ok h9
theorem kind_range : 0 ≤ bv (l.take 1) ∧ bv (l.take 1) < 256 := by
  have := bv_range (ok.take 1)
  rwa [List.length_take, Nat.min_eq_left (by omega)] at this
theorem len_range : 0 ≤ bv ((l.drop 1).take 4) ∧ bv ((l.drop 1).take 4) < 4294967296 := by
  have := bv_range ((ok.drop 1).take 4)
  rwa [List.length_take, List.length_drop, Nat.min_eq_left (by omega)] at this
theorem sum_range : 0 ≤ bv ((l.drop 5).take 4) ∧ bv ((l.drop 5).take 4) < 4294967296 := by
  have := bv_range ((ok.drop 5).take 4)
  rwa [List.length_take, List.length_drop, Nat.min_eq_left (by omega)] at this
/-- The five bytes ahead of the sum, written anew from what was read. -/
theorem hdr_read : (9 : Int) + bv ((l.drop 1).take 4) ≤ l.length → hdr (bv (l.take 1)) ((l.drop 9).take (bv ((l.drop 1).take 4)).toNat) = l.take 5 := by
  intro hn
  have hr := len_range ok h9
  have e : (((l.drop 9).take (bv ((l.drop 1).take 4)).toNat).length : Int) = bv ((l.drop 1).take 4) := by
    rw [List.length_take, List.length_drop]; omega
  unfold hdr
  rw [e, be_bv' (ok.take 1) (by rw [List.length_take]; omega), be_bv' ((ok.drop 1).take 4) (by rw [List.length_take, List.length_drop]; omega)]
  have := List.take_append_drop 1 (l.take 5)
  rw [List.take_take, List.drop_take] at this
  simpa using this
end

theorem hdr_ok (k : Int) (l : List Int) : Okb (hdr k l) := (be_ok _ _).app (be_ok _ _)
theorem hdr_len (k : Int) (l : List Int) : (hdr k l).length = 5 := by simp [hdr, be_length]
theorem frm_ok (k : Int) {l : List Int} (h : Okb l) : Okb (frm k l) := ((hdr_ok k l).app (be_ok _ _)).app h
theorem frm_len (k : Int) (l : List Int) : (frm k l).length = 9 + l.length := by simp [frm, hdr_len, be_length]; omega
theorem crc_hdr (k : Int) {l : List Int} (h : Okb l) : crc (hdr k l ++ l) < 4294967296 := crc_lt fun x hx => ((hdr_ok k l).app h x hx).2

theorem nxt_ok {l : List Int} (ok : Okb l) : Okb (nxt l).2.1 := by
  unfold nxt
  split
  · exact Okb.nil
  · split
    · exact Okb.nil
    · split
      · exact Okb.nil
      · split
        · exact (ok.drop 9).take _
        · exact Okb.nil
end Go.Proofs.YtdnpgdhkeofphaaDoor
