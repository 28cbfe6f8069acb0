/- Plain arithmetic: an 'or' of two numbers of 64 bits that share no bit is their sum. -/
import Derived.Lib.EndianBits
import Derived.RowKit
namespace Go.Proofs.YtbpccbhlggcmfaaDoor
open Go.RowKit

theorem wrap64_eq (n : Int) : IntKind.i64.wrap n = wrap64 n := IntKind.wrap_i64 n
theorem wrap64_mod (n : Int) : wrap64 n % 18446744073709551616 = n % 18446744073709551616 := by unfold wrap64; omega
theorem wrap64_congr {a b : Int} (h : a % 18446744073709551616 = b % 18446744073709551616) : wrap64 a = wrap64 b := by unfold wrap64; omega
theorem wrap64_wrap (a c : Int) : wrap64 (wrap64 a * c) = wrap64 (a * c) := by
  apply wrap64_congr
  rw [Int.mul_emod, wrap64_mod, ← Int.mul_emod]
theorem wrap64_u64 (a : Int) : wrap64 (IntKind.u64.wrap a) = wrap64 a := by
  apply wrap64_congr; rw [IntKind.wrap_u64]; omega

theorem or_join (A Y : Int) (s : Nat) (hs : s ≤ 63) (hA : A % 2 ^ s = 0) (h0 : 0 ≤ Y) (hy : Y < 2 ^ s) :
    ((A % 18446744073709551616).toNat ||| (Y % 18446744073709551616).toNat : Nat) = ((A % 18446744073709551616) + Y).toNat := by
  have hp : (2 : Int) ^ s ≤ 2 ^ 63 := by exact_mod_cast Nat.pow_le_pow_right (by decide) hs
  have hY : Y % 18446744073709551616 = Y := Int.emod_eq_of_lt h0 (by omega)
  rw [hY]
  have hd : (2 : Int) ^ s ∣ 18446744073709551616 := by
    refine ⟨2 ^ (64 - s), ?_⟩
    rw [← Int.pow_add, show s + (64 - s) = 64 from by omega]; rfl
  have hM : (A % 18446744073709551616) % 2 ^ s = 0 := by rw [Int.emod_emod_of_dvd _ hd]; exact hA
  have hM0 := Int.emod_nonneg A (show (18446744073709551616 : Int) ≠ 0 from by decide)
  obtain ⟨m, hm⟩ := Int.eq_ofNat_of_zero_le hM0
  obtain ⟨y, rfl⟩ := Int.eq_ofNat_of_zero_le h0
  rw [hm] at hM ⊢
  have hy' : y < 2 ^ s := by exact_mod_cast hy
  have hm' : m % 2 ^ s = 0 := by exact_mod_cast hM
  have hq : m = 2 ^ s * (m / 2 ^ s) := by
    have := Nat.div_add_mod m (2 ^ s)
    omega
  have h := Nat.two_pow_add_eq_or_of_lt hy' (m / 2 ^ s)
  rw [← hq] at h
  simp only [Int.toNat_natCast]
  rw [← h]
  omega

theorem or_i64 (A Y : Int) (s : Nat) (hs : s ≤ 63) (hA : A % 2 ^ s = 0) (h0 : 0 ≤ Y) (hy : Y < 2 ^ s) : bits .or .i64 (wrap64 A) Y = wrap64 (A + Y) := by
  show IntKind.i64.wrap ((BitVec.ofInt 64 (wrap64 A) ||| BitVec.ofInt 64 Y).toNat : Int) = _
  rw [BitVec.toNat_or, BitVec.toNat_ofInt, BitVec.toNat_ofInt, wrap64_eq]
  have e1 : wrap64 A % ((2 ^ 64 : Nat) : Int) = A % 18446744073709551616 := wrap64_mod A
  have e2 : Y % ((2 ^ 64 : Nat) : Int) = Y % 18446744073709551616 := rfl
  rw [e1, e2, or_join A Y s hs hA h0 hy]
  apply wrap64_congr
  have := Int.emod_nonneg A (show (18446744073709551616 : Int) ≠ 0 from by decide)
  omega
theorem or_i64' (A Y : Int) (s : Nat) (hs : s ≤ 63) (hA : A % 2 ^ s = 0) (h0 : 0 ≤ Y) (hy : Y < 2 ^ s) : bits .or .i64 Y (wrap64 A) = wrap64 (A + Y) := by
  show IntKind.i64.wrap ((BitVec.ofInt 64 Y ||| BitVec.ofInt 64 (wrap64 A)).toNat : Int) = _
  rw [BitVec.toNat_or, BitVec.toNat_ofInt, BitVec.toNat_ofInt, wrap64_eq]
  have e1 : wrap64 A % ((2 ^ 64 : Nat) : Int) = A % 18446744073709551616 := wrap64_mod A
  have e2 : Y % ((2 ^ 64 : Nat) : Int) = Y % 18446744073709551616 := rfl
  rw [e1, e2, Nat.or_comm, or_join A Y s hs hA h0 hy]
  apply wrap64_congr
  have := Int.emod_nonneg A (show (18446744073709551616 : Int) ≠ 0 from by decide)
  omega
theorem or_u64' (A Y : Int) (s : Nat) (hs : s ≤ 63) (hA : A % 2 ^ s = 0) (h0 : 0 ≤ Y) (hy : Y < 2 ^ s) : bits .or .u64 Y (IntKind.u64.wrap A) = IntKind.u64.wrap (A + Y) := by
  show IntKind.u64.wrap ((BitVec.ofInt 64 Y ||| BitVec.ofInt 64 (IntKind.u64.wrap A)).toNat : Int) = _
  rw [BitVec.toNat_or, BitVec.toNat_ofInt, BitVec.toNat_ofInt]
  have e1 : IntKind.u64.wrap A % ((2 ^ 64 : Nat) : Int) = A % 18446744073709551616 := by
    rw [IntKind.wrap_u64]; show A % 18446744073709551616 % 18446744073709551616 = _; omega
  have e2 : Y % ((2 ^ 64 : Nat) : Int) = Y % 18446744073709551616 := rfl
  rw [e1, e2, Nat.or_comm, or_join A Y s hs hA h0 hy]
  have := Int.emod_nonneg A (show (18446744073709551616 : Int) ≠ 0 from by decide)
  rw [IntKind.wrap_u64, IntKind.wrap_u64]
  omega

/-- 'n<<8 | int(b)'. -/
theorem shl8_or (a x : Int) (h0 : 0 ≤ x) (h1 : x < 256) : bits .or .i64 (wrap64 (wrap64 a * 256)) x = wrap64 (a * 256 + x) := by
  rw [wrap64_wrap]
  exact or_i64 (a * 256) x 8 (by decide) (by show a * 256 % 256 = 0; omega) h0 h1
end Go.Proofs.YtbpccbhlggcmfaaDoor
