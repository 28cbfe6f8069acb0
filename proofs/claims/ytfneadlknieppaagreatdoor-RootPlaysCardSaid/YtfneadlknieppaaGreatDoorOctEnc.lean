/- Plain arithmetic: what steps write, and that it is read back. -/
import Derived.Test.YtfneadlknieppaaGreatDoorOctMath
namespace Go.Proofs.YtfneadlknieppaaGreatDoor
open Go.RowKit

theorem foldl_bv : ∀ (l : List Int) (a : Int), l.foldl (fun a x => a * 256 + x) a = a * 256 ^ l.length + bv l
  | [], a => by simp [bv]
  | x :: l, a => by
    have e : bv (x :: l) = (0 * 256 + x) * 256 ^ l.length + bv l := by rw [bv, List.foldl_cons, foldl_bv l (0 * 256 + x)]
    rw [List.foldl_cons, foldl_bv l (a * 256 + x), e, List.length_cons, Int.pow_succ, Int.add_mul, Int.zero_mul, Int.zero_add, Int.mul_assoc, Int.mul_comm 256]
    omega
theorem bv_cons (x : Int) (l : List Int) : bv (x :: l) = x * 256 ^ l.length + bv l := by
  rw [bv, List.foldl_cons, foldl_bv l (0 * 256 + x), Int.zero_mul, Int.zero_add]

theorem pow8 (j : Nat) : (2 : Int) ^ (8 * j) = 256 ^ j := by rw [Int.pow_mul]; rfl
theorem bv_be (n : Int) : ∀ m, bv (be n m) = n % 256 ^ m
  | 0 => by simp [be, bv]
  | j + 1 => by
    rw [be, bv_cons, be_length, bv_be n j, byteAt, IntKind.wrap_u8', pow8, Int.pow_succ]
    have hp : (0 : Int) < 256 ^ j := Int.pow_pos (by decide)
    have h1 := Int.mul_ediv_add_emod n (256 ^ j)
    have h2 := Int.mul_ediv_add_emod (n / 256 ^ j) 256
    have h3 : n / 256 ^ j / 256 = n / (256 ^ j * 256) := Int.ediv_ediv_of_nonneg (Int.le_of_lt hp)
    have h4 := Int.mul_ediv_add_emod n (256 ^ j * 256)
    rw [← h3] at h4
    generalize (256 : Int) ^ j = p at *
    generalize n / p = q at *
    generalize n % p = r at *
    generalize q / 256 = s at *
    generalize q % 256 = t at *
    rw [← h2] at h1
    have e : p * (256 * s + t) = p * 256 * s + t * p := by rw [Int.mul_add, Int.mul_assoc, Int.mul_comm p t]
    rw [e] at h1
    generalize p * 256 * s = y at *
    generalize t * p = z at *
    omega

theorem be_ok (n : Int) : ∀ m, Okb (be n m)
  | 0 => Okb.nil
  | j + 1 => by
    intro x hx
    rw [be] at hx
    rcases List.mem_cons.1 hx with rfl | hx
    · rw [byteAt, IntKind.wrap_u8']; omega
    · exact be_ok n j x hx

/-- What one step writes; r: which call. -/
def encStep (r n : Int) : List Int :=
  if r = 0 then be (n % 256) 1 else if r = 1 then be (n % 4294967296) 4 else if r = 2 then be n 8 else leb 9 (IntKind.u64.wrap n)
theorem enc0 (n : Int) : encStep 0 n = be (n % 256) 1 := rfl
theorem enc1 (n : Int) : encStep 1 n = be (n % 4294967296) 4 := rfl
theorem enc2 (n : Int) : encStep 2 n = be n 8 := rfl
theorem enc3 (n : Int) : encStep 3 n = leb 9 (IntKind.u64.wrap n) := rfl
theorem encStep_len (r n : Int) : (encStep r n).length ≤ 10 := by
  unfold encStep
  split
  · rw [be_length]; omega
  · split
    · rw [be_length]; omega
    · split
      · rw [be_length]; omega
      · exact leb_length 9 _
theorem encStep_ok (r n : Int) : Okb (encStep r n) := by
  unfold encStep
  split
  · exact be_ok _ _
  · split
    · exact be_ok _ _
    · split
      · exact be_ok _ _
      · exact leb_ok 9 _ (u64_bd n).1 (u64_pow n)

/-- What m steps write, from step i on. -/
def encFrom (W N : Nat → Int) : Nat → Nat → List Int
  | _, 0 => []
  | i, m + 1 => encStep (W i % 4) (N i) ++ encFrom W N (i + 1) m
theorem encFrom_len (W N : Nat → Int) : ∀ m i, (encFrom W N i m).length ≤ 10 * m
  | 0, i => by simp [encFrom]
  | m + 1, i => by
    have h1 := encFrom_len W N m (i + 1)
    have h2 := encStep_len (W i % 4) (N i)
    rw [encFrom, List.length_append]; omega
theorem encFrom_ok (W N : Nat → Int) : ∀ m i, Okb (encFrom W N i m)
  | 0, _ => Okb.nil
  | m + 1, i => (encStep_ok _ _).app (encFrom_ok W N m (i + 1))
theorem encFrom_step (W N : Nat → Int) {i k : Nat} (h : i < k) : encFrom W N i (k - i) = encStep (W i % 4) (N i) ++ encFrom W N (i + 1) (k - (i + 1)) := by
  rw [show k - i = (k - (i + 1)) + 1 from by omega, encFrom]
theorem encFrom_done (W N : Nat → Int) {i k : Nat} (h : k ≤ i) : encFrom W N i (k - i) = [] := by
  rw [show k - i = 0 from by omega, encFrom]

/-- The four numbers, read again. -/
theorem back1 (n : Int) (l : List Int) : IntKind.i64.wrap (bv ((be (n % 256) 1 ++ l).take 1)) = n % 256 := by
  rw [List.take_left' (be_length _ 1), bv_be, wrap64_eq, IntWalk.wrap64_in _ (by omega)]
  omega
theorem back4 (n : Int) (l : List Int) : IntKind.i64.wrap (bv ((be (n % 4294967296) 4 ++ l).take 4)) = n % 4294967296 := by
  rw [List.take_left' (be_length _ 4), bv_be, wrap64_eq, IntWalk.wrap64_in _ (by omega)]
  omega
theorem back8 (n : Int) (l : List Int) (h : -9223372036854775808 ≤ n ∧ n ≤ 9223372036854775807) : IntKind.i64.wrap (bv ((be n 8 ++ l).take 8)) = n := by
  rw [List.take_left' (be_length _ 8), bv_be, wrap64_eq]
  have e : wrap64 (n % 256 ^ 8) = wrap64 n := wrap64_congr (by omega)
  rw [e, IntWalk.wrap64_in _ h]
theorem backVar (n : Int) (l : List Int) : rv 10 0 0 (leb 9 (IntKind.u64.wrap n) ++ l) = some (IntKind.u64.wrap n, l) := by
  have := rv_leb 9 0 0 (IntKind.u64.wrap n) l rfl (u64_bd n).1 (u64_pow n) (by omega) (by have := (u64_bd n).2; simpa using this)
  simpa using this
end Go.Proofs.YtfneadlknieppaaGreatDoor
