/- Plain arithmetic: the groups of seven bits of a number, and what is read of them. -/
import Derived.Test.YtfneadlknieppaaGreatDoorOctR
import Derived.Test.YtfneadlknieppaaGreatDoorOctWv
namespace Go.Proofs.YtfneadlknieppaaGreatDoor
open Go.RowKit

theorem leb_big {f : Nat} {u : Int} (h : ¬ u < 128) : leb (f + 1) u = (u % 128 + 128) :: leb f (u / 128) := by rw [leb, if_neg h]

theorem leb_ok : ∀ (f : Nat) (u : Int), 0 ≤ u → u < 128 ^ (f + 1) → Okb (leb f u)
  | 0, u, h, hu => by
    have : u < 128 := by simpa using hu
    intro x hx
    simp [leb] at hx
    subst hx; omega
  | f + 1, u, h, hu => by
    by_cases hlt : u < 128
    · rw [leb_small hlt]
      intro x hx
      simp at hx
      subst hx; omega
    · rw [leb_big hlt]
      have ih := leb_ok f (u / 128) (by omega) (by rw [Int.pow_succ] at hu; exact Int.ediv_lt_of_lt_mul (by omega) hu)
      intro x hx
      rcases List.mem_cons.1 hx with rfl | hx
      · omega
      · exact ih x hx

theorem leb_pos (f : Nat) (u : Int) : ∃ k, (leb f u).length = k + 1 := by
  cases f with
  | zero => exact ⟨0, rfl⟩
  | succ f =>
    rw [leb]
    split
    · exact ⟨0, rfl⟩
    · exact ⟨_, rfl⟩

theorem pow_step (i : Nat) (x : Int) : x / 128 * 2 ^ (7 * (i + 1)) + x % 128 * 2 ^ (7 * i) = x * 2 ^ (7 * i) := by
  have e : (2 : Int) ^ (7 * (i + 1)) = 128 * 2 ^ (7 * i) := by
    rw [show 7 * (i + 1) = 7 * i + 7 from by omega, Int.pow_add, Int.mul_comm]; rfl
  rw [e, ← Int.mul_assoc, ← Int.add_mul]
  congr 1
  omega

theorem rv_leb : ∀ (f i : Nat) (a x : Int) (rest : List Int), i + f = 9 → 0 ≤ x → x < 128 ^ (f + 1) → (0 < i → 0 < x) → x * 2 ^ (7 * i) < 18446744073709551616 → rv (f + 1) i a (leb f x ++ rest) = some (a + x * 2 ^ (7 * i), rest)
  | 0, i, a, x, rest, hi, h0, h1, hp, hb => by
    have h9 : i = 9 := by omega
    subst h9
    have hx : x < 2 := by
      have e : (2 : Int) ^ (7 * 9) = 9223372036854775808 := by decide
      rw [e] at hb; omega
    have := hp (by omega)
    simp only [leb, List.cons_append, List.nil_append]
    rw [rv, if_neg (by omega), if_pos (by omega)]
  | f + 1, i, a, x, rest, hi, h0, h1, hp, hb => by
    by_cases hlt : x < 128
    · rw [leb_small hlt]
      simp only [List.cons_append, List.nil_append]
      rw [rv, if_neg (by rintro (⟨h, h'⟩ | ⟨h, _⟩); have := hp h; omega; omega), if_pos hlt]
    · rw [leb_big hlt, List.cons_append, rv, if_neg (by omega), if_neg (by omega)]
      have hs := pow_step i x
      have hm : x % 128 * 2 ^ (7 * i) ≥ 0 := Int.mul_nonneg (by omega) (Int.le_of_lt (Int.pow_pos (by decide)))
      rw [rv_leb f (i + 1) _ (x / 128) rest (by omega) (by omega) (by rw [Int.pow_succ] at h1; exact Int.ediv_lt_of_lt_mul (by omega) h1) (by omega) (by omega)]
      congr 2
      rw [show x % 128 + 128 - 128 = x % 128 from by omega]
      omega

theorem rv_short : ∀ (f i : Nat) (a x : Int) (c : Nat), c < (leb f x).length → rv (f + 1) i a ((leb f x).take c) = none
  | 0, i, a, x, c, hc => by
    have : c = 0 := by simp [leb] at hc; exact hc
    subst this
    rw [List.take_zero, rv]
  | f + 1, i, a, x, c, hc => by
    cases c with
    | zero => rw [List.take_zero, rv]
    | succ c =>
      by_cases hlt : x < 128
      · rw [leb_small hlt] at hc; simp at hc
      · rw [leb_big hlt] at hc ⊢
        rw [List.take_succ_cons, rv]
        split
        · rfl
        · rw [if_neg (by omega)]
          exact rv_short f (i + 1) _ (x / 128) c (by simpa using hc)

/-- What byte j of the groups is: the last one is below 128, and is not 0 where there is another one; the others are not below 128. -/
theorem leb_get : ∀ (f : Nat) (x : Int) (j : Nat) (y : Int), 0 ≤ x → x < 128 ^ (f + 1) → (leb f x)[j]? = some y → 0 ≤ y ∧ y < 256 ∧ (j + 1 < (leb f x).length → 128 ≤ y) ∧ (j + 1 = (leb f x).length → y < 128 ∧ (0 < x → 0 < y))
  | 0, x, j, y, h0, h1, hj => by
    have hx : x < 128 := by simpa using h1
    cases j with
    | zero => simp [leb] at hj; subst hj; simp [leb]; omega
    | succ j => simp [leb] at hj
  | f + 1, x, j, y, h0, h1, hj => by
    by_cases hlt : x < 128
    · rw [leb_small hlt] at hj ⊢
      cases j with
      | zero => simp at hj; subst hj; simp; omega
      | succ j => simp at hj
    · have hd : x / 128 < 128 ^ (f + 1) := by rw [Int.pow_succ] at h1; exact Int.ediv_lt_of_lt_mul (by omega) h1
      rw [leb_big hlt] at hj ⊢
      cases j with
      | zero =>
        simp at hj
        subst hj
        obtain ⟨k, hk⟩ := leb_pos f (x / 128)
        rw [List.length_cons, hk]
        refine ⟨by omega, by omega, fun _ => by omega, fun h => by omega⟩
      | succ j =>
        have ih := leb_get f (x / 128) j y (by omega) hd (by simpa using hj)
        rw [List.length_cons]
        refine ⟨ih.1, ih.2.1, fun h => ih.2.2.1 (by omega), fun h => ?_⟩
        have := ih.2.2.2 (by omega)
        exact ⟨this.1, fun _ => this.2 (by omega)⟩

theorem leb_last {f : Nat} {x : Int} (h0 : 0 ≤ x) (h : 1 < (leb f x).length) : 0 < x := by
  rcases Int.lt_or_le 0 x with h' | h'
  · exact h'
  · rw [leb_small (by omega)] at h; simp at h

theorem u64_bd (n : Int) : 0 ≤ IntKind.u64.wrap n ∧ IntKind.u64.wrap n < 18446744073709551616 := by
  rw [IntKind.wrap_u64]; omega
theorem u64_pow (n : Int) : IntKind.u64.wrap n < 128 ^ (9 + 1) := u64_lt n
theorem wrap_back (n : Int) (h : -9223372036854775808 ≤ n ∧ n ≤ 9223372036854775807) : wrap64 (IntKind.u64.wrap n) = n := by
  rw [wrap64_u64]
  exact IntWalk.wrap64_in _ h
end Go.Proofs.YtfneadlknieppaaGreatDoor
