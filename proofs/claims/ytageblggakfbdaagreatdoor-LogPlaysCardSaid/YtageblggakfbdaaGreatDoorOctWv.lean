/- What Var of the octet Writer does to the object that it is called on. Its bytes are fewer than a thousand million. -/
import Derived.Test.YtageblggakfbdaaGreatDoorOctKit
import Derived.Lib.Varint
namespace Go.Proofs.YtageblggakfbdaaGreatDoor
open Go.RowKit
attribute [local go_sem ↓] Go.wp_at_zero Go.wp_at_succ

theorem leb_length : ∀ (f : Nat) (u : Int), (leb f u).length ≤ f + 1
  | 0, u => by simp [leb]
  | f + 1, u => by
    rw [leb]
    split
    · simp
    · have := leb_length f (u / 128)
      simp only [List.length_cons]; omega

theorem leb_small {f : Nat} {u : Int} (h : u < 128) : leb f u = [u] := by
  cases f with
  | zero => rfl
  | succ f => rw [leb, if_pos h]
theorem or128 {u : Int} (_h : 0 ≤ u) : bits .or .u8 (u % 256) 128 = u % 128 + 128 := by
  rw [Lib.u8_or128_any _ (by omega) (by omega)]; omega
theorem u64_lt (n : Int) : IntKind.u64.wrap n < 128 ^ (9 + 1) := by
  have : IntKind.u64.wrap n = n % 18446744073709551616 := by simp [IntKind.wrap, IntKind.bits, IntKind.signed]
  rw [this]
  have h := Int.emod_lt_of_pos n (show (0 : Int) < 18446744073709551616 from by decide)
  exact Int.lt_trans h (by decide)

end Go.Proofs.YtageblggakfbdaaGreatDoor
