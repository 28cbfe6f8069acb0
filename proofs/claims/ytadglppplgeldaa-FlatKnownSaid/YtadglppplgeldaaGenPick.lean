/- Pick: any number as one of 0 to m - 1. No condition but on m. -/
import Derived.Test.YtadglppplgeldaaOctBits
import Derived.Lib.Hide
namespace Go.Proofs.Ytadglppplgeldaa
open Go.RowKit

theorem pick_any (w : World) (n m : Int) (h : 0 < m) (hm : m ≤ 4611686018427387904) : Calls Try.prog 16 #[.int .i64 n, .int .i64 m] w fun e w' => e = .returned (.int .i64 (n % m)) ∧ w = w' := by
  have h1 := Int.tmod_lt_of_pos n h
  have h3 : ¬ m = 0 := by omega
  have h4 : n.tmod m = n % m ∨ (n.tmod m < 0 ∧ n.tmod m + m = n % m) := by
    have := Int.tmod_eq_emod (a := n) (b := m)
    have hp := Int.emod_nonneg n h3
    have hl := Int.emod_lt_of_pos n h
    split at this <;> omega
  have h2 : -m ≤ n.tmod m := by
    have hp := Int.emod_nonneg n h3
    omega
  have h5 := Int.emod_nonneg n h3
  have H4 := Lib.hid h4
  clear h4
  go_enter Try.func16, Try.ntmps16
  go_wp2
  all_goals go_ret
  · rcases H4.out with h | ⟨h, h'⟩
    · omega
    · exact ⟨by show Ending.returned (.int .i64 (n.tmod m + m)) = _; rw [h'], rfl⟩
  · rcases H4.out with h | ⟨h, h'⟩
    · exact ⟨by show Ending.returned (.int .i64 (n.tmod m)) = _; rw [h], rfl⟩
    · omega

theorem pick_to (w : World) (n m r : Int) (h : 0 < m) (hm : m ≤ 4611686018427387904) (hr : n % m = r) : Calls Try.prog 16 #[.int .i64 n, .int .i64 m] w fun e w' => e = .returned (.int .i64 r) ∧ w = w' := by
  subst hr
  exact pick_any w n m h hm

end Go.Proofs.Ytadglppplgeldaa
