/- known() returns true and makes new memory alone. Condition: errors.errorType holds what its text lays. -/
import Derived.Test.YtageblggakfbdaaDoorOopsArr
import Derived.Test.YtageblggakfbdaaDoorOopsIs
namespace Go.Proofs.YtageblggakfbdaaDoor
open Go.RowKit

theorem meas_kind (k : Int) (n : Nat) : meas (kind k) ≤ n := by unfold meas kind; exact Nat.zero_le _

set_option maxRecDepth 20000 in
set_option maxHeartbeats 1000000 in
theorem known_any (C : Ctr) (w : World) (hg : Glob w) : Calls Tryd.prog 10 #[] w fun e w' => e = .returned (.bool true) ∧ Below w.heap.size w w' := by
  have HG := Lib.hid hg
  have hne := nil_ne
  clear hg
  go_enter Tryd.func10, Tryd.ntmps10
  have hA := at_ch w 3 [] (kind 15) (base_kind 15) (meas_kind _ _) trivial
  go_wp2_with fail
  refine hA.mono ?_
  rintro e w1 ⟨rfl, R1, R2, R3⟩
  have hW := Lib.hid (wrap_ch w1 ⟨#[97]⟩ _ (kind 15) (base_kind 15) R3 R1)
  have B1 := Lib.hid R2
  clear R1 R2 R3 hA
  go_wp2_with fail
  refine hW.out.mono ?_
  rintro e w2 ⟨rfl, R1, R2, R3⟩
  have B2 := Lib.hid (B1.out.trans (R2.mono B1.out.size))
  have hK := Lib.hid (C.kind_any w2 _ (kind 15) (base_kind 15) (HG.out.kb B2.out) R1 (by simp))
  have H2 := Lib.hid R1
  clear R1 R2 R3 hW B1
  go_wp2_with fail
  refine hK.out.mono ?_
  rintro e w3 ⟨rfl, R2⟩
  have hI := Lib.hid (is_any w3 _ 15 15 (H2.out.kb R2))
  have B3 := Lib.hid (B2.out.trans (R2.mono B2.out.size))
  clear R2 hK B2 H2
  rw [show kindOf (kind 15) = 15 from rfl]
  go_wp2_with fail
  refine hI.out.mono ?_
  rintro e w4 ⟨rfl, rfl⟩
  go_wp2_with (go_at_call 15; refine (C.kind_nil _).mono ?_; rintro e w4 ⟨rfl, rfl⟩)
  go_ret
  exact ⟨rfl, B3.out⟩
end Go.Proofs.YtageblggakfbdaaDoor
