/- known() returns true, and nothing that was there has turned. -/
import Derived.Test.YtfneadlknieppaaGreatDoorOctW
import Derived.Test.YtfneadlknieppaaGreatDoorOctWv
import Derived.Test.YtfneadlknieppaaGreatDoorOctR
import Derived.Laws.BytesArg
namespace Go.Proofs.YtfneadlknieppaaGreatDoor
open Go.RowKit

theorem conv_any {w : World} {v : Value} {l : List Int} (h : SeenR w v l) : (convert 37 9 v).run Tryz.prog w = .ok (.string (strOfNums l)) w := by
  rcases h with ⟨rfl, rfl⟩ | ⟨g, o, cap, rfl, hc, hu⟩
  · exact run_convert_bytes_nil w _ _ Tryz.underlying37 Tryz.underlying5 0 0 _ Tryz.underlying9
  · refine run_convert_bytes_arg w _ _ Tryz.underlying37 Tryz.underlying5 g o _ cap l rfl (fun i hi => ?_) _ Tryz.underlying9
    exact hu i _ (by simp [us, List.getElem?_map, List.getD, List.getElem?_eq_getElem hi])

theorem known_bytes : ([] ++ be 1 1) ++ leb 9 (IntKind.u64.wrap 300) = [1, 172, 2] := by decide
theorem known_str : strOfNums [1, 172, 2] = ⟨#[1, 172, 2]⟩ := rfl

end Go.Proofs.YtfneadlknieppaaGreatDoor
