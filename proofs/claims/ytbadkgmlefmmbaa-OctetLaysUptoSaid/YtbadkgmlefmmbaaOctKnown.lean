/- known() returns true, and nothing that was there has turned. -/
import Derived.Test.YtbadkgmlefmmbaaOctW
import Derived.Test.YtbadkgmlefmmbaaOctWv
import Derived.Test.YtbadkgmlefmmbaaOctWm
import Derived.Test.YtbadkgmlefmmbaaOctRv
import Derived.Laws.BytesArg
namespace Go.Proofs.Ytbadkgmlefmmbaa
open Go.RowKit

theorem conv_any {w : World} {v : Value} {l : List Int} (h : SeenR w v l) : (convert 24 9 v).run Try.prog w = .ok (.string (strOfNums l)) w := by
  rcases h with ⟨rfl, rfl⟩ | ⟨g, o, cap, rfl, hc, hu⟩
  · exact run_convert_bytes_nil w _ _ Try.underlying24 Try.underlying5 0 0 _ Try.underlying9
  · refine run_convert_bytes_arg w _ _ Try.underlying24 Try.underlying5 g o _ cap l rfl (fun i hi => ?_) _ Try.underlying9
    exact hu i _ (by simp [us, List.getElem?_map, List.getD, List.getElem?_eq_getElem hi])

theorem known_bytes : ([] ++ be 1 1) ++ leb 9 (IntKind.u64.wrap 300) = [1, 172, 2] := by decide
theorem known_str : strOfNums [1, 172, 2] = ⟨#[1, 172, 2]⟩ := rfl

set_option maxHeartbeats 800000 in
theorem known_any (w : World) : Calls Try.prog 10 #[] w fun e w' => e = .returned (.bool true) ∧ Below w.heap.size w w' := by
  go_enter Try.func10, Try.ntmps10
  go_wp2_with fail
  refine (newwriter_any _ w.heap.size (Nat.le_refl _)).mono ?_
  rintro e w1 ⟨rfl, h1, b1, _⟩
  have H1 := Lib.hid h1
  have B1 := Lib.hid b1
  clear h1 b1
  go_wp2_with fail
  refine (wu8_any _ _ _ _ _ w.heap.size (by decide) H1.out).mono ?_
  rintro e w2 ⟨rfl, v2, h2, o2, r2⟩
  have H2 := Lib.hid h2
  have O2 := Lib.hid o2
  clear h2 o2 r2
  go_wp2_with fail
  refine (wvar_any _ _ _ _ _ w.heap.size (by decide) H2.out).mono ?_
  rintro e w3 ⟨rfl, v3, h3, o3, r3⟩
  have H3 := Lib.hid h3
  have O3 := Lib.hid o3
  clear h3 o3 r3
  go_wp2_with fail
  refine (wbytes_any _ _ _ _ w.heap.size (by rw [known_bytes]; decide) H3.out).mono ?_
  rintro e w4 ⟨v4, rfl, h4, b4⟩
  have hconv : (convert 24 9 v4).run Try.prog w4 = .ok (.string ⟨#[1, 172, 2]⟩) w4 := by
    rw [conv_any (SeenR.own h4), known_bytes, known_str]
  have H4 := Lib.hid h4
  have B4 := Lib.hid b4
  clear h4 b4
  go_wp2
  go_ret
  exact ⟨rfl, ((B1.out.trans (H1.out.below O2.out)).trans (H2.out.below O3.out)).trans (B4.out.mono H3.out.base)⟩
end Go.Proofs.Ytbadkgmlefmmbaa
