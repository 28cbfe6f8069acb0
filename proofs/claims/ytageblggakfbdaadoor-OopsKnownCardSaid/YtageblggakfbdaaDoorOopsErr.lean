/- The texts of the errors: none is empty. Condition: errors.errorType holds what its text lays; the name of a step is shorter than 2^47. -/
import Derived.Test.YtageblggakfbdaaDoorOopsDef
import Derived.Test.YtageblggakfbdaaDoorOopsIs
import Derived.Deep.RegionWith
namespace Go.Proofs.YtageblggakfbdaaDoor
open Go.RowKit Go.Extern.Stop Go.Stop Go.Extern

theorem index_tab (cs : Array Value) (hc : cs.size = 20) (k : Int) (w : World) (h0 : 0 ≤ k) (h1 : k < 20) : (Instr.index 141 (.agg cs) (.int .i64 k)).run Tryd.prog w = .ok (cs.getD k.toNat undef) w := by
  have hk : k.toNat < cs.size := by omega
  simp [Instr.index, asIntOf, run_underlying Tryd.underlying141, h0, h1, part, go_sem, hk]

set_option maxRecDepth 20000 in
theorem errno_error (w : World) (k : Int) (h1 : 1 ≤ k) (h2 : k ≤ 19) : Calls Tryd.prog 67 #[.int .i64 k] w fun e w' => (∃ s : ByteArray, e = .returned (.string s) ∧ 0 < s.size ∧ s.size ≤ 40) ∧ w = w' := by
  have hix := fun cs hc w => index_tab cs hc k w (by omega) (by omega)
  have hm : min k 19 = k := by omega
  have hm2 : max 0 k = k := by omega
  have H1 := Lib.hid h1
  have H2 := Lib.hid h2
  clear h1 h2
  go_enter Tryd.func67, Tryd.ntmps67
  go_wp2
  go_ret
  have h1 := H1.out
  have h2 := H2.out
  clear H1 H2 hix hm hm2
  refine ⟨?_, rfl⟩
  rcases (show k = 1 ∨ k = 2 ∨ k = 3 ∨ k = 4 ∨ k = 5 ∨ k = 6 ∨ k = 7 ∨ k = 8 ∨ k = 9 ∨ k = 10 ∨ k = 11 ∨ k = 12 ∨ k = 13 ∨ k = 14 ∨ k = 15 ∨ k = 16 ∨ k = 17 ∨ k = 18 ∨ k = 19 from by omega) with rfl | rfl | rfl | rfl | rfl | rfl | rfl | rfl | rfl | rfl | rfl | rfl | rfl | rfl | rfl | rfl | rfl | rfl | rfl
  all_goals exact ⟨_, rfl, by decide, by decide⟩

theorem Ch.dr {w : World} : ∀ {L b}, Ch w L b → Ch w.drew L b
  | [], _, _ => trivial
  | _ :: _, _, ⟨h1, h2, h3, h4⟩ => ⟨h1, h2, h3, Ch.dr h4⟩

set_option maxHeartbeats 1000000 in
theorem text_any (C : Ctr) (w : World) (s : ByteArray) (hs : s.size ≤ 140737488356000) (L : List Lnk) (k : Int) (h1 : 1 ≤ k) (h2 : k ≤ 19) (hg : Glob w) (hc : Ch w L (kind k)) (hl : L.length ≤ 131072) :
    Calls Tryd.prog 69 #[.string s, val L (kind k)] w fun e w' => (∃ t : ByteArray, e = .returned (.string t) ∧ 0 < t.size) ∧ Below w.heap.size w w' := by
  have HK := Lib.hid (C.kind_any w L (kind k) (base_kind k) hg hc hl)
  rw [show kindOf (kind k) = k from rfl] at HK
  clear hc hg hl
  go_enter Tryd.func69, Tryd.ntmps69
  go_wp2_with (first
    | (go_at_call 15; refine HK.out.mono ?_; rintro e w' ⟨rfl, R⟩; have HR := Lib.hid R; clear R)
    | (go_at_call 67; go_loud (refine (errno_error _ k h1 h2).mono ?_); rintro e w' ⟨⟨t, rfl, ht1, ht2⟩, rfl⟩))
  go_ret
  refine ⟨⟨_, rfl, ?_⟩, HR.out⟩
  have : (⟨#[58, 32]⟩ : ByteArray).size = 2 := rfl
  simp only [ByteArray.size_append]
  omega

set_option maxHeartbeats 1000000 in
theorem stepErr (C : Ctr) (w : World) (p : Nat) (s : ByteArray) (hs : s.size ≤ 140737488355400) (L : List Lnk) (k : Int) (h1 : 1 ≤ k) (h2 : k ≤ 19) (hg : Glob w) (hc : Ch w (.step p s :: L) (kind k)) (hl : L.length ≤ 131072) :
    Calls Tryd.prog 71 #[.pointer (some ⟨p, 0, none⟩)] w fun e w' => (∃ t : ByteArray, e = .returned (.string t) ∧ 0 < t.size) ∧ Below w.heap.size w w' := by
  have hx := cell_obj hc.1 0 (u := .string s) rfl
  have hy := cell_obj hc.1 1 (u := val L (kind k)) rfl
  simp only [Lnk.blk] at hx hy
  have HK := Lib.hid (fun s hs => text_any C w.drew s hs L k h1 h2 hg (Ch.dr hc.2.2.2) hl)
  clear hc hg hl
  go_enter Tryd.func71, Tryd.ntmps71
  go_wp2
  go_region_with (go_at_call 69; refine (HK.out _ ?_).mono ?_; (have : (⟨#[115, 116, 101, 112, 32]⟩ : ByteArray).size = 5 := rfl; simp only [ByteArray.size_append]; omega); rintro e w' ⟨⟨t, rfl, ht⟩, R⟩; have HR := Lib.hid R; clear R)
  all_goals
    go_wp2
    go_ret
    exact ⟨⟨_, rfl, ht⟩, ⟨HR.out.os, HR.out.tape, HR.out.output, HR.out.size, HR.out.block⟩⟩
end Go.Proofs.YtageblggakfbdaaDoor
