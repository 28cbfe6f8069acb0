/- The text of a Place is not empty. Condition: the place is 0 to 999; errors.errorType holds what its text lays; the table's cells are there. -/
import Derived.Test.YtageblggakfbdaaDoorOopsErr
import Derived.Test.YtageblggakfbdaaDoorOopsItoa2
import Derived.Deep.RegionWith
namespace Go.Proofs.YtageblggakfbdaaDoor
open Go.RowKit

set_option maxHeartbeats 2000000 in
theorem placeErr (C : Ctr) (w : World) (p : Nat) (n : Int) (h0 : 0 ≤ n) (h1 : n ≤ 999) (L : List Lnk) (k : Int) (k1 : 1 ≤ k) (k2 : k ≤ 19) (hg : Glob w) (ht : Tab w) (hc : Ch w (.place p n :: L) (kind k)) (hl : L.length ≤ 131072) :
    Calls Tryd.prog 72 #[.pointer (some ⟨p, 0, none⟩)] w fun e w' => (∃ t : ByteArray, e = .returned (.string t) ∧ 0 < t.size) ∧ Below w.heap.size w w' := by
  have hx := cell_obj hc.1 0 (u := .int .i64 n) rfl
  have hy := cell_obj hc.1 1 (u := val L (kind k)) rfl
  simp only [Lnk.blk] at hx hy
  have bd : Below w.heap.size w w.drew := ⟨rfl, rfl, rfl, Nat.le_refl _, fun _ _ => rfl⟩
  have HI := Lib.hid (itoa_any w.drew ht n h0 h1)
  have HG := Lib.hid (hg.kb bd)
  have HC := Lib.hid (Ch.dr hc.2.2.2)
  have HBD := Lib.hid bd
  have HH := Lib.hid (show w.drew.heap[p]? = some (.cells #[.int .i64 n, val L (kind k)] 62 (0, 0)) from hc.1)
  clear hc hg ht bd h0 h1
  go_enter Tryd.func72, Tryd.ntmps72
  go_wp2
  go_region_with (first
    | (go_at_call 73; refine HI.out.mono ?_; rintro e w1 ⟨⟨t, rfl, ht1, ht2⟩, R⟩; have HR := Lib.hid R; have hy1 := cell_obj ((R.block p (Array.getElem?_eq_some_iff.1 HH.out).1).trans HH.out) 1 (u := val L (kind k)) rfl; clear R)
    | (go_at_call 69; refine (text_any C w1 _ ?_ L k k1 k2 (HG.out.kb HR.out) (HC.out.kb HR.out) hl).mono ?_; (have : (⟨#[97, 116, 32]⟩ : ByteArray).size = 3 := rfl; simp only [ByteArray.size_append]; omega); rintro e w2 ⟨⟨t2, rfl, ht3⟩, R⟩; have HR2 := Lib.hid (HR.out.trans (R.mono HR.out.size)); clear R))
  all_goals
    go_wp2
    go_ret
    exact ⟨⟨_, rfl, ht3⟩, HBD.out.trans HR2.out⟩
end Go.Proofs.YtageblggakfbdaaDoor
