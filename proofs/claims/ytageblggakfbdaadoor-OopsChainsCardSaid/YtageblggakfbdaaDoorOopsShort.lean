/- The beginning of a hash as a text, and the text of a Which: none is empty. Condition: errors.errorType holds what its text lays. -/
import Derived.Test.YtageblggakfbdaaDoorOopsErr
import Derived.Test.YtageblggakfbdaaDoorOopsArr
import Derived.Lib.VarintBits
import Derived.Deep.RegionWith
namespace Go.Proofs.YtageblggakfbdaaDoor
open Go.RowKit

/-- Every cell of the hash is a byte between 0 and 255. -/
def Byts (q : Array Value) : Prop := ∀ j, j < 32 → ∃ x : Int, q[j]? = some (.int .u8 x) ∧ 0 ≤ x ∧ x < 256

theorem u8_and15 {x : Int} (h₀ : 0 ≤ x) (h₁ : x < 256) : bits .and .u8 x 15 = x % 16 := bits_mask .u8 8 (by decide) wraps_u8 4 (by decide) x h₀ h₁
theorem own_more {w : World} {B n : Nat} {v : Value} {l : List Int} {a b : Int} (hl : l.length = n) (h : w.ownsRow B 5 1 v (n + 2) (us l ++ [.int .u8 a, .int .u8 b])) : ∃ xs : List Int, xs.length = n + 2 ∧ w.ownsRow B 5 1 v xs.length (us xs) := by
  have e : (l ++ [a, b]).length = n + 2 := by simp [hl]
  exact ⟨l ++ [a, b], e, by rw [e]; simpa [us] using h⟩
theorem hi_ok (x : Int) (h0 : 0 ≤ x) (h1 : x < 256) : 0 ≤ x / 16 ∧ x / 16 < 16 ∧ 0 ≤ x % 16 ∧ x % 16 < 16 := by omega

set_option maxRecDepth 20000 in
set_option maxHeartbeats 4000000 in
theorem short_any (w : World) (q : Array Value) (hq : Byts q) : Calls Tryd.prog 70 #[.agg q] w fun e w' => (∃ t : ByteArray, e = .returned (.string t) ∧ 0 < t.size ∧ t.size ≤ 40) ∧ Below w.heap.size w w' := by
  obtain ⟨i0, hi0, hz⟩ := Option.map_eq_some_iff.1 u8info
  obtain ⟨hz0, hz1, hz2⟩ : i0.zero = some (.int .u8 0) ∧ i0.size = 1 ∧ i0.bytes = 1 := by simp only [Prod.mk.injEq] at hz; exact hz
  have hrow := heap_alloc_last w (.cells q 23)
  have bel := (Below.refl w.heap.size w).alloc (Nat.le_refl _) (.cells q 23)
  have HROW := Lib.hid hrow
  have BEL := Lib.hid bel
  have HQ := Lib.hid hq
  clear hz hrow bel hq
  go_enter Tryd.func70, Tryd.ntmps70
  go_wp2
  generalize w.alloc (.cells q 23) = w0 at *
  go_loopw [3, 8] (fun v i wr => ∃ (k : Nat) (l : List Int), k ≤ 6 ∧ i = .int .i64 k ∧ Hid (l.length = 2 * k) ∧ Hid (wr.ownsRow w0.heap.size 5 1 v l.length (us l)) ∧ Hid (Below w0.heap.size w0 wr)) (fun _ i _ => 6 - (intOf i).toNat)
  case atStart => exact ⟨0, [], by omega, rfl, Lib.hid rfl, Lib.hid ⟨rfl, .inl ⟨rfl, rfl⟩⟩, Lib.hid (Below.refl _ _)⟩
  case round =>
    obtain ⟨k, l, hk, rfl, HL, HO, HB⟩ := hrel
    by_cases hlt : k < 6
    · have hk6 : (k : Int) < 6 := by omega
      obtain ⟨x, hx, x0, x1⟩ := HQ.out k (by omega)
      have hc : wr.cell? ⟨w.heap.size, k, none⟩ = some (.int .u8 x) := by
        rw [cell_of_row wr w.heap.size k q _ (0, 0) ((HB.out.block _ (Array.getElem?_eq_some_iff.1 HROW.out).1).trans HROW.out)]
        exact hx
      have hown := HO.out
      have hll := HL.out
      have hbs := HB.out.size
      obtain ⟨y0, y1, y2, y3⟩ := hi_ok x x0 x1
      have y4 := u8_and15 x0 x1
      go_wp2_with fail
      go_region_law
        ((go_loud (refine step_append_lies _ (by rfl) _ _ _ (by rfl) w0.heap.size 5 i0 _ 1 1 Tryd.underlying144 hi0 hz0 hz1 hz2 rfl (by omega) _ l.length (us l) (by rfl) ((hown.alloc _).drew) ⟨wr.heap.size, 0, none⟩ 2 2 [_, _] (by rfl) (by rfl) (World.news_of_block (cs := #[_, _]) (t := 5) (fr := (0, 0)) (heap_alloc_new wr _)) (by simp [Value.oneCell']) (by omega) (by simp [maxLen]; omega) (by simp; omega) (by simp; omega) (wr.heap.size + 1) (by simp) ?_); intro gg cap w1 hown1 hgrow hat hlt))
      all_goals
        obtain ⟨xs, hxl, hxo⟩ := own_more rfl hown1
        have hgb := (Only.refl (fun k => w0.heap.size ≤ k) wr).alloc (.cells #[_, _] 5) |>.drew |>.grown hgrow (fun k _ he => (hown.lt k he).1)
        have HBB := Lib.hid (HB.out.trans (hgb.below hbs (fun _ h => h)))
        clear hown1 hgrow hat hgb y4
        go_wp2_with fail
        refine ⟨⟨k + 1, xs, by omega, by go_num, Lib.hid (by omega), Lib.hid (by rw [hxl, hll] at hxo ⊢; exact hxo), HBB⟩, by simp [intOf]; omega⟩
    · obtain rfl : k = 6 := by omega
      have hk6 : ¬ ((6 : Nat) : Int) < 6 := by omega
      have hll := HL.out
      have hcv : ∃ t : ByteArray, (convert 144 9 u3).run Tryd.prog wr = .ok (.string t) wr ∧ 0 < t.size ∧ t.size ≤ 40 := by
        have ho := HO.out
        rcases ho.2 with ⟨_, h0⟩ | ⟨g, cap, cur, rfl, _⟩
        · omega
        · refine ⟨strOfNums l, ?_, by rw [strOfNums_size]; omega⟩
          refine run_convert_bytes_arg wr _ _ Tryd.underlying144 Tryd.underlying5 g 0 l.length cap l rfl (fun i hi => ?_) _ Tryd.underlying9
          have := ho.cells (g := g) rfl i (.int .u8 (l.getD i 0)) (by simp [us, List.getD, List.getElem?_eq_getElem hi])
          rw [Addr.add_lit] at this
          simpa using this
      obtain ⟨t, hcv, ht⟩ := hcv
      clear hll
      go_wp2_with fail
      go_ret
      exact ⟨⟨t, rfl, ht⟩, BEL.out.trans (HB.out.mono BEL.out.size)⟩
attribute [local go_sem ↓] ld_open
set_option maxRecDepth 20000 in
set_option maxHeartbeats 2000000 in
theorem whichErr (C : Ctr) (w : World) (p : Nat) (q : Array Value) (hq : Byts q) (L : List Lnk) (k : Int) (k1 : 1 ≤ k) (k2 : k ≤ 19) (hg : Glob w) (hc : Ch w (.which p q :: L) (kind k)) (hl : L.length ≤ 131072) :
    Calls Tryd.prog 68 #[.pointer (some ⟨p, 0, none⟩)] w fun e w' => (∃ t : ByteArray, e = .returned (.string t) ∧ 0 < t.size) ∧ Below w.heap.size w w' := by
  have hrow : w.heap[p]? = some (.cells (q.push (val L (kind k))) 41 (0, 0)) := hc.1
  have hs : q.size = 32 := hc.2.1
  have h32 : (q.push (val L (kind k)))[32]? = some (val L (kind k)) := by rw [Array.getElem?_push, if_pos hs.symm]
  have hy := cell_obj hrow 32 h32
  have hld := ld_push (w := w.drew) hs hrow
  have bd : Below w.heap.size w w.drew := ⟨rfl, rfl, rfl, Nat.le_refl _, fun _ _ => rfl⟩
  have HI := Lib.hid (short_any w.drew q hq)
  have HG := Lib.hid (hg.kb bd)
  have HC := Lib.hid (Ch.dr hc.2.2.2)
  have HBD := Lib.hid bd
  have HH := Lib.hid (show w.drew.heap[p]? = some (.cells (q.push (val L (kind k))) 41 (0, 0)) from hrow)
  have H32 := Lib.hid h32
  clear hc hg bd hrow hs h32 hq
  go_enter Tryd.func68, Tryd.ntmps68
  go_wp2
  go_region_with (first
    | (go_at_call 70; refine HI.out.mono ?_; rintro e w1 ⟨⟨t, rfl, ht1, ht2⟩, R⟩; have HR := Lib.hid R; have hy1 := cell_obj ((R.block p (Array.getElem?_eq_some_iff.1 HH.out).1).trans HH.out) 32 H32.out; clear R)
    | (go_at_call 69; refine (text_any C w1 _ ?_ L k k1 k2 (HG.out.kb HR.out) (HC.out.kb HR.out) hl).mono ?_; (have : (⟨#[99, 111, 109, 109, 105, 116, 32]⟩ : ByteArray).size = 7 := rfl; simp only [ByteArray.size_append]; omega); rintro e w2 ⟨⟨t2, rfl, ht3⟩, R⟩; have HR2 := Lib.hid (HR.out.trans (R.mono HR.out.size)); clear R))
  all_goals
    go_wp2
    go_ret
    exact ⟨⟨_, rfl, ht3⟩, HBD.out.trans HR2.out⟩
end Go.Proofs.YtageblggakfbdaaDoor
