/- Text: the 64 digits of a hash. No condition. -/
import Derived.Test.YtbpccbhlggcmfaaDoorHexH
import Derived.Lib.VarintBits
import Derived.Deep.RegionWith
namespace Go.Proofs.YtbpccbhlggcmfaaDoor
open Go.RowKit

/-- The digit of a value below 16, as a number. -/
def dgi (x : Int) : Int := if x < 10 then 48 + x else 87 + x
theorem dgi_dg (n : Nat) (h : n < 16) : dgi (n : Int) = ((dg n).toNat : Int) := by
  rw [dg_nat n h]; unfold dgi
  by_cases hn : n < 10
  · rw [if_pos hn, if_pos (by omega)]
  · rw [if_neg hn, if_neg (by omega)]
theorem ret_u8 {a b : Int} (h : a = b) : Ending.returned (.int .u8 a) = .returned (.int .u8 b) := by rw [h]
theorem digit_any (w : World) (x : Int) (h0 : 0 ≤ x) (h1 : x < 16) : Calls Tryd.prog 40 #[.int .u8 x] w fun e w' => e = .returned (.int .u8 (dgi x)) ∧ w = w' := by
  unfold dgi
  by_cases h : x < 10
  · rw [if_pos h]
    go_enter Tryd.func40, Tryd.ntmps40
    go_wp2
    go_ret
    exact ⟨rfl, rfl⟩
  · rw [if_neg h]
    go_enter Tryd.func40, Tryd.ntmps40
    go_wp2
    go_ret
    exact ⟨ret_u8 (by omega), rfl⟩
theorem u8_and15' {x : Int} (h₀ : 0 ≤ x) (h₁ : x < 256) : bits .and .u8 x 15 = x % 16 := bits_mask .u8 8 (by decide) wraps_u8 4 (by decide) x h₀ h₁
theorem hi_ok' (x : Int) (h0 : 0 ≤ x) (h1 : x < 256) : 0 ≤ x / 16 ∧ x / 16 < 16 ∧ 0 ≤ x % 16 ∧ x % 16 < 16 := by omega
theorem u8_range (b : UInt8) : 0 ≤ (b.toNat : Int) ∧ (b.toNat : Int) < 256 := by have := b.toNat_lt; omega
theorem tx_step {l : List UInt8} {k : Nat} (hk : k < l.length) : us (nmb (tx (l.take (k + 1)))) = us (nmb (tx (l.take k))) ++ [.int .u8 (dgi ((l[k].toNat : Int) / 16)), .int .u8 (dgi ((l[k].toNat : Int) % 16))] := by
  have h := hi16 l[k]
  rw [tx_snoc hk, show ((l[k].toNat : Int) / 16) = ((l[k].toNat / 16 : Nat) : Int) from by omega, show ((l[k].toNat : Int) % 16) = ((l[k].toNat % 16 : Nat) : Int) from by omega, dgi_dg _ h.1, dgi_dg _ h.2]
  simp [us, nmb]

set_option maxRecDepth 20000 in
set_option maxHeartbeats 4000000 in
theorem text_to (w : World) (h : List UInt8) (hl : h.length = 32) : Calls Tryd.prog 26 #[.agg (hv h)] w fun e w' => e = .returned (.string ⟨(tx h).toArray⟩) ∧ Below w.heap.size w w' := by
  obtain ⟨i0, hi0, hz⟩ := Option.map_eq_some_iff.1 u8info
  obtain ⟨hz0, hz1, hz2⟩ : i0.zero = some (.int .u8 0) ∧ i0.size = 1 ∧ i0.bytes = 1 := by simp only [Prod.mk.injEq] at hz; exact hz
  have HR := Lib.hid (range_new (w.alloc (.cells (hv h) 33)) (Array.replicate 64 (.int .u8 0)) 5)
  have bel := (Below.refl w.heap.size w).alloc (Nat.le_refl _) (.cells (hv h) 33)
  have hrow := heap_alloc_last w (.cells (hv h) 33)
  have HROW := Lib.hid hrow
  have BEL := Lib.hid bel
  have HL := Lib.hid hl
  clear hz bel hl HR hrow
  go_enter Tryd.func26, Tryd.ntmps26
  go_wp2_with (first
    | (at_make; refine wpList_make_own _ rfl _ _ 87 rfl (w.heap.size + 1) 5 i0 (.int .u8 0) 1 Tryd.underlying87 hi0 hz0 hz1 .i64 .i64 _ 64 rfl rfl (by rfl) (by rw [hz2]; omega) (by unfold maxLen; omega) (by simp) ?_; intro w0 hown0 hgrow0; have HOWN := Lib.hid hown0; have HGROW := Lib.hid hgrow0; clear hown0 hgrow0)
    | (refine load_to (range_row ((HGROW.out.block _ (by simp) (by simp)).trans HROW.out)) Tryd.underlying33 rfl (hinfo' (hv h) (by rw [hv_size, HL.out])) ?hx ?_; (case hx => rfl)))
  have HB0 : Hid (Below w.heap.size w w0) := Lib.hid (BEL.out.grown HGROW.out (by simp) (by intro k hk; cases hk))
  have hs0 : w.heap.size + 1 ≤ w0.heap.size := by have := HGROW.out.size; simp at this; omega
  go_loopw [3, 8] (fun v i wr => ∃ (k : Nat), k ≤ 32 ∧ i = .int .i64 k ∧ Hid (wr.ownsRow (w.heap.size + 1) 5 1 v (2 * k) (us (nmb (tx (h.take k))))) ∧ Hid (Below (w.heap.size + 1) w0 wr)) (fun _ i _ => 32 - (intOf i).toNat)
  case atStart => exact ⟨0, by omega, rfl, Lib.hid (by have := HOWN.out; simpa [tx, nmb, us] using this), Lib.hid (Below.refl _ _)⟩
  case round =>
    obtain ⟨k, hk, rfl, HO, HB⟩ := hrel
    by_cases hlt : k < 32
    · have hkl : k < h.length := by rw [HL.out]; exact hlt
      have hix := index_hv HL.out k wr hkl
      obtain ⟨x, hx⟩ : ∃ x, x = (h[k].toNat : Int) := ⟨_, rfl⟩
      have HST : Hid (us (nmb (tx (h.take (k + 1)))) = us (nmb (tx (h.take k))) ++ [.int .u8 (dgi (x / 16)), .int .u8 (dgi (x % 16))]) := Lib.hid (by rw [hx]; exact tx_step hkl)
      have hxr := u8_range h[k]
      rw [← hx] at hix hxr
      have HX := Lib.hid hx
      clear hx
      obtain ⟨x0, x1⟩ := hxr
      obtain ⟨y0, y1, y2, y3⟩ := hi_ok' x x0 x1
      have y4 := u8_and15' x0 x1
      have hown := HO.out
      have hbs := HB.out.size
      generalize hxs : us (nmb (tx (h.take k))) = xs at *
      have HXS := Lib.hid hxs
      clear hxs
      have hk32 : (k : Int) < 32 := by omega
      go_wp2_with (first
        | (go_at_call 40; refine (digit_any _ _ (by omega) (by omega)).mono ?_; rintro e w' ⟨rfl, rfl⟩)
        | (at_builtin; refine wpList_append_lies _ (by rfl) (.tmp 11) (.tmp 18) _ (by rfl) (w.heap.size + 1) 5 i0 _ 1 1 Tryd.underlying87 hi0 hz0 hz1 hz2 rfl (by omega) _ (2 * k) xs (by rfl) (hown.alloc _) ⟨wr.heap.size, 0, none⟩ 2 2 [_, _] (by rfl) (by rfl) (World.news_of_block (cs := #[_, _]) (t := 5) (fr := (0, 0)) (heap_alloc_new wr _)) (by simp [Value.oneCell']) (by omega) (by simp [maxLen]; omega) (by simp; omega) (by simp; omega) (wr.heap.size + 1) (by simp) ?_; intro gg cap w1 hown1 hgrow hat hlt1))
      have hgb := (Only.refl (fun k => w.heap.size + 1 ≤ k) wr).alloc (.cells #[.int .u8 (dgi (x / 16)), .int .u8 (dgi (x % 16))] 5) |>.grown hgrow (fun k _ he => (hown.lt k he).1)
      have HBB := Lib.hid (HB.out.trans (hgb.below (Nat.le_trans hs0 hbs) (fun _ h => h)))
      have HO1 : Hid (w1.ownsRow (w.heap.size + 1) 5 1 (.slice (some ⟨gg, 0, none⟩) (2 * k + 2) cap) (2 * (k + 1)) (us (nmb (tx (h.take (k + 1)))))) := Lib.hid (by rw [HST.out]; exact hown1)
      clear hown1 hgrow hat hgb y4
      go_wp2_with fail
      refine ⟨⟨k + 1, by omega, by go_num, HO1, HBB⟩, by simp [intOf]; omega⟩
    · obtain rfl : k = 32 := by omega
      have hk32 : ¬ ((32 : Nat) : Int) < 32 := by omega
      have hcv : (convert 87 9 u3).run Tryd.prog wr = .ok (.string ⟨(tx h).toArray⟩) wr := by
        have ho := HO.out
        have e : h.take 32 = h := List.take_of_length_le (by rw [HL.out]; exact Nat.le_refl _)
        rw [e] at ho
        have hn : (nmb (tx h)).length = 64 := by rw [nm_length, tx_length, HL.out]
        rcases ho.2 with ⟨_, h0⟩ | ⟨g, cap, cur, rfl, _⟩
        · omega
        · rw [← nm_str (tx h)]
          refine run_convert_bytes_arg wr _ _ Tryd.underlying87 Tryd.underlying5 g 0 (2 * 32) cap (nmb (tx h)) hn (fun i hi => ?_) _ Tryd.underlying9
          have := ho.cells (g := g) rfl i (.int .u8 ((nmb (tx h)).getD i 0)) (by simp [us, List.getD, List.getElem?_eq_getElem (show i < (nmb (tx h)).length by omega)])
          rw [Addr.add_lit] at this
          simpa using this
      go_wp2_with fail
      go_ret
      exact ⟨rfl, HB0.out.trans (HB.out.mono (by have := BEL.out.size; omega))⟩
end Go.Proofs.YtbpccbhlggcmfaaDoor
