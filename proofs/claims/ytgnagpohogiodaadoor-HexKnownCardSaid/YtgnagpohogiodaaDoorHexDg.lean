/- HexDigits returns true and makes new memory alone. Condition: errors.errorType holds what its text lays. -/
import Derived.Test.YtgnagpohogiodaaDoorHexRP
import Derived.Test.YtgnagpohogiodaaDoorHexE
import Derived.Test.YtgnagpohogiodaaDoorGenAs
import Derived.Deep.RegionWith
namespace Go.Proofs.YtgnagpohogiodaaDoor
open Go.RowKit
attribute [local go_sem ↓] hld_open heq_open

/-- What is parsed of a text: the hash and the number of the error, 0 for none. -/
def prs (s : List UInt8) : List UInt8 × Int := if s.length = 64 ∧ pre s = true then (unh s, 0) else (hz, 2)
theorem prs_length (s : List UInt8) : (prs s).1.length = 32 := by
  unfold prs
  split
  · next h => exact unh_length 32 s h.1
  · rfl
theorem parse_to (w : World) (s : List UInt8) : Calls Tryd.prog 30 #[.string ⟨s.toArray⟩] w fun e w' => e = .returned (.tuple #[.agg (hv (prs s).1), errOf (prs s).2]) ∧ Below w.heap.size w w' := by
  unfold prs
  by_cases h : s.length = 64 ∧ pre s = true
  · rw [if_pos h]; exact parse_good w s h.1 h.2
  · rw [if_neg h]; exact parse_bad w s (fun h1 => by cases hp : pre s with | false => rfl | true => exact absurd ⟨h1, hp⟩ h)
theorem rparse_to (w : World) (s : List UInt8) (hs : s.length ≤ 9223372036854775807) : Calls Tryd.prog 37 #[.string ⟨s.toArray⟩] w fun e w' => e = .returned (.tuple #[.agg (hv (prs s).1), .int .i64 (prs s).2]) ∧ Below w.heap.size w w' := by
  unfold prs
  by_cases h : s.length = 64 ∧ pre s = true
  · rw [if_pos h]; exact rparse_good w s h.1 h.2
  · rw [if_neg h]; exact rparse_bad w s hs (fun h1 => by cases hp : pre s with | false => rfl | true => exact absurd ⟨h1, hp⟩ h)

theorem slice_to (s : List UInt8) (j : Int) (h0 : 0 ≤ j) (h1 : j ≤ s.length) (w : World) : (Instr.slice 9 (.string ⟨s.toArray⟩) none (some (.int .i64 j)) none).run Tryd.prog w = .ok (.string ⟨(s.take j.toNat).toArray⟩) w := by
  have hs : (⟨s.toArray⟩ : ByteArray).size = s.length := rfl
  have e : (⟨s.toArray⟩ : ByteArray).extract 0 j.toNat = ⟨(s.take j.toNat).toArray⟩ := by
    apply ByteArray.ext
    rw [ByteArray.data_extract]
    simp
  simp [Instr.slice, run_underlying Tryd.underlying9, go_sem, h0, h1, hs, e]
theorem slice_from (s : List UInt8) (j : Int) (h0 : 0 ≤ j) (h1 : j ≤ s.length) (w : World) : (Instr.slice 9 (.string ⟨s.toArray⟩) (some (.int .i64 j)) none none).run Tryd.prog w = .ok (.string ⟨(s.drop j.toNat).toArray⟩) w := by
  have hs : (⟨s.toArray⟩ : ByteArray).size = s.length := rfl
  have e : (⟨s.toArray⟩ : ByteArray).extract j.toNat s.length = ⟨(s.drop j.toNat).toArray⟩ := by
    apply ByteArray.ext
    rw [ByteArray.data_extract]
    simp
    exact List.take_of_length_le (by simp)
  simp [Instr.slice, run_underlying Tryd.underlying9, go_sem, h0, h1, hs, e]
theorem below_dr {n : Nat} {w w' : World} (h : Below n w w') : Below n w w'.drew := ⟨h.os, h.tape, h.output, h.size, h.block⟩
theorem conv_one (c : UInt8) (w : World) (W : World) (hw : W.cell? ⟨w.heap.size, 0, none⟩ = some (.int .u8 (c.toNat : Int))) :
    (convert 79 9 (.slice (some ⟨w.heap.size, 0, none⟩) 1 1)).run Tryd.prog W = .ok (.string ⟨[c].toArray⟩) W := by
  have := run_convert_bytes_arg (P := Tryd.prog) W _ _ Tryd.underlying79 Tryd.underlying5 w.heap.size 0 1 1 (nmb [c]) rfl (fun i hi => by
    obtain rfl : i = 0 := by omega
    exact hw) _ Tryd.underlying9
  rw [nm_str] at this
  exact this

set_option maxRecDepth 20000 in
set_option maxHeartbeats 4000000 in
theorem hexDigits_walk (c : UInt8) (n at_ : Int) (w : World) (hg : Glob w) : Calls Tryd.prog 9 #[.int .u8 (c.toNat : Int), .int .i64 n, .int .i64 at_] w fun e w' => e = .returned (.bool true) ∧ Below w.heap.size w w' := by
  have HG := Lib.hid hg
  have hcr := u8_rng c
  clear hg
  go_enter Tryd.func9, Tryd.ntmps9
  go_wp2_with fail
  refine (hash_to w n).mono ?_
  rintro e w1 ⟨rfl, b1⟩
  have B1 := Lib.hid b1
  have HT := Lib.hid (rtext_to w1 (hh n) (hh_length n))
  have htl : (tx (hh n)).length = 64 := by rw [tx_length, hh_length]
  have HTL := Lib.hid htl
  clear b1 htl
  go_wp2_with fail
  refine HT.out.mono ?_
  rintro e w2 ⟨rfl, b2⟩
  have B2 := Lib.hid (B1.out.trans (b2.mono B1.out.size))
  generalize tx (hh n) = t at *
  obtain ⟨k, hk⟩ : ∃ k, k = at_ % 64 := ⟨_, rfl⟩
  have hk0 : 0 ≤ k := by omega
  have hk1 : k < 64 := by omega
  have HK := Lib.hid hk.symm
  clear b2 hk HT
  go_wp2_with fail
  refine (pick_to _ at_ 64 k (by decide) (by decide) HK.out).mono ?_
  rintro e w' ⟨rfl, rfl⟩
  have hs1 := slice_to t k hk0 (by rw [HTL.out]; omega)
  have hs2 := slice_from t (k + 1) (by omega) (by rw [HTL.out]; omega)
  have m1 := IntWalk.i64_in (k + 1) (by omega)
  have ha1 := fun W => app_str (t.take k.toNat) c (by rw [List.length_take, HTL.out]; omega) W
  have ha2 := fun W => run_string_add_lists (P := Tryd.prog) W (t.take k.toNat ++ [c]) (t.drop (k + 1).toNat) (by rw [List.length_append, List.length_take]; simp; omega) (by rw [List.length_drop, HTL.out]; omega)
  have hcv := conv_one c w2
  go_wp2_with fail
  go_region_with (fail)
  have hsl : (t.take k.toNat ++ c :: t.drop (k + 1).toNat).length ≤ 9223372036854775807 := by
    rw [List.length_append, List.length_take, List.length_cons, List.length_drop, HTL.out]; omega
  generalize hs : t.take k.toNat ++ c :: t.drop (k + 1).toNat = s at *
  have B3 : Hid (Below w.heap.size w (w2.alloc (.cells #[.int .u8 (c.toNat : Int)] 5)).drew) := Lib.hid (below_dr (B2.out.alloc B2.out.size _))
  clear hs hs1 hs2 ha1 ha2 hcv m1
  generalize (w2.alloc (.cells #[.int .u8 (c.toNat : Int)] 5)).drew = w3 at *
  have HSL := Lib.hid hsl
  clear hsl hk0 hk1
  go_wp2_with fail
  have hp := parse_to w3 s
  have hrp := fun W => rparse_to W s HSL.out
  have hpl := prs_length s
  generalize (prs s).1 = x at *
  generalize (prs s).2 = f at *
  have HP := Lib.hid hp
  have HRP := Lib.hid hrp
  have HX := Lib.hid hpl
  clear hp hrp
  have hst := fun w => hst_cells x HX.out w
  have hsz : (hv x).size = 32 := by rw [hv_size, HX.out]
  refine HP.out.mono ?_
  rintro e w4 ⟨rfl, b4⟩
  have B4 := Lib.hid (B3.out.trans (b4.mono B3.out.size))
  clear hpl b4 HP
  go_wp2_with fail
  have B4' := Lib.hid (B4.out.alloc B4.out.size (.cells (hv x) 23))
  have R4 := Lib.hid (heap_alloc_last w4 (.cells (hv x) 23))
  refine (HRP.out _).mono ?_
  rintro e w5 ⟨rfl, b5⟩
  have b5' := b5.trans (((Below.refl w5.heap.size w5).alloc (Nat.le_refl _) (.cells (hv x) 23)).mono b5.size)
  have B5 := Lib.hid (B4'.out.trans (b5'.mono B4'.out.size))
  have hl1 := hld_row HX.out ((b5'.block w4.heap.size (by simp)).trans R4.out)
  have hl2 := hld_row HX.out (heap_alloc_last w5 (.cells (hv x) 23))
  have hs5 := hst w5
  have heq := heq_hv HX.out HX.out
  have hgd2 := heq_guard
  have HKH := Lib.hid (khand_any _ f (HG.out.kb B5.out))
  have HPR := Lib.hid (fun w => pre_any w ⟨s.toArray⟩)
  have HRPR := Lib.hid (fun w => rpre_any w ⟨s.toArray⟩ HSL.out)
  generalize pre (⟨s.toArray⟩ : ByteArray).data.toList = p at *
  clear b5 b5' hst HRP
  go_wp2_with (first
    | (go_at_call 32; refine (known_to _).mono ?_; rintro e w' ⟨rfl, rfl⟩)
    | (go_at_call 35; refine (undig_any _ _ hcr.1 hcr.2).mono ?_; rintro e w' ⟨rfl, rfl⟩)
    | (go_at_call 42; refine (rdigit_any _ _ hcr.1 hcr.2).mono ?_; rintro e w' ⟨rfl, rfl⟩)
    | (go_at_call 24; refine HKH.out.mono ?_; rintro e w7 ⟨rfl, b7⟩; have B7 := Lib.hid (B5.out.trans (b7.mono B5.out.size)); clear b7)
    | (go_at_call 38; refine (HPR.out _).mono ?_; rintro e w' ⟨rfl, rfl⟩)
    | (go_at_call 39; refine (HRPR.out _).mono ?_; rintro e w' ⟨rfl, rfl⟩))
  go_ret
  exact ⟨ret_bool (by simp), B7.out⟩
end Go.Proofs.YtgnagpohogiodaaDoor
