/- What sum and Lay of package frame do. The body is within what a record may hold. -/
import Derived.Test.YtdnpgdhkeofphaaDoorFrmM
import Derived.Test.YtdnpgdhkeofphaaDoorOctW
import Derived.Test.YtdnpgdhkeofphaaDoorOctWm
import Derived.Test.YtdnpgdhkeofphaaDoorCrcS
import Derived.Test.YtdnpgdhkeofphaaDoorGenAs
import Derived.Test.YtdnpgdhkeofphaaDoorGenApp
namespace Go.Proofs.YtdnpgdhkeofphaaDoor
open Go.RowKit

theorem len_val {w : World} {v : Value} {l : List Int} (h : Seen w v l) : ∃ a cap, v = .slice a l.length cap := by
  rcases h with ⟨rfl, rfl⟩ | ⟨a, cap, rfl, _⟩
  · exact ⟨none, 0, rfl⟩
  · exact ⟨some a, cap, rfl⟩

set_option maxHeartbeats 800000 in
theorem fsum_any (w : World) (k : Int) (v : Value) (l : List Int) (ok : Okb l) (hl : l.length ≤ 2000000) (hs : Seen w v l) :
    Calls Tryd.prog 49 #[.int .i64 k, v] w fun e w' => e = .returned (.int .i64 (crc (hdr k l ++ l) : Nat)) ∧ Below w.heap.size w w' := by
  obtain ⟨a, cap, rfl⟩ := len_val hs
  have HS := Lib.hid hs
  have HC := Lib.hid (crc_hdr k ok)
  have HO := Lib.hid ((hdr_ok k l).app ok)
  have hll : (hdr k l ++ l).length ≤ 2000005 := by rw [List.length_append, hdr_len]; omega
  have HL := Lib.hid hll
  clear hs hll
  go_enter Tryd.func49, Tryd.ntmps49
  go_wp2_with fail
  refine (newwriter_any _ w.heap.size (Nat.le_refl _)).mono ?_
  rintro e w1 ⟨rfl, h1, b1, _⟩
  have H1 := Lib.hid h1
  have B1 := Lib.hid b1
  clear h1 b1
  go_wp2_with fail
  refine (wu8_any _ _ _ _ _ w.heap.size (by decide) H1.out).mono ?_
  rintro e w2 ⟨rfl, v2, h2, o2, _⟩
  have H2 := Lib.hid h2
  have B2 := Lib.hid (B1.out.trans (H1.out.below o2))
  clear h2 o2 B1 H1
  go_wp2_with fail
  refine (wu32_any _ _ _ _ _ w.heap.size (by simp [be_length]) H2.out).mono ?_
  rintro e w3 ⟨rfl, v3, h3, o3, _⟩
  have H3 := Lib.hid h3
  have B3 := Lib.hid (B2.out.trans (H2.out.below o3))
  clear h3 o3 B2 H2
  have S3 := Lib.hid (HS.out.kb B3.out)
  go_wp2_with fail
  refine (wraw_any _ _ _ _ _ l w.heap.size (by simp [be_length]) (by omega) H3.out S3.out).mono ?_
  rintro e w4 ⟨rfl, v4, h4, o4, _⟩
  have H4 := Lib.hid h4
  have B4 := Lib.hid (B3.out.trans (H3.out.below o4))
  clear h4 o4 B3 H3 S3
  have e4 : ([] ++ be k 1 ++ be (l.length : Int) 4 ++ l) = hdr k l ++ l := by simp [hdr]
  rw [e4] at H4
  clear e4
  go_wp2_with fail
  refine (wbytes_any _ _ _ _ w.heap.size (by have := HL.out; omega) H4.out).mono ?_
  rintro e w5 ⟨v5, rfl, h5, b5⟩
  have S5 := Lib.hid (Seen.own h5)
  have B5 := Lib.hid (B4.out.trans (b5.mono H4.out.base))
  clear h5 b5 B4 H4
  go_wp2_with fail
  refine (sum_any _ _ _ HO.out (by have := HL.out; omega) S5.out).mono ?_
  rintro e _ ⟨rfl, rfl⟩
  obtain ⟨c, hc⟩ : ∃ c, c = crc (hdr k l ++ l) := ⟨_, rfl⟩
  have hc2 := HC.out
  have HCC := Lib.hid hc
  rw [← hc] at hc2 ⊢
  clear hc HC
  go_wp2
  go_ret
  exact ⟨by rw [← HCC.out]; rfl, B5.out⟩

theorem lay_no (w : World) (k : Int) (a : Option Addr) (n cap : Nat) (h : k < 1 ∨ 255 < k ∨ 1048576 < n) :
    Calls Tryd.prog 28 #[.int .i64 k, .slice a n cap] w fun e w' => e = .returned (.tuple #[.slice none 0 0, kind 1]) ∧ w = w' := by
  by_cases h1 : k < 1
  · clear h
    go_enter Tryd.func28, Tryd.ntmps28
    go_wp2
    go_ret2
    exact ⟨rfl, rfl⟩
  · by_cases h2 : 255 < k
    · clear h
      go_enter Tryd.func28, Tryd.ntmps28
      go_wp2
      go_ret2
      exact ⟨rfl, rfl⟩
    · have h3 : 1048576 < n := by omega
      clear h
      go_enter Tryd.func28, Tryd.ntmps28
      go_wp2
      go_ret2
      exact ⟨rfl, rfl⟩

set_option maxHeartbeats 1600000 in
theorem lay_yes (w : World) (k : Int) (v : Value) (l : List Int) (h1 : 1 ≤ k) (h2 : k ≤ 255) (ok : Okb l) (hl : l.length ≤ 1048576) (hs : Seen w v l) :
    Calls Tryd.prog 28 #[.int .i64 k, v] w fun e w' => ∃ u, e = .returned (.tuple #[u, .nilIface]) ∧ w'.ownsRow w.heap.size 5 1 u (frm k l).length (us (frm k l)) ∧ Below w.heap.size w w' := by
  obtain ⟨a, cap, rfl⟩ := len_val hs
  have HS := Lib.hid hs
  clear hs
  go_enter Tryd.func28, Tryd.ntmps28
  go_wp2_with fail
  refine (newwriter_any _ w.heap.size (Nat.le_refl _)).mono ?_
  rintro e w1 ⟨rfl, h1, b1, _⟩
  have H1 := Lib.hid h1
  have B1 := Lib.hid b1
  clear h1 b1
  go_wp2_with fail
  refine (wu8_any _ _ _ _ _ w.heap.size (by decide) H1.out).mono ?_
  rintro e w2 ⟨rfl, v2, h2, o2, _⟩
  have H2 := Lib.hid h2
  have B2 := Lib.hid (B1.out.trans (H1.out.below o2))
  clear h2 o2 B1 H1
  go_wp2_with fail
  refine (wu32_any _ _ _ _ _ w.heap.size (by simp [be_length]) H2.out).mono ?_
  rintro e w3 ⟨rfl, v3, h3, o3, _⟩
  have H3 := Lib.hid h3
  have B3 := Lib.hid (B2.out.trans (H2.out.below o3))
  clear h3 o3 B2 H2
  have S3 := Lib.hid (HS.out.kb B3.out)
  go_wp2_with fail
  refine (fsum_any _ _ _ l ok (by omega) S3.out).mono ?_
  rintro e w4 ⟨rfl, b4⟩
  have H4 := Lib.hid (H3.out.kb b4)
  have B4 := Lib.hid (B3.out.trans (b4.mono H3.out.base))
  clear b4 B3 H3 S3
  go_wp2_with fail
  refine (wu32_any _ _ _ _ _ w.heap.size (by simp [be_length]) H4.out).mono ?_
  rintro e w5 ⟨rfl, v5, h5, o5, _⟩
  have H5 := Lib.hid h5
  have B5 := Lib.hid (B4.out.trans (H4.out.below o5))
  clear h5 o5 B4 H4
  have S5 := Lib.hid (HS.out.kb B5.out)
  go_wp2_with fail
  refine (wraw_any _ _ _ _ _ l w.heap.size (by simp [be_length]) (by omega) H5.out S5.out).mono ?_
  rintro e w6 ⟨rfl, v6, h6, o6, _⟩
  have H6 := Lib.hid h6
  have B6 := Lib.hid (B5.out.trans (H5.out.below o6))
  clear h6 o6 B5 H5 S5
  have e6 : ([] ++ be k 1 ++ be (l.length : Int) 4 ++ be ((crc (hdr k l ++ l) : Nat) : Int) 4 ++ l) = frm k l := by simp [frm, hdr]
  rw [e6] at H6
  clear e6
  go_wp2_with fail
  refine (wbytes_any _ _ _ _ w.heap.size (by rw [frm_len]; omega) H6.out).mono ?_
  rintro e w7 ⟨v7, rfl, h7, b7⟩
  have H7 := Lib.hid h7
  have B7 := Lib.hid b7
  clear h7 b7
  go_wp2
  go_ret2
  exact ⟨v7, rfl, H7.out.mono H6.out.base, B6.out.trans (B7.out.mono H6.out.base)⟩
end Go.Proofs.YtdnpgdhkeofphaaDoor
