/- What Frame of the reference does. The body is within a thousand million bytes. -/
import Derived.Test.YtdnpgdhkeofphaaDoorFrmN
import Derived.Test.YtdnpgdhkeofphaaDoorOctX
namespace Go.Proofs.YtdnpgdhkeofphaaDoor
open Go.RowKit
attribute [local go_sem ↓] Go.wp_at_zero Go.wp_at_succ

theorem xu8_to (w : World) (b : Nat) (v : Value) (xs : List Int) (n : Int) (B : Nat) (h0 : 0 ≤ n) (h1 : n < 4294967296) (hn : xs.length < 1000000000) (h : Wr 119 B w b v xs) :
    Calls Tryd.prog 56 #[.pointer (some ⟨b,0,none⟩), .int .i64 n] w fun e w' => e = .returned (.tuple #[]) ∧ Wrote 119 B w b v (xs ++ be n 1) w' := by
  have := xu8_any w b v xs n B hn h
  rwa [show IntKind.u64.wrap n = n from by rw [IntKind.wrap_u64]; omega] at this
theorem xu32_to (w : World) (b : Nat) (v : Value) (xs : List Int) (n : Int) (B : Nat) (h0 : 0 ≤ n) (h1 : n < 4294967296) (hn : xs.length < 1000000000) (h : Wr 119 B w b v xs) :
    Calls Tryd.prog 57 #[.pointer (some ⟨b,0,none⟩), .int .i64 n] w fun e w' => e = .returned (.tuple #[]) ∧ Wrote 119 B w b v (xs ++ be n 4) w' := by
  have := xu32_any w b v xs n B hn h
  rwa [show IntKind.u64.wrap n = n from by rw [IntKind.wrap_u64]; omega] at this
theorem refsum_to (w : World) (v : Value) (l : List Int) (C : Int) (ok : Okb l) (hl : l.length ≤ 140737488351232) (hC : ((crc l : Nat) : Int) = C) (hs : Seen w v l) : Calls Tryd.prog 58 #[v] w fun e w' => e = .returned (.int .u32 C) ∧ w = w' := hC ▸ refsum_any w v l ok hl hs

theorem below_row {B : Nat} {w w' : World} {row : Option Nat} (h : w.grownBy w' row) (hB : B ≤ w.heap.size) (hr : ∀ k, row = some k → B ≤ k) : Below B w w' :=
  (Below.refl B w).grown h hB hr
set_option maxRecDepth 10000 in
set_option maxHeartbeats 1600000 in
theorem xframe_any (w : World) (k : Int) (v : Value) (l : List Int) (h0 : 0 ≤ k) (h1 : k < 256) (ok : Okb l) (hl : l.length ≤ 2000000) (hs : Seen w v l) :
    Calls Tryd.prog 32 #[.int .i64 k, v] w fun e w' => ∃ u, e = .returned u ∧ w'.ownsRow w.heap.size 5 1 u (frm k l).length (us (frm k l)) ∧ Below w.heap.size w w' := by
  obtain ⟨a, cap, rfl⟩ := len_val hs
  have HS := Lib.hid hs
  have HO := Lib.hid ((hdr_ok k l).app ok)
  obtain ⟨C, hC⟩ : ∃ C, ((crc (hdr k l ++ l) : Nat) : Int) = C := ⟨_, rfl⟩
  have hC2 : 0 ≤ C ∧ C < 4294967296 := by have := crc_hdr k ok; omega
  have HC := Lib.hid hC
  clear hs hC
  have h1' : Wr 119 w.heap.size (w.alloc (.cells #[.slice none 0 0] 119)) w.heap.size (.slice none 0 0) [] := ⟨Nat.le_refl _, heap_alloc_new w _, World.ownsRow_nil _ _ _ _⟩
  have H1 := Lib.hid h1'
  have B1 := Lib.hid ((Below.refl w.heap.size w).alloc (Nat.le_refl _) (.cells #[.slice none 0 0] 119))
  clear h1'
  go_enter Tryd.func32, Tryd.ntmps32
  go_wp2_with fail
  refine (xu8_to _ _ _ _ _ w.heap.size h0 (by omega) (by decide) H1.out).mono ?_
  rintro e w2 ⟨rfl, v2, h2, o2, _⟩
  have H2 := Lib.hid h2
  have B2 := Lib.hid (B1.out.trans (H1.out.below o2))
  clear h2 o2 B1 H1
  go_wp2_with fail
  refine (xu32_to _ _ _ _ _ w.heap.size (by omega) (by omega) (by simp [be_length]) H2.out).mono ?_
  rintro e w3 ⟨rfl, v3, h3, o3, _⟩
  have e3 : ([] ++ be k 1 ++ be (l.length : Int) 4) = hdr k l := by simp [hdr]
  rw [e3] at h3
  have H3 := Lib.hid h3
  have B3 := Lib.hid (B2.out.trans (H2.out.below o3))
  clear h3 o3 B2 H2 e3
  have hown := World.ownsRow_made (base := w3.heap.size) (e := 5) (size := 1) w3 #[] 0 (Nat.le_refl _) (by decide) rfl
  have hA := (Below.refl w3.heap.size w3).alloc (Nat.le_refl _) (.cells #[] 5)
  have hcA := (H3.out.kb hA).cell
  have HA := Lib.hid hA
  clear hA
  go_wp2_with (at_builtin; first
    | (refine append_bytes (by rfl) (.tmp 21) (.tmp 22) (by rfl) w3.heap.size _ _ (by rfl) HF.out _ l (by rfl) ((HS.out.kb B3.out).kb HG.out) (by rw [List.nil_append, hdr_len]; omega) HG.out.size ?_; intro v'' w5 R1 R2 R3; have HG2 := Lib.hid (HG.out.trans (below_row R2 HG.out.size fun k hk => (HF.out.lt k hk).1)); have HF2 := Lib.hid (Seen.own R1); clear R1 R2 R3)
    | (refine append_bytes (by rfl) (.tmp 16) (.tmp 20) (by rfl) w3.heap.size _ [] (by rfl) hown v3 (hdr k l) (by rfl) ((Seen.own H3.out.2.2).kb HA.out) (by rw [hdr_len]; decide) HA.out.size ?_; intro v' w4 R1 R2 R3; have HG := Lib.hid (HA.out.trans (below_row R2 HA.out.size fun k hk => by cases hk; exact Nat.le_refl _)); have HF := Lib.hid R1; clear R1 R2 R3))
  refine (refsum_to _ _ (hdr k l ++ l) C HO.out (by rw [List.length_append, hdr_len]; omega) HC.out HF2.out).mono ?_
  rintro e _ ⟨rfl, rfl⟩
  have H5 := Lib.hid (H3.out.kb HG2.out)
  have B5 := Lib.hid (B3.out.trans (HG2.out.mono B3.out.size))
  clear HG HF HF2 HG2 HA H3 B3 hown hcA
  go_wp2_with fail
  refine (xu32_to _ _ _ _ _ w.heap.size hC2.1 hC2.2 (by rw [hdr_len]; decide) H5.out).mono ?_
  rintro e w6 ⟨rfl, v6, h6, o6, _⟩
  have H6 := Lib.hid h6
  have B6 := Lib.hid (B5.out.trans (H5.out.below o6))
  clear h6 o6 B5 H5
  go_wp2_with fail
  refine (xraw_any _ _ _ _ _ l w.heap.size (by rw [List.length_append, hdr_len, be_length]; decide) (by omega) H6.out (HS.out.kb B6.out)).mono ?_
  rintro e w7 ⟨rfl, v7, h7, o7, _⟩
  have e7 : (hdr k l ++ be C 4 ++ l) = frm k l := by unfold frm; rw [HC.out]
  rw [e7] at h7
  have hc7 := h7.cell
  have H7 := Lib.hid h7
  have B7 := Lib.hid (B6.out.trans (H6.out.below o7))
  clear h7 o7 B6 H6
  go_wp2_with fail
  go_ret
  exact ⟨v7, rfl, H7.out.2.2, B7.out⟩
end Go.Proofs.YtdnpgdhkeofphaaDoor
