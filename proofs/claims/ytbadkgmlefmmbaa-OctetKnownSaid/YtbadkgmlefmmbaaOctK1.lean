/- The walk of OctetKnown: it returns true, and nothing that was there has turned. -/
import Derived.Test.YtbadkgmlefmmbaaOctKnown
namespace Go.Proofs.Ytbadkgmlefmmbaa
open Go.RowKit

def kl : List Int := [255, 255, 255, 255, 255, 255, 255, 254, 128, 128, 1, 128, 0, 7]
theorem kl_ok : Okb kl := by unfold Okb kl; decide
theorem k1 : IntKind.i64.wrap (bv (kl.take 8)) = -2 := by decide
theorem k2 : rv 10 0 0 (kl.drop 8) = some (16384, [128, 0, 7]) := by decide
theorem k3 : rv 10 0 0 [128, 0, 7] = none := by decide
theorem k4 : leb 9 (IntKind.u64.wrap (-1)) = [255, 255, 255, 255, 255, 255, 255, 255, 255, 1] := by decide
theorem k5 : rv 10 0 0 [255, 255, 255, 255, 255, 255, 255, 255, 255, 1] = some (18446744073709551615, []) := by decide
theorem k6 : wrap64 18446744073709551615 = -1 := by unfold wrap64; decide
theorem k7 : Okb [255, 255, 255, 255, 255, 255, 255, 255, 255, 1] := by unfold Okb; decide

set_option maxRecDepth 100000 in
set_option maxHeartbeats 1600000 in
theorem octetKnown_walk (w : World) : Calls Try.prog 3 #[] w fun e w' => e = .returned (.bool true) ∧ Below w.heap.size w w' := by
  go_enter Try.func3, Try.ntmps3
  go_wp2_with fail
  refine (newreader_any _ w.heap.size (by simp) _ kl (by decide) kl_ok (.inr ⟨_, 14, rfl, by decide, World.news_of_block (heap_alloc_new w _)⟩)).mono ?_
  rintro e w1 ⟨b1, v1, rfl, r1, bl1, bb1, _⟩
  have R1 := Lib.hid r1
  have B1 := Lib.hid (((Below.refl w.heap.size w).alloc (Nat.le_refl _) _).trans (bl1.mono (by simp)))
  have hb1 := r1.lt
  have HV1 := Lib.hid fun k hk => (r1.own k hk).2.2
  clear r1 bl1 bb1
  go_wp2_with fail
  refine (newwriter_any _ w.heap.size (by have := B1.out.size; omega)).mono ?_
  rintro e w2 ⟨rfl, x2, bl2, hz2⟩
  have R2 := Lib.hid (R1.out.kb bl2)
  have X2 := Lib.hid x2
  have B2 := Lib.hid (B1.out.trans (bl2.mono B1.out.size))
  clear x2 bl2
  have HZ2 := Lib.hid hz2
  clear hz2
  go_wp2_with fail
  refine (known_any _).mono ?_
  rintro e w3 ⟨rfl, bl3⟩
  have R3 := Lib.hid (R2.out.kb bl3)
  have X3 := Lib.hid (X2.out.kb bl3)
  have B3 := Lib.hid (B2.out.trans (bl3.mono B2.out.size))
  clear bl3
  go_wp2_with fail
  refine (ru64_yes w.heap.size _ _ _ _ _ (by decide) R3.out).mono ?_
  rintro e w4 ⟨he, v4, r4, o4, s4⟩
  rw [k1] at he
  subst he
  have R4 := Lib.hid r4
  have X4 := Lib.hid (X3.out.kept o4 (show ¬ w1.heap.size = b1 from by omega) (fun k hk => by simp [Value.ownBlock] at hk))
  have B4 := Lib.hid (B3.out.trans (R3.out.below o4))
  have HV4 := Lib.hid fun k hk => HV1.out k (s4 k hk)
  clear r4 o4 s4
  go_wp2_with fail
  refine (rvar_any w.heap.size _ _ _ _ _ R4.out).mono ?_
  rintro e w5 hp
  rw [k2] at hp
  obtain ⟨he, v5, r5, o5, s5⟩ := hp
  rw [show wrap64 16384 = 16384 from by unfold wrap64; decide] at he
  subst he
  have R5 := Lib.hid r5
  have X5 := Lib.hid (X4.out.kept o5 (show ¬ w1.heap.size = b1 from by omega) (fun k hk => by simp [Value.ownBlock] at hk))
  have B5 := Lib.hid (B4.out.trans (R4.out.below o5))
  have HV5 := Lib.hid fun k hk => HV4.out k (s5 k hk)
  clear r5 o5 s5
  go_wp2_with fail
  refine (rvar_any w.heap.size _ _ _ _ _ R5.out).mono ?_
  rintro e w6 hp
  rw [k3] at hp
  obtain ⟨rfl, v6, r6, o6, s6⟩ := hp
  have R6 := Lib.hid r6
  have X6 := Lib.hid (X5.out.kept o6 (show ¬ w1.heap.size = b1 from by omega) (fun k hk => by simp [Value.ownBlock] at hk))
  have B6 := Lib.hid (B5.out.trans (R5.out.below o6))
  have HV6 := Lib.hid fun k hk => HV5.out k (s6 k hk)
  clear r6 o6 s6
  go_wp2_with fail
  refine (wvar_any _ _ _ _ _ w.heap.size (by decide) X6.out).mono ?_
  rintro e w7 ⟨rfl, v7, x7, o7, _⟩
  rw [k4, List.nil_append] at x7
  have X7 := Lib.hid x7
  have R7 := Lib.hid (R6.out.kept o7 (by rintro (h | h); omega; simp [Value.ownBlock] at h) (fun k hk => by have := HV6.out k hk; rintro (h | h); omega; simp [Value.ownBlock] at h))
  have B7 := Lib.hid (B6.out.trans (X6.out.below o7))
  clear x7 o7
  go_wp2_with fail
  refine (wbytes_any _ _ _ _ w.heap.size (by decide) X7.out).mono ?_
  rintro e w8 ⟨v8, rfl, h8, bl8⟩
  obtain ⟨g8, c8, rfl, hg8, _⟩ := h8.form (by decide)
  have hg8b := Lib.hid (show g8 ≠ b1 from by have := R7.out.lt; omega)
  clear hg8
  have R8 := Lib.hid (R7.out.kb bl8)
  have B8 := Lib.hid (B7.out.trans (bl8.mono B7.out.size))
  have H8 := Lib.hid h8
  clear bl8 h8
  go_wp2_with fail
  refine (newreader_any _ w.heap.size B8.out.size _ _ (by decide) k7 (Seen.own H8.out)).mono ?_
  rintro e w9 ⟨b9, v9, rfl, r9, bl9, bb9, hv9⟩
  have R9 := Lib.hid (R8.out.kb bl9)
  have S9 := Lib.hid r9
  have B9 := Lib.hid (B8.out.trans (bl9.mono B8.out.size))
  have H9 := Lib.hid (H8.out.kept (row := none) ⟨bl9.os, bl9.tape, bl9.output, bl9.size, fun k hk _ => bl9.block k hk⟩ (.inr (by simp [Value.ownBlock])))
  have HNE := Lib.hid (show b1 ≠ b9 from by have := R8.out.lt; omega)
  have HNV := Lib.hid (show ∀ k, v9.ownBlock = some k → k ≠ b1 from fun k hk => by have := R8.out.lt; have := hv9 k hk; omega)
  clear r9 bl9 hv9
  go_wp2_with fail
  refine (lack_any w.heap.size _ _ _ _ _ R9.out).mono ?_
  rintro e _ ⟨rfl, rfl⟩
  go_wp2_with fail
  refine (left_any w.heap.size _ _ _ _ _ R9.out).mono ?_
  rintro e _ ⟨rfl, rfl⟩
  go_wp2_with fail
  refine (ru8_nil w.heap.size _ _ _ _ R9.out).mono ?_
  rintro e w10 ⟨rfl, v10, r10, o10, s10⟩
  have S10 := Lib.hid (S9.out.kept o10 HNE.out.symm HNV.out)
  have B10 := Lib.hid (B9.out.trans (R9.out.below o10))
  have hcell : w10.cell? ⟨g8, 9, none⟩ = some (.int .u8 1) := by
    have h1 := H9.out.cells (g := g8) rfl 9 (.int .u8 1) rfl
    rw [Addr.add_lit] at h1
    rw [World.cell?_of_block (w := w9) (o10.block g8 (H9.out.lt g8 rfl).2 hg8b.out)]
    exact h1
  clear r10 o10 s10
  go_wp2_with fail
  refine (rvar_any w.heap.size _ _ _ _ _ S10.out).mono ?_
  rintro e w11 hp
  rw [k5] at hp
  obtain ⟨he, v11, r11, o11, s11⟩ := hp
  rw [k6] at he
  subst he
  have S11 := Lib.hid r11
  have B11 := Lib.hid (B10.out.trans (S10.out.below o11))
  clear r11 o11 s11
  go_wp2_with fail
  refine (lack_any w.heap.size _ _ _ _ _ S11.out).mono ?_
  rintro e _ ⟨rfl, rfl⟩
  go_wp2
  go_ret
  exact ⟨rfl, B11.out⟩
end Go.Proofs.Ytbadkgmlefmmbaa
