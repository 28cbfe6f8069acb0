/- The walk of OctetVars: it returns true, and nothing that was there has turned. -/
import Derived.Test.YtbadkgmlefmmbaaOctKnown
import Derived.Test.YtbadkgmlefmmbaaOctMath
namespace Go.Proofs.Ytbadkgmlefmmbaa
open Go.RowKit

theorem Seen.at_len {w : World} {g n m cap : Nat} {l : List Int} (h : Seen w (.slice (some ⟨g, 0, none⟩) n cap) l) (e : n = m) : Seen w (.slice (some ⟨g, 0, none⟩) m cap) l := e ▸ h
theorem seen_cut {w : World} {B g n cap c : Nat} {l : List Int} (h : w.ownsRow B 5 1 (.slice (some ⟨g, 0, none⟩) n cap) l.length (us l)) (hc : c ≤ l.length) : Seen w (.slice (some ⟨g, 0, none⟩) c cap) (l.take c) := by
  have hs := SeenR.own h
  rcases hs with ⟨h', _⟩ | ⟨g', o, cap', h', hcap, hu⟩
  · cases h'
  · cases h'
    exact (seen_take hc hcap hu).seen

set_option maxRecDepth 100000 in
set_option maxHeartbeats 3200000 in
theorem octetVars_walk (n : Int) (few : Bool) (cut : Int) (hn : Hid (-9223372036854775808 ≤ n ∧ n ≤ 9223372036854775807)) (w : World) :
    Calls Try.prog 7 #[.int .i64 n, .bool few, .int .i64 cut] w fun e w' => e = .returned (.bool true) ∧ Below w.heap.size w w' := by
  cases few
  case' false =>
    revert n
    intro m HN
    go_enter Try.func7, Try.ntmps7
    go_wp2_with fail
  case' true =>
    clear hn
    go_enter Try.func7, Try.ntmps7
    go_wp2_with fail
    refine (pick_any _ n 40000 (by omega) (by omega)).mono ?_
    rintro e _ ⟨rfl, rfl⟩
    obtain ⟨m, hm⟩ : ∃ m, m = n % 40000 := ⟨_, rfl⟩
    rw [← hm]
    have HN : Hid (-9223372036854775808 ≤ m ∧ m ≤ 9223372036854775807) := Lib.hid (by omega)
    clear hm
    go_wp2_with fail
  all_goals
    refine (newwriter_any _ w.heap.size (Nat.le_refl _)).mono ?_
    rintro e w1 ⟨rfl, x1, bl1, _⟩
    have X1 := Lib.hid x1
    have B1 := Lib.hid bl1
    clear x1 bl1
    go_wp2_with fail
    refine (known_any _).mono ?_
    rintro e w2 ⟨rfl, bl2⟩
    have X2 := Lib.hid (X1.out.kb bl2)
    have B2 := Lib.hid (B1.out.trans (bl2.mono B1.out.size))
    clear bl2
    go_wp2_with fail
    refine (wvar_any _ _ _ _ _ w.heap.size (by decide) X2.out).mono ?_
    rintro e w3 ⟨rfl, v3, x3, o3, _⟩
    rw [List.nil_append] at x3
    have X3 := Lib.hid x3
    have B3 := Lib.hid (B2.out.trans (X2.out.below o3))
    clear x3 o3
    obtain ⟨u0, hu0⟩ : ∃ u0, u0 = IntKind.u64.wrap m := ⟨_, rfl⟩
    rw [← hu0] at X3
    have HU := Lib.hid hu0
    have hub := u64_bd m
    rw [← hu0] at hub
    obtain ⟨hub0, hub1⟩ := hub
    clear hu0
    obtain ⟨k, hk⟩ := leb_pos 9 u0
    have hk9 : k ≤ 9 := by have := leb_length 9 u0; omega
    have HK := Lib.hid hk
    clear hk
    go_wp2_with fail
    refine (wbytes_any _ _ _ _ w.heap.size (by rw [HK.out]; omega) X3.out).mono ?_
    rintro e w4 ⟨v4, rfl, h4, bl4⟩
    obtain ⟨g, cap, rfl, hg, _⟩ := h4.form (by rw [HK.out]; omega)
    have B4 := Lib.hid (B3.out.trans (bl4.mono B3.out.size))
    have hcell : ∀ j y, (leb 9 u0)[j]? = some y → w4.cell? ⟨g, j, none⟩ = some (.int .u8 y) := fun j y hj => by
      have := h4.cells (g := g) rfl j (.int .u8 y) (by rw [us, List.getElem?_map, hj]; rfl)
      rw [Addr.add_lit, Nat.zero_add] at this
      exact this
    have HC := Lib.hid hcell
    have H4 := Lib.hid h4
    clear h4 bl4 hg hcell
    rw [HK.out]
    go_wp2_with fail
    go_loop [9, 10] (fun s x => ∃ (f j : Nat) (y : Int), s = .int .i64 (j + 1) ∧ x = .int .u64 (y / 128) ∧ f ≤ 9 ∧ 0 ≤ y ∧ Hid (y < 128 ^ (f + 1)) ∧ Hid ((leb f y).length + j = k + 1) ∧ j ≤ k) (fun _ x => (intOf x).toNat)
    case atStart => exact ⟨9, 0, u0, rfl, by rw [HU.out], Nat.le_refl _, hub0, Lib.hid (by rw [HU.out]; exact u64_pow m), Lib.hid HK.out, Nat.zero_le _⟩
    case round =>
      obtain ⟨f, j, y, rfl, rfl, hf, hy0, HY, HJ, hjk⟩ := hrel
      by_cases hp : 0 < y / 128
      · obtain ⟨f, rfl⟩ : ∃ f', f = f' + 1 := by
          cases f with
          | zero => have := HY.out; simp at this; omega
          | succ f => exact ⟨f, rfl⟩
        have hy1 : y / 128 < 128 ^ (f + 1) := by have := HY.out; rw [Int.pow_succ] at this; exact Int.ediv_lt_of_lt_mul (by omega) this
        have HY1 := Lib.hid hy1
        clear hy1
        have HJ1 : Hid ((leb f (y / 128)).length + (j + 1) = k + 1) := Lib.hid (by have := HJ.out; rw [leb_big (by omega), List.length_cons] at this; omega)
        have hj1 : j + 1 ≤ k := by obtain ⟨q, hq⟩ := leb_pos f (y / 128); have := HJ1.out; omega
        go_wp2_with fail
        refine ⟨⟨f, j + 1, y / 128, by go_num, rfl, by omega, by omega, HY1, HJ1, hj1⟩, by simp [intOf]; omega⟩
      · obtain rfl : j = k := by have := HJ.out; rw [leb_small (by omega)] at this; simp at this; omega
        clear HJ HY hf hjk
        have hlast : ∃ y, (leb 9 u0)[j]? = some y := ⟨_, List.getElem?_eq_getElem (by rw [HK.out]; omega)⟩
        obtain ⟨yl, hyl⟩ := hlast
        have hcl := HC.out j yl hyl
        have hg := leb_get 9 u0 j yl hub0 (by rw [HU.out]; exact u64_pow m) hyl
        have hyl0 := hg.1
        have hyl1 := (hg.2.2.2 (by rw [HK.out])).1
        have hylp : 0 < j → (yl == 0) = false := fun h => by
          have := (hg.2.2.2 (by rw [HK.out])).2 (leb_last (f := 9) hub0 (by rw [HK.out]; omega))
          simp; omega
        clear hg
        have HYL := Lib.hid hyl
        clear hyl
        rcases Nat.eq_zero_or_pos j with rfl | hjp
        case inl =>
          clear hylp
          go_wp2_with fail
          go_loop [11] (fun i => ∃ q : Nat, q ≤ 0 + 1 ∧ i = .int .i64 q) (fun i => 0 + 1 - (intOf i).toNat)
          case atStart => exact ⟨0, Nat.zero_le _, rfl⟩
          case round =>
            obtain ⟨q, hq, rfl⟩ := hrel
            by_cases hqj : q < 0
            · omega
            · by_cases hqe : q = 0
              · subst hqe
                have hd : decide (127 < yl) = false := by simp; omega
                go_wp2_with fail
                refine ⟨⟨0 + 1, Nat.le_refl _, by go_num⟩, by simp [intOf]⟩
              · have hq1 : q = 0 + 1 := by omega
                subst hq1
                clear hqj hqe hq
                go_wp2_with fail
                refine (newreader_any _ w.heap.size B4.out.size _ _ (by rw [HK.out]; omega) (leb_ok 9 u0 hub0 (by rw [HU.out]; exact u64_pow m)) ((Seen.own H4.out).at_len HK.out)).mono ?_
                rintro e w5 ⟨b5, v5, rfl, r5, bl5, bb5, hv5⟩
                have R5 := Lib.hid r5
                have B5 := Lib.hid (B4.out.trans (bl5.mono B4.out.size))
                have H5 := Lib.hid (H4.out.kept (row := none) ⟨bl5.os, bl5.tape, bl5.output, bl5.size, fun k hk _ => bl5.block k hk⟩ (.inr (by simp [Value.ownBlock])))
                clear r5 bl5 bb5 hv5
                go_wp2_with fail
                refine (pick_any _ cut _ (by omega) (by omega)).mono ?_
                rintro e _ ⟨rfl, rfl⟩
                obtain ⟨c, hc⟩ := Int.eq_ofNat_of_zero_le (Int.emod_nonneg cut (show (1 : Int) ≠ 0 from by omega))
                have hcl2 : c < 0 + 1 := by
                  have := Int.emod_lt_of_pos cut (show 0 < (1 : Int) from by omega)
                  omega
                rw [hc]
                clear hc
                have hcap : 0 + 1 ≤ cap := by
                  have := H5.out.2
                  rcases this with ⟨h, _⟩ | ⟨g', cap', cur, h, _, _, hn, _⟩
                  · cases h
                  · cases h; have := HK.out; omega
                go_wp2_with fail
                refine (newreader_any _ w.heap.size B5.out.size _ ((leb 9 u0).take c) (by rw [List.length_take]; omega) ((leb_ok 9 u0 hub0 (by rw [HU.out]; exact u64_pow m)).take c) (seen_cut H5.out (by rw [HK.out]; omega))).mono ?_
                rintro e w6 ⟨b6, v6, rfl, r6, bl6, bb6, hv6⟩
                have R6 := Lib.hid (R5.out.kb bl6)
                have S6 := Lib.hid r6
                have B6 := Lib.hid (B5.out.trans (bl6.mono B5.out.size))
                have HNE := Lib.hid (show b5 ≠ b6 from by have := R5.out.lt; omega)
                have HNV := Lib.hid (show ∀ k, v6.ownBlock = some k → k ≠ b5 from fun k hk => by have := R5.out.lt; have := hv6 k hk; omega)
                clear r6 bl6 bb6 hv6
                have hrv : rv 10 0 0 (leb 9 u0) = some (u0, []) := by
                  have := rv_leb 9 0 0 u0 [] rfl hub0 (by rw [HU.out]; exact u64_pow m) (by omega) (by simpa using hub1)
                  simpa using this
                have hwm : wrap64 u0 = m := by rw [HU.out]; exact wrap_back m HN.out
                have HRV := Lib.hid hrv
                have HWM := Lib.hid hwm
                clear hrv hwm
                go_wp2_with fail
                refine (rvar_any w.heap.size _ _ _ _ _ R6.out).mono ?_
                rintro e w7 hp
                rw [HRV.out] at hp
                obtain ⟨he, v7, r7, o7, s7⟩ := hp
                rw [HWM.out] at he
                subst he
                have R7 := Lib.hid r7
                have S7 := Lib.hid (S6.out.kept o7 HNE.out.symm HNV.out)
                have B7 := Lib.hid (B6.out.trans (R6.out.below o7))
                clear r7 o7 s7
                go_wp2_with fail
                refine (left_any w.heap.size _ _ _ _ _ R7.out).mono ?_
                rintro e _ ⟨rfl, rfl⟩
                go_wp2_with fail
                refine (lack_any w.heap.size _ _ _ _ _ R7.out).mono ?_
                rintro e _ ⟨rfl, rfl⟩
                go_wp2_with fail
                refine (rvar_any w.heap.size _ _ _ _ _ S7.out).mono ?_
                rintro e w8 hp
                rw [rv_short 9 0 0 u0 c (by rw [HK.out]; omega)] at hp
                obtain ⟨rfl, v8, r8, o8, s8⟩ := hp
                have S8 := Lib.hid r8
                have B8 := Lib.hid (B7.out.trans (S7.out.below o8))
                clear r8 o8 s8
                go_wp2_with fail
                refine (lack_any w.heap.size _ _ _ _ _ S8.out).mono ?_
                rintro e _ ⟨rfl, rfl⟩
                go_wp2
                go_ret
                exact ⟨rfl, B8.out⟩
        case inr =>
          have hylq := hylp hjp
          clear hylp
          go_wp2_with fail
          go_loop [11] (fun i => ∃ q : Nat, q ≤ j + 1 ∧ i = .int .i64 q) (fun i => j + 1 - (intOf i).toNat)
          case atStart => exact ⟨0, Nat.zero_le _, rfl⟩
          case round =>
            obtain ⟨q, hq, rfl⟩ := hrel
            by_cases hqj : q < j
            · obtain ⟨yq, hyq⟩ : ∃ y, (leb 9 u0)[q]? = some y := ⟨_, List.getElem?_eq_getElem (by rw [HK.out]; omega)⟩
              have hcq := HC.out q yq hyq
              have hgq := leb_get 9 u0 q yq hub0 (by rw [HU.out]; exact u64_pow m) hyq
              have hyq1 := hgq.2.2.1 (by rw [HK.out]; omega)
              have hd : decide (127 < yq) = true := by simp; omega
              clear hgq hyq
              go_wp2_with fail
              refine ⟨⟨q + 1, by omega, by go_num⟩, by simp [intOf]; omega⟩
            · by_cases hqe : q = j
              · subst hqe
                have hd : decide (127 < yl) = false := by simp; omega
                go_wp2_with fail
                refine ⟨⟨q + 1, Nat.le_refl _, by go_num⟩, by simp [intOf]⟩
              · have hq1 : q = j + 1 := by omega
                subst hq1
                clear hqj hqe hq
                go_wp2_with fail
                refine (newreader_any _ w.heap.size B4.out.size _ _ (by rw [HK.out]; omega) (leb_ok 9 u0 hub0 (by rw [HU.out]; exact u64_pow m)) ((Seen.own H4.out).at_len HK.out)).mono ?_
                rintro e w5 ⟨b5, v5, rfl, r5, bl5, bb5, hv5⟩
                have R5 := Lib.hid r5
                have B5 := Lib.hid (B4.out.trans (bl5.mono B4.out.size))
                have H5 := Lib.hid (H4.out.kept (row := none) ⟨bl5.os, bl5.tape, bl5.output, bl5.size, fun k hk _ => bl5.block k hk⟩ (.inr (by simp [Value.ownBlock])))
                clear r5 bl5 bb5 hv5
                go_wp2_with fail
                refine (pick_any _ cut _ (by omega) (by omega)).mono ?_
                rintro e _ ⟨rfl, rfl⟩
                obtain ⟨c, hc⟩ := Int.eq_ofNat_of_zero_le (Int.emod_nonneg cut (show ((j : Int) + 1) ≠ 0 from by omega))
                have hcl2 : c < j + 1 := by
                  have := Int.emod_lt_of_pos cut (show 0 < ((j : Int) + 1) from by omega)
                  omega
                rw [hc]
                clear hc
                have hcap : j + 1 ≤ cap := by
                  have := H5.out.2
                  rcases this with ⟨h, _⟩ | ⟨g', cap', cur, h, _, _, hn, _⟩
                  · cases h
                  · cases h; have := HK.out; omega
                go_wp2_with fail
                refine (newreader_any _ w.heap.size B5.out.size _ ((leb 9 u0).take c) (by rw [List.length_take]; omega) ((leb_ok 9 u0 hub0 (by rw [HU.out]; exact u64_pow m)).take c) (seen_cut H5.out (by rw [HK.out]; omega))).mono ?_
                rintro e w6 ⟨b6, v6, rfl, r6, bl6, bb6, hv6⟩
                have R6 := Lib.hid (R5.out.kb bl6)
                have S6 := Lib.hid r6
                have B6 := Lib.hid (B5.out.trans (bl6.mono B5.out.size))
                have HNE := Lib.hid (show b5 ≠ b6 from by have := R5.out.lt; omega)
                have HNV := Lib.hid (show ∀ k, v6.ownBlock = some k → k ≠ b5 from fun k hk => by have := R5.out.lt; have := hv6 k hk; omega)
                clear r6 bl6 bb6 hv6
                have hrv : rv 10 0 0 (leb 9 u0) = some (u0, []) := by
                  have := rv_leb 9 0 0 u0 [] rfl hub0 (by rw [HU.out]; exact u64_pow m) (by omega) (by simpa using hub1)
                  simpa using this
                have hwm : wrap64 u0 = m := by rw [HU.out]; exact wrap_back m HN.out
                have HRV := Lib.hid hrv
                have HWM := Lib.hid hwm
                clear hrv hwm
                go_wp2_with fail
                refine (rvar_any w.heap.size _ _ _ _ _ R6.out).mono ?_
                rintro e w7 hp
                rw [HRV.out] at hp
                obtain ⟨he, v7, r7, o7, s7⟩ := hp
                rw [HWM.out] at he
                subst he
                have R7 := Lib.hid r7
                have S7 := Lib.hid (S6.out.kept o7 HNE.out.symm HNV.out)
                have B7 := Lib.hid (B6.out.trans (R6.out.below o7))
                clear r7 o7 s7
                go_wp2_with fail
                refine (left_any w.heap.size _ _ _ _ _ R7.out).mono ?_
                rintro e _ ⟨rfl, rfl⟩
                go_wp2_with fail
                refine (lack_any w.heap.size _ _ _ _ _ R7.out).mono ?_
                rintro e _ ⟨rfl, rfl⟩
                go_wp2_with fail
                refine (rvar_any w.heap.size _ _ _ _ _ S7.out).mono ?_
                rintro e w8 hp
                rw [rv_short 9 0 0 u0 c (by rw [HK.out]; omega)] at hp
                obtain ⟨rfl, v8, r8, o8, s8⟩ := hp
                have S8 := Lib.hid r8
                have B8 := Lib.hid (B7.out.trans (S7.out.below o8))
                clear r8 o8 s8
                go_wp2_with fail
                refine (lack_any w.heap.size _ _ _ _ _ S8.out).mono ?_
                rintro e _ ⟨rfl, rfl⟩
                go_wp2
                go_ret
                exact ⟨rfl, B8.out⟩
end Go.Proofs.Ytbadkgmlefmmbaa
