/- The walk of OctetLays: it returns true, and nothing that was there has turned. -/
import Derived.Test.YtbadkgmlefmmbaaOctTwo
import Derived.Test.YtbadkgmlefmmbaaOctB1
import Derived.Test.YtbadkgmlefmmbaaOctBulk
import Derived.Deep.QuietTactic
import Derived.BigQuiet
import Derived.Deep.RegionWith
namespace Go.Proofs.Ytbadkgmlefmmbaa
open Go.RowKit

theorem Wr.drew {T B b : Nat} {w : World} {v : Value} {xs : List Int} (h : Wr T B w b v xs) : Wr T B w.drew b v xs := h
theorem Apart2.symm {v u : Value} (h : Apart2 v u) : Apart2 u v := fun j h1 h2 => h j h2 h1
theorem byteAt_wrap (n : Int) (j : Nat) (hj : j < 8) : byteAt (IntKind.u64.wrap n) j = byteAt n j := by
  unfold byteAt
  rw [IntKind.wrap_u8', IntKind.wrap_u8', IntKind.wrap_u64]
  have h : j = 0 ∨ j = 1 ∨ j = 2 ∨ j = 3 ∨ j = 4 ∨ j = 5 ∨ j = 6 ∨ j = 7 := by omega
  rcases h with rfl | rfl | rfl | rfl | rfl | rfl | rfl | rfl <;> simp <;> omega
theorem be_wrap (n : Int) : ∀ m, m ≤ 8 → be (IntKind.u64.wrap n) m = be n m
  | 0, _ => rfl
  | j + 1, h => by rw [be, be, byteAt_wrap n j (by omega), be_wrap n j (by omega)]

theorem Seen.below {w w' : World} {v : Value} {l : List Int} (h : Seen w v l) (hb : Below w.heap.size w w') : Seen w' v l := by
  rcases h with h | ⟨a, cap, rfl, hc, hu⟩
  · exact .inl h
  · refine .inr ⟨a, cap, rfl, hc, fun j u hj => ?_⟩
    have h1 := hu j u hj
    rw [hb.cell (World.block_lt_of_cell? w _ h1)]
    exact h1

set_option maxRecDepth 100000 in
set_option maxHeartbeats 3200000 in
theorem octetLays_walk (ao : Option Addr) (len cap : Nat) (W N : Nat → Int) (A : Nat → Option Addr) (C : Nat → Nat) (L : Nat → List Int) (w : World) (hlen : len ≤ 9223372036854775807)
    (hst : Hid (∀ i, i < len → FullStep w ao i (W i) (N i) (A i) (C i) (L i))) :
    Calls Try.prog 4 #[.slice ao len cap] w fun e w' => e = .returned (.bool true) ∧ Below w.heap.size w w' := by
  obtain ⟨k, hk1, hk2, hk3⟩ : ∃ k, k ≤ len ∧ k ≤ 40 ∧ (len ≤ k ∨ 40 ≤ k) := ⟨min len 40, by omega, by omega, by omega⟩
  go_enter Try.func4, Try.ntmps4
  go_wp2_with fail
  refine (newwriter_any _ w.heap.size (Nat.le_refl _)).mono ?_
  rintro e w1 ⟨rfl, x1, bl1, hz1⟩
  have X1 := Lib.hid x1
  have B1 := Lib.hid bl1
  have HZ1 := Lib.hid hz1
  clear x1 bl1 hz1
  go_wp2_with fail
  refine (known_any _).mono ?_
  rintro e w2 ⟨rfl, bl2⟩
  have X2 := Lib.hid (X1.out.kb bl2)
  have B2 := Lib.hid (B1.out.trans (bl2.mono B1.out.size))
  clear bl2
  have X3 := Lib.hid (X2.out.kb ((Below.refl _ w2).alloc (Nat.le_refl _) (.cells #[.slice none 0 0] 34)))
  have S3 : Hid (Wr 34 w.heap.size (w2.alloc (.cells #[.slice none 0 0] 34)) w2.heap.size (.slice none 0 0) []) := Lib.hid ⟨B2.out.size, heap_alloc_new w2 _, World.ownsRow_nil _ _ _ _⟩
  have B3 := Lib.hid (B2.out.alloc B2.out.size (.cells #[.slice none 0 0] 34))
  obtain ⟨bs, hbs⟩ : ∃ bs, bs = w2.heap.size := ⟨_, rfl⟩
  rw [← hbs] at S3
  have HBS := Lib.hid hbs
  clear hbs
  go_wp2_with fail
  rw [← HBS.out]
  go_loopw [5] (fun t wr => ∃ (i : Nat) (xs : List Int) (v u : Value), i ≤ k ∧ t = .int .i64 i ∧ xs.length ≤ 1048600 * i ∧ Hid (Wr 53 w.heap.size wr w.heap.size v xs) ∧ Hid (Wr 34 w.heap.size wr bs u xs) ∧ Hid (Apart2 v u) ∧ Hid (Below w.heap.size w wr)) (fun t _ => 40 - (intOf t).toNat)
  case atStart => exact ⟨0, [], _, _, Nat.zero_le _, rfl, by simp, X3, S3, Lib.hid fun j hj => by simp [Value.ownBlock] at hj, B3⟩
  case round =>
    obtain ⟨i, xs, v, u, hik, rfl, hxl, HX, HS, HA, HB⟩ := hrel
    by_cases hlt : i < k
    · obtain ⟨⟨b, o, rfl, hb, c0, c1, c2⟩, hseen, hbl⟩ := hst.out i (by omega)
      have c0' := (HB.out.cell (p := ⟨b, o + i * 3, none⟩) hb).trans c0
      have c1' := (HB.out.cell (p := ⟨b, o + i * 3 + 1, none⟩) hb).trans c1
      have c2' := (HB.out.cell (p := ⟨b, o + i * 3 + 2, none⟩) hb).trans c2
      have HSE := Lib.hid hseen
      have hil : i < len := by omega
      have hi40 : i < 40 := by omega
      clear c0 c1 c2 hseen hlt
      have hc6 : W i % 6 = 0 ∨ W i % 6 = 1 ∨ W i % 6 = 2 ∨ W i % 6 = 3 ∨ W i % 6 = 4 ∨ W i % 6 = 5 := by omega
      have XA := Lib.hid (HX.out.kb ((Below.refl _ _).alloc (Nat.le_refl _) (.cells #[.int .i64 (W i), .int .i64 (N i), .slice (A i) (L i).length (C i)] 36)))
      have SA := Lib.hid (HS.out.kb ((Below.refl _ _).alloc (Nat.le_refl _) (.cells #[.int .i64 (W i), .int .i64 (N i), .slice (A i) (L i).length (C i)] 36)))
      have BA := Lib.hid (HB.out.alloc HB.out.size (.cells #[.int .i64 (W i), .int .i64 (N i), .slice (A i) (L i).length (C i)] 36))
      have HNB := Lib.hid (show wr.heap.size ≠ w.heap.size from by have := HX.out.lt; omega)
      have HNV := Lib.hid (show v.ownBlock ≠ some wr.heap.size from fun e => by have := HX.out.ownlt e; omega)
      have HCL := Lib.hid (heap_alloc_new wr (.cells #[.int .i64 (W i), .int .i64 (N i), .slice (A i) (L i).length (C i)] 36))
      have hsz : wr.heap.size < (wr.alloc (.cells #[.int .i64 (W i), .int .i64 (N i), .slice (A i) (L i).length (C i)] 36)).heap.size := by simp
      have HSZ := Lib.hid hsz
      clear hsz
      rcases hc6 with hr | hr | hr | hr | hr | hr
      all_goals
        have HRR := Lib.hid hr
        clear hr
        go_wp2_with fail
        refine (pick_to _ _ 6 _ (by omega) (by omega) HRR.out).mono ?_
        rintro e _ ⟨rfl, rfl⟩
        go_wp2_with fail
      · refine (wu8_any _ _ _ _ _ w.heap.size (by omega) XA.out).mono ?_
        rintro e w3 ⟨rfl, hw3⟩
        obtain ⟨v3, x3, s3, a3, b3, f3⟩ := two_first (by decide) (by decide) (by decide) XA.out SA.out HA.out hw3
        have hN3 : w3.cell? ⟨wr.heap.size, 1, none⟩ = some (.int .i64 (N i)) := by
          rw [cell_of_row w3 wr.heap.size _ _ _ _ ((f3 wr.heap.size HSZ.out HNB.out HNV.out).trans HCL.out)]; rfl
        have X3 := Lib.hid x3
        have S3 := Lib.hid s3
        have A3 := Lib.hid a3
        have B3 := Lib.hid (BA.out.trans b3)
        clear hw3 x3 s3 a3 b3 f3
        go_wp2_with fail
        refine (xu8_any _ _ _ _ _ w.heap.size (by omega) S3.out).mono ?_
        rintro e w4 ⟨rfl, hw4⟩
        rw [be_wrap _ _ (by decide)] at hw4
        obtain ⟨u4, s4, x4, a4, b4, _⟩ := two_first (by decide) (by decide) (by decide) S3.out X3.out A3.out.symm hw4
        have X4 := Lib.hid x4
        have S4 := Lib.hid s4
        have A4 := Lib.hid a4.symm
        have B4 := Lib.hid (B3.out.trans b4)
        clear hw4 x4 s4 a4 b4
        go_wp2_with fail
        exact ⟨⟨i + 1, _, v3, u4, by omega, by go_num, by rw [List.length_append]; have := be_length (N i) 1; omega, X4, S4, A4, B4⟩, by simp [intOf]; omega⟩
      · refine (wu32_any _ _ _ _ _ w.heap.size (by omega) XA.out).mono ?_
        rintro e w3 ⟨rfl, hw3⟩
        obtain ⟨v3, x3, s3, a3, b3, f3⟩ := two_first (by decide) (by decide) (by decide) XA.out SA.out HA.out hw3
        have hN3 : w3.cell? ⟨wr.heap.size, 1, none⟩ = some (.int .i64 (N i)) := by
          rw [cell_of_row w3 wr.heap.size _ _ _ _ ((f3 wr.heap.size HSZ.out HNB.out HNV.out).trans HCL.out)]; rfl
        have X3 := Lib.hid x3
        have S3 := Lib.hid s3
        have A3 := Lib.hid a3
        have B3 := Lib.hid (BA.out.trans b3)
        clear hw3 x3 s3 a3 b3 f3
        go_wp2_with fail
        refine (xu32_any _ _ _ _ _ w.heap.size (by omega) S3.out).mono ?_
        rintro e w4 ⟨rfl, hw4⟩
        rw [be_wrap _ _ (by decide)] at hw4
        obtain ⟨u4, s4, x4, a4, b4, _⟩ := two_first (by decide) (by decide) (by decide) S3.out X3.out A3.out.symm hw4
        have X4 := Lib.hid x4
        have S4 := Lib.hid s4
        have A4 := Lib.hid a4.symm
        have B4 := Lib.hid (B3.out.trans b4)
        clear hw4 x4 s4 a4 b4
        go_wp2_with fail
        exact ⟨⟨i + 1, _, v3, u4, by omega, by go_num, by rw [List.length_append]; have := be_length (N i) 4; omega, X4, S4, A4, B4⟩, by simp [intOf]; omega⟩
      · refine (wu64_any _ _ _ _ _ w.heap.size (by omega) XA.out).mono ?_
        rintro e w3 ⟨rfl, hw3⟩
        obtain ⟨v3, x3, s3, a3, b3, f3⟩ := two_first (by decide) (by decide) (by decide) XA.out SA.out HA.out hw3
        have hN3 : w3.cell? ⟨wr.heap.size, 1, none⟩ = some (.int .i64 (N i)) := by
          rw [cell_of_row w3 wr.heap.size _ _ _ _ ((f3 wr.heap.size HSZ.out HNB.out HNV.out).trans HCL.out)]; rfl
        have X3 := Lib.hid x3
        have S3 := Lib.hid s3
        have A3 := Lib.hid a3
        have B3 := Lib.hid (BA.out.trans b3)
        clear hw3 x3 s3 a3 b3 f3
        go_wp2_with fail
        refine (xu64_any _ _ _ _ _ w.heap.size (by omega) S3.out).mono ?_
        rintro e w4 ⟨rfl, hw4⟩
        rw [be_wrap _ _ (by decide)] at hw4
        obtain ⟨u4, s4, x4, a4, b4, _⟩ := two_first (by decide) (by decide) (by decide) S3.out X3.out A3.out.symm hw4
        have X4 := Lib.hid x4
        have S4 := Lib.hid s4
        have A4 := Lib.hid a4.symm
        have B4 := Lib.hid (B3.out.trans b4)
        clear hw4 x4 s4 a4 b4
        go_wp2_with fail
        exact ⟨⟨i + 1, _, v3, u4, by omega, by go_num, by rw [List.length_append]; have := be_length (N i) 8; omega, X4, S4, A4, B4⟩, by simp [intOf]; omega⟩
      · refine (wvar_any _ _ _ _ _ w.heap.size (by omega) XA.out).mono ?_
        rintro e w3 ⟨rfl, hw3⟩
        obtain ⟨v3, x3, s3, a3, b3, f3⟩ := two_first (by decide) (by decide) (by decide) XA.out SA.out HA.out hw3
        have hN3 : w3.cell? ⟨wr.heap.size, 1, none⟩ = some (.int .i64 (N i)) := by
          rw [cell_of_row w3 wr.heap.size _ _ _ _ ((f3 wr.heap.size HSZ.out HNB.out HNV.out).trans HCL.out)]; rfl
        have X3 := Lib.hid x3
        have S3 := Lib.hid s3
        have A3 := Lib.hid a3
        have B3 := Lib.hid (BA.out.trans b3)
        clear hw3 x3 s3 a3 b3 f3
        go_wp2_with fail
        refine (xvar_any _ _ _ _ _ w.heap.size (by omega) S3.out).mono ?_
        rintro e w4 ⟨rfl, hw4⟩
        obtain ⟨u4, s4, x4, a4, b4, _⟩ := two_first (by decide) (by decide) (by decide) S3.out X3.out A3.out.symm hw4
        have X4 := Lib.hid x4
        have S4 := Lib.hid s4
        have A4 := Lib.hid a4.symm
        have B4 := Lib.hid (B3.out.trans b4)
        clear hw4 x4 s4 a4 b4
        go_wp2_with fail
        exact ⟨⟨i + 1, _, v3, u4, by omega, by go_num, by rw [List.length_append]; have := leb_length 9 (IntKind.u64.wrap (N i)); omega, X4, S4, A4, B4⟩, by simp [intOf]; omega⟩
      · refine (pick_any _ _ 1000 (by omega) (by omega)).mono ?_
        rintro e _ ⟨rfl, rfl⟩
        go_wp2_with fail
        refine (wvar_any _ _ _ _ _ w.heap.size (by omega) XA.out).mono ?_
        rintro e w3 ⟨rfl, hw3⟩
        obtain ⟨v3, x3, s3, a3, b3, f3⟩ := two_first (by decide) (by decide) (by decide) XA.out SA.out HA.out hw3
        have hN3 : w3.cell? ⟨wr.heap.size, 1, none⟩ = some (.int .i64 (N i)) := by
          rw [cell_of_row w3 wr.heap.size _ _ _ _ ((f3 wr.heap.size HSZ.out HNB.out HNV.out).trans HCL.out)]; rfl
        have X3 := Lib.hid x3
        have S3 := Lib.hid s3
        have A3 := Lib.hid a3
        have B3 := Lib.hid (BA.out.trans b3)
        clear hw3 x3 s3 a3 b3 f3
        go_wp2_with fail
        refine (pick_any _ _ 1000 (by omega) (by omega)).mono ?_
        rintro e _ ⟨rfl, rfl⟩
        go_wp2_with fail
        refine (xvar_any _ _ _ _ _ w.heap.size (by omega) S3.out).mono ?_
        rintro e w4 ⟨rfl, hw4⟩
        obtain ⟨u4, s4, x4, a4, b4, _⟩ := two_first (by decide) (by decide) (by decide) S3.out X3.out A3.out.symm hw4
        have X4 := Lib.hid x4
        have S4 := Lib.hid s4
        have A4 := Lib.hid a4.symm
        have B4 := Lib.hid (B3.out.trans b4)
        clear hw4 x4 s4 a4 b4
        go_wp2_with fail
        exact ⟨⟨i + 1, _, v3, u4, by omega, by go_num, by rw [List.length_append]; have := leb_length 9 (IntKind.u64.wrap (N i % 1000)); omega, X4, S4, A4, B4⟩, by simp [intOf]; omega⟩
      · refine (wraw_any _ _ _ _ _ (L i) w.heap.size (by omega) (by omega) XA.out (HSE.out.below BA.out)).mono ?_
        rintro e w3 ⟨rfl, hw3⟩
        obtain ⟨v3, x3, s3, a3, b3, f3⟩ := two_first (by decide) (by decide) (by decide) XA.out SA.out HA.out hw3
        have hN3 : w3.cell? ⟨wr.heap.size, 2, none⟩ = some (.slice (A i) (L i).length (C i)) := by
          rw [cell_of_row w3 wr.heap.size _ _ _ _ ((f3 wr.heap.size HSZ.out HNB.out HNV.out).trans HCL.out)]; rfl
        have X3 := Lib.hid x3
        have S3 := Lib.hid s3
        have A3 := Lib.hid a3
        have B3 := Lib.hid (BA.out.trans b3)
        clear hw3 x3 s3 a3 b3 f3
        go_wp2_with fail
        refine (xraw_any _ _ _ _ _ (L i) w.heap.size (by omega) (by omega) S3.out (HSE.out.below B3.out)).mono ?_
        rintro e w4 ⟨rfl, hw4⟩
        obtain ⟨u4, s4, x4, a4, b4, _⟩ := two_first (by decide) (by decide) (by decide) S3.out X3.out A3.out.symm hw4
        have X4 := Lib.hid x4
        have S4 := Lib.hid s4
        have A4 := Lib.hid a4.symm
        have B4 := Lib.hid (B3.out.trans b4)
        clear hw4 x4 s4 a4 b4
        go_wp2_with fail
        exact ⟨⟨i + 1, _, v3, u4, by omega, by go_num, by rw [List.length_append]; omega, X4, S4, A4, B4⟩, by simp [intOf]; omega⟩
    · have hxl2 : xs.length ≤ 41944000 := by omega
      by_cases hil : i < len
      case' pos => have hi40 : 40 ≤ i := by omega
      case' neg => have hli : len ≤ i := by omega
      all_goals
        clear hlt
        go_wp2_with fail
        refine (wbytes_any _ _ _ _ w.heap.size (by omega) HX.out).mono ?_
        rintro e w4 ⟨v4, rfl, h4, bl4⟩
        have S4 := HS.out.kb bl4
        have hcv4 : (convert 24 9 v4).run Try.prog w4.drew = .ok (.string (strOfNums xs)) w4.drew := conv_any ((SeenR.own h4).kept fun _ _ => rfl)
        have hcu4 : (convert 24 9 u).run Try.prog w4.drew = .ok (.string (strOfNums xs)) w4.drew := conv_any ((SeenR.own S4.2.2).kept fun _ _ => rfl)
        have cs4 := S4.cell
        have XZ := Lib.hid (HX.out.kb bl4).drew
        have SZ := Lib.hid S4.drew
        have BZ := Lib.hid ((HB.out.trans (bl4.mono HB.out.size)).drew)
        have H4 := Lib.hid h4
        have HXL := Lib.hid HX.out.lt
        have HSL := Lib.hid HS.out.lt
        have HXO := Lib.hid fun j hj => HX.out.ownlt (k := j) hj
        have HSO := Lib.hid fun j hj => HS.out.ownlt (k := j) hj
        clear bl4 S4
        rcases h4.2 with ⟨rfl, hx0⟩ | ⟨g7, c7, cur, rfl, hg7, _⟩
        · clear h4
          have HX0 := Lib.hid hx0
          clear hx0
          go_wp2_with fail
          go_region
          all_goals
            clear hcv4 hcu4 cs4
            have hcu5 := conv_any (SeenR.own SZ.out.drew.2.2)
            have cs5 := SZ.out.cell
            go_wp2_with fail
            refine wp_loop_rounds 1 ?_; rw [rounds_succ]; go_wp2_with fail
            go_region_with ((go_at_call 14; refine (wbytes_any _ _ _ _ w.heap.size (by omega) XZ.out.drew).mono ?_; rintro e w8 ⟨v8, rfl, h8, bl8⟩; have hcv8 := conv_any (SeenR.own h8); have SZ8 := SZ.out.drew.kb bl8; have hcu8 := conv_any (SeenR.own SZ8.2.2); have cs8 := SZ8.cell; have BZ8 := Lib.hid (BZ.out.drew.trans (bl8.mono BZ.out.size)); clear h8 bl8 SZ8))
            all_goals
              go_wp2
              go_ret
              exact ⟨rfl, BZ8.out⟩
        · have H7 := Lib.hid (show w4.drew.ownsRow _ 5 1 (.slice (some ⟨g7, 0, none⟩) xs.length c7) xs.length (us xs) from H4.out)
          clear h4
          go_wp2_with fail
          go_region
          all_goals
            clear hcv4 hcu4 cs4
            go_wp2_with fail
            go_loopw [8] (fun t wq => ∃ (j : Nat) (lc : List Int), j ≤ xs.length ∧ t = .int .i64 j ∧ Hid (lc.length = xs.length) ∧ Hid (wq.ownsRow wr.heap.size 5 1 (.slice (some ⟨g7, 0, none⟩) xs.length c7) xs.length (us lc)) ∧ Hid (Wr 53 w.heap.size wq w.heap.size v xs) ∧ Hid (Wr 34 w.heap.size wq bs u xs) ∧ Hid (Below w.heap.size w wq)) (fun t _ => xs.length - (intOf t).toNat)
            case atStart => exact ⟨0, xs, Nat.zero_le _, rfl, Lib.hid rfl, H7, XZ, SZ, BZ⟩
            case round =>
              clear XZ SZ BZ H7
              obtain ⟨j, lc, hj, rfl, HLC, HC7, XZ, SZ, BZ⟩ := hrel
              by_cases hjl : j < xs.length
              · obtain ⟨x, hx⟩ : ∃ x, lc[j]? = some x := ⟨_, List.getElem?_eq_getElem (by rw [HLC.out]; exact hjl)⟩
                have hcell := HC7.out.cellAt j (by omega)
                rw [us, List.getElem?_map, hx] at hcell
                simp only [Option.map_some] at hcell
                have hfz := HC7.out.frozenAt j
                clear hx
                go_wp2_with fail
                obtain ⟨hs1, hs2⟩ := HC7.out.stored j (.int .u8 (bits .xor .u8 x 1))
                have ho : Only (fun k => some k = some g7) _ _ := ⟨hs2.os, hs2.tape, hs2.output, hs2.size, fun k hk hn => hs2.block k hk hn⟩
                have hgw := hg7
                exact ⟨⟨j + 1, lc.set j (bits .xor .u8 x 1), by omega, by go_num, Lib.hid (by rw [List.length_set]; exact HLC.out), Lib.hid (by rw [us, List.map_set]; exact hs1), Lib.hid (XZ.out.kept ho (by intro e; cases e; have := HXL.out; omega) (fun q hq e => by cases e; have := HXO.out g7 hq; omega)), Lib.hid (SZ.out.kept ho (by intro e; cases e; have := HSL.out; omega) (fun q hq e => by cases e; have := HSO.out g7 hq; omega)), Lib.hid (BZ.out.setCell (show w.heap.size ≤ g7 from by have := HXL.out; omega) _)⟩, by simp [intOf]; omega⟩
              · have hjx : xs.length ≤ j := by omega
                clear hjl
                have hcu5 := conv_any (SeenR.own SZ.out.drew.2.2)
                have cs5 := SZ.out.cell
                go_wp2_with fail
                go_region_with ((go_at_call 14; refine (wbytes_any _ _ _ _ w.heap.size (by omega) XZ.out.drew).mono ?_; rintro e w8 ⟨v8, rfl, h8, bl8⟩; have hcv8 := conv_any (SeenR.own h8); have SZ8 := SZ.out.drew.kb bl8; have hcu8 := conv_any (SeenR.own SZ8.2.2); have cs8 := SZ8.cell; have BZ8 := Lib.hid (BZ.out.drew.trans (bl8.mono BZ.out.size)); clear h8 bl8 SZ8))
                all_goals
                  go_wp2
                  go_ret
                  exact ⟨rfl, BZ8.out⟩
end Go.Proofs.Ytbadkgmlefmmbaa
