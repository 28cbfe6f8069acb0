/- What Frame of the reference does. The body is within a thousand million bytes. · What Next of the reference does. The bytes are within what a slice may take up. -/
import Derived.Test.YtfneadlknieppaaGreatDoorFrmN
import Derived.Test.YtfneadlknieppaaGreatDoorOctX
import Derived.Test.YtfneadlknieppaaGreatDoorOctS
namespace Go.Proofs.YtfneadlknieppaaGreatDoor
open Go.RowKit
attribute [local go_sem ↓] Go.wp_at_zero Go.wp_at_succ

theorem xu8_to (w : World) (b : Nat) (v : Value) (xs : List Int) (n : Int) (B : Nat) (h0 : 0 ≤ n) (h1 : n < 4294967296) (hn : xs.length < 1000000000) (h : Wr 137 B w b v xs) :
    Calls Tryz.prog 100 #[.pointer (some ⟨b,0,none⟩), .int .i64 n] w fun e w' => e = .returned (.tuple #[]) ∧ Wrote 137 B w b v (xs ++ be n 1) w' := by
  have := xu8_any w b v xs n B hn h
  rwa [show IntKind.u64.wrap n = n from by rw [IntKind.wrap_u64]; omega] at this
theorem xu32_to (w : World) (b : Nat) (v : Value) (xs : List Int) (n : Int) (B : Nat) (h0 : 0 ≤ n) (h1 : n < 4294967296) (hn : xs.length < 1000000000) (h : Wr 137 B w b v xs) :
    Calls Tryz.prog 101 #[.pointer (some ⟨b,0,none⟩), .int .i64 n] w fun e w' => e = .returned (.tuple #[]) ∧ Wrote 137 B w b v (xs ++ be n 4) w' := by
  have := xu32_any w b v xs n B hn h
  rwa [show IntKind.u64.wrap n = n from by rw [IntKind.wrap_u64]; omega] at this
theorem refsum_to (w : World) (v : Value) (l : List Int) (C : Int) (ok : Okb l) (hl : l.length ≤ 140737488351232) (hC : ((crc l : Nat) : Int) = C) (hs : Seen w v l) : Calls Tryz.prog 102 #[v] w fun e w' => e = .returned (.int .u32 C) ∧ w = w' := hC ▸ refsum_any w v l ok hl hs

theorem below_row {B : Nat} {w w' : World} {row : Option Nat} (h : w.grownBy w' row) (hB : B ≤ w.heap.size) (hr : ∀ k, row = some k → B ≤ k) : Below B w w' :=
  (Below.refl B w).grown h hB hr
set_option maxRecDepth 10000 in
set_option maxHeartbeats 1600000 in
theorem xframe_any (w : World) (k : Int) (v : Value) (l : List Int) (h0 : 0 ≤ k) (h1 : k < 256) (ok : Okb l) (hl : l.length ≤ 2000000) (hs : Seen w v l) :
    Calls Tryz.prog 79 #[.int .i64 k, v] w fun e w' => ∃ u, e = .returned u ∧ w'.ownsRow w.heap.size 5 1 u (frm k l).length (us (frm k l)) ∧ Below w.heap.size w w' := by
  obtain ⟨a, cap, rfl⟩ := len_val hs
  have HS := Lib.hid hs
  have HO := Lib.hid ((hdr_ok k l).app ok)
  obtain ⟨C, hC⟩ : ∃ C, ((crc (hdr k l ++ l) : Nat) : Int) = C := ⟨_, rfl⟩
  have hC2 : 0 ≤ C ∧ C < 4294967296 := by have := crc_hdr k ok; omega
  have HC := Lib.hid hC
  clear hs hC
  have h1' : Wr 137 w.heap.size (w.alloc (.cells #[.slice none 0 0] 137)) w.heap.size (.slice none 0 0) [] := ⟨Nat.le_refl _, heap_alloc_new w _, World.ownsRow_nil _ _ _ _⟩
  have H1 := Lib.hid h1'
  have B1 := Lib.hid ((Below.refl w.heap.size w).alloc (Nat.le_refl _) (.cells #[.slice none 0 0] 137))
  clear h1'
  go_enter Tryz.func79, Tryz.ntmps79
  go_wp2_with fail
  refine (xu8_to _ _ _ _ _ w.heap.size h0 (by omega) (by decide) H1.out).mono ?_
  rintro e w2 ⟨rfl, v2, h2, o2, _⟩
  have H2 := Lib.hid h2
  have B2 := Lib.hid (B1.out.trans (H1.out.below o2))
  clear h2 o2 B1 H1
  go_wp2_with fail
  refine (xu32_to _ _ _ _ _ w.heap.size (by omega) (by omega) (by simp [be_length]) H2.out).mono ?_
  rintro e w3 ⟨rfl, v3, h3, o3, _⟩
  have e3 : ([] ++ be k 1 ++ be (l.length : Int) 4) = hdr k l := by simp [hdr]
  rw [e3] at h3
  have H3 := Lib.hid h3
  have B3 := Lib.hid (B2.out.trans (H2.out.below o3))
  clear h3 o3 B2 H2 e3
  have hown := World.ownsRow_made (base := w3.heap.size) (e := 5) (size := 1) w3 #[] 0 (Nat.le_refl _) (by decide) rfl
  have hA := (Below.refl w3.heap.size w3).alloc (Nat.le_refl _) (.cells #[] 5)
  have hcA := (H3.out.kb hA).cell
  have HA := Lib.hid hA
  clear hA
  go_wp2_with (at_builtin; first
    | (refine append_bytes (by rfl) (.tmp 21) (.tmp 22) (by rfl) w3.heap.size _ _ (by rfl) HF.out _ l (by rfl) ((HS.out.kb B3.out).kb HG.out) (by rw [List.nil_append, hdr_len]; omega) HG.out.size ?_; intro v'' w5 R1 R2 R3; have HG2 := Lib.hid (HG.out.trans (below_row R2 HG.out.size fun k hk => (HF.out.lt k hk).1)); have HF2 := Lib.hid (Seen.own R1); clear R1 R2 R3)
    | (refine append_bytes (by rfl) (.tmp 16) (.tmp 20) (by rfl) w3.heap.size _ [] (by rfl) hown v3 (hdr k l) (by rfl) ((Seen.own H3.out.2.2).kb HA.out) (by rw [hdr_len]; decide) HA.out.size ?_; intro v' w4 R1 R2 R3; have HG := Lib.hid (HA.out.trans (below_row R2 HA.out.size fun k hk => by cases hk; exact Nat.le_refl _)); have HF := Lib.hid R1; clear R1 R2 R3))
  refine (refsum_to _ _ (hdr k l ++ l) C HO.out (by rw [List.length_append, hdr_len]; omega) HC.out HF2.out).mono ?_
  rintro e _ ⟨rfl, rfl⟩
  have H5 := Lib.hid (H3.out.kb HG2.out)
  have B5 := Lib.hid (B3.out.trans (HG2.out.mono B3.out.size))
  clear HG HF HF2 HG2 HA H3 B3 hown hcA
  go_wp2_with fail
  refine (xu32_to _ _ _ _ _ w.heap.size hC2.1 hC2.2 (by rw [hdr_len]; decide) H5.out).mono ?_
  rintro e w6 ⟨rfl, v6, h6, o6, _⟩
  have H6 := Lib.hid h6
  have B6 := Lib.hid (B5.out.trans (H5.out.below o6))
  clear h6 o6 B5 H5
  go_wp2_with fail
  refine (xraw_any _ _ _ _ _ l w.heap.size (by rw [List.length_append, hdr_len, be_length]; decide) (by omega) H6.out (HS.out.kb B6.out)).mono ?_
  rintro e w7 ⟨rfl, v7, h7, o7, _⟩
  have e7 : (hdr k l ++ be C 4 ++ l) = frm k l := by unfold frm; rw [HC.out]
  rw [e7] at h7
  have hc7 := h7.cell
  have H7 := Lib.hid h7
  have B7 := Lib.hid (B6.out.trans (H6.out.below o7))
  clear h7 o7 B6 H6
  go_wp2_with fail
  go_ret
  exact ⟨v7, rfl, H7.out.2.2, B7.out⟩
end Go.Proofs.YtfneadlknieppaaGreatDoor
namespace Go.Proofs.YtfneadlknieppaaGreatDoor
open Go.RowKit

/-- What the reference's Next answers. -/
def XNextPost (w : World) (l : List Int) (e : Ending) (w' : World) : Prop :=
  ∃ u, e = .returned (.tuple #[.int .i64 (nxt l).1, u, .int .i64 (nxt l).2.2.1, .int .i64 (nxt l).2.2.2]) ∧ SeenR w' u (nxt l).2.1 ∧ (∀ j, u.ownBlock = some j → w.heap.size ≤ j ∧ j < w'.heap.size) ∧ Below w.heap.size w w'
theorem xnextPost {w w' : World} {l xs : List Int} {k n c : Int} {u : Value} (h : nxt l = (k, xs, n, c)) (hs : SeenR w' u xs) (hk : ∀ j, u.ownBlock = some j → w.heap.size ≤ j ∧ j < w'.heap.size) (hb : Below w.heap.size w w') :
    XNextPost w l (.returned (.tuple #[.int .i64 k, u, .int .i64 n, .int .i64 c])) w' := by
  unfold XNextPost
  rw [h]
  exact ⟨u, rfl, hs, hk, hb⟩
theorem su8_to (B : Nat) (w : World) (b : Nat) (v : Value) (l : List Int) (K : Int) (hkl : 1 ≤ l.length) (hK : bv (l.take 1) = K) (h0 : 0 ≤ K) (h1 : K < 256) (h : Rd 148 B w b v l false) :
    Calls Tryz.prog 108 #[.pointer (some ⟨b, 0, none⟩)] w fun e w' => e = .returned (.int .i64 K) ∧ Rdd 148 B w b v (l.drop 1) false w' := by
  have := su8_yes B w b v l hkl h
  rwa [hK, IntWalk.i64_in K (by omega)] at this
theorem su32_to (B : Nat) (w : World) (b : Nat) (v : Value) (l : List Int) (K : Int) (hkl : 4 ≤ l.length) (hK : bv (l.take 4) = K) (h0 : 0 ≤ K) (h1 : K < 4294967296) (h : Rd 148 B w b v l false) :
    Calls Tryz.prog 109 #[.pointer (some ⟨b, 0, none⟩)] w fun e w' => e = .returned (.int .i64 K) ∧ Rdd 148 B w b v (l.drop 4) false w' := by
  have := su32_yes B w b v l hkl h
  rwa [hK, IntWalk.i64_in K (by omega)] at this

set_option maxRecDepth 10000 in
set_option maxHeartbeats 1600000 in
theorem xnext_any (w : World) (v : Value) (l : List Int) (ok : Okb l) (hl : l.length ≤ 140737488351232) (hs : SeenR w v l) :
    Calls Tryz.prog 84 #[v] w (XNextPost w l) := by
  by_cases h9 : l.length < 9
  · have E := Lib.hid (nxt_short h9)
    obtain ⟨a, cap, rfl⟩ := len_val hs.seen
    clear hs
    go_enter Tryz.func84, Tryz.ntmps84
    go_wp2
    (try simp only [Exit.inBlock, Exit.then]); refine bodyPost_ret (results_tmp4 rfl _ _ _) rfl ?_
    exact xnextPost E.out (SeenR.nil _) (fun j hj => by simp [Value.ownBlock] at hj) (Below.refl _ _)
  · rcases hs with ⟨rfl, rfl⟩ | ⟨g, o, cap, rfl, hc, hu⟩
    · exact absurd (by decide) h9
    · have hgl : g < w.heap.size := by
        obtain ⟨x, hx⟩ : ∃ x, l[0]? = some x := ⟨_, List.getElem?_eq_getElem (by omega)⟩
        exact World.block_lt_of_cell? w _ (hu 0 (.int .u8 x) (by simp [us, hx]))
      have HS := Lib.hid (show SeenR w (.slice (some ⟨g, o, none⟩) l.length cap) l from .inr ⟨g, o, cap, rfl, hc, hu⟩)
      have H1 : Hid (Rd 148 0 (w.alloc (.cells #[.slice (some ⟨g, o, none⟩) l.length cap, .bool false] 148)) w.heap.size (.slice (some ⟨g, o, none⟩) l.length cap) l false) :=
        Lib.hid ⟨Nat.zero_le _, heap_alloc_new w _, HS.out.kb ((Below.refl _ _).alloc (Nat.le_refl _) _), fun k hk => by simp [Value.ownBlock] at hk; subst hk; exact ⟨Nat.zero_le _, Nat.ne_of_lt hgl, by simp; omega⟩, ok, hl, fun h => by cases h⟩
      have B1 := Lib.hid ((Below.refl w.heap.size w).alloc (Nat.le_refl _) (.cells #[.slice (some ⟨g, o, none⟩) l.length cap, .bool false] 148))
      have H5 : Hid (SeenR w (.slice (some ⟨g, o, none⟩) 5 cap) (l.take 5)) := Lib.hid (seen_len HS.out 5 cap (by omega) (by omega))
      clear hu
      have hk := kind_range ok (by omega)
      have hn := len_range ok (by omega)
      have hsu := sum_range ok (by omega)
      have HX := Lib.hid (nxt_long h9)
      obtain ⟨K, hK⟩ : ∃ K, bv (l.take 1) = K := ⟨_, rfl⟩
      obtain ⟨n, hN⟩ : ∃ n, bv ((l.drop 1).take 4) = n := ⟨_, rfl⟩
      obtain ⟨S, hS⟩ : ∃ S, bv ((l.drop 5).take 4) = S := ⟨_, rfl⟩
      rw [hK] at hk
      rw [hN] at hn
      rw [hS] at hsu
      rw [hK, hN, hS] at HX
      have HK := Lib.hid hK
      have HN := Lib.hid hN
      have HSU : Hid (bv (((l.drop 1).drop 4).take 4) = S) := Lib.hid (by rw [List.drop_drop]; exact hS)
      clear hK hN hS
      go_enter Tryz.func84, Tryz.ntmps84
      go_wp2_with fail
      refine (su8_to _ _ _ _ l K (by omega) HK.out hk.1 hk.2 H1.out).mono ?_
      rintro e w2 ⟨rfl, v2, h2, o2, _⟩
      have H2 := Lib.hid h2
      have B2 := Lib.hid (B1.out.trans (o2.below B1.out.size fun k hk => hk ▸ Nat.le_refl _))
      clear h2 o2 B1 H1 HK
      go_wp2_with fail
      refine (su32_to _ _ _ _ (l.drop 1) n (by rw [List.length_drop]; omega) HN.out hn.1 hn.2 H2.out).mono ?_
      rintro e w3 ⟨rfl, v3, h3, o3, _⟩
      have H3 := Lib.hid h3
      have B3 := Lib.hid (B2.out.trans (o3.below B2.out.size fun k hk => hk ▸ Nat.le_refl _))
      clear h3 o3 B2 H2 HN
      go_wp2_with fail
      refine (su32_to _ _ _ _ ((l.drop 1).drop 4) S (by rw [List.length_drop, List.length_drop]; omega) HSU.out hsu.1 hsu.2 H3.out).mono ?_
      rintro e w4 ⟨rfl, v4, h4, o4, _⟩
      have B4 := Lib.hid (B3.out.trans (o4.below B3.out.size fun k hk => hk ▸ Nat.le_refl _))
      clear h4 o4 B3 H3 HSU
      by_cases hr : K = 0 ∨ 1048576 < n
      · have E := Lib.hid (show nxt l = _ by rw [HX.out, if_pos hr])
        clear HX
        by_cases hk0 : K = 0
        · have hkb : (K == 0) = true := by simp [hk0]
          go_wp2_with fail
          (try simp only [Exit.inBlock, Exit.then]); refine bodyPost_ret (results_tmp4 rfl _ _ _) rfl ?_
          exact xnextPost E.out (SeenR.nil _) (fun j hj => by simp [Value.ownBlock] at hj) B4.out
        · have hkb : (K == 0) = false := by simp [hk0]
          have hn2 : 1048576 < n := by omega
          clear hr
          go_wp2_with fail
          (try simp only [Exit.inBlock, Exit.then]); refine bodyPost_ret (results_tmp4 rfl _ _ _) rfl ?_
          exact xnextPost E.out (SeenR.nil _) (fun j hj => by simp [Value.ownBlock] at hj) B4.out
      · have hk0 : ¬ K = 0 := fun h => hr (.inl h)
        have hn2 : n ≤ 1048576 := by omega
        have hkb : (K == 0) = false := by simp [hk0]
        rw [if_neg hr] at HX
        clear hr
        by_cases hlen : (l.length : Int) < 9 + n
        · have E := Lib.hid (show nxt l = _ by rw [HX.out, if_pos hlen])
          clear HX
          have hlen2 : (l.length : Int) - 9 < n := by omega
          go_wp2_with fail
          (try simp only [Exit.inBlock, Exit.then]); refine bodyPost_ret (results_tmp4 rfl _ _ _) rfl ?_
          exact xnextPost E.out (SeenR.nil _) (fun j hj => by simp [Value.ownBlock] at hj) B4.out
        · rw [if_neg hlen] at HX
          have hlen2 : n ≤ (l.length : Int) - 9 := by omega
          obtain ⟨m, rfl⟩ := Int.eq_ofNat_of_zero_le hn.1
          have hbl : ((l.drop 9).take m).length = m := by rw [List.length_take, List.length_drop]; omega
          have HBL := Lib.hid hbl
          have h5l : (l.take 5).length = 5 := by rw [List.length_take]; omega
          have H5L := Lib.hid h5l
          have HBO : Hid (Okb (l.take 5 ++ (l.drop 9).take m)) := Lib.hid ((ok.take 5).app ((ok.drop 9).take m))
          rw [Int.toNat_natCast] at HX
          have hC : ∃ C, ((crc (l.take 5 ++ (l.drop 9).take m) : Nat) : Int) = C := ⟨_, rfl⟩
          obtain ⟨C, hC⟩ := hC
          rw [hC] at HX
          have HC := Lib.hid hC
          have hC2 : 0 ≤ C ∧ C < 4294967296 := by
            have := crc_lt fun x hx => (HBO.out x hx).2
            omega
          clear hbl h5l hC
          have hown1 := World.ownsRow_made (base := w4.heap.size) (e := 5) (size := 1) w4 #[] 0 (Nat.le_refl _) (by decide) rfl
          have HA := Lib.hid ((Below.refl w4.heap.size w4).alloc (Nat.le_refl _) (.cells #[] 5))
          have HW := Lib.hid HS.out
          by_cases hcap : cap = 9
          · have hm0 : m = 0 := by omega
            subst hcap
            subst hm0
            have HM : Hid (SeenR w (.slice (some ⟨g, o, none⟩) 0 0) ((l.drop 9).take 0)) := Lib.hid (.inr ⟨g, o, 0, rfl, Nat.le_refl _, fun j u hj => by simp at hj⟩)
            go_wp2_with (at_builtin; first
              | (refine append_bytes (by rfl) (.tmp 44) (.tmp 45) (by rfl) w5.heap.size _ _ (by rfl) HF.out _ ((l.drop 9).take 0) (by rfl) ((Seen.own HU.out).kb HG6.out) (by rw [HBL.out, List.nil_append, H5L.out]; omega) HG6.out.size ?_; intro v7 w7 R1 R2 R3; have HG7 := Lib.hid (HG6.out.trans (below_row R2 HG6.out.size fun k hk => (HF.out.lt k hk).1)); have HF7 := Lib.hid (Seen.own R1); clear R1 R2 R3)
              | (refine append_bytes (by rfl) (.tmp 41) (.tmp 43) (by rfl) w5.heap.size _ [] (by rfl) hown2 _ (l.take 5) (by rfl) ((H5.out.seen.kb B5.out).kb HA5.out) (by rw [H5L.out]; decide) HA5.out.size ?_; intro v6 w6 R1 R2 R3; have HG6 := Lib.hid (HA5.out.trans (below_row R2 HA5.out.size fun k hk => by cases hk; exact Nat.le_refl _)); have HF := Lib.hid R1; clear R1 R2 R3)
              | (refine append_bytes (by rfl) (.tmp 35) (.tmp 39) (by rfl) w4.heap.size _ [] (by rfl) hown1 _ ((l.drop 9).take 0) (by rfl) ((HM.out.seen.kb B4.out).kb HA.out) (by rw [HBL.out, List.length_nil]; omega) HA.out.size ?_; intro u w5 R1 R2 R3; have B5 := Lib.hid (B4.out.trans ((HA.out.trans (below_row R2 HA.out.size fun k hk => by cases hk; exact Nat.le_refl _)).mono B4.out.size)); have HU := Lib.hid R1; have hown2 := World.ownsRow_made (base := w5.heap.size) (e := 5) (size := 1) w5 #[] 0 (Nat.le_refl _) (by decide) rfl; have HA5 := Lib.hid ((Below.refl w5.heap.size w5).alloc (Nat.le_refl _) (.cells #[] 5)); clear R1 R2 R3))
            refine (refsum_to _ _ (l.take 5 ++ (l.drop 9).take 0) C HBO.out (by rw [List.length_append, HBL.out, H5L.out]; omega) HC.out HF7.out).mono ?_
            rintro e _ ⟨rfl, rfl⟩
            have U7 := Lib.hid ((SeenR.own HU.out).kb HG7.out)
            have U8 := Lib.hid (fun j hj => (⟨Nat.le_trans B4.out.size (HU.out.lt j hj).1, Nat.lt_of_lt_of_le (HU.out.lt j hj).2 HG7.out.size⟩ : _ ∧ _))
            have B7 := Lib.hid (B5.out.trans (HG7.out.mono B5.out.size))
            clear HG6 HG7 HF HF7 HU hown2 HA5 B5 HA hown1 HM
            by_cases hCS : C = S
            · have E := Lib.hid (show nxt l = _ by rw [HX.out, if_pos hCS])
              have hcs : (C != S) = false := by simp [hCS]
              clear HX hCS
              go_wp2_with fail
              (try simp only [Exit.inBlock, Exit.then]); refine bodyPost_ret (results_tmp4 rfl _ _ _) rfl ?_
              exact xnextPost E.out U7.out U8.out B7.out
            · have E := Lib.hid (show nxt l = _ by rw [HX.out, if_neg hCS])
              have hcs : (C != S) = true := by simp [hCS]
              clear HX hCS
              go_wp2_with fail
              (try simp only [Exit.inBlock, Exit.then]); refine bodyPost_ret (results_tmp4 rfl _ _ _) rfl ?_
              exact xnextPost E.out (SeenR.nil _) (fun j hj => by simp [Value.ownBlock] at hj) B7.out
          · have HM : Hid (SeenR w (.slice (some ⟨g, o + 9, none⟩) (9 + m - 9) (cap - 9)) ((l.drop 9).take m)) := Lib.hid (by rw [Nat.add_sub_cancel_left]; exact seen_mid HS.out m (by omega))
            go_wp2_with (at_builtin; first
              | (refine append_bytes (by rfl) (.tmp 44) (.tmp 45) (by rfl) w5.heap.size _ _ (by rfl) HF.out _ ((l.drop 9).take m) (by rfl) ((Seen.own HU.out).kb HG6.out) (by rw [HBL.out, List.nil_append, H5L.out]; omega) HG6.out.size ?_; intro v7 w7 R1 R2 R3; have HG7 := Lib.hid (HG6.out.trans (below_row R2 HG6.out.size fun k hk => (HF.out.lt k hk).1)); have HF7 := Lib.hid (Seen.own R1); clear R1 R2 R3)
              | (refine append_bytes (by rfl) (.tmp 41) (.tmp 43) (by rfl) w5.heap.size _ [] (by rfl) hown2 _ (l.take 5) (by rfl) ((H5.out.seen.kb B5.out).kb HA5.out) (by rw [H5L.out]; decide) HA5.out.size ?_; intro v6 w6 R1 R2 R3; have HG6 := Lib.hid (HA5.out.trans (below_row R2 HA5.out.size fun k hk => by cases hk; exact Nat.le_refl _)); have HF := Lib.hid R1; clear R1 R2 R3)
              | (refine append_bytes (by rfl) (.tmp 35) (.tmp 39) (by rfl) w4.heap.size _ [] (by rfl) hown1 _ ((l.drop 9).take m) (by rfl) ((HM.out.seen.kb B4.out).kb HA.out) (by rw [HBL.out, List.length_nil]; omega) HA.out.size ?_; intro u w5 R1 R2 R3; have B5 := Lib.hid (B4.out.trans ((HA.out.trans (below_row R2 HA.out.size fun k hk => by cases hk; exact Nat.le_refl _)).mono B4.out.size)); have HU := Lib.hid R1; have hown2 := World.ownsRow_made (base := w5.heap.size) (e := 5) (size := 1) w5 #[] 0 (Nat.le_refl _) (by decide) rfl; have HA5 := Lib.hid ((Below.refl w5.heap.size w5).alloc (Nat.le_refl _) (.cells #[] 5)); clear R1 R2 R3))
            refine (refsum_to _ _ (l.take 5 ++ (l.drop 9).take m) C HBO.out (by rw [List.length_append, HBL.out, H5L.out]; omega) HC.out HF7.out).mono ?_
            rintro e _ ⟨rfl, rfl⟩
            have U7 := Lib.hid ((SeenR.own HU.out).kb HG7.out)
            have U8 := Lib.hid (fun j hj => (⟨Nat.le_trans B4.out.size (HU.out.lt j hj).1, Nat.lt_of_lt_of_le (HU.out.lt j hj).2 HG7.out.size⟩ : _ ∧ _))
            have B7 := Lib.hid (B5.out.trans (HG7.out.mono B5.out.size))
            clear HG6 HG7 HF HF7 HU hown2 HA5 B5 HA hown1 HM
            by_cases hCS : C = S
            · have E := Lib.hid (show nxt l = _ by rw [HX.out, if_pos hCS])
              have hcs : (C != S) = false := by simp [hCS]
              clear HX hCS
              go_wp2_with fail
              (try simp only [Exit.inBlock, Exit.then]); refine bodyPost_ret (results_tmp4 rfl _ _ _) rfl ?_
              exact xnextPost E.out U7.out U8.out B7.out
            · have E := Lib.hid (show nxt l = _ by rw [HX.out, if_neg hCS])
              have hcs : (C != S) = true := by simp [hCS]
              clear HX hCS
              go_wp2_with fail
              (try simp only [Exit.inBlock, Exit.then]); refine bodyPost_ret (results_tmp4 rfl _ _ _) rfl ?_
              exact xnextPost E.out (SeenR.nil _) (fun j hj => by simp [Value.ownBlock] at hj) B7.out
end Go.Proofs.YtfneadlknieppaaGreatDoor
