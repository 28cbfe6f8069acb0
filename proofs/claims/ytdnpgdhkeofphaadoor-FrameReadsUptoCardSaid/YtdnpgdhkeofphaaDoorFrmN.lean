/- What Next of package frame does. The bytes are within what a slice may take up. -/
import Derived.Test.YtdnpgdhkeofphaaDoorFrmL
import Derived.Test.YtdnpgdhkeofphaaDoorOctF
namespace Go.Proofs.YtdnpgdhkeofphaaDoor
open Go.RowKit

/-- What Next answers: the four results by the arithmetic of a record. -/
def NextPost (w : World) (l : List Int) (e : Ending) (w' : World) : Prop :=
  ∃ u, e = .returned (.tuple #[.int .i64 (nxt l).1, u, .int .i64 (nxt l).2.2.1, errOf (nxt l).2.2.2]) ∧ SeenR w' u (nxt l).2.1 ∧ Below w.heap.size w w'

theorem nextPost {w w' : World} {l xs : List Int} {k n c : Int} {u : Value} (h : nxt l = (k, xs, n, c)) (hs : SeenR w' u xs) (hb : Below w.heap.size w w') :
    NextPost w l (.returned (.tuple #[.int .i64 k, u, .int .i64 n, errOf c])) w' := by
  unfold NextPost
  rw [h]
  exact ⟨u, rfl, hs, hb⟩
theorem nxt_short {l : List Int} (h : l.length < 9) : nxt l = (0, [], 0, 3) := if_pos h

theorem seen_len {w : World} {l : List Int} {g o cap : Nat} (h : SeenR w (.slice (some ⟨g, o, none⟩) l.length cap) l) (k c : Nat) (hk : k ≤ l.length) (hc : k ≤ c) : SeenR w (.slice (some ⟨g, o, none⟩) k c) (l.take k) := by
  rcases h with ⟨h, _⟩ | ⟨g', o', cap', h, h2, hu⟩
  · cases h
  · cases h
    have e : (l.take k).length = k := by rw [List.length_take]; omega
    refine .inr ⟨g, o, c, by rw [e], by rw [e]; exact hc, fun j u hj => hu j u ?_⟩
    have hj2 : j < k := by
      have := (List.getElem?_eq_some_iff.1 hj).1
      simp [us] at this; omega
    simpa [us, List.getElem?_take, hj2] using hj

theorem nxt_long {l : List Int} (h : ¬ l.length < 9) : nxt l = if bv (l.take 1) = 0 ∨ 1048576 < bv ((l.drop 1).take 4) then (0, [], 0, 2)
  else if (l.length : Int) < 9 + bv ((l.drop 1).take 4) then (0, [], 0, 3)
  else if (crc (l.take 5 ++ (l.drop 9).take (bv ((l.drop 1).take 4)).toNat) : Nat) = bv ((l.drop 5).take 4) then (bv (l.take 1), (l.drop 9).take (bv ((l.drop 1).take 4)).toNat, 9 + bv ((l.drop 1).take 4), 0)
  else (0, [], 0, 4) := if_neg h

theorem seen_mid {w : World} {l : List Int} {g o cap : Nat} (h : SeenR w (.slice (some ⟨g, o, none⟩) l.length cap) l) (m : Nat) (hm : 9 + m ≤ l.length) : SeenR w (.slice (some ⟨g, o + 9, none⟩) m (cap - 9)) ((l.drop 9).take m) := by
  rcases h with ⟨h, _⟩ | ⟨g', o', cap', h, h2, hu⟩
  · cases h
  · cases h
    have e : ((l.drop 9).take m).length = m := by rw [List.length_take, List.length_drop]; omega
    refine .inr ⟨g, o + 9, cap - 9, by rw [e], by rw [e]; omega, fun j u hj => ?_⟩
    have hj2 : j < m := by
      have := (List.getElem?_eq_some_iff.1 hj).1
      simp [us] at this; omega
    have := hu (9 + j) u (by simpa [us, List.getElem?_take, List.getElem?_drop, hj2] using hj)
    rwa [← Nat.add_assoc] at this

theorem fsum_to (w : World) (k : Int) (v : Value) (l : List Int) (C : Int) (ok : Okb l) (hl : l.length ≤ 2000000) (hC : ((crc (hdr k l ++ l) : Nat) : Int) = C) (hs : Seen w v l) :
    Calls Tryd.prog 49 #[.int .i64 k, v] w fun e w' => e = .returned (.int .i64 C) ∧ Below w.heap.size w w' := hC ▸ fsum_any w k v l ok hl hs
theorem SeenR.kb {w w' : World} {v : Value} {l : List Int} (h : SeenR w v l) (hb : Below w.heap.size w w') : SeenR w' v l := by
  rcases h with h | ⟨g, o, cap, rfl, hc, hu⟩
  · exact .inl h
  · refine .inr ⟨g, o, cap, rfl, hc, fun j u hj => ?_⟩
    have h1 := hu j u hj
    rw [World.cell?_of_block (w := w) (a := ⟨g, o + j, none⟩) (hb.block _ (World.block_lt_of_cell? w _ h1))]
    exact h1

theorem ru8_to (B : Nat) (w : World) (b : Nat) (v : Value) (l : List Int) (lk : Bool) (K : Int) (hkl : 1 ≤ l.length) (hK : bv (l.take 1) = K) (h0 : 0 ≤ K) (h1 : K < 256) (h : Rd 148 B w b v l lk) :
    Calls Tryd.prog 53 #[.pointer (some ⟨b, 0, none⟩)] w fun e w' => e = .returned (.int .i64 K) ∧ Rdd 148 B w b v (l.drop 1) lk w' := by
  have := ru8_yes B w b v l lk hkl h
  rwa [hK, IntWalk.i64_in K (by omega)] at this
theorem ru32_to (B : Nat) (w : World) (b : Nat) (v : Value) (l : List Int) (lk : Bool) (K : Int) (hkl : 4 ≤ l.length) (hK : bv (l.take 4) = K) (h0 : 0 ≤ K) (h1 : K < 4294967296) (h : Rd 148 B w b v l lk) :
    Calls Tryd.prog 54 #[.pointer (some ⟨b, 0, none⟩)] w fun e w' => e = .returned (.int .i64 K) ∧ Rdd 148 B w b v (l.drop 4) lk w' := by
  have := ru32_yes B w b v l lk hkl h
  rwa [hK, IntWalk.i64_in K (by omega)] at this

theorem take9_1 (l : List Int) : (l.take 9).take 1 = l.take 1 := by rw [List.take_take]; rfl
theorem take9_2 (l : List Int) : ((l.take 9).drop 1).take 4 = (l.drop 1).take 4 := by rw [List.drop_take, List.take_take]; rfl
theorem take9_3 (l : List Int) : (((l.take 9).drop 1).drop 4).take 4 = (l.drop 5).take 4 := by rw [List.drop_drop, List.drop_take, List.take_take]; rfl

set_option maxHeartbeats 1600000 in
theorem next_any (w : World) (v : Value) (l : List Int) (ok : Okb l) (hl : l.length ≤ 140737488351232) (hs : SeenR w v l) :
    Calls Tryd.prog 30 #[v] w (NextPost w l) := by
  by_cases h9 : l.length < 9
  · have hn := nxt_short h9
    unfold NextPost
    rw [hn]
    obtain ⟨a, cap, rfl⟩ := len_val hs.seen
    clear hs
    go_enter Tryd.func30, Tryd.ntmps30
    go_wp2
    (try simp only [Exit.inBlock, Exit.then]); refine bodyPost_ret (results_tmp4 rfl _ _ _) rfl ?_
    exact ⟨_, rfl, SeenR.nil _, Below.refl _ _⟩
  · rcases hs with ⟨rfl, rfl⟩ | ⟨g, o, cap, rfl, hc, hu⟩
    · exact absurd (by decide) h9
    · have HS := Lib.hid (show SeenR w (.slice (some ⟨g, o, none⟩) l.length cap) l from .inr ⟨g, o, cap, rfl, hc, hu⟩)
      have HR : Hid (SeenR w (.slice (some ⟨g, o, none⟩) 9 cap) (l.take 9)) := Lib.hid (seen_len HS.out 9 cap (by omega) (by omega))
      clear hu
      go_enter Tryd.func30, Tryd.ntmps30
      go_wp2_with fail
      refine (newreader_any _ w.heap.size (Nat.le_refl _) _ (l.take 9) (by rw [List.length_take]; omega) (ok.take 9) HR.out.seen).mono ?_
      rintro e w1 ⟨b, v1, rfl, R1, b1, _⟩
      have H1 := Lib.hid R1
      have B1 := Lib.hid b1
      clear R1 b1 HR
      have hk := kind_range ok (by omega)
      have hn := len_range ok (by omega)
      have hsu := sum_range ok (by omega)
      have HB := Lib.hid (hdr_read ok (by omega : 9 ≤ l.length))
      have HX := Lib.hid (nxt_long h9)
      obtain ⟨K, hK⟩ : ∃ K, bv (l.take 1) = K := ⟨_, rfl⟩
      obtain ⟨n, hN⟩ : ∃ n, bv ((l.drop 1).take 4) = n := ⟨_, rfl⟩
      obtain ⟨S, hS⟩ : ∃ S, bv ((l.drop 5).take 4) = S := ⟨_, rfl⟩
      rw [hK] at hk
      rw [hN] at hn
      rw [hS] at hsu
      rw [hK, hN] at HB
      rw [hK, hN, hS] at HX
      have HK := Lib.hid hK
      have HN := Lib.hid hN
      have HSU := Lib.hid hS
      clear hK hN hS
      go_wp2_with fail
      refine (ru8_to _ _ _ _ _ _ K (by rw [List.length_take]; omega) (by rw [take9_1]; exact HK.out) hk.1 hk.2 H1.out).mono ?_
      rintro e w2 ⟨rfl, v2, h2, o2, _⟩
      have H2 := Lib.hid h2
      have B2 := Lib.hid (B1.out.trans (H1.out.below o2))
      clear h2 o2 B1 H1 HK
      go_wp2_with fail
      refine (ru32_to _ _ _ _ _ _ n (by rw [List.length_drop, List.length_take]; omega) (by rw [take9_2]; exact HN.out) hn.1 hn.2 H2.out).mono ?_
      rintro e w3 ⟨rfl, v3, h3, o3, _⟩
      have H3 := Lib.hid h3
      have B3 := Lib.hid (B2.out.trans (H2.out.below o3))
      clear h3 o3 B2 H2 HN
      go_wp2_with fail
      refine (ru32_to _ _ _ _ _ _ S (by rw [List.length_drop, List.length_drop, List.length_take]; omega) (by rw [take9_3]; exact HSU.out) hsu.1 hsu.2 H3.out).mono ?_
      rintro e w4 ⟨rfl, v4, h4, o4, _⟩
      have B4 := Lib.hid (B3.out.trans (H3.out.below o4))
      clear h4 o4 B3 H3 HSU
      by_cases hr : K = 0 ∨ 1048576 < n
      · have E : nxt l = (0, [], 0, 2) := by rw [HX.out, if_pos hr]
        have E := Lib.hid E
        clear HX
        by_cases hk0 : K = 0
        · have hkb : (K == 0) = true := by simp [hk0]
          go_wp2_with fail
          (try simp only [Exit.inBlock, Exit.then]); refine bodyPost_ret (results_tmp4 rfl _ _ _) rfl ?_
          exact nextPost E.out (SeenR.nil _) B4.out
        · have hkb : (K == 0) = false := by simp [hk0]
          have hn2 : 1048576 < n := by omega
          clear hr
          go_wp2_with fail
          (try simp only [Exit.inBlock, Exit.then]); refine bodyPost_ret (results_tmp4 rfl _ _ _) rfl ?_
          exact nextPost E.out (SeenR.nil _) B4.out
      · have hk0 : ¬ K = 0 := fun h => hr (.inl h)
        have hn2 : n ≤ 1048576 := by omega
        have hkb : (K == 0) = false := by simp [hk0]
        rw [if_neg hr] at HX
        clear hr
        by_cases hlen : (l.length : Int) < 9 + n
        · have E : nxt l = (0, [], 0, 3) := by rw [HX.out, if_pos hlen]
          have E := Lib.hid E
          clear HX
          go_wp2_with fail
          (try simp only [Exit.inBlock, Exit.then]); refine bodyPost_ret (results_tmp4 rfl _ _ _) rfl ?_
          exact nextPost E.out (SeenR.nil _) B4.out
        · rw [if_neg hlen] at HX
          obtain ⟨m, rfl⟩ := Int.eq_ofNat_of_zero_le hn.1
          have hbl : ((l.drop 9).take m).length = m := by rw [List.length_take, List.length_drop]; omega
          have HBL := Lib.hid hbl
          have hbo : Okb ((l.drop 9).take m) := (ok.drop 9).take m
          have HBO := Lib.hid hbo
          rw [Int.toNat_natCast] at HX HB
          have HS4 := Lib.hid (HS.out.seen.kb B4.out)
          clear hbl hbo
          have hC : ∃ C, ((crc (l.take 5 ++ (l.drop 9).take m) : Nat) : Int) = C := ⟨_, rfl⟩
          obtain ⟨C, hC⟩ := hC
          rw [hC] at HX
          have HC : Hid (((crc (hdr K ((l.drop 9).take m) ++ (l.drop 9).take m) : Nat) : Int) = C) := Lib.hid (by rw [HB.out (by omega)]; exact hC)
          clear hC HB HS4
          by_cases hcap : cap = 9
          · have hm0 : m = 0 := by omega
            subst hcap
            subst hm0
            have HM : Hid (SeenR w (.slice (some ⟨g, o, none⟩) 0 0) ((l.drop 9).take 0)) := Lib.hid (.inr ⟨g, o, 0, rfl, Nat.le_refl _, fun j u hj => by simp at hj⟩)
            go_wp2_with fail
            refine (clone_any _ _ ((l.drop 9).take 0) (by have := HBL.out; omega) (HM.out.seen.kb B4.out)).mono ?_
            rintro e w5 ⟨u, rfl, h5, b5⟩
            have U5 := Lib.hid (SeenR.own h5)
            have B5 := Lib.hid (B4.out.trans (b5.mono B4.out.size))
            clear h5 b5 B4
            go_wp2_with fail
            refine (fsum_to _ _ _ _ C HBO.out (by have := HBL.out; omega) HC.out U5.out.seen).mono ?_
            rintro e w6 ⟨rfl, b6⟩
            have U6 := Lib.hid (U5.out.kb b6)
            have B6 := Lib.hid (B5.out.trans (b6.mono B5.out.size))
            clear b6 U5 B5
            by_cases hCS : C = S
            · have E := Lib.hid (show nxt l = _ by rw [HX.out, if_pos hCS])
              have hcs : (C != S) = false := by simp [hCS]
              clear HX hCS
              go_wp2_with fail
              (try simp only [Exit.inBlock, Exit.then]); refine bodyPost_ret (results_tmp4 rfl _ _ _) rfl ?_
              exact nextPost E.out U6.out B6.out
            · have E := Lib.hid (show nxt l = _ by rw [HX.out, if_neg hCS])
              have hcs : (C != S) = true := by simp [hCS]
              clear HX hCS
              go_wp2_with fail
              (try simp only [Exit.inBlock, Exit.then]); refine bodyPost_ret (results_tmp4 rfl _ _ _) rfl ?_
              exact nextPost E.out (SeenR.nil _) B6.out
          · have HM := Lib.hid (seen_mid HS.out m (by omega))
            go_wp2_with fail
            refine (clone_any _ _ ((l.drop 9).take m) (by have := HBL.out; omega) (HM.out.seen.kb B4.out)).mono ?_
            rintro e w5 ⟨u, rfl, h5, b5⟩
            have U5 := Lib.hid (SeenR.own h5)
            have B5 := Lib.hid (B4.out.trans (b5.mono B4.out.size))
            clear h5 b5 B4
            go_wp2_with fail
            refine (fsum_to _ _ _ _ C HBO.out (by have := HBL.out; omega) HC.out U5.out.seen).mono ?_
            rintro e w6 ⟨rfl, b6⟩
            have U6 := Lib.hid (U5.out.kb b6)
            have B6 := Lib.hid (B5.out.trans (b6.mono B5.out.size))
            clear b6 U5 B5
            by_cases hCS : C = S
            · have E := Lib.hid (show nxt l = _ by rw [HX.out, if_pos hCS])
              have hcs : (C != S) = false := by simp [hCS]
              clear HX hCS
              go_wp2_with fail
              (try simp only [Exit.inBlock, Exit.then]); refine bodyPost_ret (results_tmp4 rfl _ _ _) rfl ?_
              exact nextPost E.out U6.out B6.out
            · have E := Lib.hid (show nxt l = _ by rw [HX.out, if_neg hCS])
              have hcs : (C != S) = true := by simp [hCS]
              clear HX hCS
              go_wp2_with fail
              (try simp only [Exit.inBlock, Exit.then]); refine bodyPost_ret (results_tmp4 rfl _ _ _) rfl ?_
              exact nextPost E.out (SeenR.nil _) B6.out
end Go.Proofs.YtdnpgdhkeofphaaDoor
