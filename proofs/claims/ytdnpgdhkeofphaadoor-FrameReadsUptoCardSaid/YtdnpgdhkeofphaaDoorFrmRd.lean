/- FrameReads returns true and makes new memory alone. Conditions: errors.errorType holds what its text lays; each slice that comes in has at most 1048576 bytes. -/
import Derived.Test.YtdnpgdhkeofphaaDoorFrmXN
import Derived.Test.YtdnpgdhkeofphaaDoorFrmKw
import Derived.Test.YtdnpgdhkeofphaaDoorGenFew
namespace Go.Proofs.YtdnpgdhkeofphaaDoor
open Go.RowKit

theorem xorb_u8 {a b : Int} (ha : 0 ≤ a ∧ a < 256) (hb : 0 ≤ b ∧ b < 256) : bits .xor .u8 a b = ((a.toNat ^^^ b.toNat : Nat) : Int) := by
  show IntKind.u8.wrap ((BitVec.ofInt 8 a ^^^ BitVec.ofInt 8 b).toNat : Int) = _
  have h1 : a.toNat ^^^ b.toNat < 256 := Nat.xor_lt_two_pow (n := 8) (by omega) (by omega)
  rw [BitVec.toNat_xor, BitVec.toNat_ofInt, BitVec.toNat_ofInt]
  have e1 : (a % ((2 ^ 8 : Nat) : Int)).toNat = a.toNat := by omega
  have e2 : (b % ((2 ^ 8 : Nat) : Int)).toNat = b.toNat := by omega
  rw [e1, e2]; exact IntWalk.u8_in _ (by omega)
theorem xnext_to (w : World) (v : Value) (l : List Int) {k n c : Int} {xs : List Int} (h : nxt l = (k, xs, n, c)) (ok : Okb l) (hl : l.length ≤ 140737488351232) (hs : SeenR w v l) :
    Calls Tryd.prog 33 #[v] w fun e w' => ∃ u, e = .returned (.tuple #[.int .i64 k, u, .int .i64 n, .int .i64 c]) ∧ SeenR w' u xs ∧ Below w.heap.size w w' := by
  refine (xnext_any w v l ok hl hs).mono fun e w' hp => ?_
  unfold XNextPost at hp
  rw [h] at hp
  exact hp

/-- The bytes L that are read lie at v. -/
structure Rdy (w W : World) (v : Value) (L : List Int) : Prop where
  bel : Below w.heap.size w W
  seen : SeenR W v L
  ok : Okb L
  small : L.length ≤ 140737488351232

set_option maxRecDepth 10000 in
set_option maxHeartbeats 4000000 in
theorem frameReads_walk (kn : Int) (vb vr vm : Value) (body raw more : List Int) (how at_ by_ : Int) (hb : body.length ≤ 1048576) (hr : raw.length ≤ 1048576) (hm : more.length ≤ 1048576)
    (okb : Okb body) (okr : Okb raw) (okm : Okb more) (hby : 0 ≤ by_ ∧ by_ < 256) (w : World) (hg : Glob w) (sb : Seen w vb body) (sr : Seen w vr raw) (sm : Seen w vm more) :
    Calls Tryd.prog 8 #[.int .i64 kn, vb, vr, vm, .int .i64 how, .int .i64 at_, .int .u8 by_] w fun e w' => e = .returned (.bool true) ∧ Below w.heap.size w w' := by
  have HG := Lib.hid hg
  have SB := Lib.hid sb
  have SM := Lib.hid sm
  obtain ⟨ar, cr, rfl⟩ := len_val sr
  have SR := Lib.hid sr
  clear hg sb sr sm
  go_enter Tryd.func8, Tryd.ntmps8
  go_wp2_with fail
  refine (few_any _ _ raw _ rfl (by omega) SR.out).mono ?_
  rintro e w1 ⟨g1, cap1, rfl, h1, b1⟩
  have R1 : Hid (Rdy w w1 (.slice (some ⟨g1, 0, none⟩) raw.length cap1) raw) := Lib.hid ⟨b1, SeenR.own h1, okr, by omega⟩
  clear h1 b1
  by_cases h5 : 0 < how.tmod 5
  · have hk0 := Int.emod_nonneg kn (show (255 : Int) ≠ 0 by decide)
    have hk1 := Int.emod_lt_of_pos kn (show (0 : Int) < 255 by decide)
    have B1 := Lib.hid R1.out.bel
    have SB1 := Lib.hid (SB.out.kb B1.out)
    clear R1
    have HP := Lib.hid (pick_any w1 kn 255 (by decide) (by decide))
    generalize kn % 255 = k at *
    go_wp2_with fail
    refine HP.out.mono ?_
    rintro e _ ⟨rfl, rfl⟩
    go_wp2_with fail
    refine (xframe_any _ (1 + k) vb body (by omega) (by omega) okb (by omega) SB1.out).mono ?_
    rintro e w2 ⟨u2, rfl, h2, b2⟩
    have hFl := frm_len (1 + k) body
    have okF := frm_ok (1 + k) okb
    generalize frm (1 + k) body = F at *
    obtain ⟨g, cap, rfl, hgc, hgB⟩ := own_lit h2 (by omega)
    have H2 := Lib.hid h2
    have HM2 := Lib.hid (h2.mono B1.out.size)
    have B2 := Lib.hid (B1.out.trans (b2.mono B1.out.size))
    have okF := Lib.hid okF
    have hgw : w.heap.size ≤ g := Nat.le_trans B1.out.size hgB
    clear h2 b2 HP SB1 B1
    have hF9 : 9 ≤ F.length := by omega
    have hFs : F.length ≤ 1048585 := by omega
    clear hFl
    have hq0 := Int.emod_nonneg how (show (4 : Int) ≠ 0 by decide)
    have hq1 := Int.emod_lt_of_pos how (show (0 : Int) < 4 by decide)
    have hq : how % 4 = 0 ∨ how % 4 = 1 ∨ how % 4 = 2 ∨ how % 4 = 3 := by omega
    rcases hq with hq | hq | hq | hq
    · have HQ := Lib.hid (pick_to w2 how 4 0 (by decide) (by decide) hq)
      clear hq hq0 hq1
      go_wp2_with fail
      refine HQ.out.mono ?_
      rintro e _ ⟨rfl, rfl⟩
      obtain ⟨r, hr⟩ := Int.eq_ofNat_of_zero_le (Int.emod_nonneg at_ (show (F.length : Int) ≠ 0 from by omega))
      have hrl : r < F.length := by
        have := Int.emod_lt_of_pos at_ (show 0 < (F.length : Int) from by omega)
        omega
      have HR := Lib.hid (pick_to w2 at_ F.length r (by omega) (by omega) hr)
      clear hr HQ
      obtain ⟨x, hx⟩ : ∃ x, F[r]? = some x := ⟨_, List.getElem?_eq_getElem hrl⟩
      have hx2 := okF.out x (List.mem_of_getElem? hx)
      have hcell : w2.cell? ⟨g, r, none⟩ = some (.int .u8 x) := by
        rw [H2.out.cellAt r (by omega)]; simp [us, hx]
      have hfz : w2.frozen? ⟨g, r, none⟩ = false := H2.out.frozenAt r
      obtain ⟨y, hy⟩ : ∃ y, y = bits .xor .u8 x by_ := ⟨_, rfl⟩
      have HY := Lib.hid hy
      clear hy hx
      go_wp2_with fail
      refine HR.out.mono ?_
      rintro e _ ⟨rfl, rfl⟩
      go_wp2_with fail
      rw [← HY.out]
      have H3 := H2.out.stored r (.int .u8 y)
      have hset : (us F).set r (.int .u8 y) = us (F.set r y) := by simp [us]
      have hy := HY.out
      rw [xorb_u8 hx2 hby] at hy
      have hy2 : 0 ≤ y ∧ y < 256 := by
        have := Nat.xor_lt_two_pow (n := 8) (show x.toNat < 2 ^ 8 by omega) (show by_.toNat < 2 ^ 8 by omega)
        omega
      rw [hset] at H3
      have ok3 : Okb (F.set r y) := by
        intro z hz
        rcases List.mem_or_eq_of_mem_set hz with h | rfl
        · exact okF.out z h
        · exact hy2
      have HRdy : Hid (Rdy w (w2.setCell ⟨g, r, none⟩ (.int .u8 y)) (.slice (some ⟨g, 0, none⟩) F.length cap) (F.set r y)) :=
        Lib.hid ⟨B2.out.setCell hgw _, by have h := H3.1; rw [show F.length = (F.set r y).length from List.length_set.symm] at h ⊢; exact SeenR.own h, ok3, by rw [List.length_set]; omega⟩
      clear H3 hset hy hy2 ok3 hcell hfz HY HR B2 H2
      obtain ⟨kk, xs, n, c, hnx⟩ : ∃ kk xs n c, nxt (F.set r y) = (kk, xs, n, c) := ⟨_, _, _, _, rfl⟩
      refine (next_to _ _ _ hnx HRdy.out.ok HRdy.out.small HRdy.out.seen).mono ?_
      rintro e x1 ⟨u1, rfl, s1, b1⟩
      have S1 := Lib.hid s1
      have C1 := Lib.hid b1
      clear s1 b1
      go_wp2_with fail
      refine (xnext_to _ _ _ hnx HRdy.out.ok HRdy.out.small (HRdy.out.seen.kb C1.out)).mono ?_
      rintro e x2 ⟨u2, rfl, s2, b2⟩
      have T2 := Lib.hid s2
      have S2 := Lib.hid (S1.out.kb b2)
      have D2 := Lib.hid (HRdy.out.bel.trans ((C1.out.trans (b2.mono C1.out.size)).mono HRdy.out.bel.size))
      clear s2 b2 C1 S1 HRdy
      go_wp2_with fail
      refine (known_any _ (HG.out.kb D2.out)).mono ?_
      rintro e x3 ⟨rfl, b3⟩
      have hc1 := conv_any (S2.out.kb b3)
      have hc2 := conv_any (T2.out.kb b3)
      have D3 := Lib.hid (D2.out.trans (b3.mono D2.out.size))
      clear b3 D2 S2 T2
      go_wp2_with fail
      refine (khand_any _ c (HG.out.kb D3.out)).mono ?_
      rintro e x4 ⟨rfl, b4⟩
      have D4 := Lib.hid (D3.out.trans (b4.mono D3.out.size))
      clear b4 D3
      go_wp2_with fail
      go_ret
      exact ⟨by simp, D4.out⟩
    · have HQ := Lib.hid (pick_to w2 how 4 1 (by decide) (by decide) hq)
      clear hq hq0 hq1
      obtain ⟨r, hr⟩ := Int.eq_ofNat_of_zero_le (Int.emod_nonneg at_ (show (F.length : Int) + 1 ≠ 0 from by omega))
      have hrl : r ≤ F.length := by
        have := Int.emod_lt_of_pos at_ (show 0 < (F.length : Int) + 1 from by omega)
        omega
      have HR := Lib.hid (pick_to w2 at_ (F.length + 1) r (by omega) (by omega) hr)
      clear hr
      have HRdy : Hid (Rdy w w2 (.slice (some ⟨g, 0, none⟩) r cap) (F.take r)) := Lib.hid ⟨B2.out, seen_len (SeenR.own H2.out) r cap hrl (by omega), okF.out.take r, by rw [List.length_take]; omega⟩
      go_wp2_with fail
      refine HQ.out.mono ?_
      rintro e _ ⟨rfl, rfl⟩
      go_wp2_with fail
      refine HR.out.mono ?_
      rintro e _ ⟨rfl, rfl⟩
      clear HQ HR B2 H2
      obtain ⟨kk, xs, n, c, hnx⟩ : ∃ kk xs n c, nxt (F.take r) = (kk, xs, n, c) := ⟨_, _, _, _, rfl⟩
      go_wp2_with fail
      refine (next_to _ _ _ hnx HRdy.out.ok HRdy.out.small HRdy.out.seen).mono ?_
      rintro e x1 ⟨u1, rfl, s1, b1⟩
      have S1 := Lib.hid s1
      have C1 := Lib.hid b1
      clear s1 b1
      go_wp2_with fail
      refine (xnext_to _ _ _ hnx HRdy.out.ok HRdy.out.small (HRdy.out.seen.kb C1.out)).mono ?_
      rintro e x2 ⟨u2, rfl, s2, b2⟩
      have T2 := Lib.hid s2
      have S2 := Lib.hid (S1.out.kb b2)
      have D2 := Lib.hid (HRdy.out.bel.trans ((C1.out.trans (b2.mono C1.out.size)).mono HRdy.out.bel.size))
      clear s2 b2 C1 S1 HRdy
      go_wp2_with fail
      refine (known_any _ (HG.out.kb D2.out)).mono ?_
      rintro e x3 ⟨rfl, b3⟩
      have hc1 := conv_any (S2.out.kb b3)
      have hc2 := conv_any (T2.out.kb b3)
      have D3 := Lib.hid (D2.out.trans (b3.mono D2.out.size))
      clear b3 D2 S2 T2
      go_wp2_with fail
      refine (khand_any _ c (HG.out.kb D3.out)).mono ?_
      rintro e x4 ⟨rfl, b4⟩
      have D4 := Lib.hid (D3.out.trans (b4.mono D3.out.size))
      clear b4 D3
      go_wp2_with fail
      go_ret
      exact ⟨by simp, D4.out⟩
    · have HQ := Lib.hid (pick_to w2 how 4 2 (by decide) (by decide) hq)
      clear hq hq0 hq1
      go_wp2_with fail
      refine HQ.out.mono ?_
      rintro e _ ⟨rfl, rfl⟩
      have SM2 := Lib.hid (SM.out.kb B2.out)
      go_wp2_with (at_builtin; refine append_bytes (by rfl) (.tmp 61) (.tmp 62) (by rfl) w.heap.size _ F (by rfl) HM2.out vm more (by rfl) SM2.out (by omega) B2.out.size ?_; intro v3 w3 R1 R2 R3; have HRdy : Hid (Rdy w w3 v3 (F ++ more)) := Lib.hid ⟨B2.out.trans (below_row R2 B2.out.size fun k hk => by cases hk; exact hgw), SeenR.own R1, okF.out.app okm, by rw [List.length_append]; omega⟩; clear R1 R2 R3 SM2 B2 H2 HQ)
      obtain ⟨kk, xs, n, c, hnx⟩ : ∃ kk xs n c, nxt (F ++ more) = (kk, xs, n, c) := ⟨_, _, _, _, rfl⟩
      refine (next_to _ _ _ hnx HRdy.out.ok HRdy.out.small HRdy.out.seen).mono ?_
      rintro e x1 ⟨u1, rfl, s1, b1⟩
      have S1 := Lib.hid s1
      have C1 := Lib.hid b1
      clear s1 b1
      go_wp2_with fail
      refine (xnext_to _ _ _ hnx HRdy.out.ok HRdy.out.small (HRdy.out.seen.kb C1.out)).mono ?_
      rintro e x2 ⟨u2, rfl, s2, b2⟩
      have T2 := Lib.hid s2
      have S2 := Lib.hid (S1.out.kb b2)
      have D2 := Lib.hid (HRdy.out.bel.trans ((C1.out.trans (b2.mono C1.out.size)).mono HRdy.out.bel.size))
      clear s2 b2 C1 S1 HRdy
      go_wp2_with fail
      refine (known_any _ (HG.out.kb D2.out)).mono ?_
      rintro e x3 ⟨rfl, b3⟩
      have hc1 := conv_any (S2.out.kb b3)
      have hc2 := conv_any (T2.out.kb b3)
      have D3 := Lib.hid (D2.out.trans (b3.mono D2.out.size))
      clear b3 D2 S2 T2
      go_wp2_with fail
      refine (khand_any _ c (HG.out.kb D3.out)).mono ?_
      rintro e x4 ⟨rfl, b4⟩
      have D4 := Lib.hid (D3.out.trans (b4.mono D3.out.size))
      clear b4 D3
      go_wp2_with fail
      go_ret
      exact ⟨by simp, D4.out⟩
    · have HQ := Lib.hid (pick_to w2 how 4 3 (by decide) (by decide) hq)
      clear hq hq0 hq1
      have HRdy : Hid (Rdy w w2 (.slice (some ⟨g, 0, none⟩) F.length cap) F) := Lib.hid ⟨B2.out, SeenR.own H2.out, okF.out, by omega⟩
      go_wp2_with fail
      refine HQ.out.mono ?_
      rintro e _ ⟨rfl, rfl⟩
      clear HQ B2 H2
      obtain ⟨kk, xs, n, c, hnx⟩ : ∃ kk xs n c, nxt (F) = (kk, xs, n, c) := ⟨_, _, _, _, rfl⟩
      go_wp2_with fail
      refine (next_to _ _ _ hnx HRdy.out.ok HRdy.out.small HRdy.out.seen).mono ?_
      rintro e x1 ⟨u1, rfl, s1, b1⟩
      have S1 := Lib.hid s1
      have C1 := Lib.hid b1
      clear s1 b1
      go_wp2_with fail
      refine (xnext_to _ _ _ hnx HRdy.out.ok HRdy.out.small (HRdy.out.seen.kb C1.out)).mono ?_
      rintro e x2 ⟨u2, rfl, s2, b2⟩
      have T2 := Lib.hid s2
      have S2 := Lib.hid (S1.out.kb b2)
      have D2 := Lib.hid (HRdy.out.bel.trans ((C1.out.trans (b2.mono C1.out.size)).mono HRdy.out.bel.size))
      clear s2 b2 C1 S1 HRdy
      go_wp2_with fail
      refine (known_any _ (HG.out.kb D2.out)).mono ?_
      rintro e x3 ⟨rfl, b3⟩
      have hc1 := conv_any (S2.out.kb b3)
      have hc2 := conv_any (T2.out.kb b3)
      have D3 := Lib.hid (D2.out.trans (b3.mono D2.out.size))
      clear b3 D2 S2 T2
      go_wp2_with fail
      refine (khand_any _ c (HG.out.kb D3.out)).mono ?_
      rintro e x4 ⟨rfl, b4⟩
      have D4 := Lib.hid (D3.out.trans (b4.mono D3.out.size))
      clear b4 D3
      go_wp2_with fail
      go_ret
      exact ⟨by simp, D4.out⟩
  · have HRdy := R1
    clear R1
    obtain ⟨kk, xs, n, c, hnx⟩ : ∃ kk xs n c, nxt (raw) = (kk, xs, n, c) := ⟨_, _, _, _, rfl⟩
    go_wp2_with fail
    refine (next_to _ _ _ hnx HRdy.out.ok HRdy.out.small HRdy.out.seen).mono ?_
    rintro e x1 ⟨u1, rfl, s1, b1⟩
    have S1 := Lib.hid s1
    have C1 := Lib.hid b1
    clear s1 b1
    go_wp2_with fail
    refine (xnext_to _ _ _ hnx HRdy.out.ok HRdy.out.small (HRdy.out.seen.kb C1.out)).mono ?_
    rintro e x2 ⟨u2, rfl, s2, b2⟩
    have T2 := Lib.hid s2
    have S2 := Lib.hid (S1.out.kb b2)
    have D2 := Lib.hid (HRdy.out.bel.trans ((C1.out.trans (b2.mono C1.out.size)).mono HRdy.out.bel.size))
    clear s2 b2 C1 S1 HRdy
    go_wp2_with fail
    refine (known_any _ (HG.out.kb D2.out)).mono ?_
    rintro e x3 ⟨rfl, b3⟩
    have hc1 := conv_any (S2.out.kb b3)
    have hc2 := conv_any (T2.out.kb b3)
    have D3 := Lib.hid (D2.out.trans (b3.mono D2.out.size))
    clear b3 D2 S2 T2
    go_wp2_with fail
    refine (khand_any _ c (HG.out.kb D3.out)).mono ?_
    rintro e x4 ⟨rfl, b4⟩
    have D4 := Lib.hid (D3.out.trans (b4.mono D3.out.size))
    clear b4 D3
    go_wp2_with fail
    go_ret
    exact ⟨by simp, D4.out⟩
end Go.Proofs.YtdnpgdhkeofphaaDoor
