/- RootCodes returns true and makes new memory alone. Conditions: errors.errorType holds what its text lays; the raw bytes are bytes, within what a slice may take up; so is what is laid over. -/
import Derived.Test.YtfneadlknieppaaDoorRootY
import Derived.Test.YtfneadlknieppaaDoorRootK
import Derived.Test.YtfneadlknieppaaDoorGenFew
import Derived.Deep.RegionHeld3
import Derived.Deep.CutRange
namespace Go.Proofs.YtfneadlknieppaaDoor
open Go.RowKit
open Go.Maps

theorem okb_set8 {Z : List Int} (h : Okb Z) (k : Nat) (a b : Int) : ∃ y, bits .xor .u8 a b = y ∧ Okb (Z.set k y) := by
  refine ⟨_, rfl, fun z hz => ?_⟩
  rcases List.mem_or_eq_of_mem_set hz with h1 | rfl
  · exact h z h1
  · have h1 : (BitVec.ofInt 8 a ^^^ BitVec.ofInt 8 b).toNat < 256 := (BitVec.ofInt 8 a ^^^ BitVec.ofInt 8 b).isLt
    have e : bits .xor .u8 a b = ((BitVec.ofInt 8 a ^^^ BitVec.ofInt 8 b).toNat : Int) := by
      show IntKind.u8.wrap ((BitVec.ofInt 8 a ^^^ BitVec.ofInt 8 b).toNat : Int) = _
      exact IntWalk.u8_in _ (by omega)
    rw [e]
    omega
theorem own_set8 {w : World} {B g n cap k : Nat} {xs : List Int} {x : Int} (h : BOwn w B (.slice (some ⟨g, 0, none⟩) n cap) xs) : BOwn (w.setCell ⟨g, k, none⟩ (.int .u8 x)) B (.slice (some ⟨g, 0, none⟩) n cap) (xs.set k x) := by
  refine ⟨by simp, ?_⟩
  rcases h.2 with ⟨hs, _⟩ | ⟨g', cap', cur, hs, hbg, hg, r1, r2, r3, r4⟩
  · cases hs
  · simp at hs
    obtain ⟨rfl, h1, rfl⟩ := hs
    refine .inr ⟨g, cap, cur.setIfInBounds k (.int .u8 x), by rw [h1, List.length_set], hbg, Lib.heap_setCell_same (i := k) hg _, by rw [List.length_set]; exact r1, r2, by simpa using r3, ?_⟩
    rw [List.length_set, Array.toList_setIfInBounds, List.take_set, r4]
    simp [us]
theorem own_bt {w : World} {B g n cap : Nat} {xs : List Int} (h : BOwn w B (.slice (some ⟨g, 0, none⟩) n cap) xs) {k : Nat} {x : Int} (hx : xs[k]? = some x) : w.cell? ⟨g, k, none⟩ = some (.int .u8 x) ∧ w.frozen? ⟨g, k, none⟩ = false := by
  have h1 := h.cells (g := g) rfl k (.int .u8 x) (by simp [us, hx])
  rw [Addr.add_lit, Nat.zero_add] at h1
  rcases h.2 with ⟨hs, _⟩ | ⟨g', cap', cur, hs, _, hg, _⟩
  · cases hs
  · simp at hs
    obtain ⟨rfl, _⟩ := hs
    exact ⟨h1, by simp [World.frozen?, hg]⟩
/-- What is read of the bytes Z. -/
structure Zd (w wr : World) (g cap : Nat) (Z : List Int) : Prop where
  own : BOwn wr w.heap.size (.slice (some ⟨g, 0, none⟩) Z.length cap) Z
  ok : Okb Z
  small : Z.length ≤ 140737488351232
  bel : Below w.heap.size w wr
set_option maxRecDepth 20000 in
set_option maxHeartbeats 8000000 in
theorem rootCodes_walk (w : World) (hg : Glob w) (x : Rw) (xv vr_ va : Value) (raw ats : List Int) (how by_ : Int) (hx : ISeen w xv x.logs) (hr : Seen w vr_ raw) (okr : Okb raw) (hrl : raw.length ≤ 140737488351232) (ha : ISeen w va ats) (hby : 0 ≤ by_ ∧ by_ < 256) :
    Calls Tryd.prog 4 #[rwv x xv, vr_, .int .i64 how, va, .int .u8 by_] w fun e w' => e = .returned (.bool true) ∧ Below w.heap.size w w' := by
  have HG := Lib.hid hg
  obtain ⟨px, cx, rfl, _⟩ := hx.form
  obtain ⟨pr, cr, rfl⟩ := len_val hr
  obtain ⟨pa, ca, rfl, hca⟩ := ha.form
  obtain ⟨nx, hnx⟩ : ∃ z, z = x.logs.length := ⟨_, rfl⟩
  obtain ⟨nr, hnr⟩ : ∃ z, z = raw.length := ⟨_, rfl⟩
  obtain ⟨na, hna⟩ : ∃ z, z = ats.length := ⟨_, rfl⟩
  rw [← hnx] at hx ⊢
  rw [← hnr] at hr ⊢
  rw [← hna] at ha ⊢
  have HNR := Lib.hid hnr
  have HNA := Lib.hid hna
  have HRW := Lib.hid hr
  have HCA := Lib.hid hca
  have HOR := Lib.hid okr
  have HRL := Lib.hid hrl
  have HBY := Lib.hid hby
  have B1 : Hid (Below w.heap.size w (w.alloc (.cells #[.int .i64 x.gen, .int .i64 x.idx, .int .i64 x.how, .slice px nx cx] 40))) := Lib.hid ((Below.refl _ w).alloc (Nat.le_refl _) _)
  have HO := Lib.hid (one_to _ x _ (hx.kb B1.out))
  have HRN := Lib.hid (oneR_len x)
  obtain ⟨R, hR⟩ : ∃ z, z = oneR x := ⟨_, rfl⟩
  rw [← hR] at HO HRN
  clear hg hx hr okr hrl ha hby hca hnx hnr hna hR
  go_enter Tryd.func4, Tryd.ntmps4
  go_wp2_with fail
  refine HO.out.mono ?_
  rintro e w2 ⟨lv, rfl, ov, b2⟩
  obtain ⟨pl, cl, rfl⟩ := own_slice ov
  have B2 : Hid (Below w.heap.size w w2) := Lib.hid (B1.out.trans (b2.mono (by simp)))
  have OV2 := Lib.hid ov
  clear ov b2 HO B1
  go_wp2_with fail
  have b3 : Below w2.heap.size w2 (w2.alloc (.cells #[.int .i64 R.gen, .slice pl R.logs.length cl, .int .i64 R.idx] 24)) := (Below.refl _ w2).alloc (Nat.le_refl _) _
  have hq3 := heap_alloc_last w2 (.cells #[.int .i64 R.gen, .slice pl R.logs.length cl, .int .i64 R.idx] 24)
  have B3 : Hid (Below w.heap.size w (w2.alloc (.cells #[.int .i64 R.gen, .slice pl R.logs.length cl, .int .i64 R.idx] 24))) := Lib.hid (B2.out.trans (b3.mono B2.out.size))
  have S3 := Lib.hid (ISeen.own (own_kb OV2.out b3))
  have Q3 := Lib.hid hq3
  clear b3 hq3 B2 OV2
  generalize w2.alloc (.cells #[.int .i64 R.gen, .slice pl R.logs.length cl, .int .i64 R.idx] 24) = w3 at B3 S3 Q3 ⊢
  obtain ⟨q, hq⟩ : ∃ z, z = w2.heap.size := ⟨_, rfl⟩
  rw [← hq] at Q3 ⊢
  clear hq
  refine (rlay_to w3 R.gen R.idx _ R.logs S3.out).mono ?_
  rintro e w4 ⟨v4, rfl, o4, b4⟩
  rw [show (⟨R.gen, R.logs, R.idx⟩ : Rt) = R from rfl] at o4 ⊢
  obtain ⟨p4, c4, rfl⟩ := own_slice o4
  have O4 := Lib.hid o4
  have B4 : Hid (Below w.heap.size w w4) := Lib.hid (B3.out.trans (b4.mono B3.out.size))
  have S4 := Lib.hid (S3.out.kb b4)
  have Q4 := Lib.hid ((b4.block _ (lt_of_block Q3.out)).trans Q3.out)
  clear o4 b4 B3 S3 Q3
  obtain ⟨q0, q1, q2, _⟩ := three_cells Q4.out
  go_wp2_with fail
  clear q0 q1 q2
  refine (plain_to w4 R.gen R.idx pl R.logs.length cl).mono ?_
  rintro e w5 ⟨rfl, b5⟩
  have B5 : Hid (Below w.heap.size w w5) := Lib.hid (B4.out.trans (b5.mono B4.out.size))
  have S5 := Lib.hid (S4.out.kb b5)
  have O5 := Lib.hid (own_kb O4.out b5)
  clear b5 B4 S4 O4 Q4
  go_wp2_with fail
  refine (xlay_to w5 R.gen R.idx _ R.logs S5.out (Nat.le_trans HRN.out (by decide))).mono ?_
  rintro e w6 ⟨v6, rfl, o6, b6⟩
  rw [show (⟨R.gen, R.logs, R.idx⟩ : Rt) = R from rfl] at o6 ⊢
  obtain ⟨L, hL⟩ : ∃ z, z = layR R := ⟨_, rfl⟩
  have HL := Lib.hid hL
  have O5' : Hid (BOwn w5 w3.heap.size (.slice p4 L.2.length c4) L.2) := Lib.hid (by rw [hL]; exact O5.out)
  rw [← hL] at o6 ⊢
  clear hL O5 S5
  obtain ⟨p6, c6, rfl⟩ := own_slice o6
  have B6 : Hid (Below w.heap.size w w6) := Lib.hid (B5.out.trans (b6.mono B5.out.size))
  have O6 := Lib.hid o6
  have hcv1 := conv_any (SeenR.own (own_kb O5'.out b6))
  have hcv2 := conv_any (SeenR.own o6)
  clear o6 b6 B5 O5'
  go_wp2_with fail
  refine (khand_en w6 L.1 (HG.out.kb B6.out)).mono ?_
  rintro e w7 ⟨rfl, b7⟩
  have B7 : Hid (Below w.heap.size w w7) := Lib.hid (B6.out.trans (b7.mono B6.out.size))
  have O7 := Lib.hid (own_kb O6.out b7)
  clear b7 B6 O6 hcv1 hcv2
  have hLL : (L.1 != L.1) = false := by simp
  go_wp2_with fail
  refine (few_any w7 _ raw nr (by rw [HNR.out]) HRL.out (HRW.out.kb B7.out)).mono ?_
  rintro e w8 ⟨gz, cz, rfl, oz, b8⟩
  have ZD : Hid (Zd w w8 gz cz raw) := Lib.hid ⟨(show BOwn w8 w7.heap.size _ raw from oz).mono B7.out.size, HOR.out, HRL.out, B7.out.trans (b8.mono B7.out.size)⟩
  have O8 := Lib.hid (own_kb O7.out b8)
  clear oz b8 O7 hLL
  obtain ⟨ce, hce⟩ : ∃ z, z = L.1 := ⟨_, rfl⟩
  have HCE := Lib.hid hce
  rw [← hce]
  clear hce
  go_upto_region 7 with fail
  go_cut [56] from 50 to 56 (fun t wr => wr = w8 ∧ ∃ bb : Bool, t = .bool bb ∧ (bb = true → ce = 0))
  case first =>
    by_cases h0 : ce = 0
    · have h0' : (ce == 0) = true := by simpa using h0
      have H0 := Lib.hid h0
      clear h0
      by_cases h5 : how.tmod 5 > 0
      · go_wp2_with fail
        go_meet
        case rel => exact ⟨rfl, true, rfl, fun _ => H0.out⟩
      · go_wp2_with fail
        go_meet
        case rel => exact ⟨rfl, false, rfl, fun e => by cases e⟩
    · have h0' : (ce == 0) = false := by simpa using h0
      go_wp2_with fail
      go_meet
      case rel => exact ⟨rfl, false, rfl, fun e => by cases e⟩
  case rest =>
    obtain ⟨hw8, bb, rfl, hbb⟩ := hcut
    rw [hw8]
    have HBB := Lib.hid hbb
    clear hbb hw8
    go_upto_if 56 with fail
    go_cut [16] from 57 to 83 (fun z wr => ∃ (g cap : Nat) (Z : List Int), z = .slice (some ⟨g, 0, none⟩) Z.length cap ∧ Hid (Zd w wr g cap Z))
    case first =>
      cases bb with
      | false =>
        go_wp2_with fail
        go_meet
        case rel => exact ⟨gz, cz, raw, rfl, ZD⟩
      | true =>
        have HC0 : Hid (ce = 0) := Lib.hid (HBB.out rfl)
        have HOK : Hid (okR R = true ∧ L.2 = encR R) := Lib.hid (by
          have h1 : L.1 = 0 := by rw [← HCE.out]; exact HC0.out
          have h2 := HL.out
          by_cases hk : okR R = true
          · rw [h2, layR_yes hk]; exact ⟨hk, rfl⟩
          · rw [h2, layR_no hk] at h1; cases h1)
        have HLN : Hid (L.2.length ≤ 200 ∧ 9 ≤ L.2.length ∧ Okb L.2) := Lib.hid (by
          obtain ⟨h1, h2⟩ := HOK.out
          rw [h2]
          exact ⟨encR_len h1, by unfold encR; rw [frm_len]; omega, encR_ok R⟩)
        go_wp2_with fail
        refine (few_any w8 _ L.2 L.2.length rfl (Nat.le_trans HLN.out.1 (by decide)) (Seen.own O8.out)).mono ?_
        rintro e w9 ⟨g9, c9, rfl, o9, b9⟩
        have ZD9 : Hid (Zd w w9 g9 c9 L.2) := Lib.hid ⟨(show BOwn w9 w8.heap.size _ L.2 from o9).mono ZD.out.bel.size, HLN.out.2.2, Nat.le_trans HLN.out.1 (by decide), ZD.out.bel.trans (b9.mono ZD.out.bel.size)⟩
        obtain ⟨m, hm⟩ : ∃ z, z = L.2.length := ⟨_, rfl⟩
        have HM : Hid (0 < m ∧ m ≤ 200) := Lib.hid (by rw [hm]; have := HLN.out; omega)
        have ZM : Hid (L.2.length = m) := Lib.hid hm.symm
        have ZE : Hid (m = L.2.length) := Lib.hid hm
        rw [← hm]
        clear o9 b9 hm
        go_wp2_with fail
        go_loopw [17] (fun t wr => ∃ (k : Nat) (Z : List Int), t = .int .i64 k ∧ k ≤ 2 ∧ Hid (Z.length = m) ∧ Hid (Zd w wr g9 c9 Z)) (fun t _ => 2 - (intOf t).toNat)
        case atStart => exact ⟨0, L.2, rfl, by omega, ZM, ZD9⟩
        case round =>
          clear ZD9 ZM
          obtain ⟨k, Z, rfl, hk2, ZM, ZD9⟩ := hrel
          by_cases hlt : k < na
          case neg =>
            have hlt' : ¬ (k : Int) < na := by omega
            go_wp2_with fail
            have ze := ZE.out
            subst ze
            go_meet
            case rel => exact ⟨g9, c9, Z, by rw [ZM.out], ZD9⟩
          have hlt' : (k : Int) < na := by omega
          by_cases hk : k < 2
          case neg =>
            have hk' : ¬ (k : Int) < 2 := by omega
            go_wp2_with fail
            have ze := ZE.out
            subst ze
            go_meet
            case rel => exact ⟨g9, c9, Z, by rw [ZM.out], ZD9⟩
          case pos =>
            have hk' : (k : Int) < 2 := by omega
            obtain ⟨y, hy⟩ : ∃ y, ats[k]? = some y := ⟨ats[k]'(by rw [← HNA.out]; exact hlt), List.getElem?_eq_getElem _⟩
            obtain ⟨a, rfl, hca⟩ := HCA.out k y hy
            have hc : wr.cell? (a.add k) = some (.int .i64 y) := by
              rw [World.cell?_of_block (w := w) (ZD9.out.bel.block _ (World.block_lt_of_cell? w _ hca))]; exact hca
            obtain ⟨r, hr⟩ := Int.eq_ofNat_of_zero_le (Int.emod_nonneg y (show (m : Int) ≠ 0 from by have := HM.out; omega))
            have hrl : r < m := by
              have := Int.emod_lt_of_pos y (show 0 < (m : Int) from by have := HM.out; omega)
              omega
            have HP := Lib.hid (fun W => pick_to W y m r (by have := HM.out; omega) (by have := HM.out; omega) hr)
            obtain ⟨z, hz⟩ : ∃ z, Z[r]? = some z := ⟨Z[r]'(by rw [ZM.out]; exact hrl), List.getElem?_eq_getElem _⟩
            obtain ⟨hcz, hfz⟩ := own_bt ZD9.out.own hz
            obtain ⟨yy, hyy, hok⟩ := okb_set8 ZD9.out.ok r z by_
            have ZD2 : Hid (Zd w (wr.setCell ⟨g9, r, none⟩ (.int .u8 yy)) g9 c9 (Z.set r yy)) := Lib.hid (by
              have h1 := own_set8 (k := r) (x := yy) ZD9.out.own
              refine ⟨by rw [List.length_set]; exact h1, hok, by rw [List.length_set]; exact ZD9.out.small, ZD9.out.bel.setCell (by exact (ZD9.out.own.lt g9 rfl).1) _⟩)
            have ZM2 : Hid ((Z.set r yy).length = m) := Lib.hid (by rw [List.length_set]; exact ZM.out)
            have hrl' : (r : Int) < m := by omega
            clear hca hy hr hok hz
            go_wp2_with (go_at_call 17; refine (HP.out _).mono ?_; rintro e w' ⟨rfl, rfl⟩)
            exact ⟨⟨k + 1, Z.set r yy, by go_num, by omega, ZM2, ZD2⟩, by simp [intOf]; omega⟩
    case rest =>
      clear ZD
      obtain ⟨g, cap, Z, rfl, ZD⟩ := hcut
      obtain ⟨m, hm⟩ : ∃ z, z = Z.length := ⟨_, rfl⟩
      have HMZ := Lib.hid hm
      clear hm
      go_wp2_with fail
      refine (rread_root wc _ Z ZD.out.ok ZD.out.small (SeenR.own ZD.out.own)).mono ?_
      rintro e w9 ⟨ga, va, ia, ca9, la, rfl, oa, ra, ba⟩
      obtain ⟨pva, cva, rfl⟩ := own_slice oa
      have HRA := Lib.hid ra
      have OA9 := Lib.hid oa
      have B9 : Hid (Below w.heap.size w w9) := Lib.hid (ZD.out.bel.trans (ba.mono ZD.out.bel.size))
      have Z9 := Lib.hid (own_kb ZD.out.own ba)
      clear oa ra ba
      go_wp2_with fail
      have b10 : Below w9.heap.size w9 (w9.alloc (.cells #[.int .i64 ga, .slice pva la.length cva, .int .i64 ia] 24)) := (Below.refl _ w9).alloc (Nat.le_refl _) _
      have Q10 := Lib.hid (heap_alloc_last w9 (.cells #[.int .i64 ga, .slice pva la.length cva, .int .i64 ia] 24))
      have B10 : Hid (Below w.heap.size w (w9.alloc (.cells #[.int .i64 ga, .slice pva la.length cva, .int .i64 ia] 24))) := Lib.hid (B9.out.trans (b10.mono B9.out.size))
      have OA10 := Lib.hid (own_kb OA9.out b10)
      have Z10 := Lib.hid (own_kb Z9.out b10)
      clear b10 B9 OA9 Z9
      generalize w9.alloc (.cells #[.int .i64 ga, .slice pva la.length cva, .int .i64 ia] 24) = w10 at Q10 B10 OA10 Z10 ⊢
      obtain ⟨qa, hqa⟩ : ∃ z, z = w9.heap.size := ⟨_, rfl⟩
      rw [← hqa] at Q10 ⊢
      clear hqa
      refine (xread_root w10 _ Z ZD.out.ok ZD.out.small (SeenR.own Z10.out)).mono ?_
      rintro e w11 ⟨gb, vb, ib, cb, lb, rfl, ob, rb, bb'⟩
      obtain ⟨rfl, hab⟩ := HRA.out.unique rb
      simp only [Rt.mk.injEq] at hab
      obtain ⟨rfl, rfl, rfl⟩ := hab
      obtain ⟨pvb, cvb, rfl⟩ := own_slice ob
      have OB11 := Lib.hid ob
      have B11 : Hid (Below w.heap.size w w11) := Lib.hid (B10.out.trans (bb'.mono B10.out.size))
      have OA11 := Lib.hid (own_kb OA10.out bb')
      have Q11 := Lib.hid ((bb'.block _ (lt_of_block Q10.out)).trans Q10.out)
      clear ob rb bb' B10 OA10 Q10 Z10
      go_wp2_with fail
      have b12 : Below w11.heap.size w11 (w11.alloc (.cells #[.int .i64 ga, .slice pvb la.length cvb, .int .i64 ia] 44)) := (Below.refl _ w11).alloc (Nat.le_refl _) _
      have Q12 := Lib.hid (heap_alloc_last w11 (.cells #[.int .i64 ga, .slice pvb la.length cvb, .int .i64 ia] 44))
      have P12 := Lib.hid ((b12.block _ (lt_of_block Q11.out)).trans Q11.out)
      have B12 : Hid (Below w.heap.size w (w11.alloc (.cells #[.int .i64 ga, .slice pvb la.length cvb, .int .i64 ia] 44))) := Lib.hid (B11.out.trans (b12.mono B11.out.size))
      have OA12 := Lib.hid (own_kb OA11.out b12)
      have OB12 := Lib.hid (own_kb OB11.out b12)
      clear b12 B11 OA11 OB11 Q11
      generalize w11.alloc (.cells #[.int .i64 ga, .slice pvb la.length cvb, .int .i64 ia] 44) = w12 at Q12 P12 B12 OA12 OB12 ⊢
      obtain ⟨qb, hqb⟩ : ∃ z, z = w11.heap.size := ⟨_, rfl⟩
      rw [← hqb] at Q12 ⊢
      clear hqb
      have HLA : Hid (la.length ≤ 1000000) := Lib.hid (by
        have h := HRA.out
        unfold RdIs at h
        split at h
        · have := congrArg Rt.logs h.2
          simp only [Rt.zero] at this
          rw [this]; decide
        · rcases h with ⟨_, h1, _⟩ | ⟨_, h1, _⟩
          · have := (okR_iff.1 h1).2.2.1
            simp only at this
            omega
          · have := congrArg Rt.logs h1
            simp only [Rt.zero] at this
            rw [this]; decide)
      have HSS : Hid (∀ W, Below w12.heap.size w12 W → W.cell? ⟨qa, 0, none⟩ = some (.int .i64 ga) ∧ W.cell? ⟨qa, 1, none⟩ = some (.slice pva la.length cva) ∧ W.cell? ⟨qa, 2, none⟩ = some (.int .i64 ia) ∧ W.cell? ⟨qb, 0, none⟩ = some (.int .i64 ga) ∧ W.cell? ⟨qb, 1, none⟩ = some (.slice pvb la.length cvb) ∧ W.cell? ⟨qb, 2, none⟩ = some (.int .i64 ia)) := Lib.hid (fun W hb => by
        obtain ⟨a0, a1, a2, _⟩ := three_cells ((hb.block _ (lt_of_block P12.out)).trans P12.out)
        obtain ⟨b0, b1, b2, _⟩ := three_cells ((hb.block _ (lt_of_block Q12.out)).trans Q12.out)
        exact ⟨a0, a1, a2, b0, b1, b2⟩)
      obtain ⟨ln, hln⟩ : ∃ z, z = la.length := ⟨_, rfl⟩
      have HLN2 := Lib.hid hln
      rw [← hln] at HSS ⊢
      have s0 := HSS.out w12.drew (below_dw (Below.refl _ _))
      have hee : (ca9 == ca9) = true := by simp
      clear hln P12 Q12
      try simp only [List.append]
      refine wp_region_noPanic ?_
      refine wp_region_held_drew (S := (fun W => W.cell? ⟨qa, 0, none⟩ = some (.int .i64 ga) ∧ W.cell? ⟨qa, 1, none⟩ = some (.slice pva ln cva) ∧ W.cell? ⟨qa, 2, none⟩ = some (.int .i64 ia) ∧ W.cell? ⟨qb, 0, none⟩ = some (.int .i64 ga) ∧ W.cell? ⟨qb, 1, none⟩ = some (.slice pvb ln cvb) ∧ W.cell? ⟨qb, 2, none⟩ = some (.int .i64 ia))) (by kernel_rfl) s0 (fun hHeld => ?_)
      refine wpAnyH_ready (rs := [0]) (by kernel_rfl) (by simp) ?_
      refine AllReadyH.cons (by simp only [List.getElem?_toArray, List.getElem?_cons_zero]; rfl) (fun K hK => ?_) AllReadyH.nil
      go_simp
      refine (known8_to w12.drew (HG.out.kb (below_dw B12.out))).mono ?_
      rintro e w13 ⟨rfl, b13⟩
      have B13 : Hid (Below w12.heap.size w12 w13) := Lib.hid ⟨b13.os, b13.tape, b13.output, b13.size, b13.block⟩
      have s13 := HSS.out w13 B13.out
      clear b13
      go_wp2_with fail
      refine hK.out _ _ s13 (fun hHeld => ?_)
      clear hK K
      try simp only [Act.put, List.setIfInBounds_toArray, List.set_cons_zero, List.set_cons_succ]
      refine wpAnyH_take (i := 1) (v := ?_) (by simp only [List.getElem?_toArray, List.getElem?_cons_succ, List.getElem?_cons_zero]; rfl) (by kernel_rfl) (by kernel_rfl) (by kernel_rfl) (fun _ _ _ h => h) (Or.inl ⟨by rfl, ?_⟩) (by assumption) ?_
      rotate_left
      · intro w hSw
        try dsimp only at hSw
        go_simp
        try with_reducible rfl
      try simp only [Act.put, List.setIfInBounds_toArray, List.set_cons_zero, List.set_cons_succ]
      refine wpAnyH_take (i := 2) (v := ?_) (by simp only [List.getElem?_toArray, List.getElem?_cons_succ, List.getElem?_cons_zero]; rfl) (by kernel_rfl) (by kernel_rfl) (by kernel_rfl) (fun _ _ _ h => h) (Or.inl ⟨by rfl, ?_⟩) (by assumption) ?_
      rotate_left
      · intro w hSw
        try dsimp only at hSw
        go_simp
        try with_reducible rfl
      try simp only [Act.put, List.setIfInBounds_toArray, List.set_cons_zero, List.set_cons_succ]
      refine wpAnyH_take (i := 4) (v := ?_) (by simp only [List.getElem?_toArray, List.getElem?_cons_succ, List.getElem?_cons_zero]; rfl) (by kernel_rfl) (by kernel_rfl) (by kernel_rfl) (fun _ _ _ h => h) (Or.inl ⟨by rfl, ?_⟩) (by assumption) ?_
      rotate_left
      · intro w hSw
        try dsimp only at hSw
        go_simp
        try with_reducible rfl
      try simp only [Act.put, List.setIfInBounds_toArray, List.set_cons_zero, List.set_cons_succ]
      refine wpAnyH_ready (rs := [3]) (by kernel_rfl) (by simp) ?_
      refine AllReadyH.cons (by simp only [List.getElem?_toArray, List.getElem?_cons_succ, List.getElem?_cons_zero]; rfl) (fun K hK => ?_) AllReadyH.nil
      go_simp
      refine (khand_en w13 ca9 (HG.out.kb (B12.out.trans (B13.out.mono B12.out.size)))).mono ?_
      rintro e w14 ⟨rfl, b14⟩
      have B14 : Hid (Below w12.heap.size w12 w14) := Lib.hid (B13.out.trans (b14.mono B13.out.size))
      have s14 := HSS.out w14 B14.out
      clear b14
      go_wp2_with fail
      refine hK.out _ _ s14 (fun hHeld => ?_)
      clear hK K
      try simp only [Act.put, List.setIfInBounds_toArray, List.set_cons_zero, List.set_cons_succ]
      refine wpAnyH_take (i := 5) (v := (.bool true)) (by simp only [List.getElem?_toArray, List.getElem?_cons_succ, List.getElem?_cons_zero]; rfl) (by kernel_rfl) (by kernel_rfl) (by kernel_rfl) (fun _ _ _ h => h) (Or.inl ⟨by rfl, ?_⟩) (by assumption) ?_
      · intro w hSw
        try dsimp only at hSw
        go_simp
      try simp only [Act.put, List.setIfInBounds_toArray, List.set_cons_zero, List.set_cons_succ]
      refine wpAnyH_take (i := 6) (v := ?_) (by simp only [List.getElem?_toArray, List.getElem?_cons_succ, List.getElem?_cons_zero]; rfl) (by kernel_rfl) (by kernel_rfl) (by kernel_rfl) (fun _ _ _ h => h) (Or.inl ⟨by rfl, ?_⟩) (by assumption) ?_
      rotate_left
      · intro w hSw
        try dsimp only at hSw
        go_simp
        try with_reducible rfl
      try simp only [Act.put, List.setIfInBounds_toArray, List.set_cons_zero, List.set_cons_succ]
      refine wpAnyH_take (i := 7) (v := ?_) (by simp only [List.getElem?_toArray, List.getElem?_cons_succ, List.getElem?_cons_zero]; rfl) (by kernel_rfl) (by kernel_rfl) (by kernel_rfl) (fun _ _ _ h => h) (Or.inl ⟨by rfl, ?_⟩) (by assumption) ?_
      rotate_left
      · intro w hSw
        try dsimp only at hSw
        go_simp
        try with_reducible rfl
      try simp only [Act.put, List.setIfInBounds_toArray, List.set_cons_zero, List.set_cons_succ]
      refine wpAnyH_take (i := 8) (v := ?_) (by simp only [List.getElem?_toArray, List.getElem?_cons_succ, List.getElem?_cons_zero]; rfl) (by kernel_rfl) (by kernel_rfl) (by kernel_rfl) (fun _ _ _ h => h) (Or.inl ⟨by rfl, ?_⟩) (by assumption) ?_
      rotate_left
      · intro w hSw
        try dsimp only at hSw
        go_simp
        try with_reducible rfl
      try simp only [Act.put, List.setIfInBounds_toArray, List.set_cons_zero, List.set_cons_succ]
      refine wpAnyH_take (i := 10) (v := ?_) (by simp only [List.getElem?_toArray, List.getElem?_cons_succ, List.getElem?_cons_zero]; rfl) (by kernel_rfl) (by kernel_rfl) (by kernel_rfl) (fun _ _ _ h => h) (Or.inl ⟨by rfl, ?_⟩) (by assumption) ?_
      rotate_left
      · intro w hSw
        try dsimp only at hSw
        go_simp
        try with_reducible rfl
      try simp only [Act.put, List.setIfInBounds_toArray, List.set_cons_zero, List.set_cons_succ]
      refine wpAnyH_ready (rs := [9]) (by kernel_rfl) (by simp) ?_
      refine AllReadyH.cons (by simp only [List.getElem?_toArray, List.getElem?_cons_succ, List.getElem?_cons_zero]; rfl) (fun K hK => ?_) AllReadyH.nil
      go_simp
      refine (plain_to w14 ga ia pva ln cva).mono ?_
      rintro e w15 ⟨rfl, b15⟩
      have B15 : Hid (Below w12.heap.size w12 w15) := Lib.hid (B14.out.trans (b15.mono B14.out.size))
      have s15 := HSS.out w15 B15.out
      clear b15
      go_wp2_with fail
      refine hK.out _ _ s15 (fun hHeld => ?_)
      clear hK K
      try simp only [Act.put, List.setIfInBounds_toArray, List.set_cons_zero, List.set_cons_succ]
      refine wpAnyH_ready (rs := [11]) (by kernel_rfl) (by simp) ?_
      refine AllReadyH.cons (by simp only [List.getElem?_toArray, List.getElem?_cons_succ, List.getElem?_cons_zero]; rfl) (fun K hK => ?_) AllReadyH.nil
      go_simp
      refine (sameRoot_to w15 ga ia ga ia (.slice pva ln cva) (.slice pvb ln cvb) la la HLA.out (by rw [HLN2.out]; exact ISeen.own (own_kb OA12.out B15.out)) (by rw [HLN2.out]; exact ISeen.own (own_kb OB12.out B15.out))).mono ?_
      rintro e w16 ⟨rfl, b16⟩
      rw [sameR_self]
      have B16 : Hid (Below w12.heap.size w12 w16) := Lib.hid (B15.out.trans (b16.mono B15.out.size))
      have s16 := HSS.out w16 B16.out
      clear b16
      go_wp2_with fail
      refine hK.out _ _ s16 (fun hHeld => ?_)
      clear hK K
      try simp only [Act.put, List.setIfInBounds_toArray, List.set_cons_zero, List.set_cons_succ]
      refine wpAnyH_take (i := 12) (v := ?_) (by simp only [List.getElem?_toArray, List.getElem?_cons_succ, List.getElem?_cons_zero]; rfl) (by kernel_rfl) (by kernel_rfl) (by kernel_rfl) (fun _ _ _ h => h) (Or.inl ⟨by rfl, ?_⟩) (by assumption) ?_
      rotate_left
      · intro w hSw
        try dsimp only at hSw
        go_simp
        try with_reducible rfl
      try simp only [Act.put, List.setIfInBounds_toArray, List.set_cons_zero, List.set_cons_succ]
      refine wpAnyH_take (i := 13) (v := ?_) (by simp only [List.getElem?_toArray, List.getElem?_cons_succ, List.getElem?_cons_zero]; rfl) (by kernel_rfl) (by kernel_rfl) (by kernel_rfl) (fun _ _ _ h => h) (Or.inl ⟨by rfl, ?_⟩) (by assumption) ?_
      rotate_left
      · intro w hSw
        try dsimp only at hSw
        go_simp
        try with_reducible rfl
      try simp only [Act.put, List.setIfInBounds_toArray, List.set_cons_zero, List.set_cons_succ]
      refine wpAnyH_done (by kernel_rfl) ?_ _
      refine NoPanic.normal ?_
      go_wp2_with fail
      go_ret
      exact ⟨rfl, B12.out.trans (B16.out.mono B12.out.size)⟩
end Go.Proofs.YtfneadlknieppaaDoor
