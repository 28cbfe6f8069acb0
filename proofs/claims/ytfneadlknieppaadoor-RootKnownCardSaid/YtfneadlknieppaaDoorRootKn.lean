/- RootKnown returns true and makes new memory alone. Condition: errors.errorType holds what its text lays. -/
import Derived.Test.YtfneadlknieppaaDoorRootK
namespace Go.Proofs.YtfneadlknieppaaDoor
open Go.RowKit
open Go.Maps

theorem kn_a : okR ⟨-1, [], 0⟩ = false ∧ okR ⟨0, [0, 0, 0, 0, 0, 0, 0, 0, 0], 0⟩ = false ∧ okR ⟨0, [], 1099511627777⟩ = false ∧ okR ⟨1, [], 0⟩ = true := by decide +kernel
theorem kn_b : (encR ⟨1, [], 0⟩).length = 12 := by decide +kernel
theorem kn_c : (svS (St.new 5) ⟨0, [], 0⟩).1 = 6 := by decide +kernel
theorem kn_d : (St.new 5).works ≤ 0 ∧ (St.new 5).fuse < 100 := by decide +kernel
theorem lay_bad {w : World} {r : Rt} {e : Ending} {w' : World} (h : LayPost w r e w') (hr : okR r = false) : ∃ p c, e = .returned (.tuple #[.slice p 0 c, eno 1]) ∧ Below w.heap.size w w' := by
  obtain ⟨v, rfl, ov, b⟩ := h
  rw [layR_no (by rw [hr]; decide)] at ov ⊢
  obtain ⟨p, c, rfl⟩ := own_slice ov
  exact ⟨p, c, rfl, b⟩
theorem lay_good {w : World} {r : Rt} {e : Ending} {w' : World} (h : LayPost w r e w') (hr : okR r = true) : ∃ v, e = .returned (.tuple #[v, .nilIface]) ∧ BOwn w' w.heap.size v (encR r) ∧ Below w.heap.size w w' := by
  obtain ⟨v, rfl, ov, b⟩ := h
  rw [layR_yes hr] at ov ⊢
  exact ⟨v, rfl, ov, b⟩
theorem rd_more {r : Rt} {x : Int} {c : Int} {r' : Rt} (h : okR r = true) (hr : RdIs (encR r ++ [x]) c r') : c = 2 := by
  have hn : nxt (encR r ++ [x]) = (1, bodyR r, 9 + ((bodyR r).length : Int), 0) := nxt_frm [x] (rok_body (okR_iff.1 h).2.2.1)
  unfold RdIs at hr
  rw [if_neg (by rw [hn]; simp)] at hr
  rcases hr with ⟨_, h2, h3⟩ | ⟨h1, _⟩
  · exfalso
    have h4 := nxt_enc (okR_iff.1 h2).2.2.1
    rw [← h3, hn] at h4
    simp only [Prod.mk.injEq] at h4
    have h5 := congrArg List.length h3
    unfold encR at h5
    rw [List.length_append, frm_len, frm_len, h4.2.1] at h5
    simp at h5
  · exact h1
theorem khand_nz (w : World) (k : Int) (h : k ≠ 0) (hg : Glob w) : Calls Tryd.prog 12 #[eno k] w fun e w' => e = .returned (.int .i64 k) ∧ Below w.heap.size w w' := by
  have := khand_any w k hg
  unfold errOf at this
  rw [if_neg h] at this
  exact this
theorem rd_none {c : Int} {r' : Rt} (hr : RdIs [] c r') : c = 3 := by
  unfold RdIs at hr
  rw [if_pos (by decide)] at hr
  exact hr.1
set_option maxRecDepth 20000 in
set_option maxHeartbeats 8000000 in
theorem rootKnown_walk (w : World) (hg : Glob w) : Calls Tryd.prog 3 #[] w fun e w' => e = .returned (.bool true) ∧ Below w.heap.size w w' := by
  have HG := Lib.hid hg
  obtain ⟨i0, hi0, hz0, hz1, hz2⟩ := info_parts iinfo
  obtain ⟨j0, hj0, hy0, hy1, hy2⟩ := info_parts u8info
  clear hg
  go_enter Tryd.func3, Tryd.ntmps3
  go_wp2_with fail
  refine (load_none w).mono ?_
  rintro e w1 ⟨rfl, b1⟩
  have B1 := Lib.hid b1
  clear b1
  go_wp2_with fail
  have b2 : Below w.heap.size w (w1.alloc (.cells #[.int .i64 0, .slice none 0 0, .int .i64 0] 24)) := B1.out.alloc B1.out.size _
  have B2 := Lib.hid b2
  clear b2 B1
  generalize w1.alloc (.cells #[.int .i64 0, .slice none 0 0, .int .i64 0] 24) = w2 at B2 ⊢
  refine (rlay_to w2 (-1) 0 _ [] (ISeen.nil w2)).mono ?_
  intro e w3 hp
  obtain ⟨p3, c3, rfl, b3⟩ := lay_bad hp kn_a.1
  have B3 := Lib.hid (B2.out.trans (b3.mono B2.out.size))
  clear hp b3 B2
  go_wp2_with (refine wpList_make_full _ (by rfl) (.const (.int .i64 9)) (.const (.int .i64 9)) 22 (by rfl) w3.heap.size 3 i0 _ 1 Tryd.underlying22 hi0 hz0 hz1 .i64 .i64 9 9 9 (by rfl) (by rfl) (by rfl) (by rfl) (by rw [hz2]; decide) (by simp [maxLen]) (Nat.le_refl _) ?_; intro wm hm1 hm2; have HM1 := Lib.hid hm1; have HM2 := Lib.hid hm2; clear hm1 hm2)
  have B4 : Hid (Below w.heap.size w wm) := Lib.hid (B3.out.trans (((Below.refl _ w3).grown HM2.out (Nat.le_refl _) (fun k hk => by cases hk)).mono B3.out.size))
  have S4 : Hid (ISeen wm (.slice (some ⟨w3.heap.size, 0, none⟩) 9 9) [0, 0, 0, 0, 0, 0, 0, 0, 0]) := Lib.hid (ISeen.own (B := w3.heap.size) (by have := HM1.out; rw [show (madeCells (Value.int .i64 0).cells (9 * 1)).toList = iv [0, 0, 0, 0, 0, 0, 0, 0, 0] by kernel_rfl] at this; exact this))
  clear HM1 HM2 B3
  refine (rlay_to wm 0 0 _ _ S4.out).mono ?_
  intro e w5 hp
  obtain ⟨p5, c5, rfl, b5⟩ := lay_bad hp kn_a.2.1
  have B5 := Lib.hid (B4.out.trans (b5.mono B4.out.size))
  clear hp b5 B4 S4
  go_wp2_with fail
  refine (rlay_to w5 0 1099511627777 _ [] (ISeen.nil w5)).mono ?_
  intro e w6 hp
  obtain ⟨p6, c6, rfl, b6⟩ := lay_bad hp kn_a.2.2.1
  have B6 := Lib.hid (B5.out.trans (b6.mono B5.out.size))
  clear hp b6 B5
  go_wp2_with fail
  refine (rlay_to w6 1 0 _ [] (ISeen.nil w6)).mono ?_
  intro e w7 hp
  obtain ⟨v7, rfl, o7, b7⟩ := lay_good hp kn_a.2.2.2
  unfold BOwn at o7
  rw [kn_b] at o7
  obtain ⟨p7, c7, rfl⟩ := own_slice o7
  have O7 := Lib.hid o7
  have B7 := Lib.hid (B6.out.trans (b7.mono B6.out.size))
  have HM6 : Hid (w.heap.size ≤ w6.heap.size) := Lib.hid B6.out.size
  have HM7 : Hid (w6.heap.size ≤ w7.heap.size) := Lib.hid b7.size
  obtain ⟨X, hX⟩ : ∃ z, z = encR ⟨1, [], 0⟩ := ⟨_, rfl⟩
  have HX := Lib.hid hX
  have HXL : Hid (X.length = 12) := Lib.hid (by rw [hX]; exact kn_b)
  rw [← hX] at O7
  clear hp b7 B6 o7 hX
  have HB8 : Hid (∀ j u, ([.int .u8 0] : List Value)[j]? = some u → (w7.alloc (.cells #[.int .u8 0] 5)).cell? ((⟨w7.heap.size, 0, none⟩ : Addr).add j) = some u) := Lib.hid (World.news_of_block (cs := #[.int .u8 0]) (t := 5) (fr := (0, 0)) (heap_alloc_new w7 _))
  go_wp2_with (at_builtin; refine wpList_append_lies _ (by rfl) _ _ _ (by rfl) w6.heap.size 5 j0 _ 1 1 Tryd.underlying29 hj0 hy0 hy1 hy2 rfl (by omega) (.slice p7 12 c7) 12 (us X) (by rfl) (O7.out.alloc _) ⟨w7.heap.size, 0, none⟩ 1 1 [Value.int .u8 0] (by rfl) (by rfl) HB8.out (by simp [Value.oneCell']) (by decide) (by unfold maxLen; decide) (by decide) (Nat.le_trans HM7.out (by simp)) (w7.heap.size + 1) (by simp) ?_; intro gg cap8 w8 own8 grow8 hat8 hlt8; have O8 := Lib.hid own8; have G8 : Hid (Only (fun k => (Value.slice p7 12 c7).ownBlock = some k) w7 w8) := Lib.hid (((Only.refl _ w7).alloc _).grown grow8 (fun k _ e => e)); clear own8 grow8 hat8 hlt8)
  have B8 : Hid (Below w.heap.size w w8) := Lib.hid (B7.out.trans (G8.out.below B7.out.size (fun k hk => Nat.le_trans HM6.out (O7.out.lt k hk).1)))
  have OX : Hid (BOwn w8 w6.heap.size (.slice (some ⟨gg, 0, none⟩) 13 cap8) (X ++ [0])) := Lib.hid (by
    have e1 : (X ++ [(0 : Int)]).length = 13 := by rw [List.length_append, HXL.out]; rfl
    unfold BOwn
    rw [e1, show us (X ++ [(0 : Int)]) = us X ++ [.int .u8 0] from by simp [us]]
    exact O8.out)
  clear O8 G8 HB8
  refine (rread_root w8 _ (X ++ [0]) (by rw [HX.out]; exact (encR_ok _).app (by unfold Okb; decide)) (by rw [List.length_append, HXL.out]; decide) (SeenR.own (by have := OX.out; unfold BOwn at this; exact this))).mono ?_
  rintro e w9 ⟨g, v, i, c, ls, rfl, ov, hr, b9⟩
  have hc : c = 2 := rd_more kn_a.2.2.2 (by rw [← HX.out]; exact hr)
  subst hc
  obtain ⟨pv, cv, rfl⟩ := own_slice ov
  have B9 : Hid (Below w.heap.size w w9) := Lib.hid (B8.out.trans (b9.mono B8.out.size))
  rw [show enoOf 2 = eno 2 from rfl]
  clear ov hr b9 B8 OX O7 HX HXL HM6 HM7
  go_wp2_with fail
  have b10 : Below w9.heap.size w9 (w9.alloc (.cells #[.int .i64 g, .slice pv ls.length cv, .int .i64 i] 24)) := (Below.refl _ w9).alloc (Nat.le_refl _) _
  have B10 : Hid (Below w.heap.size w (w9.alloc (.cells #[.int .i64 g, .slice pv ls.length cv, .int .i64 i] 24))) := Lib.hid (B9.out.trans (b10.mono B9.out.size))
  clear b10 B9
  generalize w9.alloc (.cells #[.int .i64 g, .slice pv ls.length cv, .int .i64 i] 24) = w10 at B10 ⊢
  refine (rread_root w10 _ [] Okb.nil (by decide) (SeenR.nil w10)).mono ?_
  rintro e w11 ⟨g2, v2, i2, c, ls2, rfl, ov, hr, b11⟩
  have hc : c = 3 := rd_none hr
  subst hc
  obtain ⟨pv2, cv2, rfl⟩ := own_slice ov
  have B11 : Hid (Below w.heap.size w w11) := Lib.hid (B10.out.trans (b11.mono B10.out.size))
  rw [show enoOf 3 = eno 3 from rfl]
  clear ov hr b11 B10
  go_wp2_with fail
  have b12 : Below w11.heap.size w11 (w11.alloc (.cells #[.int .i64 g2, .slice pv2 ls2.length cv2, .int .i64 i2] 24)) := (Below.refl _ w11).alloc (Nat.le_refl _) _
  have B12 : Hid (Below w.heap.size w (w11.alloc (.cells #[.int .i64 g2, .slice pv2 ls2.length cv2, .int .i64 i2] 24))) := Lib.hid (B11.out.trans (b12.mono B11.out.size))
  clear b12 B11
  generalize w11.alloc (.cells #[.int .i64 g2, .slice pv2 ls2.length cv2, .int .i64 i2] 24) = w12 at B12 ⊢
  refine (new_to w12 5).mono ?_
  rintro e w13 ⟨d, S1, rfl, h1, b1, g1⟩
  have C1 : Hid (Cl w12 w13 w12.heap.size d S1 (St.new 5)) := Lib.hid ⟨h1, b1, g1⟩
  clear h1 b1 g1
  go_wp2_with fail
  refine (rsave_to w13 _ d S1 (St.new 5) 0 0 _ [] C1.out.ds ⟨Nat.le_trans kn_d.1 (by decide), Int.lt_trans kn_d.2 (by decide)⟩ (ISeen.nil w13)).mono ?_
  rintro e w14 ⟨v6, rfl, he, S6, d6, o6, s6⟩
  have HE : Hid (SvErr w14 w13.heap.size 6 v6) := Lib.hid (by rw [← kn_c]; exact he)
  have hB14 : Below w.heap.size w w14 := B12.out.trans ((C1.out.step d6 o6 s6).bel.mono B12.out.size)
  have B14 := Lib.hid hB14
  clear he d6 o6 s6 C1 B12 hB14
  obtain ⟨tv, xv, rfl⟩ : ∃ t x, v6 = .iface t x := by
    rcases HE.out with ⟨h, _⟩ | ⟨_, h⟩ | ⟨_, g, h, _⟩
    · cases h
    · exact ⟨_, _, h⟩
    · exact ⟨_, _, h⟩
  go_wp2_with fail
  refine (known8_to w14 (HG.out.kb B14.out)).mono ?_
  rintro e w15 ⟨rfl, b15⟩
  have HE15 : Hid (SvErr w15 w13.heap.size 6 (.iface tv xv)) := Lib.hid (HE.out.kb b15)
  have B15 : Hid (Below w.heap.size w w15) := Lib.hid (B14.out.trans (b15.mono B14.out.size))
  clear b15 HE B14
  go_wp2_with fail
  refine (khand_nz w15 1 (by decide) (HG.out.kb B15.out)).mono ?_
  rintro e w16 ⟨rfl, bb⟩
  have HE16 : Hid (SvErr w16 w13.heap.size 6 (.iface tv xv)) := Lib.hid (HE15.out.kb bb)
  have B16 : Hid (Below w.heap.size w w16) := Lib.hid (B15.out.trans (bb.mono B15.out.size))
  clear bb HE15 B15
  go_wp2_with fail
  refine (khand_nz w16 1 (by decide) (HG.out.kb B16.out)).mono ?_
  rintro e w17 ⟨rfl, bb⟩
  have HE17 : Hid (SvErr w17 w13.heap.size 6 (.iface tv xv)) := Lib.hid (HE16.out.kb bb)
  have B17 : Hid (Below w.heap.size w w17) := Lib.hid (B16.out.trans (bb.mono B16.out.size))
  clear bb HE16 B16
  go_wp2_with fail
  refine (khand_nz w17 1 (by decide) (HG.out.kb B17.out)).mono ?_
  rintro e w18 ⟨rfl, bb⟩
  have HE18 : Hid (SvErr w18 w13.heap.size 6 (.iface tv xv)) := Lib.hid (HE17.out.kb bb)
  have B18 : Hid (Below w.heap.size w w18) := Lib.hid (B17.out.trans (bb.mono B17.out.size))
  clear bb HE17 B17
  go_wp2_with fail
  refine (khand_nz w18 1 (by decide) (HG.out.kb B18.out)).mono ?_
  rintro e w19 ⟨rfl, bb⟩
  have HE19 : Hid (SvErr w19 w13.heap.size 6 (.iface tv xv)) := Lib.hid (HE18.out.kb bb)
  have B19 : Hid (Below w.heap.size w w19) := Lib.hid (B18.out.trans (bb.mono B18.out.size))
  clear bb HE18 B18
  go_wp2_with fail
  refine (khand_nz w19 2 (by decide) (HG.out.kb B19.out)).mono ?_
  rintro e w20 ⟨rfl, bb⟩
  have HE20 : Hid (SvErr w20 w13.heap.size 6 (.iface tv xv)) := Lib.hid (HE19.out.kb bb)
  have B20 : Hid (Below w.heap.size w w20) := Lib.hid (B19.out.trans (bb.mono B19.out.size))
  clear bb HE19 B19
  go_wp2_with fail
  refine (khand_nz w20 3 (by decide) (HG.out.kb B20.out)).mono ?_
  rintro e w21 ⟨rfl, bb⟩
  have HE21 : Hid (SvErr w21 w13.heap.size 6 (.iface tv xv)) := Lib.hid (HE20.out.kb bb)
  have B21 : Hid (Below w.heap.size w w21) := Lib.hid (B20.out.trans (bb.mono B20.out.size))
  clear bb HE20 B20
  go_wp2_with fail
  refine (khand_sv w21 _ 6 _ HE21.out (HG.out.kb B21.out)).mono ?_
  rintro e w22 ⟨rfl, bb⟩
  have B22 : Hid (Below w.heap.size w w22) := Lib.hid (B21.out.trans (bb.mono B21.out.size))
  clear bb
  go_wp2_with fail
  go_ret
  exact ⟨rfl, B22.out⟩
end Go.Proofs.YtfneadlknieppaaDoor
