/- What a disk's past tells of it holds through each call of a saving; the reference's LoadRoot and SaveRoot. No condition beyond small numbers. -/
import Derived.Test.YtfneadlknieppaaGreatDoorRootY
import Derived.Test.YtfneadlknieppaaGreatDoorRootK
import Derived.Test.YtfneadlknieppaaGreatDoorRefN
namespace Go.Proofs.YtfneadlknieppaaGreatDoor
open Go.RowKit
open Go.Maps

theorem del_tot (F : Fil) (hF : AAsc F) (n : Key) : totF (adel n F) ≤ totF F := by
  have := asum_del List.length n hF
  unfold totF
  omega
theorem ch_ex {F : Fil} {k : Wk} (hF : AAsc F) (h : Fits F k) : ∃ g, Ch F k g := by
  refine ⟨⟨(k.kind : Int), k.name, k.to, (fbytes k.name F).length, if k.kind = 0 then (aget k.name F).isSome else (aget k.to (adel k.name F)).isSome, .slice none 0 0,
    if k.kind = 1 then (fbytes k.name F).drop k.n else if k.kind = 2 then fbytes k.to (adel k.name F) else if k.kind = 3 then fbytes k.name F else []⟩, ?_⟩
  have h1 := fbytes_le k.name F
  have h2 := fbytes_le k.to (adel k.name F)
  have h3 := del_tot F hF k.name
  refine ⟨rfl, rfl, h.n2, fun e => ⟨rfl, by simp [e]⟩, fun e => by simp [e], fun e => ⟨rfl, by simp [e], by simp [e]⟩, fun e => by simp [e], ?_⟩
  simp only
  split
  · rw [List.length_drop]; omega
  · split
    · omega
    · split
      · omega
      · simp
theorem some_of_not {b : Bool} (h : ¬ b = false) : b = true := by cases b <;> simp_all
section
variable {s : St}
theorem Good.work (h : Good s) {k : Wk} (hf : Fits s.files k) (ht : totF (turn s.files k) ≤ 16777216) (hm : (turn s.files k).length ≤ s.works + 1) : Good (s.work k).2 := by
  unfold St.work
  split
  · exact ⟨h.hist, h.pl, h.room0⟩
  · obtain ⟨P, hP⟩ := h.hist
    obtain ⟨g, hg⟩ := ch_ex hP.last.asc hf
    refine ⟨⟨P ++ [g], (hP.mono (Nat.le_succ _)).snoc hf hg ⟨turn_asc hP.last.asc k, ht, hm⟩⟩, ?_, h.room0⟩
    have := h.pl
    show (s.pend ++ [k]).length ≤ s.works + 1
    rw [List.length_append, List.length_singleton]
    omega
theorem Good.append (h : Good s) (n : Key) (l : List Int) : Good (s.append n l).2 := by
  unfold St.append
  split
  · exact h
  · rename_i hn
    split
    · exact h
    · split
      · exact h
      · rename_i hr
        have h1 : s.used = totF s.files := rfl
        have h2 := h.room0
        have hL := h.last
        refine h.work ⟨Nat.zero_le _, ok20 (by simpa using hn), by simp, fun e => absurd rfl e, fun e => by cases e⟩ ?_ ?_
        · rw [turn_app_tot _ hL.asc]; omega
        · have e : turn s.files ⟨0, n, [], l, 0⟩ = aput n (fbytes n s.files ++ l) s.files := rfl
          rw [e]
          exact Nat.le_trans (aput_length _ _ _) (Nat.succ_le_succ hL.many)
theorem Good.remove (h : Good s) (n : Key) : Good (s.remove n).2 := by
  unfold St.remove
  split
  · exact h
  · rename_i hn
    split
    · exact h
    · split
      · exact h
      · rename_i hx
        have hL := h.last
        have e : turn s.files ⟨3, n, [], [], 0⟩ = adel n s.files := rfl
        refine h.work ⟨Nat.le_refl _, ok20 (by simpa using hn), by simp, fun _ => some_of_not hx, fun e => by cases e⟩ ?_ ?_
        · rw [e]; exact Nat.le_trans (del_tot _ hL.asc n) hL.tot
        · rw [e]; exact Nat.le_trans (adel_length _ _) (Nat.le_succ_of_le hL.many)
theorem Good.rename (h : Good s) (n m : Key) : Good (s.rename n m).2 := by
  unfold St.rename
  split
  · exact h
  · rename_i hn
    split
    · exact h
    · split
      · exact h
      · rename_i hx
        have hn' := Classical.not_not.1 hn
        have hL := h.last
        have ht := turn_ren_tot s.files hL.asc n m
        exact h.work ⟨by show 2 ≤ 3; decide, ok20 hn'.1, ok20 hn'.2, fun _ => some_of_not hx, fun e => by cases e⟩ (Nat.le_trans ht.1 hL.tot) (Nat.le_trans ht.2 (Nat.succ_le_succ hL.many))
theorem Good.sync (h : Good s) : Good s.sync.2 := by
  unfold St.sync
  split
  · exact h
  · split
    · exact ⟨h.hist, h.pl, h.room0⟩
    · exact ⟨⟨[], h.last.asc, h.last.tot, Nat.le_succ_of_le h.last.many⟩, Nat.zero_le _, h.room0⟩
theorem Good.rlen (h : Good s) (n : Key) : (rdS s n).length ≤ 16777216 := by
  unfold rdS
  split
  · simp
  · exact Nat.le_trans (fbytes_le n s.files) h.last.tot
end
/-- The reference's disk behind some calls. -/
structure Kr (w W : World) (B r : Nat) (A A' : Nat → Prop) (s : St) : Prop where
  rs : RS W B r A' s
  only : Only (fun k => k = r) w W
  sub : ∀ k, A' k → A k ∨ w.heap.size ≤ k
section
variable {w W W' : World} {B r : Nat} {A A' : Nat → Prop} {s s' : St}
theorem Kr.refl (h : RS w B r A s) : Kr w w B r A A s := ⟨h, Only.refl _ _, fun _ h => .inl h⟩
theorem Kr.kb (h : Kr w W B r A A' s) (hb : Below W.heap.size W W') : Kr w W' B r A A' s := ⟨h.rs.kb hb, h.only.trans (S := fun k => k = r) (Only.of_below hb (S := fun _ => False)) (fun _ h => h) (fun _ _ h => h.elim), h.sub⟩
theorem Kr.step (h : Kr w W B r A A' s) (hp : RPost W B r A' s' W') : ∃ A'', Kr w W' B r A A'' s' ∧ Only (fun k => k = r) W W' := by
  obtain ⟨A'', h1, h2, h3⟩ := hp
  refine ⟨A'', ⟨h1, h.only.trans (S := fun k => k = r) h2 (fun _ h => h) (fun _ _ h => h), fun k hk => ?_⟩, h2⟩
  rcases h3 k hk with e | e
  · exact h.sub k e
  · exact .inr (Nat.le_trans h.only.size e)
/-- What the walk may go on with. -/
structure Rm (s : St) (k : Nat) : Prop where
  works : s.works ≤ 700000 + k
  fuse : s.fuse < 1000
  good : Good s
theorem Rm.wb {s t : St} {k : Nat} (h : Rm s k) (hb : Wb 1 s t) (hg : Good t) : Rm t (k + 1) := ⟨by have := h.works; have := hb.works; omega, by have := h.fuse; have := hb.fuse; omega, hg⟩
theorem Kr.post (h : Kr w W B r A A' s) : RPost w B r A s W := ⟨A', h.rs, h.only, h.sub⟩
end
/-- What the reference's LoadRoot answers. -/
def XLdPost (w : World) (s : St) (e : Ending) (w' : World) : Prop := ∃ g v i c ls, e = .returned (.tuple #[rtv g v i, .int .i64 c]) ∧ IOwn w' w.heap.size v ls ∧ LdIs s c ⟨g, ls, i⟩ ∧ Below w.heap.size w w'
set_option maxRecDepth 20000 in
set_option maxHeartbeats 4000000 in
theorem xload_to (w : World) (B b : Nat) (A : Nat → Prop) (s : St) (h : RS w B b A s) (hg : Good s) (hw : s.works ≤ 900000) (ok : Okb (rdS s rtN)) :
    Calls Tryz.prog 21 #[.pointer (some ⟨b, 0, none⟩)] w (XLdPost w s) := by
  unfold XLdPost
  have H1 : Hid ((w.alloc (.cells #[.int .i64 0, .slice none 0 0, .int .i64 0] 49)).heap[w.heap.size]? = some (.cells #[.int .i64 0, .slice none 0 0, .int .i64 0] 49 (0, 0))) := Lib.hid (heap_alloc_last w _)
  have B1 : Hid (Below w.heap.size w (w.alloc (.cells #[.int .i64 0, .slice none 0 0, .int .i64 0] 49))) := Lib.hid ((Below.refl _ w).alloc (Nat.le_refl _) _)
  have HR := Lib.hid (rread_to _ B b A s rtN (h.kb B1.out) hg hw)
  have HL := Lib.hid (hg.rlen rtN)
  have OK := Lib.hid ok
  unfold RRead at HR
  obtain ⟨q, hq⟩ : ∃ z, z = rdS s rtN := ⟨_, rfl⟩
  have HB := Lib.hid hq
  have hr1 : (if s.dead = true then [] else fbytes rtN s.files) = q := hq.symm
  have hr2 : (if s.dead = true then false else (aget rtN s.files).isSome) = ex s rtN := rfl
  rw [hr1, hr2] at HR
  rw [← hq] at HL OK
  clear h ok hq hr1 hr2 hg hw
  go_enter Tryz.func21, Tryz.ntmps21
  go_wp2_with fail
  refine HR.out.mono ?_
  rintro e w2 ⟨p2, c2, rfl, o2, b2⟩
  have B2 : Hid (Below w.heap.size w w2) := Lib.hid (B1.out.trans (b2.mono (by simp)))
  have H2 := Lib.hid ((b2.block _ (lt_of_block H1.out)).trans H1.out)
  have O2 := Lib.hid o2.seenr
  clear o2 b2 H1 B1 HR
  obtain ⟨r0, r1, r2, rf⟩ := three_cells H2.out
  by_cases hx : ex s rtN = true
  case neg =>
    have HF : Hid (LdIs s 11 Rt.zero) := Lib.hid (by unfold LdIs; rw [if_neg hx]; exact ⟨rfl, rfl⟩)
    have hx' : ex s rtN = false := by simpa using hx
    rw [hx']
    clear hx hx'
    go_wp2_with fail
    (try simp only [Exit.inBlock, Exit.then])
    refine bodyPost_ret (res_two rfl _ _ w.heap.size _ _ (0, 0) _ rfl (set3 H2.out) Tryz.underlying49 rfl (by kernel_rfl)) rfl ?_
    have o := only3 (Only.refl (fun k => k = w.heap.size) w2) rfl (.int .i64 0) (.slice none 0 0) (.int .i64 0)
    exact ⟨0, .slice none 0 0, 0, 11, [], rfl, World.ownsRow_nil _ _ _ _, HF.out, B2.out.trans (o.below B2.out.size (fun k hk => by omega))⟩
  case pos =>
    have HF : Hid (∀ c r, RdIs q c r → LdIs s c r) := Lib.hid (fun c r h => by unfold LdIs; rw [if_pos hx, ← HB.out]; exact h)
    rw [hx]
    clear hx r0 r1 r2 rf
    go_wp2_with fail
    refine (xread_root w2 _ q OK.out (Nat.le_trans HL.out (by decide)) O2.out).mono ?_
    rintro e w3 ⟨g, v, i, c, ls, rfl, ov, hr, b3⟩
    obtain ⟨pv, cv, rfl⟩ := own_slice ov
    have B3 : Hid (Below w.heap.size w w3) := Lib.hid (B2.out.trans (b3.mono B2.out.size))
    have H3 := Lib.hid ((b3.block _ (lt_of_block H2.out)).trans H2.out)
    have OV := Lib.hid ov
    have HRI := Lib.hid (HF.out _ _ hr)
    have HM : Hid (w.heap.size < w2.heap.size) := Lib.hid (lt_of_block H2.out)
    clear ov b3 hr B2 H2
    obtain ⟨r0, r1, r2, rf⟩ := three_cells H3.out
    go_wp2_with fail
    (try simp only [Exit.inBlock, Exit.then])
    refine bodyPost_ret (res_two rfl _ _ w.heap.size _ _ (0, 0) _ rfl (set3 H3.out) Tryz.underlying49 rfl (by kernel_rfl)) rfl ?_
    have o := only3 (Only.refl (fun k => k = w.heap.size) w3) rfl (.int .i64 g) (.slice pv ls.length cv) (.int .i64 i)
    exact ⟨g, _, i, c, ls, rfl, (own_kept OV.out o (fun k hk e => by have := (OV.out.lt k hk).1; have := HM.out; omega)).mono (Nat.le_of_lt HM.out), HRI.out, B3.out.trans (o.below B3.out.size (fun k hk => by omega))⟩
set_option maxRecDepth 20000 in
set_option maxHeartbeats 8000000 in
theorem xsave_to (w : World) (B r : Nat) (A : Nat → Prop) (s : St) (g i : Int) (v : Value) (ls : List Int) (h : RS w B r A s) (hg : Good s) (hw : s.works ≤ 700000) (hf : s.fuse < 1000) (hs : ISeen w v ls) (hl : ls.length ≤ 1000000) :
    Calls Tryz.prog 18 #[.pointer (some ⟨r, 0, none⟩), rtv g v i] w (RCall w B r A (svS s ⟨g, ls, i⟩)) := by
  unfold RCall
  obtain ⟨p, c, rfl, _⟩ := hs.form
  have B1 : Hid (Below w.heap.size w (w.alloc (.cells #[.int .i64 g, .slice p ls.length c, .int .i64 i] 49))) := Lib.hid ((Below.refl _ w).alloc (Nat.le_refl _) _)
  have HL := Lib.hid (xlay_to (w.alloc (.cells #[.int .i64 g, .slice p ls.length c, .int .i64 i] 49)) g i _ ls (hs.kb B1.out) hl)
  have K0 := Lib.hid (Kr.refl h)
  have HG := Lib.hid hg
  have HW := Lib.hid hw
  have HF := Lib.hid hf
  clear h hs hg hw hf hl
  go_enter Tryz.func18, Tryz.ntmps18
  go_wp2_with fail
  refine HL.out.mono ?_
  rintro e w1 ⟨u, rfl, ou, b1⟩
  have K1 := Lib.hid (K0.out.kb (B1.out.trans (b1.mono (by simp))))
  obtain ⟨pu, cu, rfl⟩ := own_slice ou
  have OU := Lib.hid ou
  have HUB : Hid (∀ k, (Value.slice pu (layR ⟨g, ls, i⟩).2.length cu).ownBlock = some k → k ≠ r) := Lib.hid (fun k hk e => by have h1 := (ou.lt k hk).1; have h2 := K0.out.rs.lts.2; simp at h1; omega)
  clear b1 ou B1 HL K0
  by_cases hok : okR ⟨g, ls, i⟩ = true
  case neg =>
    have HV := Lib.hid (svS_no (s := s) hok)
    rw [layR_no hok]
    clear hok
    go_wp2_with fail
    go_ret
    exact ⟨by rw [HV.out]; rfl, by rw [HV.out]; exact K1.out.post⟩
  have HV := Lib.hid (svS_yes (s := s) hok)
  have HBL := Lib.hid (encR_len hok)
  rw [layR_yes hok] at OU HUB ⊢
  clear hok
  obtain ⟨q, hq⟩ : ∃ z, z = encR ⟨g, ls, i⟩ := ⟨_, rfl⟩
  rw [← hq] at OU HUB HV HBL ⊢
  clear hq
  have HRD := Lib.hid (rread_to w1 B r A s nwN K1.out.rs HG.out (Nat.le_trans HW.out (by decide)))
  unfold RRead at HRD
  have hr2 : (if s.dead = true then false else (aget nwN s.files).isSome) = ex s nwN := rfl
  rw [hr2] at HRD
  clear hr2
  go_wp2_with fail
  refine HRD.out.mono ?_
  rintro e x0 ⟨pr, cr, rfl, _, b2⟩
  have KK0 := Lib.hid (K1.out.kb b2)
  have U0 := Lib.hid (own_kb OU.out b2)
  have M0 : Hid (Rm s 0) := Lib.hid ⟨HW.out, HF.out, HG.out⟩
  have HSV0 : Hid (saveS s q = seqS (seqS (seqS (seqS (if ex s nwN = true then s.remove nwN else (0, s)) fun s => s.append nwN q) St.sync) fun s => s.rename nwN rtN) St.sync) := Lib.hid rfl
  obtain ⟨ln, hln⟩ : ∃ z, z = (if s.dead = true then [] else fbytes nwN s.files).length := ⟨_, rfl⟩
  rw [← hln]
  clear b2 hln HRD K1 OU HW HF HG
  by_cases hx : ex s nwN = true
  case pos =>
    rw [if_pos hx] at HSV0
    rw [hx]
    clear hx
    have HA := Lib.hid (rremove_to x0 B r A s nwN KK0.out.rs M0.out.good (Nat.le_trans M0.out.works (by decide)) (Int.lt_trans M0.out.fuse (by decide)) (by decide))
    have HM1 := Lib.hid (M0.out.wb (wb_remove s nwN) (M0.out.good.remove nwN))
    unfold RCall at HA
    obtain ⟨r1, hr1⟩ : ∃ z, z = s.remove nwN := ⟨_, rfl⟩
    rw [← hr1] at HA HSV0 HM1
    clear hr1
    obtain ⟨c1, s1⟩ := r1
    simp only at HM1
    go_wp2_with fail
    refine HA.out.mono ?_
    rintro e x1 ⟨rfl, hp⟩
    obtain ⟨A1, k1, o1⟩ := KK0.out.step hp
    have KK1 := Lib.hid k1
    have U1 := Lib.hid (own_kept U0.out o1 (fun k hk e => HUB.out k hk e))
    clear hp k1 o1 HA KK0 U0 M0
    by_cases h1 : c1 = 0
    case neg =>
      have hne : ¬ c1 = 0 := h1
      have HF2 : Hid (saveS s q = (c1, s1)) := Lib.hid (by rw [HSV0.out, sq_no _ h1, sq_no _ h1, sq_no _ h1, sq_no _ h1])
      go_wp2_with fail
      go_ret
      exact ⟨by rw [HV.out, HF2.out]; rfl, by rw [HV.out, HF2.out]; exact KK1.out.post⟩
    subst h1
    have HSV : Hid (saveS s q = seqS (seqS (seqS (s1.append nwN q) St.sync) fun s => s.rename nwN rtN) St.sync) := Lib.hid (by rw [HSV0.out, sq_ok])
    clear HSV0
    have HA := Lib.hid (rappend_to x1 B r A1 s1 nwN _ q KK1.out.rs HM1.out.good (Nat.le_trans HM1.out.works (by decide)) (Int.lt_trans HM1.out.fuse (by decide)) (by decide) (Seen.own U1.out) (Nat.le_trans HBL.out (by decide)))
    have HM2 := Lib.hid (HM1.out.wb (wb_append s1 nwN q) (HM1.out.good.append nwN q))
    unfold RCall at HA
    obtain ⟨r2, hr2⟩ : ∃ z, z = s1.append nwN q := ⟨_, rfl⟩
    rw [← hr2] at HA HSV HM2
    clear hr2
    obtain ⟨c2, s2⟩ := r2
    simp only at HM2
    go_wp2_with fail
    refine HA.out.mono ?_
    rintro e x2 ⟨rfl, hp⟩
    obtain ⟨A2, k2, _⟩ := KK1.out.step hp
    have K2 := Lib.hid k2
    clear hp k2 HA
    by_cases h2 : c2 = 0
    case neg =>
      have hne : ¬ c2 = 0 := h2
      have HF2 : Hid (saveS s q = (c2, s2)) := Lib.hid (by rw [HSV.out, sq_no _ h2, sq_no _ h2, sq_no _ h2])
      go_wp2_with fail
      go_ret
      exact ⟨by rw [HV.out, HF2.out]; rfl, by rw [HV.out, HF2.out]; exact K2.out.post⟩
    subst h2
    have HSV3 : Hid (saveS s q = seqS (seqS s2.sync fun s => s.rename nwN rtN) St.sync) := Lib.hid (by rw [HSV.out, sq_ok])
    have HA := Lib.hid (rsync_to x2 B r A2 s2 K2.out.rs HM2.out.good (Nat.le_trans HM2.out.works (by decide)) (Int.lt_trans HM2.out.fuse (by decide)))
    have HM3 := Lib.hid (HM2.out.wb (wb_sync s2) HM2.out.good.sync)
    unfold RCall at HA
    clear HSV
    obtain ⟨r3, hr3⟩ : ∃ z, z = s2.sync := ⟨_, rfl⟩
    rw [← hr3] at HA HSV3 HM3
    clear hr3
    obtain ⟨c3, s3⟩ := r3
    simp only at HM3
    go_wp2_with fail
    refine HA.out.mono ?_
    rintro e x3 ⟨rfl, hp⟩
    obtain ⟨A3, k3, _⟩ := K2.out.step hp
    have K3 := Lib.hid k3
    clear hp k3 HA
    by_cases h3 : c3 = 0
    case neg =>
      have hne : ¬ c3 = 0 := h3
      have HF2 : Hid (saveS s q = (c3, s3)) := Lib.hid (by rw [HSV3.out, sq_no _ h3, sq_no _ h3])
      go_wp2_with fail
      go_ret
      exact ⟨by rw [HV.out, HF2.out]; rfl, by rw [HV.out, HF2.out]; exact K3.out.post⟩
    subst h3
    have HSV4 : Hid (saveS s q = seqS (s3.rename nwN rtN) St.sync) := Lib.hid (by rw [HSV3.out, sq_ok])
    have HA := Lib.hid (rrename_to x3 B r A3 s3 nwN rtN K3.out.rs HM3.out.good (Nat.le_trans HM3.out.works (by decide)) (Int.lt_trans HM3.out.fuse (by decide)) (by decide) (by decide))
    have HM4 := Lib.hid (HM3.out.wb (wb_rename s3 nwN rtN) (HM3.out.good.rename nwN rtN))
    unfold RCall at HA
    clear HSV3
    obtain ⟨r4, hr4⟩ : ∃ z, z = s3.rename nwN rtN := ⟨_, rfl⟩
    rw [← hr4] at HA HSV4 HM4
    clear hr4
    obtain ⟨c4, s4⟩ := r4
    simp only at HM4
    go_wp2_with fail
    refine HA.out.mono ?_
    rintro e x4 ⟨rfl, hp⟩
    obtain ⟨A4, k4, _⟩ := K3.out.step hp
    have K4 := Lib.hid k4
    clear hp k4 HA
    by_cases h4 : c4 = 0
    case neg =>
      have hne : ¬ c4 = 0 := h4
      have HF2 : Hid (saveS s q = (c4, s4)) := Lib.hid (by rw [HSV4.out, sq_no _ h4])
      go_wp2_with fail
      go_ret
      exact ⟨by rw [HV.out, HF2.out]; rfl, by rw [HV.out, HF2.out]; exact K4.out.post⟩
    subst h4
    have HSV5 : Hid (saveS s q = s4.sync) := Lib.hid (by rw [HSV4.out, sq_ok])
    have HA := Lib.hid (rsync_to x4 B r A4 s4 K4.out.rs HM4.out.good (Nat.le_trans HM4.out.works (by decide)) (Int.lt_trans HM4.out.fuse (by decide)))
    unfold RCall at HA
    clear HSV4
    obtain ⟨r5, hr5⟩ : ∃ z, z = s4.sync := ⟨_, rfl⟩
    rw [← hr5] at HA HSV5
    clear hr5
    obtain ⟨c5, s5⟩ := r5
    go_wp2_with fail
    refine HA.out.mono ?_
    rintro e x5 ⟨rfl, hp⟩
    obtain ⟨A5, k5, _⟩ := K4.out.step hp
    have K5 := Lib.hid k5
    clear hp k5 HA
    go_wp2_with fail
    go_ret
    exact ⟨by rw [HV.out, HSV5.out]; rfl, by rw [HV.out, HSV5.out]; exact K5.out.post⟩
  case neg =>
    rw [if_neg hx] at HSV0
    have HSV : Hid (saveS s q = seqS (seqS (seqS (s.append nwN q) St.sync) fun s => s.rename nwN rtN) St.sync) := Lib.hid (by rw [HSV0.out, sq_ok])
    have hx' : ex s nwN = false := by simpa using hx
    rw [hx']
    clear hx hx' HSV0
    have HA := Lib.hid (rappend_to x0 B r A s nwN _ q KK0.out.rs M0.out.good (Nat.le_trans M0.out.works (by decide)) (Int.lt_trans M0.out.fuse (by decide)) (by decide) (Seen.own U0.out) (Nat.le_trans HBL.out (by decide)))
    have HM2 := Lib.hid (M0.out.wb (wb_append s nwN q) (M0.out.good.append nwN q))
    unfold RCall at HA
    obtain ⟨r2, hr2⟩ : ∃ z, z = s.append nwN q := ⟨_, rfl⟩
    rw [← hr2] at HA HSV HM2
    clear hr2
    obtain ⟨c2, s2⟩ := r2
    simp only at HM2
    go_wp2_with fail
    refine HA.out.mono ?_
    rintro e x2 ⟨rfl, hp⟩
    obtain ⟨A2, k2, _⟩ := KK0.out.step hp
    have K2 := Lib.hid k2
    clear hp k2 HA
    by_cases h2 : c2 = 0
    case neg =>
      have hne : ¬ c2 = 0 := h2
      have HF2 : Hid (saveS s q = (c2, s2)) := Lib.hid (by rw [HSV.out, sq_no _ h2, sq_no _ h2, sq_no _ h2])
      go_wp2_with fail
      go_ret
      exact ⟨by rw [HV.out, HF2.out]; rfl, by rw [HV.out, HF2.out]; exact K2.out.post⟩
    subst h2
    have HSV3 : Hid (saveS s q = seqS (seqS s2.sync fun s => s.rename nwN rtN) St.sync) := Lib.hid (by rw [HSV.out, sq_ok])
    have HA := Lib.hid (rsync_to x2 B r A2 s2 K2.out.rs HM2.out.good (Nat.le_trans HM2.out.works (by decide)) (Int.lt_trans HM2.out.fuse (by decide)))
    have HM3 := Lib.hid (HM2.out.wb (wb_sync s2) HM2.out.good.sync)
    unfold RCall at HA
    clear HSV
    obtain ⟨r3, hr3⟩ : ∃ z, z = s2.sync := ⟨_, rfl⟩
    rw [← hr3] at HA HSV3 HM3
    clear hr3
    obtain ⟨c3, s3⟩ := r3
    simp only at HM3
    go_wp2_with fail
    refine HA.out.mono ?_
    rintro e x3 ⟨rfl, hp⟩
    obtain ⟨A3, k3, _⟩ := K2.out.step hp
    have K3 := Lib.hid k3
    clear hp k3 HA
    by_cases h3 : c3 = 0
    case neg =>
      have hne : ¬ c3 = 0 := h3
      have HF2 : Hid (saveS s q = (c3, s3)) := Lib.hid (by rw [HSV3.out, sq_no _ h3, sq_no _ h3])
      go_wp2_with fail
      go_ret
      exact ⟨by rw [HV.out, HF2.out]; rfl, by rw [HV.out, HF2.out]; exact K3.out.post⟩
    subst h3
    have HSV4 : Hid (saveS s q = seqS (s3.rename nwN rtN) St.sync) := Lib.hid (by rw [HSV3.out, sq_ok])
    have HA := Lib.hid (rrename_to x3 B r A3 s3 nwN rtN K3.out.rs HM3.out.good (Nat.le_trans HM3.out.works (by decide)) (Int.lt_trans HM3.out.fuse (by decide)) (by decide) (by decide))
    have HM4 := Lib.hid (HM3.out.wb (wb_rename s3 nwN rtN) (HM3.out.good.rename nwN rtN))
    unfold RCall at HA
    clear HSV3
    obtain ⟨r4, hr4⟩ : ∃ z, z = s3.rename nwN rtN := ⟨_, rfl⟩
    rw [← hr4] at HA HSV4 HM4
    clear hr4
    obtain ⟨c4, s4⟩ := r4
    simp only at HM4
    go_wp2_with fail
    refine HA.out.mono ?_
    rintro e x4 ⟨rfl, hp⟩
    obtain ⟨A4, k4, _⟩ := K3.out.step hp
    have K4 := Lib.hid k4
    clear hp k4 HA
    by_cases h4 : c4 = 0
    case neg =>
      have hne : ¬ c4 = 0 := h4
      have HF2 : Hid (saveS s q = (c4, s4)) := Lib.hid (by rw [HSV4.out, sq_no _ h4])
      go_wp2_with fail
      go_ret
      exact ⟨by rw [HV.out, HF2.out]; rfl, by rw [HV.out, HF2.out]; exact K4.out.post⟩
    subst h4
    have HSV5 : Hid (saveS s q = s4.sync) := Lib.hid (by rw [HSV4.out, sq_ok])
    have HA := Lib.hid (rsync_to x4 B r A4 s4 K4.out.rs HM4.out.good (Nat.le_trans HM4.out.works (by decide)) (Int.lt_trans HM4.out.fuse (by decide)))
    unfold RCall at HA
    clear HSV4
    obtain ⟨r5, hr5⟩ : ∃ z, z = s4.sync := ⟨_, rfl⟩
    rw [← hr5] at HA HSV5
    clear hr5
    obtain ⟨c5, s5⟩ := r5
    go_wp2_with fail
    refine HA.out.mono ?_
    rintro e x5 ⟨rfl, hp⟩
    obtain ⟨A5, k5, _⟩ := K4.out.step hp
    have K5 := Lib.hid k5
    clear hp k5 HA
    go_wp2_with fail
    go_ret
    exact ⟨by rw [HV.out, HSV5.out]; rfl, by rw [HV.out, HSV5.out]; exact K5.out.post⟩
end Go.Proofs.YtfneadlknieppaaGreatDoor
