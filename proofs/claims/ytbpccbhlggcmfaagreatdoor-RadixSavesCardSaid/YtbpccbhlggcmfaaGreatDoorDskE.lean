/- Rename. Conditions: the numbers are no greater than a program's may be. · Remove. Conditions: the numbers are no greater than a program's may be. · Truncate. Conditions: the numbers are no greater than a program's may be. -/
import Derived.Test.YtbpccbhlggcmfaaGreatDoorDskK
namespace Go.Proofs.YtbpccbhlggcmfaaGreatDoor
open Go.RowKit
open Go.Maps

theorem begin_two (w : World) (b : Nat) (c : Cst) (h : DAt w b c) (n m : Key) (g cap : Nat) (ha : w.cell? ⟨g, 0, none⟩ = some (stv n)) (hb : w.cell? ⟨g, 1, none⟩ = some (stv m)) (hn : n.length ≤ 4611686018427387904) (hm : m.length ≤ 4611686018427387904) :
    Calls Tryz.prog 51 #[.pointer (some ⟨b,0,none⟩), .slice (some ⟨g, 0, none⟩) 2 cap] w fun e w' => e = .returned (if okName n = true ∧ okName m = true then (if c.dead = true then eno 7 else .nilIface) else eno 1) ∧ w = w' := by
  have c5 := h.c5
  have hsz := str_size n
  have hszm := str_size m
  clear h
  by_cases h1 : n.length < 1
  · have e : ¬ (okName n = true ∧ okName m = true) := by simp [okName]; omega
    rw [if_neg e]
    have h1' : (n.length : Int) < 1 := by omega
    go_enter Tryz.func51, Tryz.ntmps51
    go_wp2
    refine wp_loop_rounds 3 ?_
    rw [rounds_succ]
    go_wp2
    go_ret
    exact ⟨rfl, rfl⟩
  have h1' : ¬ (n.length : Int) < 1 := by omega
  by_cases h2 : 20 < n.length
  · have e : ¬ (okName n = true ∧ okName m = true) := by simp [okName]; omega
    rw [if_neg e]
    have h2' : 20 < (n.length : Int) := by omega
    go_enter Tryz.func51, Tryz.ntmps51
    go_wp2
    refine wp_loop_rounds 3 ?_
    rw [rounds_succ]
    go_wp2
    go_ret
    exact ⟨rfl, rfl⟩
  have h2' : ¬ 20 < (n.length : Int) := by omega
  by_cases h3 : m.length < 1
  · have e : ¬ (okName n = true ∧ okName m = true) := by simp [okName]; omega
    rw [if_neg e]
    have h3' : (m.length : Int) < 1 := by omega
    go_enter Tryz.func51, Tryz.ntmps51
    go_wp2
    refine wp_loop_rounds 3 ?_
    rw [rounds_succ]
    go_wp2
    rw [rounds_succ]
    go_wp2
    go_ret
    exact ⟨rfl, rfl⟩
  have h3' : ¬ (m.length : Int) < 1 := by omega
  by_cases h4 : 20 < m.length
  · have e : ¬ (okName n = true ∧ okName m = true) := by simp [okName]; omega
    rw [if_neg e]
    have h4' : 20 < (m.length : Int) := by omega
    go_enter Tryz.func51, Tryz.ntmps51
    go_wp2
    refine wp_loop_rounds 3 ?_
    rw [rounds_succ]
    go_wp2
    rw [rounds_succ]
    go_wp2
    go_ret
    exact ⟨rfl, rfl⟩
  have h4' : ¬ 20 < (m.length : Int) := by omega
  have e : okName n = true ∧ okName m = true := by simp [okName]; omega
  rw [if_pos e]
  cases hd : c.dead <;> rw [hd] at c5
  all_goals
    go_enter Tryz.func51, Tryz.ntmps51
    go_wp2
    refine wp_loop_rounds 3 ?_
    rw [rounds_succ]
    go_wp2
    rw [rounds_succ]
    go_wp2
    rw [rounds_succ]
    go_wp2
    go_ret
    exact ⟨rfl, rfl⟩
def St.rename (s : St) (n m : Key) : Int × St :=
  if ¬ (okName n = true ∧ okName m = true) then (1, s) else if s.dead = true then (7, s) else if (aget n s.files).isSome = false then (11, s) else s.work ⟨2, n, m, [], 0⟩
theorem ok20 {n : Key} (h : okName n = true) : n.length ≤ 20 := by unfold okName at h; simp at h; omega
def renChg (n m : Key) (L : List (Key × Ent)) : Chg := { kind := 2, name := n, to := m, size := 0, was := (aget m (adel n L)).isSome, lost := valAt m (adel n L), xs := bytesAt m (adel n L) }
theorem turn_ren_tot (F : Fil) (hF : AAsc F) (n m : Key) : totF (turn F ⟨2, n, m, [], 0⟩) ≤ totF F ∧ (turn F ⟨2, n, m, [], 0⟩).length ≤ F.length + 1 := by
  have ht : turn F ⟨2, n, m, [], 0⟩ = aput m (fbytes n F) (adel n F) := rfl
  rw [ht]
  have h1 := totF_put m (fbytes n F) (hF.del n)
  have h2 : totF (adel n F) + (fbytes n F).length = totF F := by
    have := asum_del List.length n hF
    unfold totF fbytes
    rw [← this]
    cases aget n F <;> rfl
  have h3 := aput_length m (fbytes n F) (adel n F)
  have h4 := adel_length n F
  omega
end Go.Proofs.YtbpccbhlggcmfaaGreatDoor
namespace Go.Proofs.YtbpccbhlggcmfaaGreatDoor
open Go.RowKit
open Go.Maps

def St.remove (s : St) (n : Key) : Int × St :=
  if ¬ okName n = true then (1, s) else if s.dead = true then (7, s) else if (aget n s.files).isSome = false then (11, s) else s.work ⟨3, n, [], [], 0⟩
/-- The end of a work that removes a file. -/
theorem end_drop {w W5 W6 : World} {B b : Nat} {S : Nat → Prop} {s : St} {c c5 : Cst} {L L5 : List (Key × Ent)} {P : List Chg} {k : Wk} {g : Chg} {m : Key} (hx : DSx w B b S s c L P) (h0 : ¬ s.fuse = 0)
    (hd5 : DAt W5 b c5) (hm5 : MAt W5 c5.mb L5) (hp5 : PAt W5 B c5.pv (P ++ [g])) (ho5 : Own W5 B (adel m L5) (P ++ [g])) (hsep : ∀ k, cnt k (adel m L5) (P ++ [g]) ≤ 1) (hasc : AAsc L5) (hused : c5.used = (tot L5 : Int)) (hl : L5.length < 2000000000)
    (e0 : c5.mb = c.mb) (e1 : c5.room = c.room) (e2 : c5.fuse = c.pass.fuse) (e3 : c5.dead = c.dead) (e4 : c5.works = c.pass.works) (hd : DAt W6 b { c5 with used := c5.used - (bytesAt m L5).length }) (hm : MAt W6 c5.mb (adel m L5)) (ho : Only (fun k => k = b ∨ k = c5.mb) W5 W6)
    (honly : Only (Foot b c L P) w W5) (hft : ∀ j, (0 < cnt j (adel m L5) (P ++ [g]) ∨ c5.pv.ownBlock = some j) → Foot b c L P j ∨ w.heap.size ≤ j)
    (hf : Fits s.files k) (hc : Ch s.files k g) (ht : totF (turn s.files k) ≤ 16777216) (hmn : (turn s.files k).length ≤ s.works + 1) (hfb : fb (adel m L5) = turn s.files k) : (s.work k).1 = 0 ∧ DPost w B b S (s.work k).2 W6 := by
  have hdc : DC W6 B b { c5 with used := c5.used - (bytesAt m L5).length } (adel m L5) (P ++ [g]) (P ++ [g]) := {
    d := hd
    m := hm
    p := own_kept hp5 ho fun k hk e => by
      rcases e with rfl | rfl
      · exact pv_apart' hd5 hp5 _ hk rfl
      · obtain ⟨cs, hcs⟩ := own_type hp5 hk
        obtain ⟨es, clock, h1⟩ := hm5.obj
        rw [h1] at hcs
        cases hcs
    own := ho5.kept ho fun k hk e => by
      rcases e with rfl | rfl
      · exact own_ne ho5 hd5 hk rfl
      · exact own_nm ho5 hm5 hk rfl
    sep := hsep
    asc := hasc.del m
    used := by
      have h1 := tot_del m hasc
      simp only at h1 ⊢
      omega
    bb := hx.dc.bb
    bm := by rw [show ({ c5 with used := c5.used - ((bytesAt m L5).length : Int) } : Cst).mb = c.mb from e0]; exact hx.dc.bm
    many := by have := adel_length m L5; omega }
  refine dsx_worked hx h0 hdc hf hc ht hmn hfb e1 e2 e3 e4 ?_ ?_
  · exact honly.trans ho (fun _ h => h) (fun k _ e => by
      rcases e with rfl | rfl
      · exact .inl rfl
      · exact .inr (.inl e0))
  · intro j hj
    rcases hj with e | e | e | e
    · exact .inl (.inl e)
    · exact .inl (.inr (.inl (by rw [← e0]; exact e)))
    · exact hft j (.inr e)
    · exact hft j (.inl e)
end Go.Proofs.YtbpccbhlggcmfaaGreatDoor
namespace Go.Proofs.YtbpccbhlggcmfaaGreatDoor
open Go.RowKit
open Go.Maps

def St.truncate (s : St) (n : Key) (q : Int) : Int × St :=
  if ¬ okName n = true then (1, s) else if s.dead = true then (7, s) else if (aget n s.files).isSome = false then (11, s) else if q < 0 ∨ ((fbytes n s.files).length : Int) < q then (1, s) else s.work ⟨1, n, [], [], q.toNat⟩
theorem tail_any {W0 : World} {B : Nat} {p : Option Addr} {cap : Nat} {ys : List Int} (h : BOwn W0 B (.slice p ys.length cap) ys) {r : Nat} (hr : r ≤ ys.length) :
    ∃ v', (∀ W, (Instr.slice 71 (.slice p ys.length cap) (some (.int .i64 r)) none none).run Tryz.prog W = .ok v' W) ∧ Seen W0 v' (ys.drop r) := by
  rcases h.2 with ⟨h0, h00⟩ | ⟨g, cap', cur, h0, hB, hg, hnc, hcm, hcs, htk⟩
  · obtain rfl : ys = [] := List.eq_nil_of_length_eq_zero h00
    obtain rfl : r = 0 := by simpa using hr
    cases h0
    exact ⟨.slice none 0 0, fun W => by simp [Instr.slice, run_underlying Tryz.underlying71, go_sem], .inl ⟨rfl, by simp⟩⟩
  · cases h0
    have h1 : (r : Int) ≤ (ys.length : Int) := by omega
    have h2 : (0 : Int) ≤ (r : Int) := by omega
    have hu := h.cells (g := g) rfl
    by_cases hc : cap = r
    · have hlr : ys.length - r = 0 := by omega
      refine ⟨.slice (some ⟨g, 0, none⟩) (ys.length - r) (cap - r), fun W => ?_, .inr ⟨⟨g, 0, none⟩, cap - r, by rw [List.length_drop], by rw [List.length_drop]; omega, fun j u hj => ?_⟩⟩
      · simp [Instr.slice, run_underlying Tryz.underlying71, go_sem, h1, h2, hc]
      · rw [List.drop_of_length_le (by omega)] at hj; simp at hj
    · refine ⟨.slice (some ⟨g, r, none⟩) (ys.length - r) (cap - r), fun W => ?_, .inr ⟨⟨g, r, none⟩, cap - r, by rw [List.length_drop], by rw [List.length_drop]; omega, fun j u hj => ?_⟩⟩
      · simp [Instr.slice, run_underlying Tryz.underlying71, go_sem, h1, h2, hc]
      · rw [Addr.add_lit]
        have := hu (r + j) u (by rw [us, List.map_drop, List.getElem?_drop] at hj; exact hj)
        rwa [Addr.add_lit, Nat.zero_add] at this
set_option maxRecDepth 20000 in
set_option maxHeartbeats 2000000 in
theorem truncate_to (w : World) (B b : Nat) (S : Nat → Prop) (s : St) (n : Key) (q : Int) (h : DS w B b S s) (hw : s.works ≤ 900000000) (hfu : s.fuse < 9223372036854775808) (hn : n.length ≤ 281474976710656) :
    Calls Tryz.prog 26 #[.pointer (some ⟨b,0,none⟩), stv n, .int .i64 q] w (AppPost w B b S (s.truncate n q)) := by
  obtain ⟨c, L, P, hx⟩ := h
  have HX := Lib.hid hx
  have b1 : Below w.heap.size w (w.alloc (.cells #[stv n] 9)) := (Below.refl _ w).alloc (Nat.le_refl _) _
  have hd1 := hx.dc.d.kb b1
  have HB1 := Lib.hid b1
  have HBG := Lib.hid (begin_at (w.alloc (.cells #[stv n] 9)) b c hd1 n ⟨w.heap.size, 0, none⟩ 1 (by rw [cell_of_row _ w.heap.size 0 _ _ _ (heap_alloc_last w _)]; rfl) (Nat.le_trans hn (by decide)))
  rw [hx.dead] at HBG
  have HPR : Hid (∀ W, Below w.heap.size w W → DPost w B b S s W) := Lib.hid (fun W hW => DPost.same ⟨c, L, P, hx⟩ hW)
  clear hx b1 hd1
  go_enter Tryz.func26, Tryz.ntmps26
  go_wp2_with fail
  generalize w.alloc (.cells #[stv n] 9) = W1 at *
  refine HBG.out.mono ?_
  rintro e w' ⟨rfl, rfl⟩
  clear HBG
  by_cases hok : okName n = true
  case' neg =>
    have HA : Hid (s.truncate n q = (1, s)) := Lib.hid (by unfold St.truncate; rw [if_pos hok])
    rw [if_neg hok]
    go_wp2_with fail
    go_ret
    exact ⟨by rw [HA.out]; exact eno_1, by rw [HA.out]; exact HPR.out _ HB1.out⟩
  case' pos =>
    rw [if_pos hok]
    have HN20 := Lib.hid (ok20 hok)
    by_cases hdd : s.dead = true
    case' pos =>
      have HA : Hid (s.truncate n q = (7, s)) := Lib.hid (by unfold St.truncate; rw [if_neg (by simp [hok]), if_pos hdd])
      rw [if_pos hdd]
      go_wp2_with fail
      go_ret
      exact ⟨by rw [HA.out]; exact eno_7, by rw [HA.out]; exact HPR.out _ HB1.out⟩
    case' neg =>
      rw [if_neg hdd]
      have HD1 := Lib.hid (HX.out.dc.kb HB1.out)
      have hc1 := HD1.out.d.c1
      have HF : Hid (s.files = fb L) := Lib.hid HX.out.fb.symm
      obtain ⟨p2, cap2, hv2⟩ := HX.out.dc.own.shp.at n
      have hlk : (Instr.lookup 67 (.map (some c.mb)) (stv n) true).run Tryz.prog W1 = .ok (.tuple #[.slice p2 (bytesAt n L).length cap2, .bool (aget n L).isSome]) W1 := by
        rw [← hv2]; exact HD1.out.m.lookOk n (small_key HN20.out).1
      have HV := Lib.hid hv2
      clear hv2
      by_cases hso : (aget n L).isSome = false
      case' pos =>
        rw [hso] at hlk
        have HA : Hid (s.truncate n q = (11, s)) := Lib.hid (by unfold St.truncate; rw [if_neg (by simp [hok]), if_neg hdd, if_pos (by rw [HF.out, fb_some]; exact hso)])
        go_wp2_with fail
        go_ret
        exact ⟨by rw [HA.out]; exact eno_11, by rw [HA.out]; exact HPR.out _ HB1.out⟩
      case' neg =>
        have hso' : (aget n L).isSome = true := by cases hq : (aget n L).isSome with | true => rfl | false => exact absurd hq hso
        rw [hso'] at hlk
        have HSO := Lib.hid hso'
        by_cases hq0 : q < 0
        case' pos =>
          have HA : Hid (s.truncate n q = (1, s)) := Lib.hid (by unfold St.truncate; rw [if_neg (by simp [hok]), if_neg hdd, if_neg (by rw [HF.out, fb_some]; exact hso), if_pos (.inl hq0)])
          clear hso hso' hok
          go_wp2_with fail
          go_ret
          exact ⟨by rw [HA.out]; exact eno_1, by rw [HA.out]; exact HPR.out _ HB1.out⟩
        case' neg =>
        by_cases hq1 : ((bytesAt n L).length : Int) < q
        case' pos =>
          have HA : Hid (s.truncate n q = (1, s)) := Lib.hid (by unfold St.truncate; rw [if_neg (by simp [hok]), if_neg hdd, if_neg (by rw [HF.out, fb_some]; exact hso), if_pos (.inr (by rw [HF.out, fb_bytes]; exact hq1))])
          clear hso hso' hok
          go_wp2_with fail
          go_ret
          exact ⟨by rw [HA.out]; exact eno_1, by rw [HA.out]; exact HPR.out _ HB1.out⟩
        case' neg =>
        obtain ⟨r, rfl⟩ : ∃ r : Nat, q = (r : Int) := ⟨q.toNat, by omega⟩
        have HA : Hid (s.truncate n r = s.work ⟨1, n, [], [], r⟩) := Lib.hid (by unfold St.truncate; rw [if_neg (by simp [hok]), if_neg hdd, if_neg (by rw [HF.out, fb_some]; exact hso), if_neg (by rw [HF.out, fb_bytes]; omega)]; simp)
        obtain ⟨ys, hys⟩ : ∃ ys, ys = bytesAt n L := ⟨_, rfl⟩
        rw [← hys] at hlk hq1
        have HYS := Lib.hid hys
        clear hso hso' hok hys
        have HPS := Lib.hid (pass_to W1 b c HD1.out.d (by rw [HX.out.works]; omega) (by rw [HX.out.works]; omega) (by rw [HX.out.fuse]; exact hfu))
        rw [HX.out.fuse] at HPS
        go_wp2_with fail
        refine HPS.out.mono ?_
        rintro e W3 ⟨rfl, hd3, ho3⟩
        clear HPS
        by_cases hf0 : s.fuse = 0
        case' pos =>
          rw [if_pos hf0]
          have HDI : Hid (DPost w B b S { s with dead := true } W3) := Lib.hid (by
            obtain ⟨S', h1, h2, h3⟩ := dsx_die (HX.out.kept (T := fun _ => False) (Only.of_below HB1.out) (fun _ _ _ h => h)) hf0 hd3 ho3
            exact ⟨S', h1, (Only.of_below HB1.out).trans h2 (fun _ h => h) (fun _ _ h => h), fun k hk => (h3 k hk).imp id (fun e => Nat.le_trans HB1.out.size e)⟩)
          have HWK : Hid (s.work ⟨1, n, [], [], r⟩ = (7, { s with dead := true })) := Lib.hid (by unfold St.work; rw [if_pos hf0])
          clear hd3 ho3
          go_wp2_with fail
          go_ret
          exact ⟨by rw [HA.out, HWK.out]; exact eno_7, by rw [HA.out, HWK.out]; exact HDI.out⟩
        case' neg =>
          rw [if_neg hf0]
          have HMB := Lib.hid (pass_mb c)
          have HD3 := Lib.hid (HD1.out.restamp hd3 (pass_mb c).1 (pass_mb c).2.1 (pass_mb c).2.2.1 ho3)
          have HO3 : Hid (∀ T, T b → Only T w W3) := Lib.hid (fun T hT => (Only.of_below HB1.out).trans ho3 (fun _ h => h) (fun k _ e => e ▸ hT))
          have HPL : Hid (P.length ≤ 1000000000) := Lib.hid (by have h1 := HX.out.hist.length; have h2 := HX.out.pl; omega)
          have HLT : Hid (tot L ≤ 16777216 ∧ L.length ≤ s.works) := Lib.hid (by
            have h4 := HX.out.hist.last
            rw [← HX.out.fb] at h4
            have h5 := h4.tot
            have h6 := h4.many
            rw [fb_tot] at h5
            rw [fb_length] at h6
            exact ⟨h5, h6⟩)
          have HBL : Hid (∀ k, (bytesAt k L).length ≤ 16777216) := Lib.hid (fun k => Nat.le_trans (bytesAt_le k L) HLT.out.1)
          have HYL : Hid (ys.length ≤ 16777216) := Lib.hid (by rw [HYS.out]; exact HBL.out n)
          have HV2 : Hid (valAt n L = .slice p2 ys.length cap2) := Lib.hid (by rw [HV.out, HYS.out])
          have HOW : Hid (BOwn W3 B (.slice p2 ys.length cap2) ys) := Lib.hid (by rw [← HV2.out, HYS.out]; exact HD3.out.own.at n)
          have hrl : r ≤ ys.length := by omega
          have HRL := Lib.hid hrl
          have HM3 : Hid (MAt W3 c.mb L) := Lib.hid (by have := HD3.out.m; rwa [HMB.out.1] at this)
          clear hd3 ho3 hc1 hlk hq0 hq1
          obtain ⟨v9, htl, hse9⟩ := tail_any HOW.out HRL.out
          have HCL := Lib.hid (clone_any W3 v9 (ys.drop r) (by rw [List.length_drop]; have := HYL.out; omega) hse9)
          clear hse9
          go_wp2_with fail
          refine HCL.out.mono ?_
          rintro e W4 ⟨v4, rfl, o4, b4⟩
          obtain ⟨p4, c4, rfl⟩ := own_slice o4
          have O4 : Hid (BOwn W4 W3.heap.size (.slice p4 (ys.drop r).length c4) (ys.drop r)) := Lib.hid o4
          have B4 := Lib.hid b4
          have HD4 := Lib.hid (HD3.out.kb b4)
          have HDL : Hid ((ys.drop r).length ≤ 16777216) := Lib.hid (by rw [List.length_drop]; have := HYL.out; omega)
          have HPN := Lib.hid (pend_to W4 B b c.pass P { kind := 1, name := n, to := [], size := 0, was := false, lost := .slice p4 (ys.drop r).length c4, xs := ys.drop r } HD4.out.d HD4.out.p HD4.out.base HPL.out (small_key HN20.out).2.1 (by simp) rfl)
          clear o4 b4 htl HCL
          generalize hdr : ys.drop r = ds at *
          have HDR := Lib.hid hdr
          clear hdr
          go_wp2_with fail
          refine HPN.out.mono ?_
          rintro e W5 ⟨rfl, pv', hd5, hp5, ho5, hat5⟩
          have HO45 : Hid (Only (fun k => k = b ∨ c.pv.ownBlock = some k) W4 W5) := Lib.hid (by have := ho5; rwa [HMB.out.2.2.1] at this)
          have HAT5 : Hid (∀ k, pv'.ownBlock = some k → c.pv.ownBlock = some k ∨ W4.heap.size ≤ k) := Lib.hid (by have := hat5; rwa [HMB.out.2.2.1] at this)
          have HD5 := Lib.hid hd5
          have HP5 := Lib.hid hp5
          have HNB : Hid (∀ k, 0 < cnt k L P → ¬ (k = b ∨ c.pv.ownBlock = some k)) := Lib.hid (fun k hk e => by rcases e with e | e; exact HX.out.dc.cnt_b (e ▸ hk); exact HX.out.dc.pv_cnt hk e)
          have HM5 : Hid (MAt W5 c.mb L) := Lib.hid ((HM3.out.kb B4.out).kept HO45.out (by rintro (e | e); exact HX.out.dc.ne e.symm; exact HX.out.dc.pv_m e))
          have HW5 : Hid (Own W5 B L P) := Lib.hid (HD4.out.own.kept HO45.out HNB.out)
          have HK4 : Hid (∀ k, Value.ownBlock (.slice p4 ds.length c4) = some k → W3.heap.size ≤ k ∧ k < W4.heap.size ∧ cnt k L P = 0) := Lib.hid (fun k hk => by
            have h1 := O4.out.lt k hk
            exact ⟨h1.1, h1.2, cnt_new HD3.out.own h1.1⟩)
          have O5 : Hid (BOwn W5 B (.slice p4 ds.length c4) ds) := Lib.hid (own_mono (own_kept O4.out HO45.out (fun k hk e => by
            have h1 := (HK4.out k hk).1
            rcases e with e | e
            · have := HD3.out.d.lt; omega
            · have := (HX.out.dc.p.lt k e).2; have := (HO3.out (fun _ => True) trivial).size; omega)) HD3.out.base)
          have HO5 : Hid (Only (Foot b c L P) w W5) := Lib.hid (((HO3.out _ (.inl rfl)).trans (T := fun _ => False) (Only.of_below B4.out) (fun _ h => h) (fun _ _ h => h.elim)).trans HO45.out (fun _ h => h) (fun k _ e => by rcases e with e | e; exact .inl e; exact .inr (.inr (.inl e))))
          have HOF5 : Hid (BOwn W5 B (.slice p2 ys.length cap2) ys) := Lib.hid (by rw [← HV2.out, HYS.out]; exact HW5.out.at n)
          have HBB : Hid (B ≤ W5.heap.size) := Lib.hid (Nat.le_trans HX.out.dc.base HO5.out.size)
          clear hd5 hp5 ho5 hat5 HPN
          go_wp2_with fail
          refine (shorten_to W5 B (.slice p2 ys.length cap2) ys r HRL.out HOF5.out HBB.out (Nat.le_trans HYL.out (by decide))).mono ?_
          rintro e W6 ⟨v6, rfl, o6, b6, a6⟩
          obtain ⟨zs, hzs⟩ : ∃ zs, zs = ys.take r := ⟨_, rfl⟩
          have HZS := Lib.hid hzs
          have HZL : Hid (zs.length ≤ 16777216) := Lib.hid (by rw [hzs, List.length_take]; have := HYL.out; omega)
          rw [← hzs] at o6
          clear hzs
          obtain ⟨p6, c6, rfl⟩ := own_slice o6
          have O6 : Hid (BOwn W6 B (.slice p6 zs.length c6) zs) := Lib.hid o6
          have B6 := Lib.hid b6
          have A6 : Hid (∀ k, Value.ownBlock (.slice p6 zs.length c6) = some k → (valAt n L).ownBlock = some k ∨ W5.heap.size ≤ k) := Lib.hid (fun k hk => by
            rcases a6 k hk with e | e
            · exact .inl (by rw [HV2.out]; exact e)
            · exact .inr e)
          have HD6 := Lib.hid (HD5.out.kb b6)
          have HM6 := Lib.hid (HM5.out.kb b6)
          have HP6 : Hid (PAt W6 B pv' (P ++ [{ kind := 1, name := n, to := [], size := 0, was := false, lost := .slice p4 ds.length c4, xs := ds }])) := Lib.hid (own_kept HP5.out (S := fun _ => False) (Only.of_below b6) (fun _ _ h => h))
          have HW6 : Hid (Own W6 B (adel n L) (P ++ [{ kind := 1, name := n, to := [], size := 0, was := false, lost := .slice p4 ds.length c4, xs := ds }])) := Lib.hid (by
            have h1 := (HW5.out.del n).kb b6
            exact ⟨h1.file, fun g hg => by
              rcases List.mem_append.1 hg with hg | hg
              · exact h1.lost g hg
              · rw [List.mem_singleton.1 hg]; exact own_kept O5.out (S := fun _ => False) (Only.of_below b6) (fun _ _ h => h)⟩)
          have HVC : Hid (∀ k, (valAt n L).ownBlock = some k → 0 < cnt k L P ∧ cnt k (adel n L) P = 0 ∧ k < W3.heap.size) := Lib.hid (fun k hk => by
            have h1 := cnt_del k n P HX.out.dc.asc
            rw [own1_self hk] at h1
            have h2 := HX.out.dc.sep k
            exact ⟨by omega, by omega, HD3.out.own.lt (by omega)⟩)
          have HPT := Lib.hid (put_to W6 b { c.pass with pv := pv' } L n p6 c6 zs HD6.out (by rw [HMB.out.1]; exact HM6.out) (by rw [HMB.out.1]; exact HX.out.dc.ne) HX.out.dc.own.shp (small_key HN20.out).1 (small_len (by have := HLT.out.2; omega)).1 (Nat.le_trans HZL.out (by decide)) (Nat.le_trans (HBL.out n) (by decide)) (by show 0 ≤ c.pass.used; rw [HMB.out.2.1, HX.out.dc.used]; omega) (by show c.pass.used ≤ _; rw [HMB.out.2.1, HX.out.dc.used]; have := HLT.out.1; omega) (small_key HN20.out).2.1)
          clear o6 b6 a6
          go_wp2_with fail
          refine HPT.out.mono ?_
          rintro e W7 ⟨rfl, hd7, hm7, ho7⟩
          have HEND : Hid ((s.work ⟨1, n, [], [], r⟩).1 = 0 ∧ DPost w B b S (s.work ⟨1, n, [], [], r⟩).2 W7) := Lib.hid (by
            have htn : turn (fb L) ⟨1, n, [], [], r⟩ = aput n zs (fb L) := by show aput n ((fbytes n (fb L)).take r) (fb L) = _; rw [fb_bytes, ← HYS.out, ← HZS.out]
            have htt := totF_put n zs (fb_asc HX.out.dc.asc)
            have hzy : zs.length ≤ ys.length := by rw [HZS.out, List.length_take]; omega
            refine end_put (c5 := { c.pass with pv := pv' }) (L5 := L) HX.out hf0 HD6.out (by rw [HMB.out.1]; exact HM6.out) HP6.out HW6.out O6.out ?_ HX.out.dc.asc (by rw [HMB.out.2.1]; exact HX.out.dc.used) (small_len (by have := HLT.out.2; omega)).2 HMB.out.1 HMB.out.2.2.2 rfl ?_ rfl hd7 hm7 ho7 ?_ ?_ ⟨by simp, HN20.out, by simp, fun _ => by rw [HF.out, fb_some]; exact HSO.out, fun _ => by rw [HF.out, fb_bytes, ← HYS.out]; exact HRL.out⟩ ?_ ?_ ?_ ?_
            · intro k
              have h1 := cnt_del k n P HX.out.dc.asc
              have h2 := HX.out.dc.sep k
              have h3 := own1_le k (.slice p6 zs.length c6)
              have h4 := own1_le k (.slice p4 ds.length c4)
              rw [cnt_snoc]
              simp only
              by_cases hk : Value.ownBlock (.slice p6 zs.length c6) = some k
              · have h5 : own1 k (.slice p4 ds.length c4) = 0 := by
                  unfold own1
                  rw [if_neg]
                  intro e
                  obtain ⟨q1, q2, q3⟩ := HK4.out k e
                  rcases A6.out k hk with e' | e'
                  · have := (HVC.out k e').2.2; omega
                  · have := HO45.out.size; omega
                rcases A6.out k hk with e | e
                · have := (HVC.out k e).2.1; omega
                · have := cnt_new HW5.out e; omega
              · have h6 : own1 k (.slice p6 zs.length c6) = 0 := by unfold own1; rw [if_neg hk]
                by_cases hk4 : Value.ownBlock (.slice p4 ds.length c4) = some k
                · have := (HK4.out k hk4).2.2; omega
                · have : own1 k (.slice p4 ds.length c4) = 0 := by unfold own1; rw [if_neg hk4]
                  omega
            · unfold Cst.pass; rw [if_neg (by rw [HX.out.fuse]; exact hf0)]
            · exact HO5.out.trans (T := fun _ => False) (Only.of_below B6.out) (fun _ h => h) (fun _ _ h => h.elim)
            · rintro j (e | e | e)
              · rcases A6.out j e with e | e
                · exact .inl (.inr (.inr (.inr (HVC.out j e).1)))
                · exact .inr (Nat.le_trans HO5.out.size e)
              · rw [cnt_snoc] at e
                simp only at e
                have h1 := cnt_del j n P HX.out.dc.asc
                by_cases hk4 : Value.ownBlock (.slice p4 ds.length c4) = some j
                · exact .inr (Nat.le_trans (HO3.out (fun _ => True) trivial).size (HK4.out j hk4).1)
                · have : own1 j (.slice p4 ds.length c4) = 0 := by unfold own1; rw [if_neg hk4]
                  exact .inl (.inr (.inr (.inr (by omega))))
              · rcases HAT5.out j e with e | e
                · exact .inl (.inr (.inr (.inl e)))
                · exact .inr (Nat.le_trans (Nat.le_trans (HO3.out (fun _ => True) trivial).size B4.out.size) e)
            · refine ⟨rfl, rfl, by simp, fun h => by simp at h, fun _ => ?_, fun h => by simp at h, fun h => by simp at h, ?_⟩
              · rw [HF.out, fb_bytes, ← HYS.out]; exact HDR.out.symm
              · rw [HF.out, fb_tot]
                have h1 := bytesAt_le n L
                rw [← HYS.out] at h1
                simp only
                rw [← HDR.out, List.length_drop]; omega
            · rw [HF.out, htn]
              rw [fb_bytes, ← HYS.out, fb_tot] at htt
              have := HLT.out.1; omega
            · rw [HF.out, htn]
              have h1 := aput_length n zs (fb L)
              rw [fb_length] at h1
              have := HLT.out.2; omega
            · rw [fb_put, HF.out, htn])
          clear hd7 hm7 ho7 HPT
          go_wp2_with fail
          go_ret
          exact ⟨by rw [HA.out, HEND.out.1]; exact eno_0, by rw [HA.out]; exact HEND.out.2⟩
end Go.Proofs.YtbpccbhlggcmfaaGreatDoor
