/- RootWhole returns true and makes new memory alone. Condition: errors.errorType holds what its text lays. -/
import Derived.Test.YtfneadlknieppaaDoorRootM
import Derived.Deep.RegionHeld3
import Derived.Deep.CutRange
namespace Go.Proofs.YtfneadlknieppaaDoor
open Go.RowKit
open Go.Maps

/-- What holds ahead of each step. -/
structure Wh (w wr : World) (d nb : Nat) (S : Nat → Prop) (s : St) (o : Option (List Int)) (now : Rt) (nv : Value) (k : Nat) : Prop where
  cl : Cl w wr w.heap.size d S s
  hd : Hd s o
  ni : NowIs o now
  nw : RM wr S 44 nb nv now
  sk : Sk s k
theorem hd_ok {s : St} {o : Option (List Int)} {now : Rt} (h : Hd s o) (hn : NowIs o now) : Okb (rdS s rtN) := by
  rw [h.load.2]
  rcases hn with ⟨rfl, _⟩ | ⟨_, rfl⟩
  · exact Okb.nil
  · exact encR_ok _
theorem dcell_in {w W : World} {a : Addr} {u : Value} (h : w.cell? a = some u) (hb : Below w.heap.size w W) : W.cell? a = some u := by
  rw [World.cell?_of_block (w := w) (hb.block _ (World.block_lt_of_cell? w _ h))]; exact h
set_option maxRecDepth 20000 in
set_option maxHeartbeats 16000000 in
theorem rootWhole_walk (w : World) (hg : Glob w) (p0 : Option Addr) (c0 : Nat) (E : List Sr) (hE : SrSeen w p0 E) :
    Calls Tryd.prog 5 #[.slice p0 E.length c0] w fun e w' => e = .returned (.bool true) ∧ Below w.heap.size w w' := by
  have HG := Lib.hid hg
  have HE := Lib.hid hE
  obtain ⟨n, hn⟩ : ∃ n, n = E.length := ⟨_, rfl⟩
  rw [← hn]
  have HN := Lib.hid hn
  clear hg hE hn
  go_enter Tryd.func5, Tryd.ntmps5
  go_wp2_with fail
  refine (new_to w 100000).mono ?_
  rintro e w1 ⟨d, S1, rfl, d1, b1, g1⟩
  have C1 : Hid (Cl w w1 w.heap.size d S1 (St.new 100000)) := Lib.hid ⟨d1, b1, g1⟩
  clear d1 b1 g1
  go_wp2_with fail
  refine (known8_to w1 (HG.out.kb C1.out.bel)).mono ?_
  rintro e w2 ⟨rfl, b2⟩
  have C2 := Lib.hid (C1.out.kb b2)
  clear b2 C1
  go_wp2_with fail
  have W0 : Hid (Wh w (w2.alloc (.cells #[.int .i64 (-1), .slice none 0 0, .int .i64 0] 44)) d w2.heap.size S1 (St.new 100000) none ⟨-1, [], 0⟩ (.slice none 0 0) 0) := Lib.hid ⟨C2.out.kb ((Below.refl _ _).alloc (Nat.le_refl _) _), Hd.new, .inl ⟨rfl, rfl⟩, RM.new (B := 0) (r := ⟨-1, [], 0⟩) (World.ownsRow_nil _ _ _ _) C2.out.ds.lt (fun k hk => by simp [Value.ownBlock] at hk) rfl rfl rfl, Sk.new 100000⟩
  have HNB : Hid (w.heap.size ≤ w2.heap.size) := Lib.hid C2.out.bel.size
  clear C2
  generalize w2.alloc (.cells #[.int .i64 (-1), .slice none 0 0, .int .i64 0] 44) = w3 at W0 ⊢
  obtain ⟨nb, hnb⟩ : ∃ z, z = w2.heap.size := ⟨_, rfl⟩
  rw [← hnb] at W0 HNB ⊢
  clear hnb
  go_loopw [5] (fun i wr => ∃ (k : Nat) (S : Nat → Prop) (s : St) (o : Option (List Int)) (now : Rt) (nv : Value), k ≤ n ∧ k ≤ 30 ∧ i = .int .i64 k ∧ Hid (Wh w wr d nb S s o now nv (5 * k))) (fun i _ => 30 - (intOf i).toNat)
  case atStart => exact ⟨0, S1, _, _, _, _, Nat.zero_le _, Nat.zero_le _, rfl, W0⟩
  case round =>
    clear W0
    obtain ⟨k, S, s, o, now, nv, hkn, hk30, rfl, HW⟩ := hrel
    by_cases hlt : k < n
    case neg =>
      have hlt' : ¬ (k : Int) < n := by omega
      go_wp2_with fail
      go_ret
      exact ⟨rfl, HW.out.cl.bel⟩
    by_cases hlt3 : k < 30
    case neg =>
      have hlt' : (k : Int) < n := by omega
      have hlt3' : ¬ (k : Int) < 30 := by omega
      go_wp2_with fail
      go_ret
      exact ⟨rfl, HW.out.cl.bel⟩
    have hkE : k < E.length := by rw [← HN.out]; exact hlt
    obtain ⟨g, ofs, rfl, hce, hse⟩ := sr_at HE.out hkE
    generalize E[k] = x at *
    have HSE := Lib.hid hse
    have e0 : wr.cell? ⟨g, ofs + k * 7, none⟩ = some (.int .i64 x.what) := dcell_in (hce 0 _ rfl) HW.out.cl.bel
    have e1 : wr.cell? ⟨g, ofs + k * 7 + 1, none⟩ = some (.int .i64 x.n) := dcell_in (hce 1 _ rfl) HW.out.cl.bel
    have e2 : wr.cell? ⟨g, ofs + k * 7 + 2, none⟩ = some (.int .i64 x.cut) := dcell_in (hce 2 _ rfl) HW.out.cl.bel
    have e3 : wr.cell? ⟨g, ofs + k * 7 + 3, none⟩ = some (.int .i64 x.r.gen) := dcell_in (hce 3 _ rfl) HW.out.cl.bel
    have e4 : wr.cell? ⟨g, ofs + k * 7 + 4, none⟩ = some (.int .i64 x.r.idx) := dcell_in (hce 4 _ rfl) HW.out.cl.bel
    have e5 : wr.cell? ⟨g, ofs + k * 7 + 5, none⟩ = some (.int .i64 x.r.how) := dcell_in (hce 5 _ rfl) HW.out.cl.bel
    have e6 : wr.cell? ⟨g, ofs + k * 7 + 6, none⟩ = some (.slice x.q x.r.logs.length x.c) := dcell_in (hce 6 _ rfl) HW.out.cl.bel
    clear hce hse
    have hlt' : (k : Int) < n := by omega
    have hlt3' : (k : Int) < 30 := by omega
    go_upto_region 9 with fail
    have b4 : Below wr.heap.size wr (wr.alloc (.cells #[.int .i64 x.what, .int .i64 x.n, .int .i64 x.cut, .int .i64 x.r.gen, .int .i64 x.r.idx, .int .i64 x.r.how, .slice x.q x.r.logs.length x.c] 54)) := (Below.refl _ wr).alloc (Nat.le_refl _) _
    have X4 : Hid (Xs (wr.alloc (.cells #[.int .i64 x.what, .int .i64 x.n, .int .i64 x.cut, .int .i64 x.r.gen, .int .i64 x.r.idx, .int .i64 x.r.how, .slice x.q x.r.logs.length x.c] 54)) S wr.heap.size x) := Lib.hid ⟨heap_alloc_last wr _, fun e => by have := HW.out.cl.ds.lt _ e; omega⟩
    have W4 : Hid (Wh w (wr.alloc (.cells #[.int .i64 x.what, .int .i64 x.n, .int .i64 x.cut, .int .i64 x.r.gen, .int .i64 x.r.idx, .int .i64 x.r.how, .slice x.q x.r.logs.length x.c] 54)) d nb S s o now nv (5 * k)) := Lib.hid ⟨HW.out.cl.kb b4, HW.out.hd, HW.out.ni, HW.out.nw.kb b4, HW.out.sk⟩
    have NX : Hid (wr.heap.size ≠ nb ∧ w.heap.size ≤ wr.heap.size) := Lib.hid ⟨fun e => by have := HW.out.nw.lt; omega, HW.out.cl.bel.size⟩
    clear b4 HW e0 e1 e2 e3 e4 e5 e6
    generalize wr.alloc (.cells #[.int .i64 x.what, .int .i64 x.n, .int .i64 x.cut, .int .i64 x.r.gen, .int .i64 x.r.idx, .int .i64 x.r.how, .slice x.q x.r.logs.length x.c] 54) = w4 at X4 W4 ⊢
    obtain ⟨xb, hxb⟩ : ∃ z, z = wr.heap.size := ⟨_, rfl⟩
    rw [← hxb] at X4 NX ⊢
    clear hxb
    have x0 := X4.out.c0
    have x1 := X4.out.c1
    go_upto_if 41 with fail
    go_cut [41] from 42 to 46 (fun _ wx => ∃ (S : Nat → Prop) (s : St), Hid (Xs wx S xb x) ∧ Hid (Wh w wx d nb S s o now nv (5 * k)))
    case first =>
      by_cases h3 : x.what.tmod 3 = 0
      · have h3' : (x.what.tmod 3 == 0) = true := by simpa using h3
        have HF := Lib.hid (fuse8_ds w4 _ d S s (x.n % 8) W4.out.cl.ds)
        clear h3
        go_wp2_with (go_at_call 17; refine (pick_any _ x.n 8 (by decide) (by decide)).mono ?_; rintro e w' ⟨rfl, rfl⟩)
        refine HF.out.mono ?_
        rintro e w5 ⟨rfl, S5, d5, o5, s5⟩
        have X5 := Lib.hid (X4.out.step o5 s5)
        have W5 : Hid (Wh w w5 d nb S5 { s with fuse := x.n % 8 } o now nv (5 * k)) := Lib.hid ⟨W4.out.cl.step d5 o5 s5, W4.out.hd.setFuse _, W4.out.ni, W4.out.nw.step o5 s5, W4.out.sk.setFuse (by omega)⟩
        clear d5 o5 s5 x0 x1
        go_wp2_with fail
        go_meet
        case rel => exact ⟨S5, _, X5, W5⟩
      · have h3' : (x.what.tmod 3 == 0) = false := by simpa using h3
        clear h3
        go_wp2_with fail
        go_meet
        case rel => exact ⟨S, s, X4, W4⟩
    case rest =>
      clear X4 W4 x0 x1
      obtain ⟨S, s, X4, W4⟩ := hcut
      obtain ⟨x3, x4, x5, x6⟩ := X4.out.r
      go_wp2_with fail
      refine (one_to wc x.r _ (HSE.out.kb W4.out.cl.bel)).mono ?_
      rintro e w5 ⟨lv, rfl, ov, b5⟩
      obtain ⟨R, hR⟩ : ∃ z, z = oneR x.r := ⟨_, rfl⟩
      have HRN : Hid (R.logs.length ≤ 10) := Lib.hid (by rw [hR]; exact oneR_len _)
      rw [← hR] at ov ⊢
      obtain ⟨pl, cl, rfl⟩ := own_slice ov
      have X5 := Lib.hid (X4.out.kb b5)
      have W5 : Hid (Wh w w5 d nb S s o now nv (5 * k)) := Lib.hid ⟨W4.out.cl.kb b5, W4.out.hd, W4.out.ni, W4.out.nw.kb b5, W4.out.sk⟩
      have OV5 := Lib.hid ov
      have OVS : Hid (∀ k, (Value.slice pl R.logs.length cl).ownBlock = some k → ¬ S k) := Lib.hid (fun k hk e => by have h1 := (ov.lt k hk).1; have h2 := W4.out.cl.ds.lt _ e; omega)
      clear x3 x4 x5 x6 ov b5 X4 W4 hR
      go_wp2_with fail
      have b6 : Below w5.heap.size w5 (w5.alloc (.cells #[.int .i64 R.gen, .slice pl R.logs.length cl, .int .i64 R.idx] 24)) := (Below.refl _ _).alloc (Nat.le_refl _) _
      have RR6 : Hid (RM (w5.alloc (.cells #[.int .i64 R.gen, .slice pl R.logs.length cl, .int .i64 R.idx] 24)) S 24 w5.heap.size (.slice pl R.logs.length cl) R) := Lib.hid (RM.new OV5.out W5.out.cl.ds.lt OVS.out rfl rfl rfl)
      have X6 := Lib.hid (X5.out.kb b6)
      have W6 : Hid (Wh w (w5.alloc (.cells #[.int .i64 R.gen, .slice pl R.logs.length cl, .int .i64 R.idx] 24)) d nb S s o now nv (5 * k)) := Lib.hid ⟨W5.out.cl.kb b6, W5.out.hd, W5.out.ni, W5.out.nw.kb b6, W5.out.sk⟩
      have HRN2 : Hid (w5.heap.size ≠ nb ∧ w5.heap.size ≠ xb) := Lib.hid ⟨fun e => by have := W5.out.nw.lt; omega, fun e => by have := X5.out.lt; omega⟩
      clear b6 X5 W5 OV5 OVS
      generalize w5.alloc (.cells #[.int .i64 R.gen, .slice pl R.logs.length cl, .int .i64 R.idx] 24) = w6 at RR6 X6 W6 ⊢
      obtain ⟨rb, hrb⟩ : ∃ z, z = w5.heap.size := ⟨_, rfl⟩
      rw [← hrb] at RR6 HRN2 ⊢
      clear hrb
      refine (plain_to w6 R.gen R.idx pl R.logs.length cl).mono ?_
      rintro e w7 ⟨rfl, b7⟩
      have RR7 := Lib.hid (RR6.out.kb b7)
      have X7 := Lib.hid (X6.out.kb b7)
      have W7 : Hid (Wh w w7 d nb S s o now nv (5 * k)) := Lib.hid ⟨W6.out.cl.kb b7, W6.out.hd, W6.out.ni, W6.out.nw.kb b7, W6.out.sk⟩
      clear b7 RR6 X6 W6
      go_wp2_with fail
      refine (xlay_to w7 R.gen R.idx _ R.logs RR7.out.seen (Nat.le_trans HRN.out (by decide))).mono ?_
      rintro e w8 ⟨v8, rfl, o8, b8⟩
      obtain ⟨p8, c8, rfl⟩ := own_slice o8
      have RR8 := Lib.hid (RR7.out.kb b8)
      have X8 := Lib.hid (X7.out.kb b8)
      have W8 : Hid (Wh w w8 d nb S s o now nv (5 * k)) := Lib.hid ⟨W7.out.cl.kb b8, W7.out.hd, W7.out.ni, W7.out.nw.kb b8, W7.out.sk⟩
      rw [show (⟨R.gen, R.logs, R.idx⟩ : Rt) = R from rfl]
      clear b8 o8 RR7 X7 W7
      by_cases hok : okR R = true
      case neg =>
        rw [layR_no hok]
        clear hok
        go_wp2_with fail
        exact ⟨⟨k + 1, S, s, o, now, nv, by omega, by omega, by go_num, Lib.hid ⟨W8.out.cl, W8.out.hd, W8.out.ni, W8.out.nw, W8.out.sk.mono (by omega)⟩⟩, by simp [intOf]; omega⟩
      have HOK := Lib.hid hok
      rw [layR_yes hok]
      clear hok
      obtain ⟨r0, r1, r2, _⟩ := RR8.out.cells
      go_wp2_with fail
      have HSV := Lib.hid (rsave_to w8 _ d S s R.gen R.idx _ R.logs W8.out.cl.ds (W8.out.sk.sm (by omega)) RR8.out.seen)
      rw [show (⟨R.gen, R.logs, R.idx⟩ : Rt) = R from rfl, svS_yes HOK.out] at HSV
      refine HSV.out.mono ?_
      rintro e w9 ⟨v9, rfl, he, S9, d9, o9, s9⟩
      have hsc := save_cases W8.out.hd (encR_len HOK.out)
      have HWB := Lib.hid (wb_save s (encR R))
      have HS0 := Lib.hid (W8.out.sk.wb HWB.out)
      obtain ⟨t, ht⟩ : ∃ z, z = saveS s (encR R) := ⟨_, rfl⟩
      rw [← ht] at he d9 hsc HS0
      have RR9 := Lib.hid (RR8.out.step o9 s9)
      have X9 := Lib.hid (X8.out.step o9 s9)
      have NW9 := Lib.hid (W8.out.nw.step o9 s9)
      have C9 := Lib.hid (W8.out.cl.step d9 o9 s9)
      have NI := Lib.hid W8.out.ni
      have HE9 := Lib.hid he
      have HC := Lib.hid hsc
      clear r0 r1 r2 he d9 o9 s9 hsc ht HSV RR8 X8 W8 HWB
      obtain ⟨pn, cn, rfl⟩ := own_slice NW9.out.own
      obtain ⟨n0, n1, n2, _⟩ := NW9.out.cells
      go_upto_region 16 with fail
      clear n0 n1 n2
      have b10 : Below w9.heap.size w9 (w9.alloc (.cells #[.int .i64 now.gen, .slice pn now.logs.length cn, .int .i64 now.idx] 44)) := (Below.refl _ _).alloc (Nat.le_refl _) _
      have WAS0 : Hid (RM (w9.alloc (.cells #[.int .i64 now.gen, .slice pn now.logs.length cn, .int .i64 now.idx] 44)) S9 44 w9.heap.size (.slice pn now.logs.length cn) now) := Lib.hid (RM.new NW9.out.own C9.out.ds.lt NW9.out.out rfl rfl rfl)
      have RR0 := Lib.hid (RR9.out.kb b10)
      have X0 := Lib.hid (X9.out.kb b10)
      have N0 := Lib.hid (NW9.out.kb b10)
      have C0 := Lib.hid (C9.out.kb b10)
      have HE0 := Lib.hid (HE9.out.kb b10)
      have HWN : Hid (w9.heap.size ≠ nb) := Lib.hid (fun e => by have := NW9.out.lt; omega)
      clear b10 RR9 X9 NW9 C9 HE9
      generalize w9.alloc (.cells #[.int .i64 now.gen, .slice pn now.logs.length cn, .int .i64 now.idx] 44) = w10 at WAS0 RR0 X0 N0 C0 HE0 ⊢
      obtain ⟨wb, hwb⟩ : ∃ z, z = w9.heap.size := ⟨_, rfl⟩
      rw [← hwb] at WAS0 HWN ⊢
      clear hwb
      rcases HC.out with ⟨K, P, hfl, hcr⟩ | ⟨hz, hhd, _⟩
      case inl =>
        have hv9 : ∃ tv xv, v9 = .iface tv xv := by
          rcases HE0.out with ⟨h, _⟩ | ⟨_, h⟩ | ⟨_, g, h, _⟩
          · rw [hfl.err] at h; cases h
          · exact ⟨_, _, h⟩
          · exact ⟨_, _, h⟩
        obtain ⟨tv, xv, rfl⟩ := hv9
        have HDD : Hid (t.2.dead = true) := Lib.hid hfl.dead
        have HCS := Lib.hid (hfl.crash hcr x.n x.cut)
        have HDE : Hid (∀ W, DS W w.heap.size d S9 t.2 → Calls Tryd.prog 21 #[.pointer (some ⟨d, 0, none⟩)] W fun e w' => e = .returned (.bool true) ∧ W = w') := Lib.hid (fun W h => by have := dead8_ds W _ d S9 t.2 h; rw [HDD.out] at this; exact this)
        have hnn := nil_iface tv xv
        have HCR := Lib.hid (crash_to w10 _ d S9 t.2 x.n x.cut C0.out.ds (by have := HS0.out.works; omega))
        have x1 := X0.out.c1
        have x2 := X0.out.c2
        clear hfl hcr HC HE0
        go_wp2_with (go_at_call 21; refine (HDE.out _ C0.out.ds).mono ?_; rintro e w' ⟨rfl, rfl⟩)
        refine HCR.out.mono ?_
        rintro e w13 ⟨rfl, SL, d5, o5, s5⟩
        obtain ⟨sL, hsL⟩ : ∃ z, z = t.2.crash x.n x.cut := ⟨_, rfl⟩
        have SK0 : Hid (Sk sL (5 * k + 5)) := Lib.hid (by rw [hsL]; exact HS0.out.crash _ _)
        have SK : Hid (Sk sL (5 * (k + 1))) := Lib.hid SK0.out
        rw [← hsL] at d5 HCS
        have CL0 := Lib.hid (C0.out.step d5 o5 s5)
        have RR00 := Lib.hid (RR0.out.step o5 s5)
        have NW0 := Lib.hid (N0.out.step o5 s5)
        have WAS00 := Lib.hid (WAS0.out.step o5 s5)
        clear d5 o5 s5 x1 x2 hsL SK0 HS0 C0 RR0 N0 WAS0 X0 HCR HDE HDD
        go_wp2_with fail
        rcases HCS.out with hd | hd
        case inr =>
          have HD := Lib.hid hd
          clear hd HCS
          refine (rload_to w13 _ d SL sL CL0.out.ds (by rw [HD.out.load.2]; exact encR_ok R)).mono ?_
          rintro e w14 ⟨gL, vL, iL, cL, lL, rfl, ovL, hlL, b14⟩
          obtain ⟨rfl, hLR⟩ := HD.out.ldsome HOK.out hlL
          as_aux_lemma =>
            obtain ⟨L, hL⟩ : ∃ z : Rt, z = ⟨gL, lL, iL⟩ := ⟨_, rfl⟩
            have HLR : Hid (L = R) := Lib.hid (by rw [hL]; exact hLR)
            obtain ⟨rfl, rfl, rfl⟩ : gL = L.gen ∧ lL = L.logs ∧ iL = L.idx := by rw [hL]; exact ⟨rfl, rfl, rfl⟩
            obtain ⟨pv, cv, rfl⟩ := own_slice ovL
            rw [show enoOf 0 = .nilIface from rfl]
            have OVL := Lib.hid ovL
            have OVS : Hid (∀ k, (Value.slice pv L.logs.length cv).ownBlock = some k → ¬ SL k) := Lib.hid (fun k hk e => by have h1 := (ovL.lt k hk).1; have h2 := CL0.out.ds.lt _ e; omega)
            have RR1 := Lib.hid (RR00.out.kb b14)
            have NW1 := Lib.hid (NW0.out.kb b14)
            have WAS1 := Lib.hid (WAS00.out.kb b14)
            have CL1 := Lib.hid (CL0.out.kb b14)
            clear ovL hlL hLR hL b14 RR00 NW0 WAS00 CL0
            go_upto_region 23 with fail
            have b15 : Below w14.heap.size w14 (w14.alloc (.cells #[.int .i64 L.gen, .slice pv L.logs.length cv, .int .i64 L.idx] 24)) := (Below.refl _ _).alloc (Nat.le_refl _) _
            have LL := Lib.hid (RM.new (S := SL) (T := 24) OVL.out CL1.out.ds.lt OVS.out rfl rfl rfl)
            have RR := Lib.hid (RR1.out.kb b15)
            have NWB := Lib.hid (NW1.out.kb b15)
            have WAS := Lib.hid (WAS1.out.kb b15)
            have CL := Lib.hid (CL1.out.kb b15)
            clear b15 OVL OVS RR1 NW1 WAS1 CL1
            generalize w14.alloc (.cells #[.int .i64 L.gen, .slice pv L.logs.length cv, .int .i64 L.idx] 24) = wl at LL RR NWB WAS CL ⊢
            obtain ⟨qb, hqb⟩ : ∃ z, z = w14.heap.size := ⟨_, rfl⟩
            rw [← hqb] at LL ⊢
            clear hqb
            have HLI : Hid (∀ W, Below wl.heap.size wl W → ISeen W (.slice pv L.logs.length cv) L.logs) := Lib.hid (fun W hb => LL.out.seen.kb hb)
            have HNI : Hid (∀ W, Below wl.heap.size wl W → ISeen W (.slice pn now.logs.length cn) now.logs) := Lib.hid (fun W hb => WAS.out.seen.kb hb)
            have HRI : Hid (∀ W, Below wl.heap.size wl W → ISeen W (.slice pl R.logs.length cl) R.logs) := Lib.hid (fun W hb => RR.out.seen.kb hb)
            have HCB : Hid (Below w.heap.size w wl) := Lib.hid CL.out.bel
            have HS1 : Hid (∀ W, Below wl.heap.size wl W → W.cell? ⟨qb, 0, none⟩ = some (.int .i64 L.gen) ∧ W.cell? ⟨qb, 1, none⟩ = some (.slice pv L.logs.length cv) ∧ W.cell? ⟨qb, 2, none⟩ = some (.int .i64 L.idx) ∧ W.cell? ⟨wb, 0, none⟩ = some (.int .i64 now.gen) ∧ W.cell? ⟨wb, 1, none⟩ = some (.slice pn now.logs.length cn) ∧ W.cell? ⟨wb, 2, none⟩ = some (.int .i64 now.idx)) := Lib.hid (fun W hb => by
              obtain ⟨a0, a1, a2, _⟩ := (LL.out.kb hb).cells
              obtain ⟨b0, b1, b2, _⟩ := (WAS.out.kb hb).cells
              exact ⟨a0, a1, a2, b0, b1, b2⟩)
            have HS2 : Hid (∀ W, Below wl.heap.size wl W → W.cell? ⟨qb, 0, none⟩ = some (.int .i64 L.gen) ∧ W.cell? ⟨qb, 1, none⟩ = some (.slice pv L.logs.length cv) ∧ W.cell? ⟨qb, 2, none⟩ = some (.int .i64 L.idx) ∧ W.cell? ⟨rb, 0, none⟩ = some (.int .i64 R.gen) ∧ W.cell? ⟨rb, 1, none⟩ = some (.slice pl R.logs.length cl) ∧ W.cell? ⟨rb, 2, none⟩ = some (.int .i64 R.idx)) := Lib.hid (fun W hb => by
              obtain ⟨a0, a1, a2, _⟩ := (LL.out.kb hb).cells
              obtain ⟨b0, b1, b2, _⟩ := (RR.out.kb hb).cells
              exact ⟨a0, a1, a2, b0, b1, b2⟩)
            obtain ⟨nowN, hnowN⟩ : ∃ z, z = now := ⟨_, rfl⟩
            obtain ⟨lm, hlm⟩ : ∃ z, z = L.logs.length := ⟨_, rfl⟩
            obtain ⟨nm, hnm⟩ : ∃ z, z = now.logs.length := ⟨_, rfl⟩
            obtain ⟨rm, hrm⟩ : ∃ z, z = R.logs.length := ⟨_, rfl⟩
            rw [← hlm] at HS1 HS2 HLI ⊢
            rw [← hnm] at HS1 HNI NWB ⊢
            rw [← hrm] at HS2 HRI RR ⊢
            obtain ⟨nvN, hnvN⟩ : ∃ z, z = Value.slice pn nm cn := ⟨_, rfl⟩
            rw [← hnvN, ← hnowN] at NWB
            have HNN : Hid (nowN = now) := Lib.hid hnowN
            clear hlm hnm hrm LL WAS hnvN hnowN
            obtain ⟨o2, ho2⟩ : ∃ z : Option (List Int), z = some (encR R) := ⟨_, rfl⟩
            have FIN : Hid (Hd sL o2 ∧ NowIs o2 R) := Lib.hid ⟨by rw [ho2]; exact HD.out, .inr ⟨HOK.out, ho2⟩⟩
            clear ho2 HD
            have HLL : Hid (L.logs.length ≤ 1000000) := Lib.hid (by rw [HLR.out]; exact Nat.le_trans HRN.out (by decide))
            have HSF : Hid (sameR L R = true) := Lib.hid (sameR_iff.2 HLR.out)
            cases hso : sameR L now with
            | true =>
              have HSO := Lib.hid hso
              clear hso
              --TAIL false true true
              go_wp2_with fail
              have s0 := HS1.out wl.drew (below_dw (Below.refl _ _))
              try simp only [List.append]
              refine wp_region_noPanic ?_
              refine wp_region_held_drew (S := (fun W => W.cell? ⟨qb, 0, none⟩ = some (.int .i64 L.gen) ∧ W.cell? ⟨qb, 1, none⟩ = some (.slice pv lm cv) ∧ W.cell? ⟨qb, 2, none⟩ = some (.int .i64 L.idx) ∧ W.cell? ⟨wb, 0, none⟩ = some (.int .i64 now.gen) ∧ W.cell? ⟨wb, 1, none⟩ = some (.slice pn nm cn) ∧ W.cell? ⟨wb, 2, none⟩ = some (.int .i64 now.idx))) (by kernel_rfl) s0 (fun hHeld => ?_)
              refine wpAnyH_take (i := 0) (v := ?_) (by simp only [List.getElem?_toArray, List.getElem?_cons_zero]; rfl) (by kernel_rfl) (by kernel_rfl) (by kernel_rfl) (fun _ _ _ h => h) (Or.inl ⟨by rfl, ?_⟩) (by assumption) ?_
              rotate_left
              · intro w hSw
                try dsimp only at hSw
                go_simp
                try with_reducible rfl
              try simp only [Act.put, List.setIfInBounds_toArray, List.set_cons_zero, List.set_cons_succ]
              refine wpAnyH_take (i := 1) (v := (.bool true)) (by simp only [List.getElem?_toArray, List.getElem?_cons_succ, List.getElem?_cons_zero]; rfl) (by kernel_rfl) (by kernel_rfl) (by kernel_rfl) (fun _ _ _ h => h) (Or.inl ⟨by rfl, ?_⟩) (by assumption) ?_
              · intro w hSw
                try dsimp only at hSw
                go_simp
              try simp only [Act.put, List.setIfInBounds_toArray, List.set_cons_zero, List.set_cons_succ]
              refine wpAnyH_take (i := 2) (v := ?_) (by simp only [List.getElem?_toArray, List.getElem?_cons_succ, List.getElem?_cons_zero]; rfl) (by kernel_rfl) (by kernel_rfl) (by kernel_rfl) (fun _ _ _ h => h) (Or.inl ⟨by rfl, ?_⟩) (by assumption) ?_
              rotate_left
              · intro w hSw
                try dsimp only at hSw
                go_simp
                try with_reducible rfl
              try simp only [Act.put, List.setIfInBounds_toArray, List.set_cons_zero, List.set_cons_succ]
              refine wpAnyH_take (i := 3) (v := ?_) (by simp only [List.getElem?_toArray, List.getElem?_cons_succ, List.getElem?_cons_zero]; rfl) (by kernel_rfl) (by kernel_rfl) (by kernel_rfl) (fun _ _ _ h => h) (Or.inl ⟨by rfl, ?_⟩) (by assumption) ?_
              rotate_left
              · intro w hSw
                try dsimp only at hSw
                go_simp
                try with_reducible rfl
              try simp only [Act.put, List.setIfInBounds_toArray, List.set_cons_zero, List.set_cons_succ]
              refine wpAnyH_take (i := 5) (v := ?_) (by simp only [List.getElem?_toArray, List.getElem?_cons_succ, List.getElem?_cons_zero]; rfl) (by kernel_rfl) (by kernel_rfl) (by kernel_rfl) (fun _ _ _ h => h) (Or.inl ⟨by rfl, ?_⟩) (by assumption) ?_
              rotate_left
              · intro w hSw
                try dsimp only at hSw
                go_simp
                try with_reducible rfl
              try simp only [Act.put, List.setIfInBounds_toArray, List.set_cons_zero, List.set_cons_succ]
              refine wpAnyH_ready (rs := [4]) (by kernel_rfl) (by simp) ?_
              refine AllReadyH.cons (by simp only [List.getElem?_toArray, List.getElem?_cons_succ, List.getElem?_cons_zero]; rfl) (fun K hK => ?_) AllReadyH.nil
              go_simp
              refine (plain_to wl.drew L.gen L.idx pv lm cv).mono ?_
              rintro e v1 ⟨rfl, bb⟩
              have BV1 : Hid (Below wl.heap.size wl v1) := Lib.hid ⟨bb.os, bb.tape, bb.output, bb.size, bb.block⟩
              have s1 := HS1.out v1 BV1.out
              clear bb
              go_wp2_with fail
              refine hK.out _ _ s1 (fun hHeld => ?_)
              clear hK K
              try simp only [Act.put, List.setIfInBounds_toArray, List.set_cons_zero, List.set_cons_succ]
              refine wpAnyH_ready (rs := [6]) (by kernel_rfl) (by simp) ?_
              refine AllReadyH.cons (by simp only [List.getElem?_toArray, List.getElem?_cons_succ, List.getElem?_cons_zero]; rfl) (fun K hK => ?_) AllReadyH.nil
              go_simp
              refine (sameRoot_to v1 L.gen L.idx now.gen now.idx (.slice pv lm cv) (.slice pn nm cn) L.logs now.logs HLL.out (HLI.out v1 BV1.out) (HNI.out v1 BV1.out)).mono ?_
              rintro e v2 ⟨rfl, bb⟩
              rw [show sameR ⟨L.gen, L.logs, L.idx⟩ ⟨now.gen, now.logs, now.idx⟩ = true from HSO.out]
              have BV2 : Hid (Below wl.heap.size wl v2) := Lib.hid (BV1.out.trans (bb.mono BV1.out.size))
              have s2 := HS1.out v2 BV2.out
              clear bb
              go_wp2_with fail
              refine hK.out _ _ s2 (fun hHeld => ?_)
              clear hK K
              try simp only [Act.put, List.setIfInBounds_toArray, List.set_cons_zero, List.set_cons_succ]
              refine wpAnyH_take (i := 7) (v := (.bool true)) (by simp only [List.getElem?_toArray, List.getElem?_cons_succ, List.getElem?_cons_zero]; rfl) (by kernel_rfl) (by kernel_rfl) (by kernel_rfl) (fun _ _ _ h => h) (Or.inl ⟨by rfl, ?_⟩) (by assumption) ?_
              · intro w hSw
                try dsimp only at hSw
                go_simp
              try simp only [Act.put, List.setIfInBounds_toArray, List.set_cons_zero, List.set_cons_succ]
              refine wpAnyH_take (i := 8) (v := ?_) (by simp only [List.getElem?_toArray, List.getElem?_cons_succ, List.getElem?_cons_zero]; rfl) (by kernel_rfl) (by kernel_rfl) (by kernel_rfl) (fun _ _ _ h => h) (Or.inl ⟨by rfl, ?_⟩) (by assumption) ?_
              rotate_left
              · intro w hSw
                try dsimp only at hSw
                go_simp
                try with_reducible rfl
              try simp only [Act.put, List.setIfInBounds_toArray, List.set_cons_zero, List.set_cons_succ]
              refine wpAnyH_take (i := 9) (v := undef) (by simp only [List.getElem?_toArray, List.getElem?_cons_succ, List.getElem?_cons_zero]; rfl) (by kernel_rfl) (by kernel_rfl) (by kernel_rfl) (fun _ _ _ h => h) (Or.inr ⟨by rfl, rfl⟩) (by assumption) ?_
              try simp only [Act.put, List.setIfInBounds_toArray, List.set_cons_zero, List.set_cons_succ]
              refine wpAnyH_take (i := 10) (v := undef) (by simp only [List.getElem?_toArray, List.getElem?_cons_succ, List.getElem?_cons_zero]; rfl) (by kernel_rfl) (by kernel_rfl) (by kernel_rfl) (fun _ _ _ h => h) (Or.inr ⟨by rfl, rfl⟩) (by assumption) ?_
              try simp only [Act.put, List.setIfInBounds_toArray, List.set_cons_zero, List.set_cons_succ]
              refine wpAnyH_take (i := 11) (v := undef) (by simp only [List.getElem?_toArray, List.getElem?_cons_succ, List.getElem?_cons_zero]; rfl) (by kernel_rfl) (by kernel_rfl) (by kernel_rfl) (fun _ _ _ h => h) (Or.inr ⟨by rfl, rfl⟩) (by assumption) ?_
              try simp only [Act.put, List.setIfInBounds_toArray, List.set_cons_zero, List.set_cons_succ]
              refine wpAnyH_take (i := 12) (v := undef) (by simp only [List.getElem?_toArray, List.getElem?_cons_succ, List.getElem?_cons_zero]; rfl) (by kernel_rfl) (by kernel_rfl) (by kernel_rfl) (fun _ _ _ h => h) (Or.inr ⟨by rfl, rfl⟩) (by assumption) ?_
              try simp only [Act.put, List.setIfInBounds_toArray, List.set_cons_zero, List.set_cons_succ]
              refine wpAnyH_take (i := 13) (v := undef) (by simp only [List.getElem?_toArray, List.getElem?_cons_succ, List.getElem?_cons_zero]; rfl) (by kernel_rfl) (by kernel_rfl) (by kernel_rfl) (fun _ _ _ h => h) (Or.inr ⟨by rfl, rfl⟩) (by assumption) ?_
              try simp only [Act.put, List.setIfInBounds_toArray, List.set_cons_zero, List.set_cons_succ]
              refine wpAnyH_take (i := 14) (v := undef) (by simp only [List.getElem?_toArray, List.getElem?_cons_succ, List.getElem?_cons_zero]; rfl) (by kernel_rfl) (by kernel_rfl) (by kernel_rfl) (fun _ _ _ h => h) (Or.inr ⟨by rfl, rfl⟩) (by assumption) ?_
              try simp only [Act.put, List.setIfInBounds_toArray, List.set_cons_zero, List.set_cons_succ]
              refine wpAnyH_take (i := 15) (v := undef) (by simp only [List.getElem?_toArray, List.getElem?_cons_succ, List.getElem?_cons_zero]; rfl) (by kernel_rfl) (by kernel_rfl) (by kernel_rfl) (fun _ _ _ h => h) (Or.inr ⟨by rfl, rfl⟩) (by assumption) ?_
              try simp only [Act.put, List.setIfInBounds_toArray, List.set_cons_zero, List.set_cons_succ]
              refine wpAnyH_take (i := 16) (v := undef) (by simp only [List.getElem?_toArray, List.getElem?_cons_succ, List.getElem?_cons_zero]; rfl) (by kernel_rfl) (by kernel_rfl) (by kernel_rfl) (fun _ _ _ h => h) (Or.inr ⟨by rfl, rfl⟩) (by assumption) ?_
              try simp only [Act.put, List.setIfInBounds_toArray, List.set_cons_zero, List.set_cons_succ]
              refine wpAnyH_take (i := 17) (v := (.bool true)) (by simp only [List.getElem?_toArray, List.getElem?_cons_succ, List.getElem?_cons_zero]; rfl) (by kernel_rfl) (by kernel_rfl) (by kernel_rfl) (fun _ _ _ h => h) (Or.inl ⟨by rfl, ?_⟩) (by assumption) ?_
              · intro w hSw
                try dsimp only at hSw
                go_simp
              try simp only [Act.put, List.setIfInBounds_toArray, List.set_cons_zero, List.set_cons_succ]
              refine wpAnyH_take (i := 18) (v := ?_) (by simp only [List.getElem?_toArray, List.getElem?_cons_succ, List.getElem?_cons_zero]; rfl) (by kernel_rfl) (by kernel_rfl) (by kernel_rfl) (fun _ _ _ h => h) (Or.inl ⟨by rfl, ?_⟩) (by assumption) ?_
              rotate_left
              · intro w hSw
                try dsimp only at hSw
                go_simp
                try with_reducible rfl
              try simp only [Act.put, List.setIfInBounds_toArray, List.set_cons_zero, List.set_cons_succ]
              refine wpAnyH_done (by kernel_rfl) ?_ _
              refine NoPanic.normal ?_
              have BV3 := BV2
              obtain ⟨v3, hv3⟩ : ∃ z, z = v2 := ⟨_, rfl⟩
              rw [← hv3] at BV3 ⊢
              clear hv3
              go_wp2_with fail
              have q0 := HS2.out v3.drew (below_dw BV3.out)
              try simp only [List.append]
              refine wp_region_noPanic ?_
              refine wp_region_held_drew (S := (fun W => W.cell? ⟨qb, 0, none⟩ = some (.int .i64 L.gen) ∧ W.cell? ⟨qb, 1, none⟩ = some (.slice pv lm cv) ∧ W.cell? ⟨qb, 2, none⟩ = some (.int .i64 L.idx) ∧ W.cell? ⟨rb, 0, none⟩ = some (.int .i64 R.gen) ∧ W.cell? ⟨rb, 1, none⟩ = some (.slice pl rm cl) ∧ W.cell? ⟨rb, 2, none⟩ = some (.int .i64 R.idx))) (by kernel_rfl) q0 (fun hHeld => ?_)
              refine wpAnyH_take (i := 0) (v := ?_) (by simp only [List.getElem?_toArray, List.getElem?_cons_zero]; rfl) (by kernel_rfl) (by kernel_rfl) (by kernel_rfl) (fun _ _ _ h => h) (Or.inl ⟨by rfl, ?_⟩) (by assumption) ?_
              rotate_left
              · intro w hSw
                try dsimp only at hSw
                go_simp
                try with_reducible rfl
              try simp only [Act.put, List.setIfInBounds_toArray, List.set_cons_zero, List.set_cons_succ]
              refine wpAnyH_take (i := 1) (v := (.bool true)) (by simp only [List.getElem?_toArray, List.getElem?_cons_succ, List.getElem?_cons_zero]; rfl) (by kernel_rfl) (by kernel_rfl) (by kernel_rfl) (fun _ _ _ h => h) (Or.inl ⟨by rfl, ?_⟩) (by assumption) ?_
              · intro w hSw
                try dsimp only at hSw
                go_simp
              try simp only [Act.put, List.setIfInBounds_toArray, List.set_cons_zero, List.set_cons_succ]
              refine wpAnyH_take (i := 2) (v := ?_) (by simp only [List.getElem?_toArray, List.getElem?_cons_succ, List.getElem?_cons_zero]; rfl) (by kernel_rfl) (by kernel_rfl) (by kernel_rfl) (fun _ _ _ h => h) (Or.inl ⟨by rfl, ?_⟩) (by assumption) ?_
              rotate_left
              · intro w hSw
                try dsimp only at hSw
                go_simp
                try with_reducible rfl
              try simp only [Act.put, List.setIfInBounds_toArray, List.set_cons_zero, List.set_cons_succ]
              refine wpAnyH_take (i := 3) (v := ?_) (by simp only [List.getElem?_toArray, List.getElem?_cons_succ, List.getElem?_cons_zero]; rfl) (by kernel_rfl) (by kernel_rfl) (by kernel_rfl) (fun _ _ _ h => h) (Or.inl ⟨by rfl, ?_⟩) (by assumption) ?_
              rotate_left
              · intro w hSw
                try dsimp only at hSw
                go_simp
                try with_reducible rfl
              try simp only [Act.put, List.setIfInBounds_toArray, List.set_cons_zero, List.set_cons_succ]
              refine wpAnyH_take (i := 5) (v := ?_) (by simp only [List.getElem?_toArray, List.getElem?_cons_succ, List.getElem?_cons_zero]; rfl) (by kernel_rfl) (by kernel_rfl) (by kernel_rfl) (fun _ _ _ h => h) (Or.inl ⟨by rfl, ?_⟩) (by assumption) ?_
              rotate_left
              · intro w hSw
                try dsimp only at hSw
                go_simp
                try with_reducible rfl
              try simp only [Act.put, List.setIfInBounds_toArray, List.set_cons_zero, List.set_cons_succ]
              refine wpAnyH_ready (rs := [4]) (by kernel_rfl) (by simp) ?_
              refine AllReadyH.cons (by simp only [List.getElem?_toArray, List.getElem?_cons_succ, List.getElem?_cons_zero]; rfl) (fun K hK => ?_) AllReadyH.nil
              go_simp
              refine (plain_to v3.drew L.gen L.idx pv lm cv).mono ?_
              rintro e v4 ⟨rfl, bb⟩
              have BV4 : Hid (Below wl.heap.size wl v4) := Lib.hid (BV3.out.trans (Below.mono ⟨bb.os, bb.tape, bb.output, bb.size, bb.block⟩ BV3.out.size))
              have q1 := HS2.out v4 BV4.out
              clear bb
              go_wp2_with fail
              refine hK.out _ _ q1 (fun hHeld => ?_)
              clear hK K
              try simp only [Act.put, List.setIfInBounds_toArray, List.set_cons_zero, List.set_cons_succ]
              refine wpAnyH_ready (rs := [6]) (by kernel_rfl) (by simp) ?_
              refine AllReadyH.cons (by simp only [List.getElem?_toArray, List.getElem?_cons_succ, List.getElem?_cons_zero]; rfl) (fun K hK => ?_) AllReadyH.nil
              go_simp
              refine (plain_to v4 R.gen R.idx pl rm cl).mono ?_
              rintro e v5 ⟨rfl, bb⟩
              have BV5 : Hid (Below wl.heap.size wl v5) := Lib.hid (BV4.out.trans (bb.mono BV4.out.size))
              have q2 := HS2.out v5 BV5.out
              clear bb
              go_wp2_with fail
              refine hK.out _ _ q2 (fun hHeld => ?_)
              clear hK K
              try simp only [Act.put, List.setIfInBounds_toArray, List.set_cons_zero, List.set_cons_succ]
              refine wpAnyH_ready (rs := [7]) (by kernel_rfl) (by simp) ?_
              refine AllReadyH.cons (by simp only [List.getElem?_toArray, List.getElem?_cons_succ, List.getElem?_cons_zero]; rfl) (fun K hK => ?_) AllReadyH.nil
              go_simp
              refine (sameRoot_to v5 L.gen L.idx R.gen R.idx (.slice pv lm cv) (.slice pl rm cl) L.logs R.logs HLL.out (HLI.out v5 BV5.out) (HRI.out v5 BV5.out)).mono ?_
              rintro e v6 ⟨rfl, bb⟩
              rw [show sameR ⟨L.gen, L.logs, L.idx⟩ ⟨R.gen, R.logs, R.idx⟩ = true from HSF.out]
              have BV6 : Hid (Below wl.heap.size wl v6) := Lib.hid (BV5.out.trans (bb.mono BV5.out.size))
              have q3 := HS2.out v6 BV6.out
              clear bb
              go_wp2_with fail
              refine hK.out _ _ q3 (fun hHeld => ?_)
              clear hK K
              try simp only [Act.put, List.setIfInBounds_toArray, List.set_cons_zero, List.set_cons_succ]
              refine wpAnyH_take (i := 8) (v := (.bool true)) (by simp only [List.getElem?_toArray, List.getElem?_cons_succ, List.getElem?_cons_zero]; rfl) (by kernel_rfl) (by kernel_rfl) (by kernel_rfl) (fun _ _ _ h => h) (Or.inl ⟨by rfl, ?_⟩) (by assumption) ?_
              · intro w hSw
                try dsimp only at hSw
                go_simp
              try simp only [Act.put, List.setIfInBounds_toArray, List.set_cons_zero, List.set_cons_succ]
              refine wpAnyH_take (i := 9) (v := ?_) (by simp only [List.getElem?_toArray, List.getElem?_cons_succ, List.getElem?_cons_zero]; rfl) (by kernel_rfl) (by kernel_rfl) (by kernel_rfl) (fun _ _ _ h => h) (Or.inl ⟨by rfl, ?_⟩) (by assumption) ?_
              rotate_left
              · intro w hSw
                try dsimp only at hSw
                go_simp
                try with_reducible rfl
              try simp only [Act.put, List.setIfInBounds_toArray, List.set_cons_zero, List.set_cons_succ]
              refine wpAnyH_done (by kernel_rfl) ?_ _
              refine NoPanic.normal ?_
              have y0 := q3.2.2.2
              go_wp2_with fail
              refine (plain_to v6 R.gen R.idx pl rm cl).mono ?_
              rintro e v7 ⟨rfl, bb⟩
              have BV7 : Hid (Below wl.heap.size wl v7) := Lib.hid (BV6.out.trans (bb.mono BV6.out.size))
              clear bb
              have N7 := Lib.hid (NWB.out.kb BV7.out)
              have R7 := Lib.hid (RR.out.kb BV7.out)
              have C7 := Lib.hid (CL.out.kb BV7.out)
              obtain ⟨n0, n1, n2, nf⟩ := N7.out.cells
              go_wp2_with fail
              have HSET := Lib.hid (N7.out.set R7.out (by decide))
              have HO7 : Hid (Only (fun k => k = nb) v7 (((v7.setCell ⟨nb, 0, none⟩ (.int .i64 R.gen)).setCell ⟨nb, 1, none⟩ (.slice pl rm cl)).setCell ⟨nb, 2, none⟩ (.int .i64 R.idx))) := Lib.hid (only3 (Only.refl (fun k => k = nb) v7) rfl _ _ _)
              exact ⟨⟨k + 1, SL, sL, o2, R, .slice pl rm cl, by omega, by omega, by go_num, Lib.hid ⟨C7.out.other HO7.out HNB.out N7.out.nb, FIN.out.1, FIN.out.2, HSET.out, SK.out⟩⟩, by simp [intOf]; omega⟩
              --END
            | false =>
              have HSO := Lib.hid hso
              clear hso
              --TAIL false false true
              go_wp2_with fail
              have s0 := HS1.out wl.drew (below_dw (Below.refl _ _))
              try simp only [List.append]
              refine wp_region_noPanic ?_
              refine wp_region_held_drew (S := (fun W => W.cell? ⟨qb, 0, none⟩ = some (.int .i64 L.gen) ∧ W.cell? ⟨qb, 1, none⟩ = some (.slice pv lm cv) ∧ W.cell? ⟨qb, 2, none⟩ = some (.int .i64 L.idx) ∧ W.cell? ⟨wb, 0, none⟩ = some (.int .i64 now.gen) ∧ W.cell? ⟨wb, 1, none⟩ = some (.slice pn nm cn) ∧ W.cell? ⟨wb, 2, none⟩ = some (.int .i64 now.idx))) (by kernel_rfl) s0 (fun hHeld => ?_)
              refine wpAnyH_take (i := 0) (v := ?_) (by simp only [List.getElem?_toArray, List.getElem?_cons_zero]; rfl) (by kernel_rfl) (by kernel_rfl) (by kernel_rfl) (fun _ _ _ h => h) (Or.inl ⟨by rfl, ?_⟩) (by assumption) ?_
              rotate_left
              · intro w hSw
                try dsimp only at hSw
                go_simp
                try with_reducible rfl
              try simp only [Act.put, List.setIfInBounds_toArray, List.set_cons_zero, List.set_cons_succ]
              refine wpAnyH_take (i := 1) (v := (.bool true)) (by simp only [List.getElem?_toArray, List.getElem?_cons_succ, List.getElem?_cons_zero]; rfl) (by kernel_rfl) (by kernel_rfl) (by kernel_rfl) (fun _ _ _ h => h) (Or.inl ⟨by rfl, ?_⟩) (by assumption) ?_
              · intro w hSw
                try dsimp only at hSw
                go_simp
              try simp only [Act.put, List.setIfInBounds_toArray, List.set_cons_zero, List.set_cons_succ]
              refine wpAnyH_take (i := 2) (v := ?_) (by simp only [List.getElem?_toArray, List.getElem?_cons_succ, List.getElem?_cons_zero]; rfl) (by kernel_rfl) (by kernel_rfl) (by kernel_rfl) (fun _ _ _ h => h) (Or.inl ⟨by rfl, ?_⟩) (by assumption) ?_
              rotate_left
              · intro w hSw
                try dsimp only at hSw
                go_simp
                try with_reducible rfl
              try simp only [Act.put, List.setIfInBounds_toArray, List.set_cons_zero, List.set_cons_succ]
              refine wpAnyH_take (i := 3) (v := ?_) (by simp only [List.getElem?_toArray, List.getElem?_cons_succ, List.getElem?_cons_zero]; rfl) (by kernel_rfl) (by kernel_rfl) (by kernel_rfl) (fun _ _ _ h => h) (Or.inl ⟨by rfl, ?_⟩) (by assumption) ?_
              rotate_left
              · intro w hSw
                try dsimp only at hSw
                go_simp
                try with_reducible rfl
              try simp only [Act.put, List.setIfInBounds_toArray, List.set_cons_zero, List.set_cons_succ]
              refine wpAnyH_take (i := 5) (v := ?_) (by simp only [List.getElem?_toArray, List.getElem?_cons_succ, List.getElem?_cons_zero]; rfl) (by kernel_rfl) (by kernel_rfl) (by kernel_rfl) (fun _ _ _ h => h) (Or.inl ⟨by rfl, ?_⟩) (by assumption) ?_
              rotate_left
              · intro w hSw
                try dsimp only at hSw
                go_simp
                try with_reducible rfl
              try simp only [Act.put, List.setIfInBounds_toArray, List.set_cons_zero, List.set_cons_succ]
              refine wpAnyH_ready (rs := [4]) (by kernel_rfl) (by simp) ?_
              refine AllReadyH.cons (by simp only [List.getElem?_toArray, List.getElem?_cons_succ, List.getElem?_cons_zero]; rfl) (fun K hK => ?_) AllReadyH.nil
              go_simp
              refine (plain_to wl.drew L.gen L.idx pv lm cv).mono ?_
              rintro e v1 ⟨rfl, bb⟩
              have BV1 : Hid (Below wl.heap.size wl v1) := Lib.hid ⟨bb.os, bb.tape, bb.output, bb.size, bb.block⟩
              have s1 := HS1.out v1 BV1.out
              clear bb
              go_wp2_with fail
              refine hK.out _ _ s1 (fun hHeld => ?_)
              clear hK K
              try simp only [Act.put, List.setIfInBounds_toArray, List.set_cons_zero, List.set_cons_succ]
              refine wpAnyH_ready (rs := [6]) (by kernel_rfl) (by simp) ?_
              refine AllReadyH.cons (by simp only [List.getElem?_toArray, List.getElem?_cons_succ, List.getElem?_cons_zero]; rfl) (fun K hK => ?_) AllReadyH.nil
              go_simp
              refine (sameRoot_to v1 L.gen L.idx now.gen now.idx (.slice pv lm cv) (.slice pn nm cn) L.logs now.logs HLL.out (HLI.out v1 BV1.out) (HNI.out v1 BV1.out)).mono ?_
              rintro e v2 ⟨rfl, bb⟩
              rw [show sameR ⟨L.gen, L.logs, L.idx⟩ ⟨now.gen, now.logs, now.idx⟩ = false from HSO.out]
              have BV2 : Hid (Below wl.heap.size wl v2) := Lib.hid (BV1.out.trans (bb.mono BV1.out.size))
              have s2 := HS1.out v2 BV2.out
              clear bb
              go_wp2_with fail
              refine hK.out _ _ s2 (fun hHeld => ?_)
              clear hK K
              try simp only [Act.put, List.setIfInBounds_toArray, List.set_cons_zero, List.set_cons_succ]
              refine wpAnyH_take (i := 7) (v := (.bool false)) (by simp only [List.getElem?_toArray, List.getElem?_cons_succ, List.getElem?_cons_zero]; rfl) (by kernel_rfl) (by kernel_rfl) (by kernel_rfl) (fun _ _ _ h => h) (Or.inl ⟨by rfl, ?_⟩) (by assumption) ?_
              · intro w hSw
                try dsimp only at hSw
                go_simp
              try simp only [Act.put, List.setIfInBounds_toArray, List.set_cons_zero, List.set_cons_succ]
              refine wpAnyH_take (i := 8) (v := ?_) (by simp only [List.getElem?_toArray, List.getElem?_cons_succ, List.getElem?_cons_zero]; rfl) (by kernel_rfl) (by kernel_rfl) (by kernel_rfl) (fun _ _ _ h => h) (Or.inl ⟨by rfl, ?_⟩) (by assumption) ?_
              rotate_left
              · intro w hSw
                try dsimp only at hSw
                go_simp
                try with_reducible rfl
              try simp only [Act.put, List.setIfInBounds_toArray, List.set_cons_zero, List.set_cons_succ]
              refine wpAnyH_take (i := 9) (v := ?_) (by simp only [List.getElem?_toArray, List.getElem?_cons_succ, List.getElem?_cons_zero]; rfl) (by kernel_rfl) (by kernel_rfl) (by kernel_rfl) (fun _ _ _ h => h) (Or.inl ⟨by rfl, ?_⟩) (by assumption) ?_
              rotate_left
              · intro w hSw
                try dsimp only at hSw
                go_simp
                try with_reducible rfl
              try simp only [Act.put, List.setIfInBounds_toArray, List.set_cons_zero, List.set_cons_succ]
              refine wpAnyH_ready (rs := [10]) (by kernel_rfl) (by simp) ?_
              refine AllReadyH.cons (by simp only [List.getElem?_toArray, List.getElem?_cons_succ, List.getElem?_cons_zero]; rfl) (fun K hK => ?_) AllReadyH.nil
              go_simp
              refine (khand_en v2 0 (HG.out.kb (HCB.out.trans (BV2.out.mono HCB.out.size)))).mono ?_
              rintro e v3 ⟨rfl, bb⟩
              have BV3 : Hid (Below wl.heap.size wl v3) := Lib.hid (BV2.out.trans (bb.mono BV2.out.size))
              have s3 := HS1.out v3 BV3.out
              clear bb
              go_wp2_with fail
              refine hK.out _ _ s3 (fun hHeld => ?_)
              clear hK K
              try simp only [Act.put, List.setIfInBounds_toArray, List.set_cons_zero, List.set_cons_succ]
              refine wpAnyH_take (i := 11) (v := (.bool false)) (by simp only [List.getElem?_toArray, List.getElem?_cons_succ, List.getElem?_cons_zero]; rfl) (by kernel_rfl) (by kernel_rfl) (by kernel_rfl) (fun _ _ _ h => h) (Or.inl ⟨by rfl, ?_⟩) (by assumption) ?_
              · intro w hSw
                try dsimp only at hSw
                go_simp
              try simp only [Act.put, List.setIfInBounds_toArray, List.set_cons_zero, List.set_cons_succ]
              refine wpAnyH_take (i := 12) (v := ?_) (by simp only [List.getElem?_toArray, List.getElem?_cons_succ, List.getElem?_cons_zero]; rfl) (by kernel_rfl) (by kernel_rfl) (by kernel_rfl) (fun _ _ _ h => h) (Or.inl ⟨by rfl, ?_⟩) (by assumption) ?_
              rotate_left
              · intro w hSw
                try dsimp only at hSw
                go_simp
                try with_reducible rfl
              try simp only [Act.put, List.setIfInBounds_toArray, List.set_cons_zero, List.set_cons_succ]
              refine wpAnyH_take (i := 13) (v := undef) (by simp only [List.getElem?_toArray, List.getElem?_cons_succ, List.getElem?_cons_zero]; rfl) (by kernel_rfl) (by kernel_rfl) (by kernel_rfl) (fun _ _ _ h => h) (Or.inr ⟨by rfl, rfl⟩) (by assumption) ?_
              try simp only [Act.put, List.setIfInBounds_toArray, List.set_cons_zero, List.set_cons_succ]
              refine wpAnyH_take (i := 14) (v := undef) (by simp only [List.getElem?_toArray, List.getElem?_cons_succ, List.getElem?_cons_zero]; rfl) (by kernel_rfl) (by kernel_rfl) (by kernel_rfl) (fun _ _ _ h => h) (Or.inr ⟨by rfl, rfl⟩) (by assumption) ?_
              try simp only [Act.put, List.setIfInBounds_toArray, List.set_cons_zero, List.set_cons_succ]
              refine wpAnyH_take (i := 15) (v := undef) (by simp only [List.getElem?_toArray, List.getElem?_cons_succ, List.getElem?_cons_zero]; rfl) (by kernel_rfl) (by kernel_rfl) (by kernel_rfl) (fun _ _ _ h => h) (Or.inr ⟨by rfl, rfl⟩) (by assumption) ?_
              try simp only [Act.put, List.setIfInBounds_toArray, List.set_cons_zero, List.set_cons_succ]
              refine wpAnyH_take (i := 16) (v := (.bool false)) (by simp only [List.getElem?_toArray, List.getElem?_cons_succ, List.getElem?_cons_zero]; rfl) (by kernel_rfl) (by kernel_rfl) (by kernel_rfl) (fun _ _ _ h => h) (Or.inl ⟨by rfl, ?_⟩) (by assumption) ?_
              · intro w hSw
                try dsimp only at hSw
                go_simp
              try simp only [Act.put, List.setIfInBounds_toArray, List.set_cons_zero, List.set_cons_succ]
              refine wpAnyH_take (i := 17) (v := (.bool false)) (by simp only [List.getElem?_toArray, List.getElem?_cons_succ, List.getElem?_cons_zero]; rfl) (by kernel_rfl) (by kernel_rfl) (by kernel_rfl) (fun _ _ _ h => h) (Or.inl ⟨by rfl, ?_⟩) (by assumption) ?_
              · intro w hSw
                try dsimp only at hSw
                go_simp
              try simp only [Act.put, List.setIfInBounds_toArray, List.set_cons_zero, List.set_cons_succ]
              refine wpAnyH_take (i := 18) (v := ?_) (by simp only [List.getElem?_toArray, List.getElem?_cons_succ, List.getElem?_cons_zero]; rfl) (by kernel_rfl) (by kernel_rfl) (by kernel_rfl) (fun _ _ _ h => h) (Or.inl ⟨by rfl, ?_⟩) (by assumption) ?_
              rotate_left
              · intro w hSw
                try dsimp only at hSw
                go_simp
                try with_reducible rfl
              try simp only [Act.put, List.setIfInBounds_toArray, List.set_cons_zero, List.set_cons_succ]
              refine wpAnyH_done (by kernel_rfl) ?_ _
              refine NoPanic.normal ?_
              go_wp2_with fail
              have q0 := HS2.out v3.drew (below_dw BV3.out)
              try simp only [List.append]
              refine wp_region_noPanic ?_
              refine wp_region_held_drew (S := (fun W => W.cell? ⟨qb, 0, none⟩ = some (.int .i64 L.gen) ∧ W.cell? ⟨qb, 1, none⟩ = some (.slice pv lm cv) ∧ W.cell? ⟨qb, 2, none⟩ = some (.int .i64 L.idx) ∧ W.cell? ⟨rb, 0, none⟩ = some (.int .i64 R.gen) ∧ W.cell? ⟨rb, 1, none⟩ = some (.slice pl rm cl) ∧ W.cell? ⟨rb, 2, none⟩ = some (.int .i64 R.idx))) (by kernel_rfl) q0 (fun hHeld => ?_)
              refine wpAnyH_take (i := 0) (v := ?_) (by simp only [List.getElem?_toArray, List.getElem?_cons_zero]; rfl) (by kernel_rfl) (by kernel_rfl) (by kernel_rfl) (fun _ _ _ h => h) (Or.inl ⟨by rfl, ?_⟩) (by assumption) ?_
              rotate_left
              · intro w hSw
                try dsimp only at hSw
                go_simp
                try with_reducible rfl
              try simp only [Act.put, List.setIfInBounds_toArray, List.set_cons_zero, List.set_cons_succ]
              refine wpAnyH_take (i := 1) (v := (.bool true)) (by simp only [List.getElem?_toArray, List.getElem?_cons_succ, List.getElem?_cons_zero]; rfl) (by kernel_rfl) (by kernel_rfl) (by kernel_rfl) (fun _ _ _ h => h) (Or.inl ⟨by rfl, ?_⟩) (by assumption) ?_
              · intro w hSw
                try dsimp only at hSw
                go_simp
              try simp only [Act.put, List.setIfInBounds_toArray, List.set_cons_zero, List.set_cons_succ]
              refine wpAnyH_take (i := 2) (v := ?_) (by simp only [List.getElem?_toArray, List.getElem?_cons_succ, List.getElem?_cons_zero]; rfl) (by kernel_rfl) (by kernel_rfl) (by kernel_rfl) (fun _ _ _ h => h) (Or.inl ⟨by rfl, ?_⟩) (by assumption) ?_
              rotate_left
              · intro w hSw
                try dsimp only at hSw
                go_simp
                try with_reducible rfl
              try simp only [Act.put, List.setIfInBounds_toArray, List.set_cons_zero, List.set_cons_succ]
              refine wpAnyH_take (i := 3) (v := ?_) (by simp only [List.getElem?_toArray, List.getElem?_cons_succ, List.getElem?_cons_zero]; rfl) (by kernel_rfl) (by kernel_rfl) (by kernel_rfl) (fun _ _ _ h => h) (Or.inl ⟨by rfl, ?_⟩) (by assumption) ?_
              rotate_left
              · intro w hSw
                try dsimp only at hSw
                go_simp
                try with_reducible rfl
              try simp only [Act.put, List.setIfInBounds_toArray, List.set_cons_zero, List.set_cons_succ]
              refine wpAnyH_take (i := 5) (v := ?_) (by simp only [List.getElem?_toArray, List.getElem?_cons_succ, List.getElem?_cons_zero]; rfl) (by kernel_rfl) (by kernel_rfl) (by kernel_rfl) (fun _ _ _ h => h) (Or.inl ⟨by rfl, ?_⟩) (by assumption) ?_
              rotate_left
              · intro w hSw
                try dsimp only at hSw
                go_simp
                try with_reducible rfl
              try simp only [Act.put, List.setIfInBounds_toArray, List.set_cons_zero, List.set_cons_succ]
              refine wpAnyH_ready (rs := [4]) (by kernel_rfl) (by simp) ?_
              refine AllReadyH.cons (by simp only [List.getElem?_toArray, List.getElem?_cons_succ, List.getElem?_cons_zero]; rfl) (fun K hK => ?_) AllReadyH.nil
              go_simp
              refine (plain_to v3.drew L.gen L.idx pv lm cv).mono ?_
              rintro e v4 ⟨rfl, bb⟩
              have BV4 : Hid (Below wl.heap.size wl v4) := Lib.hid (BV3.out.trans (Below.mono ⟨bb.os, bb.tape, bb.output, bb.size, bb.block⟩ BV3.out.size))
              have q1 := HS2.out v4 BV4.out
              clear bb
              go_wp2_with fail
              refine hK.out _ _ q1 (fun hHeld => ?_)
              clear hK K
              try simp only [Act.put, List.setIfInBounds_toArray, List.set_cons_zero, List.set_cons_succ]
              refine wpAnyH_ready (rs := [6]) (by kernel_rfl) (by simp) ?_
              refine AllReadyH.cons (by simp only [List.getElem?_toArray, List.getElem?_cons_succ, List.getElem?_cons_zero]; rfl) (fun K hK => ?_) AllReadyH.nil
              go_simp
              refine (plain_to v4 R.gen R.idx pl rm cl).mono ?_
              rintro e v5 ⟨rfl, bb⟩
              have BV5 : Hid (Below wl.heap.size wl v5) := Lib.hid (BV4.out.trans (bb.mono BV4.out.size))
              have q2 := HS2.out v5 BV5.out
              clear bb
              go_wp2_with fail
              refine hK.out _ _ q2 (fun hHeld => ?_)
              clear hK K
              try simp only [Act.put, List.setIfInBounds_toArray, List.set_cons_zero, List.set_cons_succ]
              refine wpAnyH_ready (rs := [7]) (by kernel_rfl) (by simp) ?_
              refine AllReadyH.cons (by simp only [List.getElem?_toArray, List.getElem?_cons_succ, List.getElem?_cons_zero]; rfl) (fun K hK => ?_) AllReadyH.nil
              go_simp
              refine (sameRoot_to v5 L.gen L.idx R.gen R.idx (.slice pv lm cv) (.slice pl rm cl) L.logs R.logs HLL.out (HLI.out v5 BV5.out) (HRI.out v5 BV5.out)).mono ?_
              rintro e v6 ⟨rfl, bb⟩
              rw [show sameR ⟨L.gen, L.logs, L.idx⟩ ⟨R.gen, R.logs, R.idx⟩ = true from HSF.out]
              have BV6 : Hid (Below wl.heap.size wl v6) := Lib.hid (BV5.out.trans (bb.mono BV5.out.size))
              have q3 := HS2.out v6 BV6.out
              clear bb
              go_wp2_with fail
              refine hK.out _ _ q3 (fun hHeld => ?_)
              clear hK K
              try simp only [Act.put, List.setIfInBounds_toArray, List.set_cons_zero, List.set_cons_succ]
              refine wpAnyH_take (i := 8) (v := (.bool true)) (by simp only [List.getElem?_toArray, List.getElem?_cons_succ, List.getElem?_cons_zero]; rfl) (by kernel_rfl) (by kernel_rfl) (by kernel_rfl) (fun _ _ _ h => h) (Or.inl ⟨by rfl, ?_⟩) (by assumption) ?_
              · intro w hSw
                try dsimp only at hSw
                go_simp
              try simp only [Act.put, List.setIfInBounds_toArray, List.set_cons_zero, List.set_cons_succ]
              refine wpAnyH_take (i := 9) (v := ?_) (by simp only [List.getElem?_toArray, List.getElem?_cons_succ, List.getElem?_cons_zero]; rfl) (by kernel_rfl) (by kernel_rfl) (by kernel_rfl) (fun _ _ _ h => h) (Or.inl ⟨by rfl, ?_⟩) (by assumption) ?_
              rotate_left
              · intro w hSw
                try dsimp only at hSw
                go_simp
                try with_reducible rfl
              try simp only [Act.put, List.setIfInBounds_toArray, List.set_cons_zero, List.set_cons_succ]
              refine wpAnyH_done (by kernel_rfl) ?_ _
              refine NoPanic.normal ?_
              have y0 := q3.2.2.2
              go_wp2_with fail
              refine (plain_to v6 R.gen R.idx pl rm cl).mono ?_
              rintro e v7 ⟨rfl, bb⟩
              have BV7 : Hid (Below wl.heap.size wl v7) := Lib.hid (BV6.out.trans (bb.mono BV6.out.size))
              clear bb
              have N7 := Lib.hid (NWB.out.kb BV7.out)
              have R7 := Lib.hid (RR.out.kb BV7.out)
              have C7 := Lib.hid (CL.out.kb BV7.out)
              obtain ⟨n0, n1, n2, nf⟩ := N7.out.cells
              go_wp2_with fail
              have HSET := Lib.hid (N7.out.set R7.out (by decide))
              have HO7 : Hid (Only (fun k => k = nb) v7 (((v7.setCell ⟨nb, 0, none⟩ (.int .i64 R.gen)).setCell ⟨nb, 1, none⟩ (.slice pl rm cl)).setCell ⟨nb, 2, none⟩ (.int .i64 R.idx))) := Lib.hid (only3 (Only.refl (fun k => k = nb) v7) rfl _ _ _)
              exact ⟨⟨k + 1, SL, sL, o2, R, .slice pl rm cl, by omega, by omega, by go_num, Lib.hid ⟨C7.out.other HO7.out HNB.out N7.out.nb, FIN.out.1, FIN.out.2, HSET.out, SK.out⟩⟩, by simp [intOf]; omega⟩
              --END
        case inl =>
          rcases NI.out with ⟨hon, hgen⟩ | ⟨hokn, hon⟩
          case inl =>
            have HD : Hid (Hd sL none) := Lib.hid (by rw [← hon]; exact hd)
            have HGN := Lib.hid hgen
            clear hd HCS hgen hon
            refine (rload_to w13 _ d SL sL CL0.out.ds (by rw [HD.out.load.2]; exact Okb.nil)).mono ?_
            rintro e w14 ⟨gL, vL, iL, cL, lL, rfl, ovL, hlL, b14⟩
            obtain ⟨rfl, hLR⟩ := HD.out.ldnone hlL
            simp only [Rt.zero, Rt.mk.injEq] at hLR
            obtain ⟨rfl, rfl, rfl⟩ := hLR
            obtain ⟨pv, cv, rfl⟩ := own_slice ovL
            rw [show enoOf 11 = eno 11 from rfl]
            have NW1 := Lib.hid (NW0.out.kb b14)
            have WAS1 := Lib.hid (WAS00.out.kb b14)
            have CL1 := Lib.hid (CL0.out.kb b14)
            clear ovL hlL b14 RR00 NW0 WAS00 CL0
            go_upto_region 23 with fail
            have b15 : Below w14.heap.size w14 (w14.alloc (.cells #[.int .i64 0, .slice pv 0 cv, .int .i64 0] 24)) := (Below.refl _ _).alloc (Nat.le_refl _) _
            have NWB := Lib.hid (NW1.out.kb b15)
            have WAS := Lib.hid (WAS1.out.kb b15)
            have CL := Lib.hid (CL1.out.kb b15)
            clear b15 NW1 WAS1 CL1
            generalize w14.alloc (.cells #[.int .i64 0, .slice pv 0 cv, .int .i64 0] 24) = wl at NWB WAS CL ⊢
            have HS1 : Hid (∀ W, Below wl.heap.size wl W → W.cell? ⟨wb, 0, none⟩ = some (.int .i64 now.gen)) := Lib.hid (fun W hb => (WAS.out.kb hb).cells.1)
            have HCB : Hid (Below w.heap.size w wl) := Lib.hid CL.out.bel
            have FIN : Hid (Hd sL none ∧ NowIs none now) := Lib.hid ⟨HD.out, .inl ⟨rfl, HGN.out⟩⟩
            have hgb : (now.gen == -1) = true := by rw [HGN.out]; rfl
            have hn11 : ∀ W, (binOp .eql 26 (eno 11) .nilIface).run Tryd.prog W = .ok (.bool false) W := fun W => by kernel_rfl
            clear WAS HD
            --TAIL none x x
            go_wp2_with fail
            have s0 := HS1.out wl.drew (below_dw (Below.refl _ _))
            try simp only [List.append]
            refine wp_region_noPanic ?_
            refine wp_region_held_drew (S := (fun W => W.cell? ⟨wb, 0, none⟩ = some (.int .i64 now.gen))) (by kernel_rfl) s0 (fun hHeld => ?_)
            refine wpAnyH_take (i := 0) (v := ?_) (by simp only [List.getElem?_toArray, List.getElem?_cons_zero]; rfl) (by kernel_rfl) (by kernel_rfl) (by kernel_rfl) (fun _ _ _ h => h) (Or.inl ⟨by rfl, ?_⟩) (by assumption) ?_
            rotate_left
            · intro w hSw
              try dsimp only at hSw
              go_simp
              try with_reducible rfl
            try simp only [Act.put, List.setIfInBounds_toArray, List.set_cons_zero, List.set_cons_succ]
            refine wpAnyH_take (i := 1) (v := (.bool false)) (by simp only [List.getElem?_toArray, List.getElem?_cons_succ, List.getElem?_cons_zero]; rfl) (by kernel_rfl) (by kernel_rfl) (by kernel_rfl) (fun _ _ _ h => h) (Or.inl ⟨by rfl, ?_⟩) (by assumption) ?_
            · intro w hSw
              try dsimp only at hSw
              go_simp
            try simp only [Act.put, List.setIfInBounds_toArray, List.set_cons_zero, List.set_cons_succ]
            refine wpAnyH_take (i := 2) (v := ?_) (by simp only [List.getElem?_toArray, List.getElem?_cons_succ, List.getElem?_cons_zero]; rfl) (by kernel_rfl) (by kernel_rfl) (by kernel_rfl) (fun _ _ _ h => h) (Or.inl ⟨by rfl, ?_⟩) (by assumption) ?_
            rotate_left
            · intro w hSw
              try dsimp only at hSw
              go_simp
              try with_reducible rfl
            try simp only [Act.put, List.setIfInBounds_toArray, List.set_cons_zero, List.set_cons_succ]
            refine wpAnyH_take (i := 3) (v := undef) (by simp only [List.getElem?_toArray, List.getElem?_cons_succ, List.getElem?_cons_zero]; rfl) (by kernel_rfl) (by kernel_rfl) (by kernel_rfl) (fun _ _ _ h => h) (Or.inr ⟨by rfl, rfl⟩) (by assumption) ?_
            try simp only [Act.put, List.setIfInBounds_toArray, List.set_cons_zero, List.set_cons_succ]
            refine wpAnyH_take (i := 4) (v := undef) (by simp only [List.getElem?_toArray, List.getElem?_cons_succ, List.getElem?_cons_zero]; rfl) (by kernel_rfl) (by kernel_rfl) (by kernel_rfl) (fun _ _ _ h => h) (Or.inr ⟨by rfl, rfl⟩) (by assumption) ?_
            try simp only [Act.put, List.setIfInBounds_toArray, List.set_cons_zero, List.set_cons_succ]
            refine wpAnyH_take (i := 5) (v := undef) (by simp only [List.getElem?_toArray, List.getElem?_cons_succ, List.getElem?_cons_zero]; rfl) (by kernel_rfl) (by kernel_rfl) (by kernel_rfl) (fun _ _ _ h => h) (Or.inr ⟨by rfl, rfl⟩) (by assumption) ?_
            try simp only [Act.put, List.setIfInBounds_toArray, List.set_cons_zero, List.set_cons_succ]
            refine wpAnyH_take (i := 6) (v := undef) (by simp only [List.getElem?_toArray, List.getElem?_cons_succ, List.getElem?_cons_zero]; rfl) (by kernel_rfl) (by kernel_rfl) (by kernel_rfl) (fun _ _ _ h => h) (Or.inr ⟨by rfl, rfl⟩) (by assumption) ?_
            try simp only [Act.put, List.setIfInBounds_toArray, List.set_cons_zero, List.set_cons_succ]
            refine wpAnyH_take (i := 7) (v := (.bool false)) (by simp only [List.getElem?_toArray, List.getElem?_cons_succ, List.getElem?_cons_zero]; rfl) (by kernel_rfl) (by kernel_rfl) (by kernel_rfl) (fun _ _ _ h => h) (Or.inl ⟨by rfl, ?_⟩) (by assumption) ?_
            · intro w hSw
              try dsimp only at hSw
              go_simp
            try simp only [Act.put, List.setIfInBounds_toArray, List.set_cons_zero, List.set_cons_succ]
            refine wpAnyH_take (i := 8) (v := ?_) (by simp only [List.getElem?_toArray, List.getElem?_cons_succ, List.getElem?_cons_zero]; rfl) (by kernel_rfl) (by kernel_rfl) (by kernel_rfl) (fun _ _ _ h => h) (Or.inl ⟨by rfl, ?_⟩) (by assumption) ?_
            rotate_left
            · intro w hSw
              try dsimp only at hSw
              go_simp
              try with_reducible rfl
            try simp only [Act.put, List.setIfInBounds_toArray, List.set_cons_zero, List.set_cons_succ]
            refine wpAnyH_take (i := 9) (v := ?_) (by simp only [List.getElem?_toArray, List.getElem?_cons_succ, List.getElem?_cons_zero]; rfl) (by kernel_rfl) (by kernel_rfl) (by kernel_rfl) (fun _ _ _ h => h) (Or.inl ⟨by rfl, ?_⟩) (by assumption) ?_
            rotate_left
            · intro w hSw
              try dsimp only at hSw
              go_simp
              try with_reducible rfl
            try simp only [Act.put, List.setIfInBounds_toArray, List.set_cons_zero, List.set_cons_succ]
            refine wpAnyH_ready (rs := [10]) (by kernel_rfl) (by simp) ?_
            refine AllReadyH.cons (by simp only [List.getElem?_toArray, List.getElem?_cons_succ, List.getElem?_cons_zero]; rfl) (fun K hK => ?_) AllReadyH.nil
            go_simp
            refine (khand_en wl.drew 11 (HG.out.kb (below_dw HCB.out))).mono ?_
            rintro e v3 ⟨rfl, bb⟩
            have BV3 : Hid (Below wl.heap.size wl v3) := Lib.hid ⟨bb.os, bb.tape, bb.output, bb.size, bb.block⟩
            have s3 := HS1.out v3 BV3.out
            clear bb
            go_wp2_with fail
            refine hK.out _ _ s3 (fun hHeld => ?_)
            clear hK K
            try simp only [Act.put, List.setIfInBounds_toArray, List.set_cons_zero, List.set_cons_succ]
            refine wpAnyH_take (i := 11) (v := (.bool true)) (by simp only [List.getElem?_toArray, List.getElem?_cons_succ, List.getElem?_cons_zero]; rfl) (by kernel_rfl) (by kernel_rfl) (by kernel_rfl) (fun _ _ _ h => h) (Or.inl ⟨by rfl, ?_⟩) (by assumption) ?_
            · intro w hSw
              try dsimp only at hSw
              go_simp
            try simp only [Act.put, List.setIfInBounds_toArray, List.set_cons_zero, List.set_cons_succ]
            refine wpAnyH_take (i := 12) (v := ?_) (by simp only [List.getElem?_toArray, List.getElem?_cons_succ, List.getElem?_cons_zero]; rfl) (by kernel_rfl) (by kernel_rfl) (by kernel_rfl) (fun _ _ _ h => h) (Or.inl ⟨by rfl, ?_⟩) (by assumption) ?_
            rotate_left
            · intro w hSw
              try dsimp only at hSw
              go_simp
              try with_reducible rfl
            try simp only [Act.put, List.setIfInBounds_toArray, List.set_cons_zero, List.set_cons_succ]
            refine wpAnyH_take (i := 13) (v := ?_) (by simp only [List.getElem?_toArray, List.getElem?_cons_succ, List.getElem?_cons_zero]; rfl) (by kernel_rfl) (by kernel_rfl) (by kernel_rfl) (fun _ _ _ h => h) (Or.inl ⟨by rfl, ?_⟩) (by assumption) ?_
            rotate_left
            · intro w hSw
              try dsimp only at hSw
              go_simp
              try with_reducible rfl
            try simp only [Act.put, List.setIfInBounds_toArray, List.set_cons_zero, List.set_cons_succ]
            refine wpAnyH_take (i := 14) (v := ?_) (by simp only [List.getElem?_toArray, List.getElem?_cons_succ, List.getElem?_cons_zero]; rfl) (by kernel_rfl) (by kernel_rfl) (by kernel_rfl) (fun _ _ _ h => h) (Or.inl ⟨by rfl, ?_⟩) (by assumption) ?_
            rotate_left
            · intro w hSw
              try dsimp only at hSw
              go_simp
              try with_reducible rfl
            try simp only [Act.put, List.setIfInBounds_toArray, List.set_cons_zero, List.set_cons_succ]
            refine wpAnyH_take (i := 15) (v := (.bool true)) (by simp only [List.getElem?_toArray, List.getElem?_cons_succ, List.getElem?_cons_zero]; rfl) (by kernel_rfl) (by kernel_rfl) (by kernel_rfl) (fun _ _ _ h => h) (Or.inl ⟨by rfl, ?_⟩) (by assumption) ?_
            · intro w hSw
              try dsimp only at hSw
              go_simp
            try simp only [Act.put, List.setIfInBounds_toArray, List.set_cons_zero, List.set_cons_succ]
            refine wpAnyH_take (i := 16) (v := (.bool true)) (by simp only [List.getElem?_toArray, List.getElem?_cons_succ, List.getElem?_cons_zero]; rfl) (by kernel_rfl) (by kernel_rfl) (by kernel_rfl) (fun _ _ _ h => h) (Or.inl ⟨by rfl, ?_⟩) (by assumption) ?_
            · intro w hSw
              try dsimp only at hSw
              go_simp
            try simp only [Act.put, List.setIfInBounds_toArray, List.set_cons_zero, List.set_cons_succ]
            refine wpAnyH_take (i := 17) (v := (.bool true)) (by simp only [List.getElem?_toArray, List.getElem?_cons_succ, List.getElem?_cons_zero]; rfl) (by kernel_rfl) (by kernel_rfl) (by kernel_rfl) (fun _ _ _ h => h) (Or.inl ⟨by rfl, ?_⟩) (by assumption) ?_
            · intro w hSw
              try dsimp only at hSw
              go_simp
            try simp only [Act.put, List.setIfInBounds_toArray, List.set_cons_zero, List.set_cons_succ]
            refine wpAnyH_take (i := 18) (v := ?_) (by simp only [List.getElem?_toArray, List.getElem?_cons_succ, List.getElem?_cons_zero]; rfl) (by kernel_rfl) (by kernel_rfl) (by kernel_rfl) (fun _ _ _ h => h) (Or.inl ⟨by rfl, ?_⟩) (by assumption) ?_
            rotate_left
            · intro w hSw
              try dsimp only at hSw
              go_simp
              try with_reducible rfl
            try simp only [Act.put, List.setIfInBounds_toArray, List.set_cons_zero, List.set_cons_succ]
            refine wpAnyH_done (by kernel_rfl) ?_ _
            refine NoPanic.normal ?_
            go_wp2_with fail
            try simp only [List.append]
            refine wp_region_noPanic ?_
            refine wp_region_held_drew (S := (fun _ => True)) (by kernel_rfl) trivial (fun hHeld => ?_)
            refine wpAnyH_take (i := 0) (v := ?_) (by simp only [List.getElem?_toArray, List.getElem?_cons_zero]; rfl) (by kernel_rfl) (by kernel_rfl) (by kernel_rfl) (fun _ _ _ h => h) (Or.inl ⟨by rfl, ?_⟩) (by assumption) ?_
            rotate_left
            · intro w hSw
              try dsimp only at hSw
              go_simp
              try with_reducible rfl
            try simp only [Act.put, List.setIfInBounds_toArray, List.set_cons_zero, List.set_cons_succ]
            refine wpAnyH_take (i := 1) (v := (.bool false)) (by simp only [List.getElem?_toArray, List.getElem?_cons_succ, List.getElem?_cons_zero]; rfl) (by kernel_rfl) (by kernel_rfl) (by kernel_rfl) (fun _ _ _ h => h) (Or.inl ⟨by rfl, ?_⟩) (by assumption) ?_
            · intro w hSw
              try dsimp only at hSw
              go_simp
            try simp only [Act.put, List.setIfInBounds_toArray, List.set_cons_zero, List.set_cons_succ]
            refine wpAnyH_take (i := 2) (v := ?_) (by simp only [List.getElem?_toArray, List.getElem?_cons_succ, List.getElem?_cons_zero]; rfl) (by kernel_rfl) (by kernel_rfl) (by kernel_rfl) (fun _ _ _ h => h) (Or.inl ⟨by rfl, ?_⟩) (by assumption) ?_
            rotate_left
            · intro w hSw
              try dsimp only at hSw
              go_simp
              try with_reducible rfl
            try simp only [Act.put, List.setIfInBounds_toArray, List.set_cons_zero, List.set_cons_succ]
            refine wpAnyH_take (i := 3) (v := undef) (by simp only [List.getElem?_toArray, List.getElem?_cons_succ, List.getElem?_cons_zero]; rfl) (by kernel_rfl) (by kernel_rfl) (by kernel_rfl) (fun _ _ _ h => h) (Or.inr ⟨by rfl, rfl⟩) (by assumption) ?_
            try simp only [Act.put, List.setIfInBounds_toArray, List.set_cons_zero, List.set_cons_succ]
            refine wpAnyH_take (i := 4) (v := undef) (by simp only [List.getElem?_toArray, List.getElem?_cons_succ, List.getElem?_cons_zero]; rfl) (by kernel_rfl) (by kernel_rfl) (by kernel_rfl) (fun _ _ _ h => h) (Or.inr ⟨by rfl, rfl⟩) (by assumption) ?_
            try simp only [Act.put, List.setIfInBounds_toArray, List.set_cons_zero, List.set_cons_succ]
            refine wpAnyH_take (i := 5) (v := undef) (by simp only [List.getElem?_toArray, List.getElem?_cons_succ, List.getElem?_cons_zero]; rfl) (by kernel_rfl) (by kernel_rfl) (by kernel_rfl) (fun _ _ _ h => h) (Or.inr ⟨by rfl, rfl⟩) (by assumption) ?_
            try simp only [Act.put, List.setIfInBounds_toArray, List.set_cons_zero, List.set_cons_succ]
            refine wpAnyH_take (i := 6) (v := undef) (by simp only [List.getElem?_toArray, List.getElem?_cons_succ, List.getElem?_cons_zero]; rfl) (by kernel_rfl) (by kernel_rfl) (by kernel_rfl) (fun _ _ _ h => h) (Or.inr ⟨by rfl, rfl⟩) (by assumption) ?_
            try simp only [Act.put, List.setIfInBounds_toArray, List.set_cons_zero, List.set_cons_succ]
            refine wpAnyH_take (i := 7) (v := undef) (by simp only [List.getElem?_toArray, List.getElem?_cons_succ, List.getElem?_cons_zero]; rfl) (by kernel_rfl) (by kernel_rfl) (by kernel_rfl) (fun _ _ _ h => h) (Or.inr ⟨by rfl, rfl⟩) (by assumption) ?_
            try simp only [Act.put, List.setIfInBounds_toArray, List.set_cons_zero, List.set_cons_succ]
            refine wpAnyH_take (i := 8) (v := (.bool false)) (by simp only [List.getElem?_toArray, List.getElem?_cons_succ, List.getElem?_cons_zero]; rfl) (by kernel_rfl) (by kernel_rfl) (by kernel_rfl) (fun _ _ _ h => h) (Or.inl ⟨by rfl, ?_⟩) (by assumption) ?_
            · intro w hSw
              try dsimp only at hSw
              go_simp
            try simp only [Act.put, List.setIfInBounds_toArray, List.set_cons_zero, List.set_cons_succ]
            refine wpAnyH_take (i := 9) (v := ?_) (by simp only [List.getElem?_toArray, List.getElem?_cons_succ, List.getElem?_cons_zero]; rfl) (by kernel_rfl) (by kernel_rfl) (by kernel_rfl) (fun _ _ _ h => h) (Or.inl ⟨by rfl, ?_⟩) (by assumption) ?_
            rotate_left
            · intro w hSw
              try dsimp only at hSw
              go_simp
              try with_reducible rfl
            try simp only [Act.put, List.setIfInBounds_toArray, List.set_cons_zero, List.set_cons_succ]
            refine wpAnyH_done (by kernel_rfl) ?_ _
            refine NoPanic.normal ?_
            go_wp2_with fail
            exact ⟨⟨k + 1, SL, sL, none, now, .slice pn now.logs.length cn, by omega, by omega, by go_num, Lib.hid ⟨CL.out.kb (below_dw BV3.out), FIN.out.1, FIN.out.2, NWB.out.kb (below_dw BV3.out), SK.out⟩⟩, by simp [intOf]; omega⟩
            --END
          case inr =>
            have HD : Hid (Hd sL (some (encR now))) := Lib.hid (by rw [← hon]; exact hd)
            have HON := Lib.hid hokn
            clear hd HCS hon hokn
            refine (rload_to w13 _ d SL sL CL0.out.ds (by rw [HD.out.load.2]; exact encR_ok now)).mono ?_
            rintro e w14 ⟨gL, vL, iL, cL, lL, rfl, ovL, hlL, b14⟩
            obtain ⟨rfl, hLR⟩ := HD.out.ldsome HON.out hlL
            as_aux_lemma =>
              obtain ⟨L, hL⟩ : ∃ z : Rt, z = ⟨gL, lL, iL⟩ := ⟨_, rfl⟩
              have HLR : Hid (L = now) := Lib.hid (by rw [hL]; exact hLR)
              obtain ⟨rfl, rfl, rfl⟩ : gL = L.gen ∧ lL = L.logs ∧ iL = L.idx := by rw [hL]; exact ⟨rfl, rfl, rfl⟩
              obtain ⟨pv, cv, rfl⟩ := own_slice ovL
              rw [show enoOf 0 = .nilIface from rfl]
              have OVL := Lib.hid ovL
              have OVS : Hid (∀ k, (Value.slice pv L.logs.length cv).ownBlock = some k → ¬ SL k) := Lib.hid (fun k hk e => by have h1 := (ovL.lt k hk).1; have h2 := CL0.out.ds.lt _ e; omega)
              have RR1 := Lib.hid (RR00.out.kb b14)
              have NW1 := Lib.hid (NW0.out.kb b14)
              have WAS1 := Lib.hid (WAS00.out.kb b14)
              have CL1 := Lib.hid (CL0.out.kb b14)
              clear ovL hlL hLR hL b14 RR00 NW0 WAS00 CL0
              go_upto_region 23 with fail
              have b15 : Below w14.heap.size w14 (w14.alloc (.cells #[.int .i64 L.gen, .slice pv L.logs.length cv, .int .i64 L.idx] 24)) := (Below.refl _ _).alloc (Nat.le_refl _) _
              have LL := Lib.hid (RM.new (S := SL) (T := 24) OVL.out CL1.out.ds.lt OVS.out rfl rfl rfl)
              have RR := Lib.hid (RR1.out.kb b15)
              have NWB := Lib.hid (NW1.out.kb b15)
              have WAS := Lib.hid (WAS1.out.kb b15)
              have CL := Lib.hid (CL1.out.kb b15)
              clear b15 OVL OVS RR1 NW1 WAS1 CL1
              generalize w14.alloc (.cells #[.int .i64 L.gen, .slice pv L.logs.length cv, .int .i64 L.idx] 24) = wl at LL RR NWB WAS CL ⊢
              obtain ⟨qb, hqb⟩ : ∃ z, z = w14.heap.size := ⟨_, rfl⟩
              rw [← hqb] at LL ⊢
              clear hqb
              have HLI : Hid (∀ W, Below wl.heap.size wl W → ISeen W (.slice pv L.logs.length cv) L.logs) := Lib.hid (fun W hb => LL.out.seen.kb hb)
              have HNI : Hid (∀ W, Below wl.heap.size wl W → ISeen W (.slice pn now.logs.length cn) now.logs) := Lib.hid (fun W hb => WAS.out.seen.kb hb)
              have HRI : Hid (∀ W, Below wl.heap.size wl W → ISeen W (.slice pl R.logs.length cl) R.logs) := Lib.hid (fun W hb => RR.out.seen.kb hb)
              have HCB : Hid (Below w.heap.size w wl) := Lib.hid CL.out.bel
              have HS1 : Hid (∀ W, Below wl.heap.size wl W → W.cell? ⟨qb, 0, none⟩ = some (.int .i64 L.gen) ∧ W.cell? ⟨qb, 1, none⟩ = some (.slice pv L.logs.length cv) ∧ W.cell? ⟨qb, 2, none⟩ = some (.int .i64 L.idx) ∧ W.cell? ⟨wb, 0, none⟩ = some (.int .i64 now.gen) ∧ W.cell? ⟨wb, 1, none⟩ = some (.slice pn now.logs.length cn) ∧ W.cell? ⟨wb, 2, none⟩ = some (.int .i64 now.idx)) := Lib.hid (fun W hb => by
                obtain ⟨a0, a1, a2, _⟩ := (LL.out.kb hb).cells
                obtain ⟨b0, b1, b2, _⟩ := (WAS.out.kb hb).cells
                exact ⟨a0, a1, a2, b0, b1, b2⟩)
              have HS2 : Hid (∀ W, Below wl.heap.size wl W → W.cell? ⟨qb, 0, none⟩ = some (.int .i64 L.gen) ∧ W.cell? ⟨qb, 1, none⟩ = some (.slice pv L.logs.length cv) ∧ W.cell? ⟨qb, 2, none⟩ = some (.int .i64 L.idx) ∧ W.cell? ⟨rb, 0, none⟩ = some (.int .i64 R.gen) ∧ W.cell? ⟨rb, 1, none⟩ = some (.slice pl R.logs.length cl) ∧ W.cell? ⟨rb, 2, none⟩ = some (.int .i64 R.idx)) := Lib.hid (fun W hb => by
                obtain ⟨a0, a1, a2, _⟩ := (LL.out.kb hb).cells
                obtain ⟨b0, b1, b2, _⟩ := (RR.out.kb hb).cells
                exact ⟨a0, a1, a2, b0, b1, b2⟩)
              obtain ⟨nowN, hnowN⟩ : ∃ z, z = now := ⟨_, rfl⟩
              obtain ⟨lm, hlm⟩ : ∃ z, z = L.logs.length := ⟨_, rfl⟩
              obtain ⟨nm, hnm⟩ : ∃ z, z = now.logs.length := ⟨_, rfl⟩
              obtain ⟨rm, hrm⟩ : ∃ z, z = R.logs.length := ⟨_, rfl⟩
              rw [← hlm] at HS1 HS2 HLI ⊢
              rw [← hnm] at HS1 HNI NWB ⊢
              rw [← hrm] at HS2 HRI RR ⊢
              obtain ⟨nvN, hnvN⟩ : ∃ z, z = Value.slice pn nm cn := ⟨_, rfl⟩
              rw [← hnvN, ← hnowN] at NWB
              have HNN : Hid (nowN = now) := Lib.hid hnowN
              clear hlm hnm hrm LL WAS hnvN hnowN
              obtain ⟨o2, ho2⟩ : ∃ z : Option (List Int), z = some (encR now) := ⟨_, rfl⟩
              have HLL : Hid (L.logs.length ≤ 1000000) := Lib.hid (by rw [HLR.out]; have := (okR_iff.1 HON.out).2.2.1; omega)
              have HSO : Hid (sameR L now = true) := Lib.hid (sameR_iff.2 HLR.out)
              cases hsf : sameR L R with
              | true =>
                have HSF := Lib.hid hsf
                have FIN : Hid (Hd sL o2 ∧ NowIs o2 R) := Lib.hid ⟨by rw [ho2]; exact HD.out, .inr ⟨HOK.out, by rw [ho2, ← HLR.out, sameR_iff.1 hsf]⟩⟩
                clear hsf ho2 HD
                --TAIL false true true
                go_wp2_with fail
                have s0 := HS1.out wl.drew (below_dw (Below.refl _ _))
                try simp only [List.append]
                refine wp_region_noPanic ?_
                refine wp_region_held_drew (S := (fun W => W.cell? ⟨qb, 0, none⟩ = some (.int .i64 L.gen) ∧ W.cell? ⟨qb, 1, none⟩ = some (.slice pv lm cv) ∧ W.cell? ⟨qb, 2, none⟩ = some (.int .i64 L.idx) ∧ W.cell? ⟨wb, 0, none⟩ = some (.int .i64 now.gen) ∧ W.cell? ⟨wb, 1, none⟩ = some (.slice pn nm cn) ∧ W.cell? ⟨wb, 2, none⟩ = some (.int .i64 now.idx))) (by kernel_rfl) s0 (fun hHeld => ?_)
                refine wpAnyH_take (i := 0) (v := ?_) (by simp only [List.getElem?_toArray, List.getElem?_cons_zero]; rfl) (by kernel_rfl) (by kernel_rfl) (by kernel_rfl) (fun _ _ _ h => h) (Or.inl ⟨by rfl, ?_⟩) (by assumption) ?_
                rotate_left
                · intro w hSw
                  try dsimp only at hSw
                  go_simp
                  try with_reducible rfl
                try simp only [Act.put, List.setIfInBounds_toArray, List.set_cons_zero, List.set_cons_succ]
                refine wpAnyH_take (i := 1) (v := (.bool true)) (by simp only [List.getElem?_toArray, List.getElem?_cons_succ, List.getElem?_cons_zero]; rfl) (by kernel_rfl) (by kernel_rfl) (by kernel_rfl) (fun _ _ _ h => h) (Or.inl ⟨by rfl, ?_⟩) (by assumption) ?_
                · intro w hSw
                  try dsimp only at hSw
                  go_simp
                try simp only [Act.put, List.setIfInBounds_toArray, List.set_cons_zero, List.set_cons_succ]
                refine wpAnyH_take (i := 2) (v := ?_) (by simp only [List.getElem?_toArray, List.getElem?_cons_succ, List.getElem?_cons_zero]; rfl) (by kernel_rfl) (by kernel_rfl) (by kernel_rfl) (fun _ _ _ h => h) (Or.inl ⟨by rfl, ?_⟩) (by assumption) ?_
                rotate_left
                · intro w hSw
                  try dsimp only at hSw
                  go_simp
                  try with_reducible rfl
                try simp only [Act.put, List.setIfInBounds_toArray, List.set_cons_zero, List.set_cons_succ]
                refine wpAnyH_take (i := 3) (v := ?_) (by simp only [List.getElem?_toArray, List.getElem?_cons_succ, List.getElem?_cons_zero]; rfl) (by kernel_rfl) (by kernel_rfl) (by kernel_rfl) (fun _ _ _ h => h) (Or.inl ⟨by rfl, ?_⟩) (by assumption) ?_
                rotate_left
                · intro w hSw
                  try dsimp only at hSw
                  go_simp
                  try with_reducible rfl
                try simp only [Act.put, List.setIfInBounds_toArray, List.set_cons_zero, List.set_cons_succ]
                refine wpAnyH_take (i := 5) (v := ?_) (by simp only [List.getElem?_toArray, List.getElem?_cons_succ, List.getElem?_cons_zero]; rfl) (by kernel_rfl) (by kernel_rfl) (by kernel_rfl) (fun _ _ _ h => h) (Or.inl ⟨by rfl, ?_⟩) (by assumption) ?_
                rotate_left
                · intro w hSw
                  try dsimp only at hSw
                  go_simp
                  try with_reducible rfl
                try simp only [Act.put, List.setIfInBounds_toArray, List.set_cons_zero, List.set_cons_succ]
                refine wpAnyH_ready (rs := [4]) (by kernel_rfl) (by simp) ?_
                refine AllReadyH.cons (by simp only [List.getElem?_toArray, List.getElem?_cons_succ, List.getElem?_cons_zero]; rfl) (fun K hK => ?_) AllReadyH.nil
                go_simp
                refine (plain_to wl.drew L.gen L.idx pv lm cv).mono ?_
                rintro e v1 ⟨rfl, bb⟩
                have BV1 : Hid (Below wl.heap.size wl v1) := Lib.hid ⟨bb.os, bb.tape, bb.output, bb.size, bb.block⟩
                have s1 := HS1.out v1 BV1.out
                clear bb
                go_wp2_with fail
                refine hK.out _ _ s1 (fun hHeld => ?_)
                clear hK K
                try simp only [Act.put, List.setIfInBounds_toArray, List.set_cons_zero, List.set_cons_succ]
                refine wpAnyH_ready (rs := [6]) (by kernel_rfl) (by simp) ?_
                refine AllReadyH.cons (by simp only [List.getElem?_toArray, List.getElem?_cons_succ, List.getElem?_cons_zero]; rfl) (fun K hK => ?_) AllReadyH.nil
                go_simp
                refine (sameRoot_to v1 L.gen L.idx now.gen now.idx (.slice pv lm cv) (.slice pn nm cn) L.logs now.logs HLL.out (HLI.out v1 BV1.out) (HNI.out v1 BV1.out)).mono ?_
                rintro e v2 ⟨rfl, bb⟩
                rw [show sameR ⟨L.gen, L.logs, L.idx⟩ ⟨now.gen, now.logs, now.idx⟩ = true from HSO.out]
                have BV2 : Hid (Below wl.heap.size wl v2) := Lib.hid (BV1.out.trans (bb.mono BV1.out.size))
                have s2 := HS1.out v2 BV2.out
                clear bb
                go_wp2_with fail
                refine hK.out _ _ s2 (fun hHeld => ?_)
                clear hK K
                try simp only [Act.put, List.setIfInBounds_toArray, List.set_cons_zero, List.set_cons_succ]
                refine wpAnyH_take (i := 7) (v := (.bool true)) (by simp only [List.getElem?_toArray, List.getElem?_cons_succ, List.getElem?_cons_zero]; rfl) (by kernel_rfl) (by kernel_rfl) (by kernel_rfl) (fun _ _ _ h => h) (Or.inl ⟨by rfl, ?_⟩) (by assumption) ?_
                · intro w hSw
                  try dsimp only at hSw
                  go_simp
                try simp only [Act.put, List.setIfInBounds_toArray, List.set_cons_zero, List.set_cons_succ]
                refine wpAnyH_take (i := 8) (v := ?_) (by simp only [List.getElem?_toArray, List.getElem?_cons_succ, List.getElem?_cons_zero]; rfl) (by kernel_rfl) (by kernel_rfl) (by kernel_rfl) (fun _ _ _ h => h) (Or.inl ⟨by rfl, ?_⟩) (by assumption) ?_
                rotate_left
                · intro w hSw
                  try dsimp only at hSw
                  go_simp
                  try with_reducible rfl
                try simp only [Act.put, List.setIfInBounds_toArray, List.set_cons_zero, List.set_cons_succ]
                refine wpAnyH_take (i := 9) (v := undef) (by simp only [List.getElem?_toArray, List.getElem?_cons_succ, List.getElem?_cons_zero]; rfl) (by kernel_rfl) (by kernel_rfl) (by kernel_rfl) (fun _ _ _ h => h) (Or.inr ⟨by rfl, rfl⟩) (by assumption) ?_
                try simp only [Act.put, List.setIfInBounds_toArray, List.set_cons_zero, List.set_cons_succ]
                refine wpAnyH_take (i := 10) (v := undef) (by simp only [List.getElem?_toArray, List.getElem?_cons_succ, List.getElem?_cons_zero]; rfl) (by kernel_rfl) (by kernel_rfl) (by kernel_rfl) (fun _ _ _ h => h) (Or.inr ⟨by rfl, rfl⟩) (by assumption) ?_
                try simp only [Act.put, List.setIfInBounds_toArray, List.set_cons_zero, List.set_cons_succ]
                refine wpAnyH_take (i := 11) (v := undef) (by simp only [List.getElem?_toArray, List.getElem?_cons_succ, List.getElem?_cons_zero]; rfl) (by kernel_rfl) (by kernel_rfl) (by kernel_rfl) (fun _ _ _ h => h) (Or.inr ⟨by rfl, rfl⟩) (by assumption) ?_
                try simp only [Act.put, List.setIfInBounds_toArray, List.set_cons_zero, List.set_cons_succ]
                refine wpAnyH_take (i := 12) (v := undef) (by simp only [List.getElem?_toArray, List.getElem?_cons_succ, List.getElem?_cons_zero]; rfl) (by kernel_rfl) (by kernel_rfl) (by kernel_rfl) (fun _ _ _ h => h) (Or.inr ⟨by rfl, rfl⟩) (by assumption) ?_
                try simp only [Act.put, List.setIfInBounds_toArray, List.set_cons_zero, List.set_cons_succ]
                refine wpAnyH_take (i := 13) (v := undef) (by simp only [List.getElem?_toArray, List.getElem?_cons_succ, List.getElem?_cons_zero]; rfl) (by kernel_rfl) (by kernel_rfl) (by kernel_rfl) (fun _ _ _ h => h) (Or.inr ⟨by rfl, rfl⟩) (by assumption) ?_
                try simp only [Act.put, List.setIfInBounds_toArray, List.set_cons_zero, List.set_cons_succ]
                refine wpAnyH_take (i := 14) (v := undef) (by simp only [List.getElem?_toArray, List.getElem?_cons_succ, List.getElem?_cons_zero]; rfl) (by kernel_rfl) (by kernel_rfl) (by kernel_rfl) (fun _ _ _ h => h) (Or.inr ⟨by rfl, rfl⟩) (by assumption) ?_
                try simp only [Act.put, List.setIfInBounds_toArray, List.set_cons_zero, List.set_cons_succ]
                refine wpAnyH_take (i := 15) (v := undef) (by simp only [List.getElem?_toArray, List.getElem?_cons_succ, List.getElem?_cons_zero]; rfl) (by kernel_rfl) (by kernel_rfl) (by kernel_rfl) (fun _ _ _ h => h) (Or.inr ⟨by rfl, rfl⟩) (by assumption) ?_
                try simp only [Act.put, List.setIfInBounds_toArray, List.set_cons_zero, List.set_cons_succ]
                refine wpAnyH_take (i := 16) (v := undef) (by simp only [List.getElem?_toArray, List.getElem?_cons_succ, List.getElem?_cons_zero]; rfl) (by kernel_rfl) (by kernel_rfl) (by kernel_rfl) (fun _ _ _ h => h) (Or.inr ⟨by rfl, rfl⟩) (by assumption) ?_
                try simp only [Act.put, List.setIfInBounds_toArray, List.set_cons_zero, List.set_cons_succ]
                refine wpAnyH_take (i := 17) (v := (.bool true)) (by simp only [List.getElem?_toArray, List.getElem?_cons_succ, List.getElem?_cons_zero]; rfl) (by kernel_rfl) (by kernel_rfl) (by kernel_rfl) (fun _ _ _ h => h) (Or.inl ⟨by rfl, ?_⟩) (by assumption) ?_
                · intro w hSw
                  try dsimp only at hSw
                  go_simp
                try simp only [Act.put, List.setIfInBounds_toArray, List.set_cons_zero, List.set_cons_succ]
                refine wpAnyH_take (i := 18) (v := ?_) (by simp only [List.getElem?_toArray, List.getElem?_cons_succ, List.getElem?_cons_zero]; rfl) (by kernel_rfl) (by kernel_rfl) (by kernel_rfl) (fun _ _ _ h => h) (Or.inl ⟨by rfl, ?_⟩) (by assumption) ?_
                rotate_left
                · intro w hSw
                  try dsimp only at hSw
                  go_simp
                  try with_reducible rfl
                try simp only [Act.put, List.setIfInBounds_toArray, List.set_cons_zero, List.set_cons_succ]
                refine wpAnyH_done (by kernel_rfl) ?_ _
                refine NoPanic.normal ?_
                have BV3 := BV2
                obtain ⟨v3, hv3⟩ : ∃ z, z = v2 := ⟨_, rfl⟩
                rw [← hv3] at BV3 ⊢
                clear hv3
                go_wp2_with fail
                have q0 := HS2.out v3.drew (below_dw BV3.out)
                try simp only [List.append]
                refine wp_region_noPanic ?_
                refine wp_region_held_drew (S := (fun W => W.cell? ⟨qb, 0, none⟩ = some (.int .i64 L.gen) ∧ W.cell? ⟨qb, 1, none⟩ = some (.slice pv lm cv) ∧ W.cell? ⟨qb, 2, none⟩ = some (.int .i64 L.idx) ∧ W.cell? ⟨rb, 0, none⟩ = some (.int .i64 R.gen) ∧ W.cell? ⟨rb, 1, none⟩ = some (.slice pl rm cl) ∧ W.cell? ⟨rb, 2, none⟩ = some (.int .i64 R.idx))) (by kernel_rfl) q0 (fun hHeld => ?_)
                refine wpAnyH_take (i := 0) (v := ?_) (by simp only [List.getElem?_toArray, List.getElem?_cons_zero]; rfl) (by kernel_rfl) (by kernel_rfl) (by kernel_rfl) (fun _ _ _ h => h) (Or.inl ⟨by rfl, ?_⟩) (by assumption) ?_
                rotate_left
                · intro w hSw
                  try dsimp only at hSw
                  go_simp
                  try with_reducible rfl
                try simp only [Act.put, List.setIfInBounds_toArray, List.set_cons_zero, List.set_cons_succ]
                refine wpAnyH_take (i := 1) (v := (.bool true)) (by simp only [List.getElem?_toArray, List.getElem?_cons_succ, List.getElem?_cons_zero]; rfl) (by kernel_rfl) (by kernel_rfl) (by kernel_rfl) (fun _ _ _ h => h) (Or.inl ⟨by rfl, ?_⟩) (by assumption) ?_
                · intro w hSw
                  try dsimp only at hSw
                  go_simp
                try simp only [Act.put, List.setIfInBounds_toArray, List.set_cons_zero, List.set_cons_succ]
                refine wpAnyH_take (i := 2) (v := ?_) (by simp only [List.getElem?_toArray, List.getElem?_cons_succ, List.getElem?_cons_zero]; rfl) (by kernel_rfl) (by kernel_rfl) (by kernel_rfl) (fun _ _ _ h => h) (Or.inl ⟨by rfl, ?_⟩) (by assumption) ?_
                rotate_left
                · intro w hSw
                  try dsimp only at hSw
                  go_simp
                  try with_reducible rfl
                try simp only [Act.put, List.setIfInBounds_toArray, List.set_cons_zero, List.set_cons_succ]
                refine wpAnyH_take (i := 3) (v := ?_) (by simp only [List.getElem?_toArray, List.getElem?_cons_succ, List.getElem?_cons_zero]; rfl) (by kernel_rfl) (by kernel_rfl) (by kernel_rfl) (fun _ _ _ h => h) (Or.inl ⟨by rfl, ?_⟩) (by assumption) ?_
                rotate_left
                · intro w hSw
                  try dsimp only at hSw
                  go_simp
                  try with_reducible rfl
                try simp only [Act.put, List.setIfInBounds_toArray, List.set_cons_zero, List.set_cons_succ]
                refine wpAnyH_take (i := 5) (v := ?_) (by simp only [List.getElem?_toArray, List.getElem?_cons_succ, List.getElem?_cons_zero]; rfl) (by kernel_rfl) (by kernel_rfl) (by kernel_rfl) (fun _ _ _ h => h) (Or.inl ⟨by rfl, ?_⟩) (by assumption) ?_
                rotate_left
                · intro w hSw
                  try dsimp only at hSw
                  go_simp
                  try with_reducible rfl
                try simp only [Act.put, List.setIfInBounds_toArray, List.set_cons_zero, List.set_cons_succ]
                refine wpAnyH_ready (rs := [4]) (by kernel_rfl) (by simp) ?_
                refine AllReadyH.cons (by simp only [List.getElem?_toArray, List.getElem?_cons_succ, List.getElem?_cons_zero]; rfl) (fun K hK => ?_) AllReadyH.nil
                go_simp
                refine (plain_to v3.drew L.gen L.idx pv lm cv).mono ?_
                rintro e v4 ⟨rfl, bb⟩
                have BV4 : Hid (Below wl.heap.size wl v4) := Lib.hid (BV3.out.trans (Below.mono ⟨bb.os, bb.tape, bb.output, bb.size, bb.block⟩ BV3.out.size))
                have q1 := HS2.out v4 BV4.out
                clear bb
                go_wp2_with fail
                refine hK.out _ _ q1 (fun hHeld => ?_)
                clear hK K
                try simp only [Act.put, List.setIfInBounds_toArray, List.set_cons_zero, List.set_cons_succ]
                refine wpAnyH_ready (rs := [6]) (by kernel_rfl) (by simp) ?_
                refine AllReadyH.cons (by simp only [List.getElem?_toArray, List.getElem?_cons_succ, List.getElem?_cons_zero]; rfl) (fun K hK => ?_) AllReadyH.nil
                go_simp
                refine (plain_to v4 R.gen R.idx pl rm cl).mono ?_
                rintro e v5 ⟨rfl, bb⟩
                have BV5 : Hid (Below wl.heap.size wl v5) := Lib.hid (BV4.out.trans (bb.mono BV4.out.size))
                have q2 := HS2.out v5 BV5.out
                clear bb
                go_wp2_with fail
                refine hK.out _ _ q2 (fun hHeld => ?_)
                clear hK K
                try simp only [Act.put, List.setIfInBounds_toArray, List.set_cons_zero, List.set_cons_succ]
                refine wpAnyH_ready (rs := [7]) (by kernel_rfl) (by simp) ?_
                refine AllReadyH.cons (by simp only [List.getElem?_toArray, List.getElem?_cons_succ, List.getElem?_cons_zero]; rfl) (fun K hK => ?_) AllReadyH.nil
                go_simp
                refine (sameRoot_to v5 L.gen L.idx R.gen R.idx (.slice pv lm cv) (.slice pl rm cl) L.logs R.logs HLL.out (HLI.out v5 BV5.out) (HRI.out v5 BV5.out)).mono ?_
                rintro e v6 ⟨rfl, bb⟩
                rw [show sameR ⟨L.gen, L.logs, L.idx⟩ ⟨R.gen, R.logs, R.idx⟩ = true from HSF.out]
                have BV6 : Hid (Below wl.heap.size wl v6) := Lib.hid (BV5.out.trans (bb.mono BV5.out.size))
                have q3 := HS2.out v6 BV6.out
                clear bb
                go_wp2_with fail
                refine hK.out _ _ q3 (fun hHeld => ?_)
                clear hK K
                try simp only [Act.put, List.setIfInBounds_toArray, List.set_cons_zero, List.set_cons_succ]
                refine wpAnyH_take (i := 8) (v := (.bool true)) (by simp only [List.getElem?_toArray, List.getElem?_cons_succ, List.getElem?_cons_zero]; rfl) (by kernel_rfl) (by kernel_rfl) (by kernel_rfl) (fun _ _ _ h => h) (Or.inl ⟨by rfl, ?_⟩) (by assumption) ?_
                · intro w hSw
                  try dsimp only at hSw
                  go_simp
                try simp only [Act.put, List.setIfInBounds_toArray, List.set_cons_zero, List.set_cons_succ]
                refine wpAnyH_take (i := 9) (v := ?_) (by simp only [List.getElem?_toArray, List.getElem?_cons_succ, List.getElem?_cons_zero]; rfl) (by kernel_rfl) (by kernel_rfl) (by kernel_rfl) (fun _ _ _ h => h) (Or.inl ⟨by rfl, ?_⟩) (by assumption) ?_
                rotate_left
                · intro w hSw
                  try dsimp only at hSw
                  go_simp
                  try with_reducible rfl
                try simp only [Act.put, List.setIfInBounds_toArray, List.set_cons_zero, List.set_cons_succ]
                refine wpAnyH_done (by kernel_rfl) ?_ _
                refine NoPanic.normal ?_
                have y0 := q3.2.2.2
                go_wp2_with fail
                refine (plain_to v6 R.gen R.idx pl rm cl).mono ?_
                rintro e v7 ⟨rfl, bb⟩
                have BV7 : Hid (Below wl.heap.size wl v7) := Lib.hid (BV6.out.trans (bb.mono BV6.out.size))
                clear bb
                have N7 := Lib.hid (NWB.out.kb BV7.out)
                have R7 := Lib.hid (RR.out.kb BV7.out)
                have C7 := Lib.hid (CL.out.kb BV7.out)
                obtain ⟨n0, n1, n2, nf⟩ := N7.out.cells
                go_wp2_with fail
                have HSET := Lib.hid (N7.out.set R7.out (by decide))
                have HO7 : Hid (Only (fun k => k = nb) v7 (((v7.setCell ⟨nb, 0, none⟩ (.int .i64 R.gen)).setCell ⟨nb, 1, none⟩ (.slice pl rm cl)).setCell ⟨nb, 2, none⟩ (.int .i64 R.idx))) := Lib.hid (only3 (Only.refl (fun k => k = nb) v7) rfl _ _ _)
                exact ⟨⟨k + 1, SL, sL, o2, R, .slice pl rm cl, by omega, by omega, by go_num, Lib.hid ⟨C7.out.other HO7.out HNB.out N7.out.nb, FIN.out.1, FIN.out.2, HSET.out, SK.out⟩⟩, by simp [intOf]; omega⟩
                --END
              | false =>
                have HSF := Lib.hid hsf
                have FIN : Hid (Hd sL o2 ∧ NowIs o2 nowN) := Lib.hid ⟨by rw [ho2]; exact HD.out, .inr ⟨by rw [HNN.out]; exact HON.out, by rw [ho2, HNN.out]⟩⟩
                clear hsf ho2 HD
                --TAIL false true false
                go_wp2_with fail
                have s0 := HS1.out wl.drew (below_dw (Below.refl _ _))
                try simp only [List.append]
                refine wp_region_noPanic ?_
                refine wp_region_held_drew (S := (fun W => W.cell? ⟨qb, 0, none⟩ = some (.int .i64 L.gen) ∧ W.cell? ⟨qb, 1, none⟩ = some (.slice pv lm cv) ∧ W.cell? ⟨qb, 2, none⟩ = some (.int .i64 L.idx) ∧ W.cell? ⟨wb, 0, none⟩ = some (.int .i64 now.gen) ∧ W.cell? ⟨wb, 1, none⟩ = some (.slice pn nm cn) ∧ W.cell? ⟨wb, 2, none⟩ = some (.int .i64 now.idx))) (by kernel_rfl) s0 (fun hHeld => ?_)
                refine wpAnyH_take (i := 0) (v := ?_) (by simp only [List.getElem?_toArray, List.getElem?_cons_zero]; rfl) (by kernel_rfl) (by kernel_rfl) (by kernel_rfl) (fun _ _ _ h => h) (Or.inl ⟨by rfl, ?_⟩) (by assumption) ?_
                rotate_left
                · intro w hSw
                  try dsimp only at hSw
                  go_simp
                  try with_reducible rfl
                try simp only [Act.put, List.setIfInBounds_toArray, List.set_cons_zero, List.set_cons_succ]
                refine wpAnyH_take (i := 1) (v := (.bool true)) (by simp only [List.getElem?_toArray, List.getElem?_cons_succ, List.getElem?_cons_zero]; rfl) (by kernel_rfl) (by kernel_rfl) (by kernel_rfl) (fun _ _ _ h => h) (Or.inl ⟨by rfl, ?_⟩) (by assumption) ?_
                · intro w hSw
                  try dsimp only at hSw
                  go_simp
                try simp only [Act.put, List.setIfInBounds_toArray, List.set_cons_zero, List.set_cons_succ]
                refine wpAnyH_take (i := 2) (v := ?_) (by simp only [List.getElem?_toArray, List.getElem?_cons_succ, List.getElem?_cons_zero]; rfl) (by kernel_rfl) (by kernel_rfl) (by kernel_rfl) (fun _ _ _ h => h) (Or.inl ⟨by rfl, ?_⟩) (by assumption) ?_
                rotate_left
                · intro w hSw
                  try dsimp only at hSw
                  go_simp
                  try with_reducible rfl
                try simp only [Act.put, List.setIfInBounds_toArray, List.set_cons_zero, List.set_cons_succ]
                refine wpAnyH_take (i := 3) (v := ?_) (by simp only [List.getElem?_toArray, List.getElem?_cons_succ, List.getElem?_cons_zero]; rfl) (by kernel_rfl) (by kernel_rfl) (by kernel_rfl) (fun _ _ _ h => h) (Or.inl ⟨by rfl, ?_⟩) (by assumption) ?_
                rotate_left
                · intro w hSw
                  try dsimp only at hSw
                  go_simp
                  try with_reducible rfl
                try simp only [Act.put, List.setIfInBounds_toArray, List.set_cons_zero, List.set_cons_succ]
                refine wpAnyH_take (i := 5) (v := ?_) (by simp only [List.getElem?_toArray, List.getElem?_cons_succ, List.getElem?_cons_zero]; rfl) (by kernel_rfl) (by kernel_rfl) (by kernel_rfl) (fun _ _ _ h => h) (Or.inl ⟨by rfl, ?_⟩) (by assumption) ?_
                rotate_left
                · intro w hSw
                  try dsimp only at hSw
                  go_simp
                  try with_reducible rfl
                try simp only [Act.put, List.setIfInBounds_toArray, List.set_cons_zero, List.set_cons_succ]
                refine wpAnyH_ready (rs := [4]) (by kernel_rfl) (by simp) ?_
                refine AllReadyH.cons (by simp only [List.getElem?_toArray, List.getElem?_cons_succ, List.getElem?_cons_zero]; rfl) (fun K hK => ?_) AllReadyH.nil
                go_simp
                refine (plain_to wl.drew L.gen L.idx pv lm cv).mono ?_
                rintro e v1 ⟨rfl, bb⟩
                have BV1 : Hid (Below wl.heap.size wl v1) := Lib.hid ⟨bb.os, bb.tape, bb.output, bb.size, bb.block⟩
                have s1 := HS1.out v1 BV1.out
                clear bb
                go_wp2_with fail
                refine hK.out _ _ s1 (fun hHeld => ?_)
                clear hK K
                try simp only [Act.put, List.setIfInBounds_toArray, List.set_cons_zero, List.set_cons_succ]
                refine wpAnyH_ready (rs := [6]) (by kernel_rfl) (by simp) ?_
                refine AllReadyH.cons (by simp only [List.getElem?_toArray, List.getElem?_cons_succ, List.getElem?_cons_zero]; rfl) (fun K hK => ?_) AllReadyH.nil
                go_simp
                refine (sameRoot_to v1 L.gen L.idx now.gen now.idx (.slice pv lm cv) (.slice pn nm cn) L.logs now.logs HLL.out (HLI.out v1 BV1.out) (HNI.out v1 BV1.out)).mono ?_
                rintro e v2 ⟨rfl, bb⟩
                rw [show sameR ⟨L.gen, L.logs, L.idx⟩ ⟨now.gen, now.logs, now.idx⟩ = true from HSO.out]
                have BV2 : Hid (Below wl.heap.size wl v2) := Lib.hid (BV1.out.trans (bb.mono BV1.out.size))
                have s2 := HS1.out v2 BV2.out
                clear bb
                go_wp2_with fail
                refine hK.out _ _ s2 (fun hHeld => ?_)
                clear hK K
                try simp only [Act.put, List.setIfInBounds_toArray, List.set_cons_zero, List.set_cons_succ]
                refine wpAnyH_take (i := 7) (v := (.bool true)) (by simp only [List.getElem?_toArray, List.getElem?_cons_succ, List.getElem?_cons_zero]; rfl) (by kernel_rfl) (by kernel_rfl) (by kernel_rfl) (fun _ _ _ h => h) (Or.inl ⟨by rfl, ?_⟩) (by assumption) ?_
                · intro w hSw
                  try dsimp only at hSw
                  go_simp
                try simp only [Act.put, List.setIfInBounds_toArray, List.set_cons_zero, List.set_cons_succ]
                refine wpAnyH_take (i := 8) (v := ?_) (by simp only [List.getElem?_toArray, List.getElem?_cons_succ, List.getElem?_cons_zero]; rfl) (by kernel_rfl) (by kernel_rfl) (by kernel_rfl) (fun _ _ _ h => h) (Or.inl ⟨by rfl, ?_⟩) (by assumption) ?_
                rotate_left
                · intro w hSw
                  try dsimp only at hSw
                  go_simp
                  try with_reducible rfl
                try simp only [Act.put, List.setIfInBounds_toArray, List.set_cons_zero, List.set_cons_succ]
                refine wpAnyH_take (i := 9) (v := undef) (by simp only [List.getElem?_toArray, List.getElem?_cons_succ, List.getElem?_cons_zero]; rfl) (by kernel_rfl) (by kernel_rfl) (by kernel_rfl) (fun _ _ _ h => h) (Or.inr ⟨by rfl, rfl⟩) (by assumption) ?_
                try simp only [Act.put, List.setIfInBounds_toArray, List.set_cons_zero, List.set_cons_succ]
                refine wpAnyH_take (i := 10) (v := undef) (by simp only [List.getElem?_toArray, List.getElem?_cons_succ, List.getElem?_cons_zero]; rfl) (by kernel_rfl) (by kernel_rfl) (by kernel_rfl) (fun _ _ _ h => h) (Or.inr ⟨by rfl, rfl⟩) (by assumption) ?_
                try simp only [Act.put, List.setIfInBounds_toArray, List.set_cons_zero, List.set_cons_succ]
                refine wpAnyH_take (i := 11) (v := undef) (by simp only [List.getElem?_toArray, List.getElem?_cons_succ, List.getElem?_cons_zero]; rfl) (by kernel_rfl) (by kernel_rfl) (by kernel_rfl) (fun _ _ _ h => h) (Or.inr ⟨by rfl, rfl⟩) (by assumption) ?_
                try simp only [Act.put, List.setIfInBounds_toArray, List.set_cons_zero, List.set_cons_succ]
                refine wpAnyH_take (i := 12) (v := undef) (by simp only [List.getElem?_toArray, List.getElem?_cons_succ, List.getElem?_cons_zero]; rfl) (by kernel_rfl) (by kernel_rfl) (by kernel_rfl) (fun _ _ _ h => h) (Or.inr ⟨by rfl, rfl⟩) (by assumption) ?_
                try simp only [Act.put, List.setIfInBounds_toArray, List.set_cons_zero, List.set_cons_succ]
                refine wpAnyH_take (i := 13) (v := undef) (by simp only [List.getElem?_toArray, List.getElem?_cons_succ, List.getElem?_cons_zero]; rfl) (by kernel_rfl) (by kernel_rfl) (by kernel_rfl) (fun _ _ _ h => h) (Or.inr ⟨by rfl, rfl⟩) (by assumption) ?_
                try simp only [Act.put, List.setIfInBounds_toArray, List.set_cons_zero, List.set_cons_succ]
                refine wpAnyH_take (i := 14) (v := undef) (by simp only [List.getElem?_toArray, List.getElem?_cons_succ, List.getElem?_cons_zero]; rfl) (by kernel_rfl) (by kernel_rfl) (by kernel_rfl) (fun _ _ _ h => h) (Or.inr ⟨by rfl, rfl⟩) (by assumption) ?_
                try simp only [Act.put, List.setIfInBounds_toArray, List.set_cons_zero, List.set_cons_succ]
                refine wpAnyH_take (i := 15) (v := undef) (by simp only [List.getElem?_toArray, List.getElem?_cons_succ, List.getElem?_cons_zero]; rfl) (by kernel_rfl) (by kernel_rfl) (by kernel_rfl) (fun _ _ _ h => h) (Or.inr ⟨by rfl, rfl⟩) (by assumption) ?_
                try simp only [Act.put, List.setIfInBounds_toArray, List.set_cons_zero, List.set_cons_succ]
                refine wpAnyH_take (i := 16) (v := undef) (by simp only [List.getElem?_toArray, List.getElem?_cons_succ, List.getElem?_cons_zero]; rfl) (by kernel_rfl) (by kernel_rfl) (by kernel_rfl) (fun _ _ _ h => h) (Or.inr ⟨by rfl, rfl⟩) (by assumption) ?_
                try simp only [Act.put, List.setIfInBounds_toArray, List.set_cons_zero, List.set_cons_succ]
                refine wpAnyH_take (i := 17) (v := (.bool true)) (by simp only [List.getElem?_toArray, List.getElem?_cons_succ, List.getElem?_cons_zero]; rfl) (by kernel_rfl) (by kernel_rfl) (by kernel_rfl) (fun _ _ _ h => h) (Or.inl ⟨by rfl, ?_⟩) (by assumption) ?_
                · intro w hSw
                  try dsimp only at hSw
                  go_simp
                try simp only [Act.put, List.setIfInBounds_toArray, List.set_cons_zero, List.set_cons_succ]
                refine wpAnyH_take (i := 18) (v := ?_) (by simp only [List.getElem?_toArray, List.getElem?_cons_succ, List.getElem?_cons_zero]; rfl) (by kernel_rfl) (by kernel_rfl) (by kernel_rfl) (fun _ _ _ h => h) (Or.inl ⟨by rfl, ?_⟩) (by assumption) ?_
                rotate_left
                · intro w hSw
                  try dsimp only at hSw
                  go_simp
                  try with_reducible rfl
                try simp only [Act.put, List.setIfInBounds_toArray, List.set_cons_zero, List.set_cons_succ]
                refine wpAnyH_done (by kernel_rfl) ?_ _
                refine NoPanic.normal ?_
                have BV3 := BV2
                obtain ⟨v3, hv3⟩ : ∃ z, z = v2 := ⟨_, rfl⟩
                rw [← hv3] at BV3 ⊢
                clear hv3
                go_wp2_with fail
                have q0 := HS2.out v3.drew (below_dw BV3.out)
                try simp only [List.append]
                refine wp_region_noPanic ?_
                refine wp_region_held_drew (S := (fun W => W.cell? ⟨qb, 0, none⟩ = some (.int .i64 L.gen) ∧ W.cell? ⟨qb, 1, none⟩ = some (.slice pv lm cv) ∧ W.cell? ⟨qb, 2, none⟩ = some (.int .i64 L.idx) ∧ W.cell? ⟨rb, 0, none⟩ = some (.int .i64 R.gen) ∧ W.cell? ⟨rb, 1, none⟩ = some (.slice pl rm cl) ∧ W.cell? ⟨rb, 2, none⟩ = some (.int .i64 R.idx))) (by kernel_rfl) q0 (fun hHeld => ?_)
                refine wpAnyH_take (i := 0) (v := ?_) (by simp only [List.getElem?_toArray, List.getElem?_cons_zero]; rfl) (by kernel_rfl) (by kernel_rfl) (by kernel_rfl) (fun _ _ _ h => h) (Or.inl ⟨by rfl, ?_⟩) (by assumption) ?_
                rotate_left
                · intro w hSw
                  try dsimp only at hSw
                  go_simp
                  try with_reducible rfl
                try simp only [Act.put, List.setIfInBounds_toArray, List.set_cons_zero, List.set_cons_succ]
                refine wpAnyH_take (i := 1) (v := (.bool true)) (by simp only [List.getElem?_toArray, List.getElem?_cons_succ, List.getElem?_cons_zero]; rfl) (by kernel_rfl) (by kernel_rfl) (by kernel_rfl) (fun _ _ _ h => h) (Or.inl ⟨by rfl, ?_⟩) (by assumption) ?_
                · intro w hSw
                  try dsimp only at hSw
                  go_simp
                try simp only [Act.put, List.setIfInBounds_toArray, List.set_cons_zero, List.set_cons_succ]
                refine wpAnyH_take (i := 2) (v := ?_) (by simp only [List.getElem?_toArray, List.getElem?_cons_succ, List.getElem?_cons_zero]; rfl) (by kernel_rfl) (by kernel_rfl) (by kernel_rfl) (fun _ _ _ h => h) (Or.inl ⟨by rfl, ?_⟩) (by assumption) ?_
                rotate_left
                · intro w hSw
                  try dsimp only at hSw
                  go_simp
                  try with_reducible rfl
                try simp only [Act.put, List.setIfInBounds_toArray, List.set_cons_zero, List.set_cons_succ]
                refine wpAnyH_take (i := 3) (v := ?_) (by simp only [List.getElem?_toArray, List.getElem?_cons_succ, List.getElem?_cons_zero]; rfl) (by kernel_rfl) (by kernel_rfl) (by kernel_rfl) (fun _ _ _ h => h) (Or.inl ⟨by rfl, ?_⟩) (by assumption) ?_
                rotate_left
                · intro w hSw
                  try dsimp only at hSw
                  go_simp
                  try with_reducible rfl
                try simp only [Act.put, List.setIfInBounds_toArray, List.set_cons_zero, List.set_cons_succ]
                refine wpAnyH_take (i := 5) (v := ?_) (by simp only [List.getElem?_toArray, List.getElem?_cons_succ, List.getElem?_cons_zero]; rfl) (by kernel_rfl) (by kernel_rfl) (by kernel_rfl) (fun _ _ _ h => h) (Or.inl ⟨by rfl, ?_⟩) (by assumption) ?_
                rotate_left
                · intro w hSw
                  try dsimp only at hSw
                  go_simp
                  try with_reducible rfl
                try simp only [Act.put, List.setIfInBounds_toArray, List.set_cons_zero, List.set_cons_succ]
                refine wpAnyH_ready (rs := [4]) (by kernel_rfl) (by simp) ?_
                refine AllReadyH.cons (by simp only [List.getElem?_toArray, List.getElem?_cons_succ, List.getElem?_cons_zero]; rfl) (fun K hK => ?_) AllReadyH.nil
                go_simp
                refine (plain_to v3.drew L.gen L.idx pv lm cv).mono ?_
                rintro e v4 ⟨rfl, bb⟩
                have BV4 : Hid (Below wl.heap.size wl v4) := Lib.hid (BV3.out.trans (Below.mono ⟨bb.os, bb.tape, bb.output, bb.size, bb.block⟩ BV3.out.size))
                have q1 := HS2.out v4 BV4.out
                clear bb
                go_wp2_with fail
                refine hK.out _ _ q1 (fun hHeld => ?_)
                clear hK K
                try simp only [Act.put, List.setIfInBounds_toArray, List.set_cons_zero, List.set_cons_succ]
                refine wpAnyH_ready (rs := [6]) (by kernel_rfl) (by simp) ?_
                refine AllReadyH.cons (by simp only [List.getElem?_toArray, List.getElem?_cons_succ, List.getElem?_cons_zero]; rfl) (fun K hK => ?_) AllReadyH.nil
                go_simp
                refine (plain_to v4 R.gen R.idx pl rm cl).mono ?_
                rintro e v5 ⟨rfl, bb⟩
                have BV5 : Hid (Below wl.heap.size wl v5) := Lib.hid (BV4.out.trans (bb.mono BV4.out.size))
                have q2 := HS2.out v5 BV5.out
                clear bb
                go_wp2_with fail
                refine hK.out _ _ q2 (fun hHeld => ?_)
                clear hK K
                try simp only [Act.put, List.setIfInBounds_toArray, List.set_cons_zero, List.set_cons_succ]
                refine wpAnyH_ready (rs := [7]) (by kernel_rfl) (by simp) ?_
                refine AllReadyH.cons (by simp only [List.getElem?_toArray, List.getElem?_cons_succ, List.getElem?_cons_zero]; rfl) (fun K hK => ?_) AllReadyH.nil
                go_simp
                refine (sameRoot_to v5 L.gen L.idx R.gen R.idx (.slice pv lm cv) (.slice pl rm cl) L.logs R.logs HLL.out (HLI.out v5 BV5.out) (HRI.out v5 BV5.out)).mono ?_
                rintro e v6 ⟨rfl, bb⟩
                rw [show sameR ⟨L.gen, L.logs, L.idx⟩ ⟨R.gen, R.logs, R.idx⟩ = false from HSF.out]
                have BV6 : Hid (Below wl.heap.size wl v6) := Lib.hid (BV5.out.trans (bb.mono BV5.out.size))
                have q3 := HS2.out v6 BV6.out
                clear bb
                go_wp2_with fail
                refine hK.out _ _ q3 (fun hHeld => ?_)
                clear hK K
                try simp only [Act.put, List.setIfInBounds_toArray, List.set_cons_zero, List.set_cons_succ]
                refine wpAnyH_take (i := 8) (v := (.bool false)) (by simp only [List.getElem?_toArray, List.getElem?_cons_succ, List.getElem?_cons_zero]; rfl) (by kernel_rfl) (by kernel_rfl) (by kernel_rfl) (fun _ _ _ h => h) (Or.inl ⟨by rfl, ?_⟩) (by assumption) ?_
                · intro w hSw
                  try dsimp only at hSw
                  go_simp
                try simp only [Act.put, List.setIfInBounds_toArray, List.set_cons_zero, List.set_cons_succ]
                refine wpAnyH_take (i := 9) (v := ?_) (by simp only [List.getElem?_toArray, List.getElem?_cons_succ, List.getElem?_cons_zero]; rfl) (by kernel_rfl) (by kernel_rfl) (by kernel_rfl) (fun _ _ _ h => h) (Or.inl ⟨by rfl, ?_⟩) (by assumption) ?_
                rotate_left
                · intro w hSw
                  try dsimp only at hSw
                  go_simp
                  try with_reducible rfl
                try simp only [Act.put, List.setIfInBounds_toArray, List.set_cons_zero, List.set_cons_succ]
                refine wpAnyH_done (by kernel_rfl) ?_ _
                refine NoPanic.normal ?_
                go_wp2_with fail
                exact ⟨⟨k + 1, SL, sL, o2, nowN, nvN, by omega, by omega, by go_num, Lib.hid ⟨CL.out.kb BV6.out, FIN.out.1, FIN.out.2, NWB.out.kb BV6.out, SK.out⟩⟩, by simp [intOf]; omega⟩
                --END
      case inr =>
        have hv9 : v9 = .nilIface := by
          rcases HE0.out with ⟨_, h⟩ | ⟨h, _⟩ | ⟨h, _⟩
          · exact h
          · exact absurd hz h
          · exact absurd hz h
        subst hv9
        have HD := Lib.hid hhd
        clear hz hhd HE0 HC
        obtain ⟨r0, r1, r2, _⟩ := RR0.out.cells
        go_wp2_with fail
        clear r0 r1 r2
        refine (plain_to w10 R.gen R.idx pl R.logs.length cl).mono ?_
        rintro e w11 ⟨rfl, b11⟩
        have WAS1 := Lib.hid (WAS0.out.kb b11)
        have RR1 := Lib.hid (RR0.out.kb b11)
        have X1 := Lib.hid (X0.out.kb b11)
        have N1 := Lib.hid (N0.out.kb b11)
        have C1 := Lib.hid (C0.out.kb b11)
        clear b11 WAS0 RR0 X0 N0 C0
        obtain ⟨n0, n1, n2, nf⟩ := N1.out.cells
        go_upto_region 20 with fail
        clear n0 n1 n2 nf
        have HSET := Lib.hid (N1.out.set RR1.out (by decide))
        have HO7 : Hid (Only (fun k => k = nb) w11 (((w11.setCell ⟨nb, 0, none⟩ (.int .i64 R.gen)).setCell ⟨nb, 1, none⟩ (.slice pl R.logs.length cl)).setCell ⟨nb, 2, none⟩ (.int .i64 R.idx))) := Lib.hid (only3 (Only.refl (fun k => k = nb) w11) rfl _ _ _)
        generalize ((w11.setCell ⟨nb, 0, none⟩ (.int .i64 R.gen)).setCell ⟨nb, 1, none⟩ (.slice pl R.logs.length cl)).setCell ⟨nb, 2, none⟩ (.int .i64 R.idx) = w12 at HSET HO7 ⊢
        have WAS2 := Lib.hid (WAS1.out.other HO7.out HWN.out N1.out.obj (by decide))
        have RR2 := Lib.hid (RR1.out.other HO7.out HRN2.out.1 N1.out.obj (by decide))
        have X2 := Lib.hid (X1.out.other HO7.out (fun e => NX.out.1 e))
        have C2 := Lib.hid (C1.out.other HO7.out HNB.out N1.out.nb)
        clear HO7 WAS1 RR1 X1 N1 C1
        have x2 := X2.out.c2
        have x1 := X2.out.c1
        have hal : t.2.dead = false := by obtain ⟨K, hm, _⟩ := HD.out; exact hm.alive
        have HDE := Lib.hid (dead8_ds w12 _ d S9 t.2 C2.out.ds)
        rw [hal] at HDE
        clear hal
        go_upto_if 76 with (go_at_call 21; refine HDE.out.mono ?_; rintro e w' ⟨rfl, rfl⟩)
        go_cut [75, 76] from 77 to 82 (fun _ _ wx => ∃ (SL : Nat → Prop) (sL : St), Hid (Cl w wx w.heap.size d SL sL) ∧ Hid (RM wx SL 24 rb (.slice pl R.logs.length cl) R) ∧ Hid (RM wx SL 44 nb (.slice pl R.logs.length cl) R) ∧ Hid (RM wx SL 44 wb (.slice pn now.logs.length cn) now) ∧ Hid (Hd sL (some (encR R))) ∧ Hid (Sk sL (5 * k + 5)))
        case first =>
          by_cases h4 : x.cut.tmod 4 = 0
          · have h4' : (x.cut.tmod 4 == 0) = true := by simpa using h4
            have HCR := Lib.hid (crash_to w12 _ d S9 t.2 x.n x.cut C2.out.ds (by have := HS0.out.works; omega))
            clear h4
            go_wp2_with fail
            refine HCR.out.mono ?_
            rintro e w13 ⟨rfl, S5, d5, o5, s5⟩
            have CL := Lib.hid (C2.out.step d5 o5 s5)
            have RR := Lib.hid (RR2.out.step o5 s5)
            have NN := Lib.hid (HSET.out.step o5 s5)
            have WW := Lib.hid (WAS2.out.step o5 s5)
            clear d5 o5 s5 x1 x2
            go_wp2_with fail
            go_meet
            case rel => exact ⟨S5, _, CL, RR, NN, WW, Lib.hid (HD.out.crash _ _), Lib.hid (HS0.out.crash _ _)⟩
          · have h4' : (x.cut.tmod 4 == 0) = false := by simpa using h4
            clear h4
            go_wp2_with fail
            go_meet
            case rel => exact ⟨S9, t.2, C2, RR2, HSET, WAS2, HD, HS0⟩
        case rest =>
          clear x1 x2 WAS2 RR2 X2 C2 HSET HD HS0 HDE
          obtain ⟨SL, sL, CL0, RR0, NW0, WAS0, HD, SK0⟩ := hcut
          have SK : Hid (Sk sL (5 * (k + 1))) := Lib.hid SK0.out
          go_wp2_with fail
          refine (rload_to wc _ d SL sL CL0.out.ds (by rw [HD.out.load.2]; exact encR_ok R)).mono ?_
          rintro e w14 ⟨gL, vL, iL, cL, lL, rfl, ovL, hlL, b14⟩
          obtain ⟨rfl, hLR⟩ := HD.out.ldsome HOK.out hlL
          obtain ⟨L, hL⟩ : ∃ z : Rt, z = ⟨gL, lL, iL⟩ := ⟨_, rfl⟩
          have HLR : Hid (L = R) := Lib.hid (by rw [hL]; exact hLR)
          obtain ⟨rfl, rfl, rfl⟩ : gL = L.gen ∧ lL = L.logs ∧ iL = L.idx := by rw [hL]; exact ⟨rfl, rfl, rfl⟩
          obtain ⟨pv, cv, rfl⟩ := own_slice ovL
          rw [show enoOf 0 = .nilIface from rfl]
          have OVL := Lib.hid ovL
          have OVS : Hid (∀ k, (Value.slice pv L.logs.length cv).ownBlock = some k → ¬ SL k) := Lib.hid (fun k hk e => by have h1 := (ovL.lt k hk).1; have h2 := CL0.out.ds.lt _ e; omega)
          have RR1 := Lib.hid (RR0.out.kb b14)
          have NW1 := Lib.hid (NW0.out.kb b14)
          have WAS1 := Lib.hid (WAS0.out.kb b14)
          have CL1 := Lib.hid (CL0.out.kb b14)
          clear ovL hlL hLR hL b14 RR0 NW0 WAS0 CL0
          go_upto_region 23 with fail
          have b15 : Below w14.heap.size w14 (w14.alloc (.cells #[.int .i64 L.gen, .slice pv L.logs.length cv, .int .i64 L.idx] 24)) := (Below.refl _ _).alloc (Nat.le_refl _) _
          have LL := Lib.hid (RM.new (S := SL) (T := 24) OVL.out CL1.out.ds.lt OVS.out rfl rfl rfl)
          have RR := Lib.hid (RR1.out.kb b15)
          have NWB := Lib.hid (NW1.out.kb b15)
          have WAS := Lib.hid (WAS1.out.kb b15)
          have CL := Lib.hid (CL1.out.kb b15)
          clear b15 OVL OVS RR1 NW1 WAS1 CL1
          generalize w14.alloc (.cells #[.int .i64 L.gen, .slice pv L.logs.length cv, .int .i64 L.idx] 24) = wl at LL RR NWB WAS CL ⊢
          obtain ⟨qb, hqb⟩ : ∃ z, z = w14.heap.size := ⟨_, rfl⟩
          rw [← hqb] at LL ⊢
          clear hqb
          obtain ⟨o2, ho2⟩ : ∃ z : Option (List Int), z = some (encR R) := ⟨_, rfl⟩
          have FIN : Hid (Hd sL o2 ∧ NowIs o2 R) := Lib.hid ⟨by rw [ho2]; exact HD.out, .inr ⟨HOK.out, ho2⟩⟩
          clear ho2 HD
          have HLL : Hid (L.logs.length ≤ 1000000) := Lib.hid (by rw [HLR.out]; exact Nat.le_trans HRN.out (by decide))
          have HLI : Hid (∀ W, Below wl.heap.size wl W → ISeen W (.slice pv L.logs.length cv) L.logs) := Lib.hid (fun W hb => LL.out.seen.kb hb)
          have HNI : Hid (∀ W, Below wl.heap.size wl W → ISeen W (.slice pn now.logs.length cn) now.logs) := Lib.hid (fun W hb => WAS.out.seen.kb hb)
          have HRI : Hid (∀ W, Below wl.heap.size wl W → ISeen W (.slice pl R.logs.length cl) R.logs) := Lib.hid (fun W hb => RR.out.seen.kb hb)
          have HCB : Hid (Below w.heap.size w wl) := Lib.hid CL.out.bel
          have HS1 : Hid (∀ W, Below wl.heap.size wl W → W.cell? ⟨qb, 0, none⟩ = some (.int .i64 L.gen) ∧ W.cell? ⟨qb, 1, none⟩ = some (.slice pv L.logs.length cv) ∧ W.cell? ⟨qb, 2, none⟩ = some (.int .i64 L.idx) ∧ W.cell? ⟨wb, 0, none⟩ = some (.int .i64 now.gen) ∧ W.cell? ⟨wb, 1, none⟩ = some (.slice pn now.logs.length cn) ∧ W.cell? ⟨wb, 2, none⟩ = some (.int .i64 now.idx)) := Lib.hid (fun W hb => by
            obtain ⟨a0, a1, a2, _⟩ := (LL.out.kb hb).cells
            obtain ⟨b0, b1, b2, _⟩ := (WAS.out.kb hb).cells
            exact ⟨a0, a1, a2, b0, b1, b2⟩)
          have HS2 : Hid (∀ W, Below wl.heap.size wl W → W.cell? ⟨qb, 0, none⟩ = some (.int .i64 L.gen) ∧ W.cell? ⟨qb, 1, none⟩ = some (.slice pv L.logs.length cv) ∧ W.cell? ⟨qb, 2, none⟩ = some (.int .i64 L.idx) ∧ W.cell? ⟨rb, 0, none⟩ = some (.int .i64 R.gen) ∧ W.cell? ⟨rb, 1, none⟩ = some (.slice pl R.logs.length cl) ∧ W.cell? ⟨rb, 2, none⟩ = some (.int .i64 R.idx)) := Lib.hid (fun W hb => by
            obtain ⟨a0, a1, a2, _⟩ := (LL.out.kb hb).cells
            obtain ⟨b0, b1, b2, _⟩ := (RR.out.kb hb).cells
            exact ⟨a0, a1, a2, b0, b1, b2⟩)
          have HSF : Hid (sameR L R = true) := Lib.hid (sameR_iff.2 HLR.out)
          obtain ⟨lm, hlm⟩ : ∃ z, z = L.logs.length := ⟨_, rfl⟩
          obtain ⟨nm, hnm⟩ : ∃ z, z = now.logs.length := ⟨_, rfl⟩
          obtain ⟨rm, hrm⟩ : ∃ z, z = R.logs.length := ⟨_, rfl⟩
          rw [← hlm] at HS1 HS2 HLI ⊢
          rw [← hnm] at HS1 HNI ⊢
          rw [← hrm] at HS2 HRI RR NWB ⊢
          clear hlm hnm hrm LL WAS
          cases hso : sameR L now with
          | true =>
            have HSO := Lib.hid hso
            clear hso
            --TAIL true true true
            go_wp2_with fail
            have s0 := HS1.out wl.drew (below_dw (Below.refl _ _))
            try simp only [List.append]
            refine wp_region_noPanic ?_
            refine wp_region_held_drew (S := (fun W => W.cell? ⟨qb, 0, none⟩ = some (.int .i64 L.gen) ∧ W.cell? ⟨qb, 1, none⟩ = some (.slice pv lm cv) ∧ W.cell? ⟨qb, 2, none⟩ = some (.int .i64 L.idx) ∧ W.cell? ⟨wb, 0, none⟩ = some (.int .i64 now.gen) ∧ W.cell? ⟨wb, 1, none⟩ = some (.slice pn nm cn) ∧ W.cell? ⟨wb, 2, none⟩ = some (.int .i64 now.idx))) (by kernel_rfl) s0 (fun hHeld => ?_)
            refine wpAnyH_take (i := 0) (v := ?_) (by simp only [List.getElem?_toArray, List.getElem?_cons_zero]; rfl) (by kernel_rfl) (by kernel_rfl) (by kernel_rfl) (fun _ _ _ h => h) (Or.inl ⟨by rfl, ?_⟩) (by assumption) ?_
            rotate_left
            · intro w hSw
              try dsimp only at hSw
              go_simp
              try with_reducible rfl
            try simp only [Act.put, List.setIfInBounds_toArray, List.set_cons_zero, List.set_cons_succ]
            refine wpAnyH_take (i := 1) (v := (.bool true)) (by simp only [List.getElem?_toArray, List.getElem?_cons_succ, List.getElem?_cons_zero]; rfl) (by kernel_rfl) (by kernel_rfl) (by kernel_rfl) (fun _ _ _ h => h) (Or.inl ⟨by rfl, ?_⟩) (by assumption) ?_
            · intro w hSw
              try dsimp only at hSw
              go_simp
            try simp only [Act.put, List.setIfInBounds_toArray, List.set_cons_zero, List.set_cons_succ]
            refine wpAnyH_take (i := 2) (v := ?_) (by simp only [List.getElem?_toArray, List.getElem?_cons_succ, List.getElem?_cons_zero]; rfl) (by kernel_rfl) (by kernel_rfl) (by kernel_rfl) (fun _ _ _ h => h) (Or.inl ⟨by rfl, ?_⟩) (by assumption) ?_
            rotate_left
            · intro w hSw
              try dsimp only at hSw
              go_simp
              try with_reducible rfl
            try simp only [Act.put, List.setIfInBounds_toArray, List.set_cons_zero, List.set_cons_succ]
            refine wpAnyH_take (i := 3) (v := ?_) (by simp only [List.getElem?_toArray, List.getElem?_cons_succ, List.getElem?_cons_zero]; rfl) (by kernel_rfl) (by kernel_rfl) (by kernel_rfl) (fun _ _ _ h => h) (Or.inl ⟨by rfl, ?_⟩) (by assumption) ?_
            rotate_left
            · intro w hSw
              try dsimp only at hSw
              go_simp
              try with_reducible rfl
            try simp only [Act.put, List.setIfInBounds_toArray, List.set_cons_zero, List.set_cons_succ]
            refine wpAnyH_take (i := 5) (v := ?_) (by simp only [List.getElem?_toArray, List.getElem?_cons_succ, List.getElem?_cons_zero]; rfl) (by kernel_rfl) (by kernel_rfl) (by kernel_rfl) (fun _ _ _ h => h) (Or.inl ⟨by rfl, ?_⟩) (by assumption) ?_
            rotate_left
            · intro w hSw
              try dsimp only at hSw
              go_simp
              try with_reducible rfl
            try simp only [Act.put, List.setIfInBounds_toArray, List.set_cons_zero, List.set_cons_succ]
            refine wpAnyH_ready (rs := [4]) (by kernel_rfl) (by simp) ?_
            refine AllReadyH.cons (by simp only [List.getElem?_toArray, List.getElem?_cons_succ, List.getElem?_cons_zero]; rfl) (fun K hK => ?_) AllReadyH.nil
            go_simp
            refine (plain_to wl.drew L.gen L.idx pv lm cv).mono ?_
            rintro e v1 ⟨rfl, bb⟩
            have BV1 : Hid (Below wl.heap.size wl v1) := Lib.hid ⟨bb.os, bb.tape, bb.output, bb.size, bb.block⟩
            have s1 := HS1.out v1 BV1.out
            clear bb
            go_wp2_with fail
            refine hK.out _ _ s1 (fun hHeld => ?_)
            clear hK K
            try simp only [Act.put, List.setIfInBounds_toArray, List.set_cons_zero, List.set_cons_succ]
            refine wpAnyH_ready (rs := [6]) (by kernel_rfl) (by simp) ?_
            refine AllReadyH.cons (by simp only [List.getElem?_toArray, List.getElem?_cons_succ, List.getElem?_cons_zero]; rfl) (fun K hK => ?_) AllReadyH.nil
            go_simp
            refine (sameRoot_to v1 L.gen L.idx now.gen now.idx (.slice pv lm cv) (.slice pn nm cn) L.logs now.logs HLL.out (HLI.out v1 BV1.out) (HNI.out v1 BV1.out)).mono ?_
            rintro e v2 ⟨rfl, bb⟩
            rw [show sameR ⟨L.gen, L.logs, L.idx⟩ ⟨now.gen, now.logs, now.idx⟩ = true from HSO.out]
            have BV2 : Hid (Below wl.heap.size wl v2) := Lib.hid (BV1.out.trans (bb.mono BV1.out.size))
            have s2 := HS1.out v2 BV2.out
            clear bb
            go_wp2_with fail
            refine hK.out _ _ s2 (fun hHeld => ?_)
            clear hK K
            try simp only [Act.put, List.setIfInBounds_toArray, List.set_cons_zero, List.set_cons_succ]
            refine wpAnyH_take (i := 7) (v := (.bool true)) (by simp only [List.getElem?_toArray, List.getElem?_cons_succ, List.getElem?_cons_zero]; rfl) (by kernel_rfl) (by kernel_rfl) (by kernel_rfl) (fun _ _ _ h => h) (Or.inl ⟨by rfl, ?_⟩) (by assumption) ?_
            · intro w hSw
              try dsimp only at hSw
              go_simp
            try simp only [Act.put, List.setIfInBounds_toArray, List.set_cons_zero, List.set_cons_succ]
            refine wpAnyH_take (i := 8) (v := ?_) (by simp only [List.getElem?_toArray, List.getElem?_cons_succ, List.getElem?_cons_zero]; rfl) (by kernel_rfl) (by kernel_rfl) (by kernel_rfl) (fun _ _ _ h => h) (Or.inl ⟨by rfl, ?_⟩) (by assumption) ?_
            rotate_left
            · intro w hSw
              try dsimp only at hSw
              go_simp
              try with_reducible rfl
            try simp only [Act.put, List.setIfInBounds_toArray, List.set_cons_zero, List.set_cons_succ]
            refine wpAnyH_take (i := 9) (v := undef) (by simp only [List.getElem?_toArray, List.getElem?_cons_succ, List.getElem?_cons_zero]; rfl) (by kernel_rfl) (by kernel_rfl) (by kernel_rfl) (fun _ _ _ h => h) (Or.inr ⟨by rfl, rfl⟩) (by assumption) ?_
            try simp only [Act.put, List.setIfInBounds_toArray, List.set_cons_zero, List.set_cons_succ]
            refine wpAnyH_take (i := 10) (v := undef) (by simp only [List.getElem?_toArray, List.getElem?_cons_succ, List.getElem?_cons_zero]; rfl) (by kernel_rfl) (by kernel_rfl) (by kernel_rfl) (fun _ _ _ h => h) (Or.inr ⟨by rfl, rfl⟩) (by assumption) ?_
            try simp only [Act.put, List.setIfInBounds_toArray, List.set_cons_zero, List.set_cons_succ]
            refine wpAnyH_take (i := 11) (v := undef) (by simp only [List.getElem?_toArray, List.getElem?_cons_succ, List.getElem?_cons_zero]; rfl) (by kernel_rfl) (by kernel_rfl) (by kernel_rfl) (fun _ _ _ h => h) (Or.inr ⟨by rfl, rfl⟩) (by assumption) ?_
            try simp only [Act.put, List.setIfInBounds_toArray, List.set_cons_zero, List.set_cons_succ]
            refine wpAnyH_take (i := 12) (v := undef) (by simp only [List.getElem?_toArray, List.getElem?_cons_succ, List.getElem?_cons_zero]; rfl) (by kernel_rfl) (by kernel_rfl) (by kernel_rfl) (fun _ _ _ h => h) (Or.inr ⟨by rfl, rfl⟩) (by assumption) ?_
            try simp only [Act.put, List.setIfInBounds_toArray, List.set_cons_zero, List.set_cons_succ]
            refine wpAnyH_take (i := 13) (v := undef) (by simp only [List.getElem?_toArray, List.getElem?_cons_succ, List.getElem?_cons_zero]; rfl) (by kernel_rfl) (by kernel_rfl) (by kernel_rfl) (fun _ _ _ h => h) (Or.inr ⟨by rfl, rfl⟩) (by assumption) ?_
            try simp only [Act.put, List.setIfInBounds_toArray, List.set_cons_zero, List.set_cons_succ]
            refine wpAnyH_take (i := 14) (v := undef) (by simp only [List.getElem?_toArray, List.getElem?_cons_succ, List.getElem?_cons_zero]; rfl) (by kernel_rfl) (by kernel_rfl) (by kernel_rfl) (fun _ _ _ h => h) (Or.inr ⟨by rfl, rfl⟩) (by assumption) ?_
            try simp only [Act.put, List.setIfInBounds_toArray, List.set_cons_zero, List.set_cons_succ]
            refine wpAnyH_take (i := 15) (v := undef) (by simp only [List.getElem?_toArray, List.getElem?_cons_succ, List.getElem?_cons_zero]; rfl) (by kernel_rfl) (by kernel_rfl) (by kernel_rfl) (fun _ _ _ h => h) (Or.inr ⟨by rfl, rfl⟩) (by assumption) ?_
            try simp only [Act.put, List.setIfInBounds_toArray, List.set_cons_zero, List.set_cons_succ]
            refine wpAnyH_take (i := 16) (v := undef) (by simp only [List.getElem?_toArray, List.getElem?_cons_succ, List.getElem?_cons_zero]; rfl) (by kernel_rfl) (by kernel_rfl) (by kernel_rfl) (fun _ _ _ h => h) (Or.inr ⟨by rfl, rfl⟩) (by assumption) ?_
            try simp only [Act.put, List.setIfInBounds_toArray, List.set_cons_zero, List.set_cons_succ]
            refine wpAnyH_take (i := 17) (v := (.bool true)) (by simp only [List.getElem?_toArray, List.getElem?_cons_succ, List.getElem?_cons_zero]; rfl) (by kernel_rfl) (by kernel_rfl) (by kernel_rfl) (fun _ _ _ h => h) (Or.inl ⟨by rfl, ?_⟩) (by assumption) ?_
            · intro w hSw
              try dsimp only at hSw
              go_simp
            try simp only [Act.put, List.setIfInBounds_toArray, List.set_cons_zero, List.set_cons_succ]
            refine wpAnyH_take (i := 18) (v := ?_) (by simp only [List.getElem?_toArray, List.getElem?_cons_succ, List.getElem?_cons_zero]; rfl) (by kernel_rfl) (by kernel_rfl) (by kernel_rfl) (fun _ _ _ h => h) (Or.inl ⟨by rfl, ?_⟩) (by assumption) ?_
            rotate_left
            · intro w hSw
              try dsimp only at hSw
              go_simp
              try with_reducible rfl
            try simp only [Act.put, List.setIfInBounds_toArray, List.set_cons_zero, List.set_cons_succ]
            refine wpAnyH_done (by kernel_rfl) ?_ _
            refine NoPanic.normal ?_
            have BV3 := BV2
            obtain ⟨v3, hv3⟩ : ∃ z, z = v2 := ⟨_, rfl⟩
            rw [← hv3] at BV3 ⊢
            clear hv3
            go_wp2_with fail
            have q0 := HS2.out v3.drew (below_dw BV3.out)
            try simp only [List.append]
            refine wp_region_noPanic ?_
            refine wp_region_held_drew (S := (fun W => W.cell? ⟨qb, 0, none⟩ = some (.int .i64 L.gen) ∧ W.cell? ⟨qb, 1, none⟩ = some (.slice pv lm cv) ∧ W.cell? ⟨qb, 2, none⟩ = some (.int .i64 L.idx) ∧ W.cell? ⟨rb, 0, none⟩ = some (.int .i64 R.gen) ∧ W.cell? ⟨rb, 1, none⟩ = some (.slice pl rm cl) ∧ W.cell? ⟨rb, 2, none⟩ = some (.int .i64 R.idx))) (by kernel_rfl) q0 (fun hHeld => ?_)
            refine wpAnyH_take (i := 0) (v := ?_) (by simp only [List.getElem?_toArray, List.getElem?_cons_zero]; rfl) (by kernel_rfl) (by kernel_rfl) (by kernel_rfl) (fun _ _ _ h => h) (Or.inl ⟨by rfl, ?_⟩) (by assumption) ?_
            rotate_left
            · intro w hSw
              try dsimp only at hSw
              go_simp
              try with_reducible rfl
            try simp only [Act.put, List.setIfInBounds_toArray, List.set_cons_zero, List.set_cons_succ]
            refine wpAnyH_take (i := 1) (v := (.bool true)) (by simp only [List.getElem?_toArray, List.getElem?_cons_succ, List.getElem?_cons_zero]; rfl) (by kernel_rfl) (by kernel_rfl) (by kernel_rfl) (fun _ _ _ h => h) (Or.inl ⟨by rfl, ?_⟩) (by assumption) ?_
            · intro w hSw
              try dsimp only at hSw
              go_simp
            try simp only [Act.put, List.setIfInBounds_toArray, List.set_cons_zero, List.set_cons_succ]
            refine wpAnyH_take (i := 2) (v := ?_) (by simp only [List.getElem?_toArray, List.getElem?_cons_succ, List.getElem?_cons_zero]; rfl) (by kernel_rfl) (by kernel_rfl) (by kernel_rfl) (fun _ _ _ h => h) (Or.inl ⟨by rfl, ?_⟩) (by assumption) ?_
            rotate_left
            · intro w hSw
              try dsimp only at hSw
              go_simp
              try with_reducible rfl
            try simp only [Act.put, List.setIfInBounds_toArray, List.set_cons_zero, List.set_cons_succ]
            refine wpAnyH_take (i := 3) (v := ?_) (by simp only [List.getElem?_toArray, List.getElem?_cons_succ, List.getElem?_cons_zero]; rfl) (by kernel_rfl) (by kernel_rfl) (by kernel_rfl) (fun _ _ _ h => h) (Or.inl ⟨by rfl, ?_⟩) (by assumption) ?_
            rotate_left
            · intro w hSw
              try dsimp only at hSw
              go_simp
              try with_reducible rfl
            try simp only [Act.put, List.setIfInBounds_toArray, List.set_cons_zero, List.set_cons_succ]
            refine wpAnyH_take (i := 5) (v := ?_) (by simp only [List.getElem?_toArray, List.getElem?_cons_succ, List.getElem?_cons_zero]; rfl) (by kernel_rfl) (by kernel_rfl) (by kernel_rfl) (fun _ _ _ h => h) (Or.inl ⟨by rfl, ?_⟩) (by assumption) ?_
            rotate_left
            · intro w hSw
              try dsimp only at hSw
              go_simp
              try with_reducible rfl
            try simp only [Act.put, List.setIfInBounds_toArray, List.set_cons_zero, List.set_cons_succ]
            refine wpAnyH_ready (rs := [4]) (by kernel_rfl) (by simp) ?_
            refine AllReadyH.cons (by simp only [List.getElem?_toArray, List.getElem?_cons_succ, List.getElem?_cons_zero]; rfl) (fun K hK => ?_) AllReadyH.nil
            go_simp
            refine (plain_to v3.drew L.gen L.idx pv lm cv).mono ?_
            rintro e v4 ⟨rfl, bb⟩
            have BV4 : Hid (Below wl.heap.size wl v4) := Lib.hid (BV3.out.trans (Below.mono ⟨bb.os, bb.tape, bb.output, bb.size, bb.block⟩ BV3.out.size))
            have q1 := HS2.out v4 BV4.out
            clear bb
            go_wp2_with fail
            refine hK.out _ _ q1 (fun hHeld => ?_)
            clear hK K
            try simp only [Act.put, List.setIfInBounds_toArray, List.set_cons_zero, List.set_cons_succ]
            refine wpAnyH_ready (rs := [6]) (by kernel_rfl) (by simp) ?_
            refine AllReadyH.cons (by simp only [List.getElem?_toArray, List.getElem?_cons_succ, List.getElem?_cons_zero]; rfl) (fun K hK => ?_) AllReadyH.nil
            go_simp
            refine (plain_to v4 R.gen R.idx pl rm cl).mono ?_
            rintro e v5 ⟨rfl, bb⟩
            have BV5 : Hid (Below wl.heap.size wl v5) := Lib.hid (BV4.out.trans (bb.mono BV4.out.size))
            have q2 := HS2.out v5 BV5.out
            clear bb
            go_wp2_with fail
            refine hK.out _ _ q2 (fun hHeld => ?_)
            clear hK K
            try simp only [Act.put, List.setIfInBounds_toArray, List.set_cons_zero, List.set_cons_succ]
            refine wpAnyH_ready (rs := [7]) (by kernel_rfl) (by simp) ?_
            refine AllReadyH.cons (by simp only [List.getElem?_toArray, List.getElem?_cons_succ, List.getElem?_cons_zero]; rfl) (fun K hK => ?_) AllReadyH.nil
            go_simp
            refine (sameRoot_to v5 L.gen L.idx R.gen R.idx (.slice pv lm cv) (.slice pl rm cl) L.logs R.logs HLL.out (HLI.out v5 BV5.out) (HRI.out v5 BV5.out)).mono ?_
            rintro e v6 ⟨rfl, bb⟩
            rw [show sameR ⟨L.gen, L.logs, L.idx⟩ ⟨R.gen, R.logs, R.idx⟩ = true from HSF.out]
            have BV6 : Hid (Below wl.heap.size wl v6) := Lib.hid (BV5.out.trans (bb.mono BV5.out.size))
            have q3 := HS2.out v6 BV6.out
            clear bb
            go_wp2_with fail
            refine hK.out _ _ q3 (fun hHeld => ?_)
            clear hK K
            try simp only [Act.put, List.setIfInBounds_toArray, List.set_cons_zero, List.set_cons_succ]
            refine wpAnyH_take (i := 8) (v := (.bool true)) (by simp only [List.getElem?_toArray, List.getElem?_cons_succ, List.getElem?_cons_zero]; rfl) (by kernel_rfl) (by kernel_rfl) (by kernel_rfl) (fun _ _ _ h => h) (Or.inl ⟨by rfl, ?_⟩) (by assumption) ?_
            · intro w hSw
              try dsimp only at hSw
              go_simp
            try simp only [Act.put, List.setIfInBounds_toArray, List.set_cons_zero, List.set_cons_succ]
            refine wpAnyH_take (i := 9) (v := ?_) (by simp only [List.getElem?_toArray, List.getElem?_cons_succ, List.getElem?_cons_zero]; rfl) (by kernel_rfl) (by kernel_rfl) (by kernel_rfl) (fun _ _ _ h => h) (Or.inl ⟨by rfl, ?_⟩) (by assumption) ?_
            rotate_left
            · intro w hSw
              try dsimp only at hSw
              go_simp
              try with_reducible rfl
            try simp only [Act.put, List.setIfInBounds_toArray, List.set_cons_zero, List.set_cons_succ]
            refine wpAnyH_done (by kernel_rfl) ?_ _
            refine NoPanic.normal ?_
            have y0 := q3.2.2.2
            go_wp2_with fail
            refine (plain_to v6 R.gen R.idx pl rm cl).mono ?_
            rintro e v7 ⟨rfl, bb⟩
            have BV7 : Hid (Below wl.heap.size wl v7) := Lib.hid (BV6.out.trans (bb.mono BV6.out.size))
            clear bb
            have N7 := Lib.hid (NWB.out.kb BV7.out)
            have R7 := Lib.hid (RR.out.kb BV7.out)
            have C7 := Lib.hid (CL.out.kb BV7.out)
            obtain ⟨n0, n1, n2, nf⟩ := N7.out.cells
            go_wp2_with fail
            have HSET := Lib.hid (N7.out.set R7.out (by decide))
            have HO7 : Hid (Only (fun k => k = nb) v7 (((v7.setCell ⟨nb, 0, none⟩ (.int .i64 R.gen)).setCell ⟨nb, 1, none⟩ (.slice pl rm cl)).setCell ⟨nb, 2, none⟩ (.int .i64 R.idx))) := Lib.hid (only3 (Only.refl (fun k => k = nb) v7) rfl _ _ _)
            exact ⟨⟨k + 1, SL, sL, o2, R, .slice pl rm cl, by omega, by omega, by go_num, Lib.hid ⟨C7.out.other HO7.out HNB.out N7.out.nb, FIN.out.1, FIN.out.2, HSET.out, SK.out⟩⟩, by simp [intOf]; omega⟩
            --END
          | false =>
            have HSO := Lib.hid hso
            clear hso
            --TAIL true false true
            go_wp2_with fail
            have s0 := HS1.out wl.drew (below_dw (Below.refl _ _))
            try simp only [List.append]
            refine wp_region_noPanic ?_
            refine wp_region_held_drew (S := (fun W => W.cell? ⟨qb, 0, none⟩ = some (.int .i64 L.gen) ∧ W.cell? ⟨qb, 1, none⟩ = some (.slice pv lm cv) ∧ W.cell? ⟨qb, 2, none⟩ = some (.int .i64 L.idx) ∧ W.cell? ⟨wb, 0, none⟩ = some (.int .i64 now.gen) ∧ W.cell? ⟨wb, 1, none⟩ = some (.slice pn nm cn) ∧ W.cell? ⟨wb, 2, none⟩ = some (.int .i64 now.idx))) (by kernel_rfl) s0 (fun hHeld => ?_)
            refine wpAnyH_take (i := 0) (v := ?_) (by simp only [List.getElem?_toArray, List.getElem?_cons_zero]; rfl) (by kernel_rfl) (by kernel_rfl) (by kernel_rfl) (fun _ _ _ h => h) (Or.inl ⟨by rfl, ?_⟩) (by assumption) ?_
            rotate_left
            · intro w hSw
              try dsimp only at hSw
              go_simp
              try with_reducible rfl
            try simp only [Act.put, List.setIfInBounds_toArray, List.set_cons_zero, List.set_cons_succ]
            refine wpAnyH_take (i := 1) (v := (.bool true)) (by simp only [List.getElem?_toArray, List.getElem?_cons_succ, List.getElem?_cons_zero]; rfl) (by kernel_rfl) (by kernel_rfl) (by kernel_rfl) (fun _ _ _ h => h) (Or.inl ⟨by rfl, ?_⟩) (by assumption) ?_
            · intro w hSw
              try dsimp only at hSw
              go_simp
            try simp only [Act.put, List.setIfInBounds_toArray, List.set_cons_zero, List.set_cons_succ]
            refine wpAnyH_take (i := 2) (v := ?_) (by simp only [List.getElem?_toArray, List.getElem?_cons_succ, List.getElem?_cons_zero]; rfl) (by kernel_rfl) (by kernel_rfl) (by kernel_rfl) (fun _ _ _ h => h) (Or.inl ⟨by rfl, ?_⟩) (by assumption) ?_
            rotate_left
            · intro w hSw
              try dsimp only at hSw
              go_simp
              try with_reducible rfl
            try simp only [Act.put, List.setIfInBounds_toArray, List.set_cons_zero, List.set_cons_succ]
            refine wpAnyH_take (i := 3) (v := ?_) (by simp only [List.getElem?_toArray, List.getElem?_cons_succ, List.getElem?_cons_zero]; rfl) (by kernel_rfl) (by kernel_rfl) (by kernel_rfl) (fun _ _ _ h => h) (Or.inl ⟨by rfl, ?_⟩) (by assumption) ?_
            rotate_left
            · intro w hSw
              try dsimp only at hSw
              go_simp
              try with_reducible rfl
            try simp only [Act.put, List.setIfInBounds_toArray, List.set_cons_zero, List.set_cons_succ]
            refine wpAnyH_take (i := 5) (v := ?_) (by simp only [List.getElem?_toArray, List.getElem?_cons_succ, List.getElem?_cons_zero]; rfl) (by kernel_rfl) (by kernel_rfl) (by kernel_rfl) (fun _ _ _ h => h) (Or.inl ⟨by rfl, ?_⟩) (by assumption) ?_
            rotate_left
            · intro w hSw
              try dsimp only at hSw
              go_simp
              try with_reducible rfl
            try simp only [Act.put, List.setIfInBounds_toArray, List.set_cons_zero, List.set_cons_succ]
            refine wpAnyH_ready (rs := [4]) (by kernel_rfl) (by simp) ?_
            refine AllReadyH.cons (by simp only [List.getElem?_toArray, List.getElem?_cons_succ, List.getElem?_cons_zero]; rfl) (fun K hK => ?_) AllReadyH.nil
            go_simp
            refine (plain_to wl.drew L.gen L.idx pv lm cv).mono ?_
            rintro e v1 ⟨rfl, bb⟩
            have BV1 : Hid (Below wl.heap.size wl v1) := Lib.hid ⟨bb.os, bb.tape, bb.output, bb.size, bb.block⟩
            have s1 := HS1.out v1 BV1.out
            clear bb
            go_wp2_with fail
            refine hK.out _ _ s1 (fun hHeld => ?_)
            clear hK K
            try simp only [Act.put, List.setIfInBounds_toArray, List.set_cons_zero, List.set_cons_succ]
            refine wpAnyH_ready (rs := [6]) (by kernel_rfl) (by simp) ?_
            refine AllReadyH.cons (by simp only [List.getElem?_toArray, List.getElem?_cons_succ, List.getElem?_cons_zero]; rfl) (fun K hK => ?_) AllReadyH.nil
            go_simp
            refine (sameRoot_to v1 L.gen L.idx now.gen now.idx (.slice pv lm cv) (.slice pn nm cn) L.logs now.logs HLL.out (HLI.out v1 BV1.out) (HNI.out v1 BV1.out)).mono ?_
            rintro e v2 ⟨rfl, bb⟩
            rw [show sameR ⟨L.gen, L.logs, L.idx⟩ ⟨now.gen, now.logs, now.idx⟩ = false from HSO.out]
            have BV2 : Hid (Below wl.heap.size wl v2) := Lib.hid (BV1.out.trans (bb.mono BV1.out.size))
            have s2 := HS1.out v2 BV2.out
            clear bb
            go_wp2_with fail
            refine hK.out _ _ s2 (fun hHeld => ?_)
            clear hK K
            try simp only [Act.put, List.setIfInBounds_toArray, List.set_cons_zero, List.set_cons_succ]
            refine wpAnyH_take (i := 7) (v := (.bool false)) (by simp only [List.getElem?_toArray, List.getElem?_cons_succ, List.getElem?_cons_zero]; rfl) (by kernel_rfl) (by kernel_rfl) (by kernel_rfl) (fun _ _ _ h => h) (Or.inl ⟨by rfl, ?_⟩) (by assumption) ?_
            · intro w hSw
              try dsimp only at hSw
              go_simp
            try simp only [Act.put, List.setIfInBounds_toArray, List.set_cons_zero, List.set_cons_succ]
            refine wpAnyH_take (i := 8) (v := ?_) (by simp only [List.getElem?_toArray, List.getElem?_cons_succ, List.getElem?_cons_zero]; rfl) (by kernel_rfl) (by kernel_rfl) (by kernel_rfl) (fun _ _ _ h => h) (Or.inl ⟨by rfl, ?_⟩) (by assumption) ?_
            rotate_left
            · intro w hSw
              try dsimp only at hSw
              go_simp
              try with_reducible rfl
            try simp only [Act.put, List.setIfInBounds_toArray, List.set_cons_zero, List.set_cons_succ]
            refine wpAnyH_take (i := 9) (v := ?_) (by simp only [List.getElem?_toArray, List.getElem?_cons_succ, List.getElem?_cons_zero]; rfl) (by kernel_rfl) (by kernel_rfl) (by kernel_rfl) (fun _ _ _ h => h) (Or.inl ⟨by rfl, ?_⟩) (by assumption) ?_
            rotate_left
            · intro w hSw
              try dsimp only at hSw
              go_simp
              try with_reducible rfl
            try simp only [Act.put, List.setIfInBounds_toArray, List.set_cons_zero, List.set_cons_succ]
            refine wpAnyH_ready (rs := [10]) (by kernel_rfl) (by simp) ?_
            refine AllReadyH.cons (by simp only [List.getElem?_toArray, List.getElem?_cons_succ, List.getElem?_cons_zero]; rfl) (fun K hK => ?_) AllReadyH.nil
            go_simp
            refine (khand_en v2 0 (HG.out.kb (HCB.out.trans (BV2.out.mono HCB.out.size)))).mono ?_
            rintro e v3 ⟨rfl, bb⟩
            have BV3 : Hid (Below wl.heap.size wl v3) := Lib.hid (BV2.out.trans (bb.mono BV2.out.size))
            have s3 := HS1.out v3 BV3.out
            clear bb
            go_wp2_with fail
            refine hK.out _ _ s3 (fun hHeld => ?_)
            clear hK K
            try simp only [Act.put, List.setIfInBounds_toArray, List.set_cons_zero, List.set_cons_succ]
            refine wpAnyH_take (i := 11) (v := (.bool false)) (by simp only [List.getElem?_toArray, List.getElem?_cons_succ, List.getElem?_cons_zero]; rfl) (by kernel_rfl) (by kernel_rfl) (by kernel_rfl) (fun _ _ _ h => h) (Or.inl ⟨by rfl, ?_⟩) (by assumption) ?_
            · intro w hSw
              try dsimp only at hSw
              go_simp
            try simp only [Act.put, List.setIfInBounds_toArray, List.set_cons_zero, List.set_cons_succ]
            refine wpAnyH_take (i := 12) (v := ?_) (by simp only [List.getElem?_toArray, List.getElem?_cons_succ, List.getElem?_cons_zero]; rfl) (by kernel_rfl) (by kernel_rfl) (by kernel_rfl) (fun _ _ _ h => h) (Or.inl ⟨by rfl, ?_⟩) (by assumption) ?_
            rotate_left
            · intro w hSw
              try dsimp only at hSw
              go_simp
              try with_reducible rfl
            try simp only [Act.put, List.setIfInBounds_toArray, List.set_cons_zero, List.set_cons_succ]
            refine wpAnyH_take (i := 13) (v := undef) (by simp only [List.getElem?_toArray, List.getElem?_cons_succ, List.getElem?_cons_zero]; rfl) (by kernel_rfl) (by kernel_rfl) (by kernel_rfl) (fun _ _ _ h => h) (Or.inr ⟨by rfl, rfl⟩) (by assumption) ?_
            try simp only [Act.put, List.setIfInBounds_toArray, List.set_cons_zero, List.set_cons_succ]
            refine wpAnyH_take (i := 14) (v := undef) (by simp only [List.getElem?_toArray, List.getElem?_cons_succ, List.getElem?_cons_zero]; rfl) (by kernel_rfl) (by kernel_rfl) (by kernel_rfl) (fun _ _ _ h => h) (Or.inr ⟨by rfl, rfl⟩) (by assumption) ?_
            try simp only [Act.put, List.setIfInBounds_toArray, List.set_cons_zero, List.set_cons_succ]
            refine wpAnyH_take (i := 15) (v := undef) (by simp only [List.getElem?_toArray, List.getElem?_cons_succ, List.getElem?_cons_zero]; rfl) (by kernel_rfl) (by kernel_rfl) (by kernel_rfl) (fun _ _ _ h => h) (Or.inr ⟨by rfl, rfl⟩) (by assumption) ?_
            try simp only [Act.put, List.setIfInBounds_toArray, List.set_cons_zero, List.set_cons_succ]
            refine wpAnyH_take (i := 16) (v := (.bool false)) (by simp only [List.getElem?_toArray, List.getElem?_cons_succ, List.getElem?_cons_zero]; rfl) (by kernel_rfl) (by kernel_rfl) (by kernel_rfl) (fun _ _ _ h => h) (Or.inl ⟨by rfl, ?_⟩) (by assumption) ?_
            · intro w hSw
              try dsimp only at hSw
              go_simp
            try simp only [Act.put, List.setIfInBounds_toArray, List.set_cons_zero, List.set_cons_succ]
            refine wpAnyH_take (i := 17) (v := (.bool false)) (by simp only [List.getElem?_toArray, List.getElem?_cons_succ, List.getElem?_cons_zero]; rfl) (by kernel_rfl) (by kernel_rfl) (by kernel_rfl) (fun _ _ _ h => h) (Or.inl ⟨by rfl, ?_⟩) (by assumption) ?_
            · intro w hSw
              try dsimp only at hSw
              go_simp
            try simp only [Act.put, List.setIfInBounds_toArray, List.set_cons_zero, List.set_cons_succ]
            refine wpAnyH_take (i := 18) (v := ?_) (by simp only [List.getElem?_toArray, List.getElem?_cons_succ, List.getElem?_cons_zero]; rfl) (by kernel_rfl) (by kernel_rfl) (by kernel_rfl) (fun _ _ _ h => h) (Or.inl ⟨by rfl, ?_⟩) (by assumption) ?_
            rotate_left
            · intro w hSw
              try dsimp only at hSw
              go_simp
              try with_reducible rfl
            try simp only [Act.put, List.setIfInBounds_toArray, List.set_cons_zero, List.set_cons_succ]
            refine wpAnyH_done (by kernel_rfl) ?_ _
            refine NoPanic.normal ?_
            go_wp2_with fail
            have q0 := HS2.out v3.drew (below_dw BV3.out)
            try simp only [List.append]
            refine wp_region_noPanic ?_
            refine wp_region_held_drew (S := (fun W => W.cell? ⟨qb, 0, none⟩ = some (.int .i64 L.gen) ∧ W.cell? ⟨qb, 1, none⟩ = some (.slice pv lm cv) ∧ W.cell? ⟨qb, 2, none⟩ = some (.int .i64 L.idx) ∧ W.cell? ⟨rb, 0, none⟩ = some (.int .i64 R.gen) ∧ W.cell? ⟨rb, 1, none⟩ = some (.slice pl rm cl) ∧ W.cell? ⟨rb, 2, none⟩ = some (.int .i64 R.idx))) (by kernel_rfl) q0 (fun hHeld => ?_)
            refine wpAnyH_take (i := 0) (v := ?_) (by simp only [List.getElem?_toArray, List.getElem?_cons_zero]; rfl) (by kernel_rfl) (by kernel_rfl) (by kernel_rfl) (fun _ _ _ h => h) (Or.inl ⟨by rfl, ?_⟩) (by assumption) ?_
            rotate_left
            · intro w hSw
              try dsimp only at hSw
              go_simp
              try with_reducible rfl
            try simp only [Act.put, List.setIfInBounds_toArray, List.set_cons_zero, List.set_cons_succ]
            refine wpAnyH_take (i := 1) (v := (.bool true)) (by simp only [List.getElem?_toArray, List.getElem?_cons_succ, List.getElem?_cons_zero]; rfl) (by kernel_rfl) (by kernel_rfl) (by kernel_rfl) (fun _ _ _ h => h) (Or.inl ⟨by rfl, ?_⟩) (by assumption) ?_
            · intro w hSw
              try dsimp only at hSw
              go_simp
            try simp only [Act.put, List.setIfInBounds_toArray, List.set_cons_zero, List.set_cons_succ]
            refine wpAnyH_take (i := 2) (v := ?_) (by simp only [List.getElem?_toArray, List.getElem?_cons_succ, List.getElem?_cons_zero]; rfl) (by kernel_rfl) (by kernel_rfl) (by kernel_rfl) (fun _ _ _ h => h) (Or.inl ⟨by rfl, ?_⟩) (by assumption) ?_
            rotate_left
            · intro w hSw
              try dsimp only at hSw
              go_simp
              try with_reducible rfl
            try simp only [Act.put, List.setIfInBounds_toArray, List.set_cons_zero, List.set_cons_succ]
            refine wpAnyH_take (i := 3) (v := ?_) (by simp only [List.getElem?_toArray, List.getElem?_cons_succ, List.getElem?_cons_zero]; rfl) (by kernel_rfl) (by kernel_rfl) (by kernel_rfl) (fun _ _ _ h => h) (Or.inl ⟨by rfl, ?_⟩) (by assumption) ?_
            rotate_left
            · intro w hSw
              try dsimp only at hSw
              go_simp
              try with_reducible rfl
            try simp only [Act.put, List.setIfInBounds_toArray, List.set_cons_zero, List.set_cons_succ]
            refine wpAnyH_take (i := 5) (v := ?_) (by simp only [List.getElem?_toArray, List.getElem?_cons_succ, List.getElem?_cons_zero]; rfl) (by kernel_rfl) (by kernel_rfl) (by kernel_rfl) (fun _ _ _ h => h) (Or.inl ⟨by rfl, ?_⟩) (by assumption) ?_
            rotate_left
            · intro w hSw
              try dsimp only at hSw
              go_simp
              try with_reducible rfl
            try simp only [Act.put, List.setIfInBounds_toArray, List.set_cons_zero, List.set_cons_succ]
            refine wpAnyH_ready (rs := [4]) (by kernel_rfl) (by simp) ?_
            refine AllReadyH.cons (by simp only [List.getElem?_toArray, List.getElem?_cons_succ, List.getElem?_cons_zero]; rfl) (fun K hK => ?_) AllReadyH.nil
            go_simp
            refine (plain_to v3.drew L.gen L.idx pv lm cv).mono ?_
            rintro e v4 ⟨rfl, bb⟩
            have BV4 : Hid (Below wl.heap.size wl v4) := Lib.hid (BV3.out.trans (Below.mono ⟨bb.os, bb.tape, bb.output, bb.size, bb.block⟩ BV3.out.size))
            have q1 := HS2.out v4 BV4.out
            clear bb
            go_wp2_with fail
            refine hK.out _ _ q1 (fun hHeld => ?_)
            clear hK K
            try simp only [Act.put, List.setIfInBounds_toArray, List.set_cons_zero, List.set_cons_succ]
            refine wpAnyH_ready (rs := [6]) (by kernel_rfl) (by simp) ?_
            refine AllReadyH.cons (by simp only [List.getElem?_toArray, List.getElem?_cons_succ, List.getElem?_cons_zero]; rfl) (fun K hK => ?_) AllReadyH.nil
            go_simp
            refine (plain_to v4 R.gen R.idx pl rm cl).mono ?_
            rintro e v5 ⟨rfl, bb⟩
            have BV5 : Hid (Below wl.heap.size wl v5) := Lib.hid (BV4.out.trans (bb.mono BV4.out.size))
            have q2 := HS2.out v5 BV5.out
            clear bb
            go_wp2_with fail
            refine hK.out _ _ q2 (fun hHeld => ?_)
            clear hK K
            try simp only [Act.put, List.setIfInBounds_toArray, List.set_cons_zero, List.set_cons_succ]
            refine wpAnyH_ready (rs := [7]) (by kernel_rfl) (by simp) ?_
            refine AllReadyH.cons (by simp only [List.getElem?_toArray, List.getElem?_cons_succ, List.getElem?_cons_zero]; rfl) (fun K hK => ?_) AllReadyH.nil
            go_simp
            refine (sameRoot_to v5 L.gen L.idx R.gen R.idx (.slice pv lm cv) (.slice pl rm cl) L.logs R.logs HLL.out (HLI.out v5 BV5.out) (HRI.out v5 BV5.out)).mono ?_
            rintro e v6 ⟨rfl, bb⟩
            rw [show sameR ⟨L.gen, L.logs, L.idx⟩ ⟨R.gen, R.logs, R.idx⟩ = true from HSF.out]
            have BV6 : Hid (Below wl.heap.size wl v6) := Lib.hid (BV5.out.trans (bb.mono BV5.out.size))
            have q3 := HS2.out v6 BV6.out
            clear bb
            go_wp2_with fail
            refine hK.out _ _ q3 (fun hHeld => ?_)
            clear hK K
            try simp only [Act.put, List.setIfInBounds_toArray, List.set_cons_zero, List.set_cons_succ]
            refine wpAnyH_take (i := 8) (v := (.bool true)) (by simp only [List.getElem?_toArray, List.getElem?_cons_succ, List.getElem?_cons_zero]; rfl) (by kernel_rfl) (by kernel_rfl) (by kernel_rfl) (fun _ _ _ h => h) (Or.inl ⟨by rfl, ?_⟩) (by assumption) ?_
            · intro w hSw
              try dsimp only at hSw
              go_simp
            try simp only [Act.put, List.setIfInBounds_toArray, List.set_cons_zero, List.set_cons_succ]
            refine wpAnyH_take (i := 9) (v := ?_) (by simp only [List.getElem?_toArray, List.getElem?_cons_succ, List.getElem?_cons_zero]; rfl) (by kernel_rfl) (by kernel_rfl) (by kernel_rfl) (fun _ _ _ h => h) (Or.inl ⟨by rfl, ?_⟩) (by assumption) ?_
            rotate_left
            · intro w hSw
              try dsimp only at hSw
              go_simp
              try with_reducible rfl
            try simp only [Act.put, List.setIfInBounds_toArray, List.set_cons_zero, List.set_cons_succ]
            refine wpAnyH_done (by kernel_rfl) ?_ _
            refine NoPanic.normal ?_
            have y0 := q3.2.2.2
            go_wp2_with fail
            refine (plain_to v6 R.gen R.idx pl rm cl).mono ?_
            rintro e v7 ⟨rfl, bb⟩
            have BV7 : Hid (Below wl.heap.size wl v7) := Lib.hid (BV6.out.trans (bb.mono BV6.out.size))
            clear bb
            have N7 := Lib.hid (NWB.out.kb BV7.out)
            have R7 := Lib.hid (RR.out.kb BV7.out)
            have C7 := Lib.hid (CL.out.kb BV7.out)
            obtain ⟨n0, n1, n2, nf⟩ := N7.out.cells
            go_wp2_with fail
            have HSET := Lib.hid (N7.out.set R7.out (by decide))
            have HO7 : Hid (Only (fun k => k = nb) v7 (((v7.setCell ⟨nb, 0, none⟩ (.int .i64 R.gen)).setCell ⟨nb, 1, none⟩ (.slice pl rm cl)).setCell ⟨nb, 2, none⟩ (.int .i64 R.idx))) := Lib.hid (only3 (Only.refl (fun k => k = nb) v7) rfl _ _ _)
            exact ⟨⟨k + 1, SL, sL, o2, R, .slice pl rm cl, by omega, by omega, by go_num, Lib.hid ⟨C7.out.other HO7.out HNB.out N7.out.nb, FIN.out.1, FIN.out.2, HSET.out, SK.out⟩⟩, by simp [intOf]; omega⟩
            --END
end Go.Proofs.YtfneadlknieppaaDoor
