/- RootPlays returns true and makes new memory alone. Condition: errors.errorType holds what its text lays. -/
import Derived.Test.YtfneadlknieppaaGreatDoorRootG
import Derived.Test.YtfneadlknieppaaGreatDoorRootM
import Derived.Laws.OwnMore
import Derived.Deep.RegionHeld3
import Derived.Deep.CutRange
import Derived.Deep.CutBlock
namespace Go.Proofs.YtfneadlknieppaaGreatDoor
open Go.RowKit
open Go.Maps

def nm3 (k : Nat) : Key := match k with
  | 0 => nwN
  | 1 => rtN
  | _ => [120]
theorem nm3_len (k : Nat) : (nm3 k).length ≤ 20 := by
  unfold nm3
  split <;> decide
theorem index_three (k : Int) (w : World) (h0 : 0 ≤ k) (h1 : k < 3) : (Instr.index 36 (.agg #[.string ⟨#[114, 111, 111, 116, 46, 110, 101, 119]⟩, .string ⟨#[114, 111, 111, 116]⟩, .string ⟨#[120]⟩]) (.int .i64 k)).run Tryz.prog w = .ok (stv (nm3 k.toNat)) w := by
  have h3 : k = 0 ∨ k = 1 ∨ k = 2 := by omega
  rcases h3 with rfl | rfl | rfl <;> simp [Instr.index, asIntOf, run_underlying Tryz.underlying36, go_sem] <;> rfl
theorem made_bytes (w : World) (m : Nat) (hm : m ≤ 1000000) : ∃ (w' : World) (L : List Int), (Instr.makeSlice 37 (.int .i64 (m : Int)) (.int .i64 (m : Int))).run Tryz.prog w = .ok (.slice (some ⟨w.heap.size, 0, none⟩) m m) w' ∧ BOwn w' w.heap.size (.slice (some ⟨w.heap.size, 0, none⟩) m m) L ∧ L.length ≤ 1000000 ∧ Okb L ∧ Below w.heap.size w w' := by
  obtain ⟨i0, hi0, hz0, hz1, hz2⟩ := info_parts u8info
  obtain ⟨w', h1, h2, h3⟩ := run_makeSlice_full (P := Tryz.prog) w w.heap.size 37 5 i0 _ 1 Tryz.underlying37 hi0 hz0 hz1 .i64 .i64 m (by omega) (by rw [hz2]; omega) (by unfold maxLen; omega) (Nat.le_refl _)
  refine ⟨w', List.replicate m 0, h1, ?_, by simpa using hm, ?_, (Below.refl _ w).grown h3 (Nat.le_refl _) (fun k hk => by cases hk)⟩
  · unfold BOwn
    have e : (madeCells (Value.int .u8 0).cells (m * 1)).toList = us (List.replicate m 0) := by
      rw [show (Value.int .u8 0).cells = #[.int .u8 0] from rfl, toList_madeCells_one, Nat.mul_one]
      simp [us]
    rw [List.length_replicate, ← e]
    exact h2
  · intro x hx
    rw [List.eq_of_mem_replicate hx]
    decide
/-- What holds ahead of each step. -/
structure Wp (w W : World) (d B' r : Nat) (S A : Nat → Prop) (s : St) (k : Nat) : Prop where
  pl : Pl w W w.heap.size d B' r S A s s
  ok : OkT s
  sk : Sk s k
section
variable {w W W' : World} {d B' r : Nat} {S A : Nat → Prop} {s s' : St} {k : Nat}
theorem Wp.kb (h : Wp w W d B' r S A s k) (hb : Below W.heap.size W W') : Wp w W' d B' r S A s k := ⟨h.pl.kb hb, h.ok, h.sk⟩
end
theorem LdIs.len {s : St} {c : Int} {r : Rt} (h : LdIs s c r) : r.logs.length ≤ 1000000 := by
  unfold LdIs at h
  split at h
  · unfold RdIs at h
    split at h
    · rw [h.2]; exact Nat.zero_le _
    · rcases h with ⟨_, h, _⟩ | ⟨_, h, _⟩
      · exact Nat.le_trans (okR_iff.1 h).2.2.1 (by decide)
      · rw [h]; exact Nat.zero_le _
  · rw [h.2]; exact Nat.zero_le _
theorem used8_ds (w : World) (B b : Nat) (S : Nat → Prop) (s : St) (h : DS w B b S s) : Calls Tryz.prog 25 #[.pointer (some ⟨b,0,none⟩)] w fun e w' => e = .returned (.int .i64 (if s.dead = true then 0 else (s.used : Int))) ∧ w = w' := by
  obtain ⟨c, L, P, hx⟩ := h
  have := used_to w b c hx.dc.d
  rw [hx.dead, hx.used_eq] at this
  exact this
theorem pcell_in {w W : World} {a : Addr} {u : Value} (h : w.cell? a = some u) (hb : Below w.heap.size w W) : W.cell? a = some u := by
  rw [World.cell?_of_block (w := w) (hb.block _ (World.block_lt_of_cell? w _ h))]; exact h
set_option maxRecDepth 20000 in
set_option maxHeartbeats 16000000 in
theorem rootPlays_walk (w : World) (hg : Glob w) (room : Int) (p0 : Option Addr) (c0 : Nat) (E : List Sr) (hE : SrSeen w p0 E) :
    Calls Tryz.prog 3 #[.int .i64 room, .slice p0 E.length c0] w fun e w' => e = .returned (.bool true) ∧ Below w.heap.size w w' := by
  have HG := Lib.hid hg
  have HE := Lib.hid hE
  obtain ⟨n, hn⟩ : ∃ n, n = E.length := ⟨_, rfl⟩
  rw [← hn]
  have HN := Lib.hid hn
  clear hg hE hn
  go_enter Tryz.func3, Tryz.ntmps3
  go_wp2_with fail
  refine (pick_any w room 200 (by decide) (by decide)).mono ?_
  rintro e w' ⟨rfl, rfl⟩
  obtain ⟨rm, hrm⟩ : ∃ z : Int, z = room % 200 := ⟨_, rfl⟩
  rw [← hrm]
  clear hrm
  go_wp2_with fail
  refine (new_to w rm).mono ?_
  rintro e w1 ⟨d, S1, rfl, d1, b1, g1⟩
  have D1 := Lib.hid d1
  have B1 := Lib.hid b1
  have G1 := Lib.hid g1
  clear d1 b1 g1
  go_wp2_with fail
  refine (known8_to w1 (HG.out.kb B1.out)).mono ?_
  rintro e w2 ⟨rfl, b2⟩
  have D2 := Lib.hid (D1.out.kb b2)
  have B2 : Hid (Below w.heap.size w w2) := Lib.hid (B1.out.trans (b2.mono B1.out.size))
  clear b2 D1 B1
  go_wp2_with fail
  refine (rnew_to w2 rm).mono ?_
  rintro e w3 ⟨r, rfl, r3, b3, g3⟩
  have P3 : Hid (Wp w w3 d w2.heap.size r S1 (fun _ => False) (St.new rm) 0) := Lib.hid ⟨⟨D2.out.kb b3, r3, fun k hk => ⟨fun h => h, fun e => by have := D2.out.lt k hk; omega⟩, B2.out.trans (b3.mono B2.out.size), G1.out, Nat.le_trans B2.out.size g3, fun _ h => h.elim, r3.lts.2⟩, OkT.new rm, Sk.new rm⟩
  obtain ⟨B', hB'⟩ : ∃ B', B' = w2.heap.size := ⟨_, rfl⟩
  rw [← hB'] at P3
  clear r3 b3 g3 hB' D2 B2 G1
  go_wp2_with fail
  go_loopw [7] (fun i wr => ∃ (k : Nat) (S A : Nat → Prop) (s : St), k ≤ n ∧ k ≤ 40 ∧ i = .int .i64 k ∧ Hid (Wp w wr d B' r S A s (5 * k))) (fun i _ => 40 - (intOf i).toNat)
  case atStart => exact ⟨0, S1, _, _, Nat.zero_le _, Nat.zero_le _, rfl, P3⟩
  case round =>
    clear P3
    obtain ⟨k, S, A, s, hkn, hk40, rfl, HP⟩ := hrel
    by_cases hlt : k < n
    case neg =>
      have hlt' : ¬ (k : Int) < n := by omega
      go_wp2_with fail
      go_ret
      exact ⟨rfl, HP.out.pl.bel⟩
    by_cases hlt4 : k < 40
    case neg =>
      have hlt' : (k : Int) < n := by omega
      have hlt4' : ¬ (k : Int) < 40 := by omega
      go_wp2_with fail
      go_ret
      exact ⟨rfl, HP.out.pl.bel⟩
    have hkE : k < E.length := by rw [← HN.out]; exact hlt
    obtain ⟨g, ofs, rfl, hce, hse⟩ := sr_at HE.out hkE
    generalize E[k] = x at *
    have HSE := Lib.hid hse
    have e0 : wr.cell? ⟨g, ofs + k * 7, none⟩ = some (.int .i64 x.what) := pcell_in (hce 0 _ rfl) HP.out.pl.bel
    have e1 : wr.cell? ⟨g, ofs + k * 7 + 1, none⟩ = some (.int .i64 x.n) := pcell_in (hce 1 _ rfl) HP.out.pl.bel
    have e2 : wr.cell? ⟨g, ofs + k * 7 + 2, none⟩ = some (.int .i64 x.cut) := pcell_in (hce 2 _ rfl) HP.out.pl.bel
    have e3 : wr.cell? ⟨g, ofs + k * 7 + 3, none⟩ = some (.int .i64 x.r.gen) := pcell_in (hce 3 _ rfl) HP.out.pl.bel
    have e4 : wr.cell? ⟨g, ofs + k * 7 + 4, none⟩ = some (.int .i64 x.r.idx) := pcell_in (hce 4 _ rfl) HP.out.pl.bel
    have e5 : wr.cell? ⟨g, ofs + k * 7 + 5, none⟩ = some (.int .i64 x.r.how) := pcell_in (hce 5 _ rfl) HP.out.pl.bel
    have e6 : wr.cell? ⟨g, ofs + k * 7 + 6, none⟩ = some (.slice x.q x.r.logs.length x.c) := pcell_in (hce 6 _ rfl) HP.out.pl.bel
    clear hce hse
    have hlt' : (k : Int) < n := by omega
    have hlt4' : (k : Int) < 40 := by omega
    go_upto_region 10 with fail
    have b4 : Below wr.heap.size wr (wr.alloc (.cells #[.int .i64 x.what, .int .i64 x.n, .int .i64 x.cut, .int .i64 x.r.gen, .int .i64 x.r.idx, .int .i64 x.r.how, .slice x.q x.r.logs.length x.c] 33)) := (Below.refl _ wr).alloc (Nat.le_refl _) _
    have X4 : Hid (Xs (wr.alloc (.cells #[.int .i64 x.what, .int .i64 x.n, .int .i64 x.cut, .int .i64 x.r.gen, .int .i64 x.r.idx, .int .i64 x.r.how, .slice x.q x.r.logs.length x.c] 33)) S wr.heap.size x) := Lib.hid ⟨heap_alloc_last wr _, fun e => by have := HP.out.pl.ds.lt _ e; omega⟩
    have P4 := Lib.hid (HP.out.kb b4)
    have HXR : Hid (wr.heap.size ≠ r) := Lib.hid (fun e => by have := HP.out.pl.rlt; omega)
    clear b4 HP e0 e1 e2 e3 e4 e5 e6
    generalize wr.alloc (.cells #[.int .i64 x.what, .int .i64 x.n, .int .i64 x.cut, .int .i64 x.r.gen, .int .i64 x.r.idx, .int .i64 x.r.how, .slice x.q x.r.logs.length x.c] 33) = w4 at X4 P4 ⊢
    obtain ⟨xb, hxb⟩ : ∃ z, z = wr.heap.size := ⟨_, rfl⟩
    rw [← hxb] at X4 HXR ⊢
    clear hxb
    have x0 := X4.out.c0
    obtain ⟨wh, hwh⟩ : ∃ z, x.what % 8 = z := ⟨_, rfl⟩
    have HPK := Lib.hid (pick_to w4 x.what 8 wh (by decide) (by decide) hwh)
    clear hwh
    go_upto_block 2 with (go_at_call 5; refine HPK.out.mono ?_; rintro e w' ⟨rfl, rfl⟩)
    clear HPK x0
    go_cut [9, 10, 11, 12] from 46 to 104 (fun _ _ _ _ wx => ∃ (S A : Nat → Prop) (s : St), Hid (Wp w wx d B' r S A s (5 * (k + 1))))
    case first =>
      have x1 := X4.out.c1
      have x2 := X4.out.c2
      by_cases h5 : wh = 5
      case pos =>
        subst h5
        obtain ⟨m, hm⟩ : ∃ m : Nat, x.n % 9 = (m : Int) := ⟨(x.n % 9).toNat, by omega⟩
        have hm9 : m < 9 := by omega
        have HPN := Lib.hid (pick_to w4 x.n 9 m (by decide) (by decide) hm)
        have hwr : IntKind.i64.wrap ((m : Int) - 1) = (m : Int) - 1 := IntWalk.i64_in _ (by omega)
        clear hm
        go_wp2_with (go_at_call 5; refine HPN.out.mono ?_; rintro e w' ⟨rfl, rfl⟩)
        refine (fuse8_ds w4 _ d S s ((m : Int) - 1) P4.out.pl.ds).mono ?_
        rintro e w5 ⟨rfl, hp⟩
        obtain ⟨S5, p5, _⟩ := P4.out.pl.stepD hp
        have P5 := Lib.hid p5
        have HSK := Lib.hid (P4.out.sk.setFuse (n := (m : Int) - 1) (by omega))
        have HOK := Lib.hid (P4.out.ok.setFuse ((m : Int) - 1))
        have HM1 : Hid ((m : Int) - 1 < 9223372036854775808) := Lib.hid (by omega)
        clear hp p5 P4 X4 HPN
        go_wp2_with fail
        refine (rfuse_to w5 _ r A s ((m : Int) - 1) P5.out.rs HM1.out).mono ?_
        rintro e w6 ⟨rfl, hp⟩
        obtain ⟨A6, p6⟩ := P5.out.stepR hp
        have P6 := Lib.hid p6
        clear hp p6 P5
        go_wp2_with fail
        go_meet
        case rel => exact ⟨S5, A6, _, Lib.hid ⟨P6.out, HOK.out, HSK.out.mono (by omega)⟩⟩
      case neg =>
        have h5' : (wh == 5) = false := by simpa using h5
        by_cases h6 : wh = 6
        case pos =>
          subst h6
          go_wp2_with fail
          refine (crash_to w4 _ d S s x.n x.cut P4.out.pl.ds (by have := P4.out.sk.works; omega)).mono ?_
          rintro e w5 ⟨rfl, hp⟩
          have ho := hp
          obtain ⟨S5, p5, s5⟩ := P4.out.pl.stepD hp
          obtain ⟨_, _, o5, _⟩ := ho
          have P5 := Lib.hid p5
          have X5 := Lib.hid (X4.out.step (S' := S5) o5 s5)
          have HGD := Lib.hid P4.out.pl.ds.good
          have HWK : Hid (s.works ≤ 900000) := Lib.hid (by have := P4.out.sk.works; omega)
          have HSK := Lib.hid (P4.out.sk.crash x.n x.cut)
          have HOK := Lib.hid (P4.out.ok.crash x.n x.cut)
          clear hp p5 s5 o5 P4 X4 x1 x2
          have x1 := X5.out.c1
          have x2 := X5.out.c2
          go_wp2_with fail
          refine (rcrash_to w5 _ r A s x.n x.cut P5.out.rs HGD.out HWK.out).mono ?_
          rintro e w6 ⟨rfl, hp⟩
          obtain ⟨A6, p6⟩ := P5.out.stepR hp
          have P6 := Lib.hid p6
          clear hp p6 P5
          go_wp2_with fail
          go_meet
          case rel => exact ⟨S5, A6, _, Lib.hid ⟨P6.out, HOK.out, HSK.out.mono (by omega)⟩⟩
        case neg =>
          have h6' : (wh == 6) = false := by simpa using h6
          by_cases h7 : wh = 7
          case pos =>
            subst h7
            obtain ⟨j, hj⟩ : ∃ m : Nat, x.n % 3 = (m : Int) := ⟨(x.n % 3).toNat, by omega⟩
            have hj3 : j < 3 := by omega
            have HPN := Lib.hid (pick_to w4 x.n 3 j (by decide) (by decide) hj)
            obtain ⟨m, hm⟩ : ∃ m : Nat, x.cut % 20 = (m : Int) := ⟨(x.cut % 20).toNat, by omega⟩
            have hm20 : m < 20 := by omega
            have HPM := Lib.hid (pick_to w4 x.cut 20 m (by decide) (by decide) hm)
            have hix : ∀ W, (Instr.index 36 (.agg #[.string ⟨#[114, 111, 111, 116, 46, 110, 101, 119]⟩, .string ⟨#[114, 111, 111, 116]⟩, .string ⟨#[120]⟩]) (.int .i64 (j : Int))).run Tryz.prog W = .ok (stv (nm3 j)) W := fun W => index_three j W (by omega) (by omega)
            have hnl := nm3_len j
            generalize nm3 j = nm at *
            clear hj hm
            go_wp2_with fail
            refine HPN.out.mono ?_
            rintro e w' ⟨rfl, rfl⟩
            clear HPN
            go_wp2_with fail
            refine HPM.out.mono ?_
            rintro e w' ⟨rfl, rfl⟩
            clear HPM
            obtain ⟨wm, L, hmk, hown, hLl, hLo, hbm⟩ := made_bytes w4 m (by omega)
            have HOW := Lib.hid hown
            have HLL := Lib.hid hLl
            have HLO := Lib.hid hLo
            have P5 := Lib.hid (P4.out.kb hbm)
            have HNO : Hid (∀ k, (Value.slice (some ⟨w4.heap.size, 0, none⟩) m m).ownBlock = some k → ¬ S k ∧ k ≠ r) := Lib.hid (fun k hk => by
              obtain rfl : w4.heap.size = k := by simpa [Value.ownBlock] using hk
              exact ⟨fun e => by have := P4.out.pl.ds.lt _ e; omega, fun e => by have := P4.out.pl.rlt; omega⟩)
            have HNL : Hid (nm.length ≤ 20) := Lib.hid hnl
            clear hown hLl hLo hbm hnl P4 X4 x1 x2
            go_wp2_with fail
            clear hmk hix
            obtain ⟨gb, hgb⟩ : ∃ z, z = w4.heap.size := ⟨_, rfl⟩
            rw [← hgb] at HOW HNO ⊢
            clear hgb
            refine (append_to wm _ d S s nm _ L P5.out.pl.ds (by have := P5.out.sk.works; omega) (Int.lt_trans P5.out.sk.fuse (by decide)) (by have := HNL.out; omega) (Seen.own HOW.out) (fun k hk => (HNO.out k hk).1) (by have := HLL.out; omega)).mono ?_
            rintro e w6 ⟨rfl, hp⟩
            have ho := hp
            obtain ⟨S6, p6, s6⟩ := P5.out.pl.stepD hp
            obtain ⟨_, _, o6, _⟩ := ho
            have HGD := Lib.hid P5.out.pl.ds.good
            have HW7 : Hid (s.works ≤ 900000 ∧ s.fuse < 9223372036854775808) := Lib.hid ⟨by have := P5.out.sk.works; omega, Int.lt_trans P5.out.sk.fuse (by decide)⟩
            have HSK := Lib.hid (P5.out.sk.wb (wb_append s nm L))
            have HOK := Lib.hid (P5.out.ok.append nm HLO.out)
            have HO6 := Lib.hid (own_kept HOW.out o6 (fun k hk => (HNO.out k hk).1))
            have P6 := Lib.hid p6
            have HRA := Lib.hid (fun (W : World) (hs : Seen W (.slice (some ⟨gb, 0, none⟩) m m) L) (hr : RS W B' r A s) => rappend_to W _ r A s nm (.slice (some ⟨gb, 0, none⟩) m m) L hr HGD.out HW7.out.1 HW7.out.2 (by have := HNL.out; omega) hs (by have := HLL.out; omega))
            unfold RCall at HRA
            obtain ⟨q, hq⟩ : ∃ z, z = s.append nm L := ⟨_, rfl⟩
            rw [← hq] at P6 HSK HOK HRA ⊢
            obtain ⟨ev, hev⟩ : ∃ z, z = enoOf q.1 := ⟨_, rfl⟩
            have HEV := Lib.hid hev
            rw [← hev]
            clear hp p6 s6 o6 hq hev P5 HOW
            go_wp2_with fail
            have HKN := Lib.hid (khand_en w6 q.1 (HG.out.kb P6.out.bel))
            rw [← HEV.out] at HKN
            refine HKN.out.mono ?_
            rintro e w7 ⟨rfl, bb⟩
            have P7 := Lib.hid (P6.out.kb bb)
            have HO7 := Lib.hid (own_kb HO6.out bb)
            clear bb P6 HO6 HKN
            obtain ⟨qc, hqc⟩ : ∃ z, z = q.1 := ⟨_, rfl⟩
            rw [← hqc] at HRA ⊢
            clear hqc
            go_wp2_with fail
            refine (HRA.out w7 (Seen.own HO7.out) P7.out.rs).mono ?_
            rintro e w8 ⟨rfl, hp⟩
            obtain ⟨A8, p8⟩ := P7.out.stepR hp
            have P8 := Lib.hid p8
            clear hp p8 P7 HRA
            go_wp2_with fail
            go_meet
            case rel => exact ⟨S6, A8, _, Lib.hid ⟨P8.out, HOK.out, HSK.out.mono (by omega)⟩⟩
          case neg =>
            have h7' : (wh == 7) = false := by simpa using h7
            obtain ⟨x3, x4, x5, x6⟩ := X4.out.r
            have h7b : ¬ wh = 7 := h7
            have h5b : ¬ wh = 5 := h5
            have h6b : ¬ wh = 6 := h6
            go_wp2_with fail
            refine (one_to w4 x.r _ (HSE.out.kb P4.out.pl.bel)).mono ?_
            rintro e w5 ⟨lv, rfl, ov, b5⟩
            obtain ⟨R, hR⟩ : ∃ z, z = oneR x.r := ⟨_, rfl⟩
            have HRN : Hid (R.logs.length ≤ 10) := Lib.hid (by rw [hR]; exact oneR_len _)
            rw [← hR] at ov ⊢
            obtain ⟨pl, cl, rfl⟩ := own_slice ov
            have P5 := Lib.hid (P4.out.kb b5)
            have OV5 := Lib.hid ov
            have OVS : Hid (∀ k, (Value.slice pl R.logs.length cl).ownBlock = some k → ¬ S k) := Lib.hid (fun k hk e => by have h1 := (ov.lt k hk).1; have h2 := P4.out.pl.ds.lt _ e; omega)
            clear x1 x2 x3 x4 x5 x6 ov b5 X4 P4 hR h5 h6 h7 h5' h6' h7' h5b h6b h7b HXR
            go_upto_region 12 with fail
            have b6 : Below w5.heap.size w5 (w5.alloc (.cells #[.int .i64 R.gen, .slice pl R.logs.length cl, .int .i64 R.idx] 45)) := (Below.refl _ _).alloc (Nat.le_refl _) _
            have RR6 : Hid (RM (w5.alloc (.cells #[.int .i64 R.gen, .slice pl R.logs.length cl, .int .i64 R.idx] 45)) S 45 w5.heap.size (.slice pl R.logs.length cl) R) := Lib.hid (RM.new OV5.out P5.out.pl.ds.lt OVS.out rfl rfl rfl)
            have P6 := Lib.hid (P5.out.kb b6)
            have HRL := Lib.hid P5.out.pl.rlt
            clear b6 P5 OV5 OVS
            generalize w5.alloc (.cells #[.int .i64 R.gen, .slice pl R.logs.length cl, .int .i64 R.idx] 45) = w6 at RR6 P6 ⊢
            obtain ⟨rb, hrb⟩ : ∃ z, z = w5.heap.size := ⟨_, rfl⟩
            have HRR : Hid (w5.heap.size ≠ r) := Lib.hid (fun e => by have := HRL.out; omega)
            rw [← hrb] at RR6 HRR ⊢
            clear hrb
            have HGD := Lib.hid P6.out.pl.ds.good
            have HWB := Lib.hid (wb_sv s R)
            have HS0 := Lib.hid (P6.out.sk.wb HWB.out)
            have HOK : Hid (OkT (svS s R).2) := Lib.hid (by
              unfold svS
              split
              · exact P6.out.ok.save (encR_ok R)
              · exact P6.out.ok)
            have HW7 : Hid (s.works ≤ 700000 ∧ s.fuse < 1000) := Lib.hid ⟨by have := P6.out.sk.works; omega, Int.lt_trans P6.out.sk.fuse (by decide)⟩
            have bd : Below w6.heap.size w6 w6.drew := below_dw (Below.refl _ _)
            have P7 := Lib.hid (P6.out.kb bd)
            have RR7 := Lib.hid (RR6.out.kb bd)
            clear bd P6 RR6 HWB
            obtain ⟨t0, t1, t2, _⟩ := RR7.out.cells
            obtain ⟨rm1, hrm1⟩ : ∃ z, z = R.logs.length := ⟨_, rfl⟩
            rw [← hrm1] at t1 RR7 ⊢
            have HRM := Lib.hid hrm1
            clear hrm1
            go_wp2_with fail
            try simp only [List.append]
            refine wp_region_noPanic ?_
            refine wp_region_held_drew (S := (fun W => W.cell? ⟨rb, 0, none⟩ = some (.int .i64 R.gen) ∧ W.cell? ⟨rb, 1, none⟩ = some (.slice pl rm1 cl) ∧ W.cell? ⟨rb, 2, none⟩ = some (.int .i64 R.idx))) (by kernel_rfl) (And.intro t0 (And.intro t1 t2)) (fun hHeld => ?_)
            refine wpAnyH_take (i := 0) (v := ?_) (by simp only [List.getElem?_toArray, List.getElem?_cons_zero]; rfl) (by kernel_rfl) (by kernel_rfl) (by kernel_rfl) (fun _ _ _ h => h) (Or.inl ⟨by rfl, ?_⟩) (by assumption) ?_
            rotate_left
            · intro w hSw
              try dsimp only at hSw
              go_simp
              try with_reducible rfl
            try simp only [Act.put, List.setIfInBounds_toArray, List.set_cons_zero, List.set_cons_succ]
            refine wpAnyH_take (i := 1) (v := ?_) (by simp only [List.getElem?_toArray, List.getElem?_cons_succ, List.getElem?_cons_zero]; rfl) (by kernel_rfl) (by kernel_rfl) (by kernel_rfl) (fun _ _ _ h => h) (Or.inl ⟨by rfl, ?_⟩) (by assumption) ?_
            rotate_left
            · intro w hSw
              try dsimp only at hSw
              go_simp
              try with_reducible rfl
            try simp only [Act.put, List.setIfInBounds_toArray, List.set_cons_zero, List.set_cons_succ]
            refine wpAnyH_take (i := 4) (v := ?_) (by simp only [List.getElem?_toArray, List.getElem?_cons_succ, List.getElem?_cons_zero]; rfl) (by kernel_rfl) (by kernel_rfl) (by kernel_rfl) (fun _ _ _ h => h) (Or.inl ⟨by rfl, ?_⟩) (by assumption) ?_
            rotate_left
            · intro w hSw
              try dsimp only at hSw
              go_simp
              try with_reducible rfl
            try simp only [Act.put, List.setIfInBounds_toArray, List.set_cons_zero, List.set_cons_succ]
            refine wpAnyH_take (i := 5) (v := ?_) (by simp only [List.getElem?_toArray, List.getElem?_cons_succ, List.getElem?_cons_zero]; rfl) (by kernel_rfl) (by kernel_rfl) (by kernel_rfl) (fun _ _ _ h => h) (Or.inl ⟨by rfl, ?_⟩) (by assumption) ?_
            rotate_left
            · intro w hSw
              try dsimp only at hSw
              go_simp
              try with_reducible rfl
            try simp only [Act.put, List.setIfInBounds_toArray, List.set_cons_zero, List.set_cons_succ]
            clear t0 t1 t2
            refine wpAnyH_ready (rs := [2]) (by kernel_rfl) (by simp) ?_
            refine AllReadyH.cons (by simp only [List.getElem?_toArray, List.getElem?_cons_succ, List.getElem?_cons_zero]; rfl) (fun K hK => ?_) AllReadyH.nil
            go_simp
            have HSV := Lib.hid (rsave_to w6.drew _ d S s R.gen R.idx _ R.logs P7.out.pl.ds (P7.out.sk.sm (by omega)) RR7.out.seen)
            rw [show (⟨R.gen, R.logs, R.idx⟩ : Rt) = R from rfl] at HSV
            refine HSV.out.mono ?_
            rintro e w8 ⟨v8, rfl, he, hp⟩
            have ho := hp
            obtain ⟨S8, p8, s8⟩ := P7.out.pl.stepD hp
            obtain ⟨_, _, o8, _⟩ := ho
            have P8 := Lib.hid p8
            have RR8 := Lib.hid (RR7.out.step (S' := S8) o8 s8)
            have HE8 := Lib.hid he
            obtain ⟨q, hq⟩ : ∃ z, z = svS s R := ⟨_, rfl⟩
            have HQ := Lib.hid hq
            rw [← hq] at P8 HE8 HS0 HOK
            obtain ⟨q0, q1, q2, _⟩ := RR8.out.cells
            clear hp p8 s8 o8 he hq HSV P7 RR7
            go_wp2_with fail
            refine hK.out _ _ (And.intro q0 (And.intro q1 q2)) (fun hHeld => ?_)
            clear hK K
            try simp only [Act.put, List.setIfInBounds_toArray, List.set_cons_zero, List.set_cons_succ]
            refine wpAnyH_ready (rs := [3]) (by kernel_rfl) (by simp) ?_
            refine AllReadyH.cons (by simp only [List.getElem?_toArray, List.getElem?_cons_succ, List.getElem?_cons_zero]; rfl) (fun K hK => ?_) AllReadyH.nil
            go_simp
            refine (khand_sv w8 _ q.1 v8 HE8.out (HG.out.kb P8.out.bel)).mono ?_
            rintro e w9 ⟨rfl, bb⟩
            have P9 := Lib.hid (P8.out.kb bb)
            have RR9 := Lib.hid (RR8.out.kb bb)
            obtain ⟨z0, z1, z2, _⟩ := RR9.out.cells
            clear bb P8 RR8 HE8 q0 q1 q2
            go_wp2_with fail
            refine hK.out _ _ (And.intro z0 (And.intro z1 z2)) (fun hHeld => ?_)
            clear hK K
            try simp only [Act.put, List.setIfInBounds_toArray, List.set_cons_zero, List.set_cons_succ]
            refine wpAnyH_ready (rs := [6]) (by kernel_rfl) (by simp) ?_
            refine AllReadyH.cons (by simp only [List.getElem?_toArray, List.getElem?_cons_succ, List.getElem?_cons_zero]; rfl) (fun K hK => ?_) AllReadyH.nil
            go_simp
            refine (plain_to w9 R.gen R.idx pl rm1 cl).mono ?_
            rintro e wA ⟨rfl, bb⟩
            have PA := Lib.hid (P9.out.kb bb)
            have RRA := Lib.hid (RR9.out.kb bb)
            obtain ⟨y0, y1, y2, _⟩ := RRA.out.cells
            clear bb P9 RR9 z0 z1 z2
            go_wp2_with fail
            refine hK.out _ _ (And.intro y0 (And.intro y1 y2)) (fun hHeld => ?_)
            clear hK K
            try simp only [Act.put, List.setIfInBounds_toArray, List.set_cons_zero, List.set_cons_succ]
            refine wpAnyH_ready (rs := [7]) (by kernel_rfl) (by simp) ?_
            refine AllReadyH.cons (by simp only [List.getElem?_toArray, List.getElem?_cons_succ, List.getElem?_cons_zero]; rfl) (fun K hK => ?_) AllReadyH.nil
            go_simp
            have HXS := Lib.hid (xsave_to wA _ r A s R.gen R.idx (.slice pl rm1 cl) R.logs PA.out.rs HGD.out HW7.out.1 HW7.out.2 RRA.out.seen (Nat.le_trans HRN.out (by decide)))
            rw [show (⟨R.gen, R.logs, R.idx⟩ : Rt) = R from rfl, ← HQ.out] at HXS
            refine HXS.out.mono ?_
            rintro e wB ⟨rfl, hp⟩
            have ho := hp
            obtain ⟨A9, pB⟩ := PA.out.stepR hp
            have PB := Lib.hid pB
            have HCB : Hid (wB.cell? ⟨rb, 0, none⟩ = some (.int .i64 R.gen) ∧ wB.cell? ⟨rb, 1, none⟩ = some (.slice pl rm1 cl) ∧ wB.cell? ⟨rb, 2, none⟩ = some (.int .i64 R.idx)) := Lib.hid (by
              obtain ⟨_, _, o9, _⟩ := ho
              have := (o9.block _ RRA.out.lt HRR.out).trans RRA.out.obj
              obtain ⟨a0, a1, a2, _⟩ := three_cells this
              exact ⟨a0, a1, a2⟩)
            clear hp pB PA RRA y0 y1 y2 HXS
            obtain ⟨qc, hqc⟩ : ∃ z, z = q.1 := ⟨_, rfl⟩
            rw [← hqc]
            clear hqc
            go_wp2_with fail
            refine hK.out _ _ HCB.out (fun hHeld => ?_)
            clear hK K
            try simp only [Act.put, List.setIfInBounds_toArray, List.set_cons_zero, List.set_cons_succ]
            refine wpAnyH_take (i := 8) (v := (.bool false)) (by simp only [List.getElem?_toArray, List.getElem?_cons_succ, List.getElem?_cons_zero]; rfl) (by kernel_rfl) (by kernel_rfl) (by kernel_rfl) (fun _ _ _ h => h) (Or.inl ⟨by rfl, ?_⟩) (by assumption) ?_
            · intro w hSw
              try dsimp only at hSw
              go_simp
            try simp only [Act.put, List.setIfInBounds_toArray, List.set_cons_zero, List.set_cons_succ]
            refine wpAnyH_done (by kernel_rfl) ?_ _
            refine NoPanic.normal ?_
            go_wp2_with fail
            go_meet
            case rel => exact ⟨S8, A9, _, Lib.hid ⟨PB.out, HOK.out, HS0.out.mono (by omega)⟩⟩
    case rest =>
      clear X4 P4 HXR
      obtain ⟨S, A, s, HP⟩ := hcut
      have HGD := Lib.hid HP.out.pl.ds.good
      have HW9 : Hid (s.works ≤ 900000) := Lib.hid (by have := HP.out.sk.works; omega)
      go_wp2_with fail
      refine (rload_to wc _ d S s HP.out.pl.ds (HP.out.ok.rd rtN)).mono ?_
      rintro e w5 ⟨gL, vL, iL, c, lL, rfl, ovL, hlL, b5⟩
      obtain ⟨pv, cv, rfl⟩ := own_slice ovL
      have HLD := Lib.hid hlL
      have OVL := Lib.hid ovL
      have P5 := Lib.hid (HP.out.kb b5)
      obtain ⟨ev, hev⟩ : ∃ z, z = enoOf c := ⟨_, rfl⟩
      have HEV := Lib.hid hev
      rw [← hev]
      clear ovL hlL b5 hev HP
      go_upto_region 27 with fail
      have b6 : Below w5.heap.size w5 (w5.alloc (.cells #[.int .i64 gL, .slice pv lL.length cv, .int .i64 iL] 45)) := (Below.refl _ _).alloc (Nat.le_refl _) _
      have P6 := Lib.hid (P5.out.kb b6)
      have L6 : Hid ((w5.alloc (.cells #[.int .i64 gL, .slice pv lL.length cv, .int .i64 iL] 45)).heap[w5.heap.size]? = some (.cells #[.int .i64 gL, .slice pv lL.length cv, .int .i64 iL] 45 (0, 0))) := Lib.hid (heap_alloc_last w5 _)
      have I6 : Hid (ISeen (w5.alloc (.cells #[.int .i64 gL, .slice pv lL.length cv, .int .i64 iL] 45)) (.slice pv lL.length cv) lL) := Lib.hid ((ISeen.own OVL.out).kb b6)
      clear b6 OVL P5
      generalize w5.alloc (.cells #[.int .i64 gL, .slice pv lL.length cv, .int .i64 iL] 45) = w6 at P6 L6 I6 ⊢
      obtain ⟨qb, hqb⟩ : ∃ z, z = w5.heap.size := ⟨_, rfl⟩
      rw [← hqb] at L6 ⊢
      clear hqb
      go_wp2_with fail
      refine (xload_to w6 _ r A s P6.out.pl.rs HGD.out HW9.out (P6.out.ok.rd rtN)).mono ?_
      rintro e w7 ⟨gM, vM, iM, c', lM, rfl, ovM, hlM, b7⟩
      obtain ⟨rfl, hRR⟩ := hlM.unique HLD.out
      obtain ⟨rfl, rfl, rfl⟩ : gM = gL ∧ lM = lL ∧ iM = iL := by simpa using hRR
      obtain ⟨pm, cm, rfl⟩ := own_slice ovM
      have OVM := Lib.hid ovM
      have P7 := Lib.hid (P6.out.kb b7)
      have L7 := Lib.hid ((b7.block _ (lt_of_block L6.out)).trans L6.out)
      have I7 := Lib.hid (I6.out.kb b7)
      have HLN : Hid (lM.length ≤ 1000000) := Lib.hid HLD.out.len
      clear ovM hlM hRR b7 P6 L6 I6
      go_upto_region 28 with fail
      have b8 : Below w7.heap.size w7 (w7.alloc (.cells #[.int .i64 gM, .slice pm lM.length cm, .int .i64 iM] 49)) := (Below.refl _ _).alloc (Nat.le_refl _) _
      have P8 := Lib.hid (P7.out.kb b8)
      have L8 := Lib.hid ((b8.block _ (lt_of_block L7.out)).trans L7.out)
      have I8 := Lib.hid (I7.out.kb b8)
      have M8 : Hid ((w7.alloc (.cells #[.int .i64 gM, .slice pm lM.length cm, .int .i64 iM] 49)).heap[w7.heap.size]? = some (.cells #[.int .i64 gM, .slice pm lM.length cm, .int .i64 iM] 49 (0, 0))) := Lib.hid (heap_alloc_last w7 _)
      have J8 : Hid (ISeen (w7.alloc (.cells #[.int .i64 gM, .slice pm lM.length cm, .int .i64 iM] 49)) (.slice pm lM.length cm) lM) := Lib.hid ((ISeen.own OVM.out).kb b8)
      clear b8 OVM P7 L7 I7
      generalize w7.alloc (.cells #[.int .i64 gM, .slice pm lM.length cm, .int .i64 iM] 49) = wl at P8 L8 I8 M8 J8 ⊢
      obtain ⟨zb, hzb⟩ : ∃ z, z = w7.heap.size := ⟨_, rfl⟩
      rw [← hzb] at M8 ⊢
      clear hzb
      obtain ⟨wk, hwk⟩ : ∃ z : Nat, z = s.works := ⟨_, rfl⟩
      obtain ⟨dd, hdd⟩ : ∃ z : Bool, z = s.dead := ⟨_, rfl⟩
      obtain ⟨us0, hus⟩ : ∃ z : Int, z = (if s.dead = true then 0 else (s.used : Int)) := ⟨_, rfl⟩
      have HS : Hid (∀ W, Below wl.heap.size wl W → W.cell? ⟨qb, 0, none⟩ = some (.int .i64 gM) ∧ W.cell? ⟨qb, 1, none⟩ = some (.slice pv lM.length cv) ∧ W.cell? ⟨qb, 2, none⟩ = some (.int .i64 iM) ∧ W.cell? ⟨zb, 0, none⟩ = some (.int .i64 gM) ∧ W.cell? ⟨zb, 1, none⟩ = some (.slice pm lM.length cm) ∧ W.cell? ⟨zb, 2, none⟩ = some (.int .i64 iM) ∧ W.cell? ⟨r, 4, none⟩ = some (.bool s.dead) ∧ W.cell? ⟨r, 5, none⟩ = some (.int .i64 s.works)) := Lib.hid (fun W hb => by
        obtain ⟨a0, a1, a2, _⟩ := three_cells ((hb.block _ (lt_of_block L8.out)).trans L8.out)
        obtain ⟨b0, b1, b2, _⟩ := three_cells ((hb.block _ (lt_of_block M8.out)).trans M8.out)
        obtain ⟨f, vk, vp, Er, Q, hx⟩ := (P8.out.kb hb).pl.rs
        exact ⟨a0, a1, a2, b0, b1, b2, hx.c4, hx.c5⟩)
      have C1 : Hid (∀ W, Below wl.heap.size wl W → Calls Tryz.prog 13 #[ev] W fun e w' => e = .returned (.int .i64 c') ∧ Below W.heap.size W w') := Lib.hid (fun W hb => by rw [HEV.out]; exact khand_en W c' (HG.out.kb (P8.out.pl.bel.trans (hb.mono P8.out.pl.bel.size))))
      have C2 : Hid (∀ W, Below wl.heap.size wl W → Calls Tryz.prog 23 #[.pointer (some ⟨d,0,none⟩)] W fun e w' => e = .returned (.int .i64 s.works) ∧ W = w') := Lib.hid (fun W hb => works_ds W _ d S s (P8.out.kb hb).pl.ds)
      have C3 : Hid (∀ W, Below wl.heap.size wl W → Calls Tryz.prog 24 #[.pointer (some ⟨d,0,none⟩)] W fun e w' => e = .returned (.bool s.dead) ∧ W = w') := Lib.hid (fun W hb => dead8_ds W _ d S s (P8.out.kb hb).pl.ds)
      have C4 : Hid (∀ W, Below wl.heap.size wl W → Calls Tryz.prog 25 #[.pointer (some ⟨d,0,none⟩)] W fun e w' => e = .returned (.int .i64 (if s.dead = true then 0 else (s.used : Int))) ∧ W = w') := Lib.hid (fun W hb => used8_ds W _ d S s (P8.out.kb hb).pl.ds)
      have C5 : Hid (∀ W, Below wl.heap.size wl W → Calls Tryz.prog 26 #[.pointer (some ⟨r,0,none⟩)] W fun e w' => e = .returned (.int .i64 (if s.dead = true then 0 else (s.used : Int))) ∧ Below W.heap.size W w') := Lib.hid (fun W hb => rused_ds W _ r A s (P8.out.kb hb).pl.rs HGD.out HW9.out)
      have HLI : Hid (∀ W, Below wl.heap.size wl W → ISeen W (.slice pv lM.length cv) lM ∧ ISeen W (.slice pm lM.length cm) lM) := Lib.hid (fun W hb => ⟨I8.out.kb hb, J8.out.kb hb⟩)
      rw [← hwk] at C2 HS
      rw [← hdd] at C3 HS
      rw [← hus] at C4 C5
      obtain ⟨lm, hlm⟩ : ∃ z, z = lM.length := ⟨_, rfl⟩
      rw [← hlm] at HS HLI ⊢
      clear hlm hwk hdd hus L8 M8 I8 J8 HEV
      go_wp2_with fail
      have s0 := HS.out wl.drew (below_dw (Below.refl _ _))
      try simp only [List.append]
      refine wp_region_noPanic ?_
      refine wp_region_held_drew (S := (fun W => W.cell? ⟨qb, 0, none⟩ = some (.int .i64 gM) ∧ W.cell? ⟨qb, 1, none⟩ = some (.slice pv lm cv) ∧ W.cell? ⟨qb, 2, none⟩ = some (.int .i64 iM) ∧ W.cell? ⟨zb, 0, none⟩ = some (.int .i64 gM) ∧ W.cell? ⟨zb, 1, none⟩ = some (.slice pm lm cm) ∧ W.cell? ⟨zb, 2, none⟩ = some (.int .i64 iM) ∧ W.cell? ⟨r, 4, none⟩ = some (.bool dd) ∧ W.cell? ⟨r, 5, none⟩ = some (.int .i64 wk))) (by kernel_rfl) s0 (fun hHeld => ?_)
      refine wpAnyH_take (i := 0) (v := ?_) (by simp only [List.getElem?_toArray, List.getElem?_cons_zero]; rfl) (by kernel_rfl) (by kernel_rfl) (by kernel_rfl) (fun _ _ _ h => h) (Or.inl ⟨by rfl, ?_⟩) (by assumption) ?_
      rotate_left
      · intro w hSw
        try dsimp only at hSw
        go_simp
        try with_reducible rfl
      try simp only [Act.put, List.setIfInBounds_toArray, List.set_cons_zero, List.set_cons_succ]
      refine wpAnyH_take (i := 2) (v := ?_) (by simp only [List.getElem?_toArray, List.getElem?_cons_succ, List.getElem?_cons_zero]; rfl) (by kernel_rfl) (by kernel_rfl) (by kernel_rfl) (fun _ _ _ h => h) (Or.inl ⟨by rfl, ?_⟩) (by assumption) ?_
      rotate_left
      · intro w hSw
        try dsimp only at hSw
        go_simp
        try with_reducible rfl
      try simp only [Act.put, List.setIfInBounds_toArray, List.set_cons_zero, List.set_cons_succ]
      refine wpAnyH_ready (rs := [1]) (by kernel_rfl) (by simp) ?_
      refine AllReadyH.cons (by simp only [List.getElem?_toArray, List.getElem?_cons_succ, List.getElem?_cons_zero]; rfl) (fun K hK => ?_) AllReadyH.nil
      go_simp
      refine (C1.out wl.drew (below_dw (Below.refl _ _))).mono ?_
      rintro e v1 ⟨rfl, bb⟩
      have BV1 : Hid (Below wl.heap.size wl v1) := Lib.hid ⟨bb.os, bb.tape, bb.output, bb.size, bb.block⟩
      have s1 := HS.out v1 BV1.out
      clear bb
      go_wp2_with fail
      refine hK.out _ _ s1 (fun hHeld => ?_)
      clear hK K
      try simp only [Act.put, List.setIfInBounds_toArray, List.set_cons_zero, List.set_cons_succ]
      refine wpAnyH_take (i := 3) (v := (.bool false)) (by simp only [List.getElem?_toArray, List.getElem?_cons_succ, List.getElem?_cons_zero]; rfl) (by kernel_rfl) (by kernel_rfl) (by kernel_rfl) (fun _ _ _ h => h) (Or.inl ⟨by rfl, ?_⟩) (by assumption) ?_
      · intro w hSw
        try dsimp only at hSw
        go_simp
      try simp only [Act.put, List.setIfInBounds_toArray, List.set_cons_zero, List.set_cons_succ]
      refine wpAnyH_take (i := 4) (v := ?_) (by simp only [List.getElem?_toArray, List.getElem?_cons_succ, List.getElem?_cons_zero]; rfl) (by kernel_rfl) (by kernel_rfl) (by kernel_rfl) (fun _ _ _ h => h) (Or.inl ⟨by rfl, ?_⟩) (by assumption) ?_
      rotate_left
      · intro w hSw
        try dsimp only at hSw
        go_simp
        try with_reducible rfl
      try simp only [Act.put, List.setIfInBounds_toArray, List.set_cons_zero, List.set_cons_succ]
      refine wpAnyH_take (i := 5) (v := ?_) (by simp only [List.getElem?_toArray, List.getElem?_cons_succ, List.getElem?_cons_zero]; rfl) (by kernel_rfl) (by kernel_rfl) (by kernel_rfl) (fun _ _ _ h => h) (Or.inl ⟨by rfl, ?_⟩) (by assumption) ?_
      rotate_left
      · intro w hSw
        try dsimp only at hSw
        go_simp
        try with_reducible rfl
      try simp only [Act.put, List.setIfInBounds_toArray, List.set_cons_zero, List.set_cons_succ]
      refine wpAnyH_take (i := 7) (v := ?_) (by simp only [List.getElem?_toArray, List.getElem?_cons_succ, List.getElem?_cons_zero]; rfl) (by kernel_rfl) (by kernel_rfl) (by kernel_rfl) (fun _ _ _ h => h) (Or.inl ⟨by rfl, ?_⟩) (by assumption) ?_
      rotate_left
      · intro w hSw
        try dsimp only at hSw
        go_simp
        try with_reducible rfl
      try simp only [Act.put, List.setIfInBounds_toArray, List.set_cons_zero, List.set_cons_succ]
      refine wpAnyH_ready (rs := [6]) (by kernel_rfl) (by simp) ?_
      refine AllReadyH.cons (by simp only [List.getElem?_toArray, List.getElem?_cons_succ, List.getElem?_cons_zero]; rfl) (fun K hK => ?_) AllReadyH.nil
      go_simp
      refine (plain_to v1 gM iM pv lm cv).mono ?_
      rintro e v2 ⟨rfl, bb⟩
      have BV2 : Hid (Below wl.heap.size wl v2) := Lib.hid (BV1.out.trans (bb.mono BV1.out.size))
      have s2 := HS.out v2 BV2.out
      clear bb
      go_wp2_with fail
      refine hK.out _ _ s2 (fun hHeld => ?_)
      clear hK K
      try simp only [Act.put, List.setIfInBounds_toArray, List.set_cons_zero, List.set_cons_succ]
      refine wpAnyH_ready (rs := [8]) (by kernel_rfl) (by simp) ?_
      refine AllReadyH.cons (by simp only [List.getElem?_toArray, List.getElem?_cons_succ, List.getElem?_cons_zero]; rfl) (fun K hK => ?_) AllReadyH.nil
      go_simp
      refine (sameRoot_to v2 gM iM gM iM (.slice pv lm cv) (.slice pm lm cm) lM lM HLN.out (HLI.out v2 BV2.out).1 (HLI.out v2 BV2.out).2).mono ?_
      rintro e v3 ⟨rfl, bb⟩
      rw [sameR_self]
      have BV3 : Hid (Below wl.heap.size wl v3) := Lib.hid (BV2.out.trans (bb.mono BV2.out.size))
      have s3 := HS.out v3 BV3.out
      clear bb
      go_wp2_with fail
      refine hK.out _ _ s3 (fun hHeld => ?_)
      clear hK K
      try simp only [Act.put, List.setIfInBounds_toArray, List.set_cons_zero, List.set_cons_succ]
      refine wpAnyH_take (i := 9) (v := (.bool false)) (by simp only [List.getElem?_toArray, List.getElem?_cons_succ, List.getElem?_cons_zero]; rfl) (by kernel_rfl) (by kernel_rfl) (by kernel_rfl) (fun _ _ _ h => h) (Or.inl ⟨by rfl, ?_⟩) (by assumption) ?_
      · intro w hSw
        try dsimp only at hSw
        go_simp
      try simp only [Act.put, List.setIfInBounds_toArray, List.set_cons_zero, List.set_cons_succ]
      refine wpAnyH_take (i := 10) (v := (.bool false)) (by simp only [List.getElem?_toArray, List.getElem?_cons_succ, List.getElem?_cons_zero]; rfl) (by kernel_rfl) (by kernel_rfl) (by kernel_rfl) (fun _ _ _ h => h) (Or.inl ⟨by rfl, ?_⟩) (by assumption) ?_
      · intro w hSw
        try dsimp only at hSw
        go_simp
      try simp only [Act.put, List.setIfInBounds_toArray, List.set_cons_zero, List.set_cons_succ]
      refine wpAnyH_take (i := 11) (v := ?_) (by simp only [List.getElem?_toArray, List.getElem?_cons_succ, List.getElem?_cons_zero]; rfl) (by kernel_rfl) (by kernel_rfl) (by kernel_rfl) (fun _ _ _ h => h) (Or.inl ⟨by rfl, ?_⟩) (by assumption) ?_
      rotate_left
      · intro w hSw
        try dsimp only at hSw
        go_simp
        try with_reducible rfl
      try simp only [Act.put, List.setIfInBounds_toArray, List.set_cons_zero, List.set_cons_succ]
      refine wpAnyH_take (i := 12) (v := ?_) (by simp only [List.getElem?_toArray, List.getElem?_cons_succ, List.getElem?_cons_zero]; rfl) (by kernel_rfl) (by kernel_rfl) (by kernel_rfl) (fun _ _ _ h => h) (Or.inl ⟨by rfl, ?_⟩) (by assumption) ?_
      rotate_left
      · intro w hSw
        try dsimp only at hSw
        go_simp
        try with_reducible rfl
      try simp only [Act.put, List.setIfInBounds_toArray, List.set_cons_zero, List.set_cons_succ]
      refine wpAnyH_take (i := 14) (v := ?_) (by simp only [List.getElem?_toArray, List.getElem?_cons_succ, List.getElem?_cons_zero]; rfl) (by kernel_rfl) (by kernel_rfl) (by kernel_rfl) (fun _ _ _ h => h) (Or.inl ⟨by rfl, ?_⟩) (by assumption) ?_
      rotate_left
      · intro w hSw
        try dsimp only at hSw
        go_simp
        try with_reducible rfl
      try simp only [Act.put, List.setIfInBounds_toArray, List.set_cons_zero, List.set_cons_succ]
      refine wpAnyH_take (i := 15) (v := ?_) (by simp only [List.getElem?_toArray, List.getElem?_cons_succ, List.getElem?_cons_zero]; rfl) (by kernel_rfl) (by kernel_rfl) (by kernel_rfl) (fun _ _ _ h => h) (Or.inl ⟨by rfl, ?_⟩) (by assumption) ?_
      rotate_left
      · intro w hSw
        try dsimp only at hSw
        go_simp
        try with_reducible rfl
      try simp only [Act.put, List.setIfInBounds_toArray, List.set_cons_zero, List.set_cons_succ]
      refine wpAnyH_take (i := 16) (v := ?_) (by simp only [List.getElem?_toArray, List.getElem?_cons_succ, List.getElem?_cons_zero]; rfl) (by kernel_rfl) (by kernel_rfl) (by kernel_rfl) (fun _ _ _ h => h) (Or.inl ⟨by rfl, ?_⟩) (by assumption) ?_
      rotate_left
      · intro w hSw
        try dsimp only at hSw
        go_simp
        try with_reducible rfl
      try simp only [Act.put, List.setIfInBounds_toArray, List.set_cons_zero, List.set_cons_succ]
      refine wpAnyH_take (i := 17) (v := ?_) (by simp only [List.getElem?_toArray, List.getElem?_cons_succ, List.getElem?_cons_zero]; rfl) (by kernel_rfl) (by kernel_rfl) (by kernel_rfl) (fun _ _ _ h => h) (Or.inl ⟨by rfl, ?_⟩) (by assumption) ?_
      rotate_left
      · intro w hSw
        try dsimp only at hSw
        go_simp
        try with_reducible rfl
      try simp only [Act.put, List.setIfInBounds_toArray, List.set_cons_zero, List.set_cons_succ]
      refine wpAnyH_ready (rs := [13]) (by kernel_rfl) (by simp) ?_
      refine AllReadyH.cons (by simp only [List.getElem?_toArray, List.getElem?_cons_succ, List.getElem?_cons_zero]; rfl) (fun K hK => ?_) AllReadyH.nil
      go_simp
      refine (C2.out v3 BV3.out).mono ?_
      rintro e w' ⟨rfl, rfl⟩
      go_wp2_with fail
      refine hK.out _ _ s3 (fun hHeld => ?_)
      clear hK K
      try simp only [Act.put, List.setIfInBounds_toArray, List.set_cons_zero, List.set_cons_succ]
      refine wpAnyH_take (i := 18) (v := (.bool false)) (by simp only [List.getElem?_toArray, List.getElem?_cons_succ, List.getElem?_cons_zero]; rfl) (by kernel_rfl) (by kernel_rfl) (by kernel_rfl) (fun _ _ _ h => h) (Or.inl ⟨by rfl, ?_⟩) (by assumption) ?_
      · intro w hSw
        try dsimp only at hSw
        go_simp
      try simp only [Act.put, List.setIfInBounds_toArray, List.set_cons_zero, List.set_cons_succ]
      refine wpAnyH_take (i := 19) (v := (.bool false)) (by simp only [List.getElem?_toArray, List.getElem?_cons_succ, List.getElem?_cons_zero]; rfl) (by kernel_rfl) (by kernel_rfl) (by kernel_rfl) (fun _ _ _ h => h) (Or.inl ⟨by rfl, ?_⟩) (by assumption) ?_
      · intro w hSw
        try dsimp only at hSw
        go_simp
      try simp only [Act.put, List.setIfInBounds_toArray, List.set_cons_zero, List.set_cons_succ]
      refine wpAnyH_take (i := 20) (v := ?_) (by simp only [List.getElem?_toArray, List.getElem?_cons_succ, List.getElem?_cons_zero]; rfl) (by kernel_rfl) (by kernel_rfl) (by kernel_rfl) (fun _ _ _ h => h) (Or.inl ⟨by rfl, ?_⟩) (by assumption) ?_
      rotate_left
      · intro w hSw
        try dsimp only at hSw
        go_simp
        try with_reducible rfl
      try simp only [Act.put, List.setIfInBounds_toArray, List.set_cons_zero, List.set_cons_succ]
      refine wpAnyH_take (i := 21) (v := ?_) (by simp only [List.getElem?_toArray, List.getElem?_cons_succ, List.getElem?_cons_zero]; rfl) (by kernel_rfl) (by kernel_rfl) (by kernel_rfl) (fun _ _ _ h => h) (Or.inl ⟨by rfl, ?_⟩) (by assumption) ?_
      rotate_left
      · intro w hSw
        try dsimp only at hSw
        go_simp
        try with_reducible rfl
      try simp only [Act.put, List.setIfInBounds_toArray, List.set_cons_zero, List.set_cons_succ]
      refine wpAnyH_take (i := 23) (v := ?_) (by simp only [List.getElem?_toArray, List.getElem?_cons_succ, List.getElem?_cons_zero]; rfl) (by kernel_rfl) (by kernel_rfl) (by kernel_rfl) (fun _ _ _ h => h) (Or.inl ⟨by rfl, ?_⟩) (by assumption) ?_
      rotate_left
      · intro w hSw
        try dsimp only at hSw
        go_simp
        try with_reducible rfl
      try simp only [Act.put, List.setIfInBounds_toArray, List.set_cons_zero, List.set_cons_succ]
      refine wpAnyH_take (i := 24) (v := ?_) (by simp only [List.getElem?_toArray, List.getElem?_cons_succ, List.getElem?_cons_zero]; rfl) (by kernel_rfl) (by kernel_rfl) (by kernel_rfl) (fun _ _ _ h => h) (Or.inl ⟨by rfl, ?_⟩) (by assumption) ?_
      rotate_left
      · intro w hSw
        try dsimp only at hSw
        go_simp
        try with_reducible rfl
      try simp only [Act.put, List.setIfInBounds_toArray, List.set_cons_zero, List.set_cons_succ]
      refine wpAnyH_take (i := 25) (v := ?_) (by simp only [List.getElem?_toArray, List.getElem?_cons_succ, List.getElem?_cons_zero]; rfl) (by kernel_rfl) (by kernel_rfl) (by kernel_rfl) (fun _ _ _ h => h) (Or.inl ⟨by rfl, ?_⟩) (by assumption) ?_
      rotate_left
      · intro w hSw
        try dsimp only at hSw
        go_simp
        try with_reducible rfl
      try simp only [Act.put, List.setIfInBounds_toArray, List.set_cons_zero, List.set_cons_succ]
      refine wpAnyH_take (i := 26) (v := ?_) (by simp only [List.getElem?_toArray, List.getElem?_cons_succ, List.getElem?_cons_zero]; rfl) (by kernel_rfl) (by kernel_rfl) (by kernel_rfl) (fun _ _ _ h => h) (Or.inl ⟨by rfl, ?_⟩) (by assumption) ?_
      rotate_left
      · intro w hSw
        try dsimp only at hSw
        go_simp
        try with_reducible rfl
      try simp only [Act.put, List.setIfInBounds_toArray, List.set_cons_zero, List.set_cons_succ]
      refine wpAnyH_ready (rs := [22]) (by kernel_rfl) (by simp) ?_
      refine AllReadyH.cons (by simp only [List.getElem?_toArray, List.getElem?_cons_succ, List.getElem?_cons_zero]; rfl) (fun K hK => ?_) AllReadyH.nil
      go_simp
      refine (C3.out v3 BV3.out).mono ?_
      rintro e w' ⟨rfl, rfl⟩
      go_wp2_with fail
      refine hK.out _ _ s3 (fun hHeld => ?_)
      clear hK K
      try simp only [Act.put, List.setIfInBounds_toArray, List.set_cons_zero, List.set_cons_succ]
      refine wpAnyH_take (i := 27) (v := (.bool false)) (by simp only [List.getElem?_toArray, List.getElem?_cons_succ, List.getElem?_cons_zero]; rfl) (by kernel_rfl) (by kernel_rfl) (by kernel_rfl) (fun _ _ _ h => h) (Or.inl ⟨by rfl, ?_⟩) (by assumption) ?_
      · intro w hSw
        try dsimp only at hSw
        go_simp
      try simp only [Act.put, List.setIfInBounds_toArray, List.set_cons_zero, List.set_cons_succ]
      refine wpAnyH_take (i := 28) (v := (.bool false)) (by simp only [List.getElem?_toArray, List.getElem?_cons_succ, List.getElem?_cons_zero]; rfl) (by kernel_rfl) (by kernel_rfl) (by kernel_rfl) (fun _ _ _ h => h) (Or.inl ⟨by rfl, ?_⟩) (by assumption) ?_
      · intro w hSw
        try dsimp only at hSw
        go_simp
      try simp only [Act.put, List.setIfInBounds_toArray, List.set_cons_zero, List.set_cons_succ]
      refine wpAnyH_take (i := 29) (v := ?_) (by simp only [List.getElem?_toArray, List.getElem?_cons_succ, List.getElem?_cons_zero]; rfl) (by kernel_rfl) (by kernel_rfl) (by kernel_rfl) (fun _ _ _ h => h) (Or.inl ⟨by rfl, ?_⟩) (by assumption) ?_
      rotate_left
      · intro w hSw
        try dsimp only at hSw
        go_simp
        try with_reducible rfl
      try simp only [Act.put, List.setIfInBounds_toArray, List.set_cons_zero, List.set_cons_succ]
      refine wpAnyH_take (i := 30) (v := ?_) (by simp only [List.getElem?_toArray, List.getElem?_cons_succ, List.getElem?_cons_zero]; rfl) (by kernel_rfl) (by kernel_rfl) (by kernel_rfl) (fun _ _ _ h => h) (Or.inl ⟨by rfl, ?_⟩) (by assumption) ?_
      rotate_left
      · intro w hSw
        try dsimp only at hSw
        go_simp
        try with_reducible rfl
      try simp only [Act.put, List.setIfInBounds_toArray, List.set_cons_zero, List.set_cons_succ]
      refine wpAnyH_take (i := 32) (v := ?_) (by simp only [List.getElem?_toArray, List.getElem?_cons_succ, List.getElem?_cons_zero]; rfl) (by kernel_rfl) (by kernel_rfl) (by kernel_rfl) (fun _ _ _ h => h) (Or.inl ⟨by rfl, ?_⟩) (by assumption) ?_
      rotate_left
      · intro w hSw
        try dsimp only at hSw
        go_simp
        try with_reducible rfl
      try simp only [Act.put, List.setIfInBounds_toArray, List.set_cons_zero, List.set_cons_succ]
      refine wpAnyH_ready (rs := [31]) (by kernel_rfl) (by simp) ?_
      refine AllReadyH.cons (by simp only [List.getElem?_toArray, List.getElem?_cons_succ, List.getElem?_cons_zero]; rfl) (fun K hK => ?_) AllReadyH.nil
      go_simp
      refine (C4.out v3 BV3.out).mono ?_
      rintro e w' ⟨rfl, rfl⟩
      go_wp2_with fail
      refine hK.out _ _ s3 (fun hHeld => ?_)
      clear hK K
      try simp only [Act.put, List.setIfInBounds_toArray, List.set_cons_zero, List.set_cons_succ]
      refine wpAnyH_ready (rs := [33]) (by kernel_rfl) (by simp) ?_
      refine AllReadyH.cons (by simp only [List.getElem?_toArray, List.getElem?_cons_succ, List.getElem?_cons_zero]; rfl) (fun K hK => ?_) AllReadyH.nil
      go_simp
      refine (C5.out v3 BV3.out).mono ?_
      rintro e v4 ⟨rfl, bb⟩
      have BV4 : Hid (Below wl.heap.size wl v4) := Lib.hid (BV3.out.trans (bb.mono BV3.out.size))
      have s4 := HS.out v4 BV4.out
      clear bb
      go_wp2_with fail
      refine hK.out _ _ s4 (fun hHeld => ?_)
      clear hK K
      try simp only [Act.put, List.setIfInBounds_toArray, List.set_cons_zero, List.set_cons_succ]
      refine wpAnyH_take (i := 34) (v := (.bool false)) (by simp only [List.getElem?_toArray, List.getElem?_cons_succ, List.getElem?_cons_zero]; rfl) (by kernel_rfl) (by kernel_rfl) (by kernel_rfl) (fun _ _ _ h => h) (Or.inl ⟨by rfl, ?_⟩) (by assumption) ?_
      · intro w hSw
        try dsimp only at hSw
        go_simp
      try simp only [Act.put, List.setIfInBounds_toArray, List.set_cons_zero, List.set_cons_succ]
      refine wpAnyH_take (i := 35) (v := (.bool false)) (by simp only [List.getElem?_toArray, List.getElem?_cons_succ, List.getElem?_cons_zero]; rfl) (by kernel_rfl) (by kernel_rfl) (by kernel_rfl) (fun _ _ _ h => h) (Or.inl ⟨by rfl, ?_⟩) (by assumption) ?_
      · intro w hSw
        try dsimp only at hSw
        go_simp
      try simp only [Act.put, List.setIfInBounds_toArray, List.set_cons_zero, List.set_cons_succ]
      refine wpAnyH_done (by kernel_rfl) ?_ _
      refine NoPanic.normal ?_
      have P9 := Lib.hid (P8.out.kb BV4.out)
      go_wp2_with fail
      exact ⟨⟨k + 1, S, A, s, by omega, by omega, by go_num, P9⟩, by simp [intOf]; omega⟩
end Go.Proofs.YtfneadlknieppaaGreatDoor
