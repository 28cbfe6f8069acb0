/- What replace and Save do. Conditions: the numbers are no greater than a program's may be. · known() of the statements about root returns true and makes new memory alone. Condition: errors.errorType holds what its text lays. -/
import Derived.Test.YtfneadlknieppaaGreatDoorRootR
import Derived.Test.YtfneadlknieppaaGreatDoorGenAs
import Derived.Test.YtfneadlknieppaaGreatDoorDskE
import Derived.Test.YtfneadlknieppaaGreatDoorDskRn
import Derived.Lib.IfaceEq
import Derived.Test.YtfneadlknieppaaGreatDoorLogH
namespace Go.Proofs.YtfneadlknieppaaGreatDoor
open Go.RowKit
open Go.Maps
open Go.Extern.Stop Go.Stop Go.Extern

theorem eeq_kind (j k : Int) (w : World) : (binOp .eql 41 (.iface 38 (.int .i64 j)) (.iface 38 (.int .i64 k))).run Tryz.prog w = .ok (.bool (j == k)) w :=
  Lib.run_eql_iface_int w j k Tryz.underlying41 (by kernel_rfl) Tryz.underlying38
theorem ecomp_kind (w : World) : (callFunc 165 #[.agg #[hd 38]]).run Tryz.prog w = .ok (.value (.bool true)) w := by kernel_rfl
set_option maxHeartbeats 4000000 in
theorem eis_walk (w : World) (j k : Int) : Calls Tryz.prog 99 #[eno j, eno k, .bool true] w fun e w' => e = .returned (.bool (j == k)) ∧ w = w' := by
  have ek := eeq_kind j k
  have hna := noIsE
  have hnu := noUE
  have hnus := noUsE
  go_enter Tryz.func99, Tryz.ntmps99
  go_wp2
  refine wp_loop_rounds 1 ?_
  rw [rounds_succ]
  by_cases hjk : (j == k) = true
  · rw [hjk] at ek
    have HJ := Lib.hid hjk
    clear hjk
    go_wp2
    go_ret
    exact ⟨by first | rfl | (rw [HJ.out]; rfl), rfl⟩
  · have hjk : (j == k) = false := by simpa using hjk
    rw [hjk] at ek
    have HJ := Lib.hid hjk
    clear hjk
    go_wp2
    go_ret
    exact ⟨by first | rfl | (rw [HJ.out]; rfl), rfl⟩
theorem eis_to (w : World) (j k : Int) : Calls Tryz.prog 74 #[eno j, eno k] w fun e w' => e = .returned (.bool (j == k)) ∧ w = w' := by
  have xT := @run_callFunc_extern Tryz.prog 95 _ ReflectliteType.typeOf Tryz.func95 (by kernel_rfl) (by kernel_rfl) (by kernel_rfl) (by kernel_rfl)
  have hto := toE
  have hco := ecomp_kind
  have hmc := m_comp
  have HW := Lib.hid (eis_walk w j k)
  have hnn := nil_iface 38 (.int .i64 j)
  have hn2 := nil_iface 38 (.int .i64 k)
  go_enter Tryz.func74, Tryz.ntmps74
  go_wp2_with (go_at_call 99; refine HW.out.mono ?_; rintro e w' ⟨rfl, rfl⟩)
  go_ret
  exact ⟨rfl, rfl⟩
/-- The calls behind the removing. -/
def restS (s : St) (b : List Int) : Int × St := seqS (seqS (seqS (s.append nwN b) St.sync) fun s => s.rename nwN rtN) St.sync
theorem work_11 (s : St) (k : Wk) : (s.work k).1 = 0 ∨ (s.work k).1 = 7 := by
  unfold St.work
  split
  · exact .inr rfl
  · exact .inl rfl
theorem seq_no {q : Int × St} {f : St → Int × St} (h : ¬ q.1 = 0) : seqS q f = q := if_neg h
theorem sq_no {c : Int} {s : St} (f : St → Int × St) (h : ¬ c = 0) : seqS (c, s) f = (c, s) := if_neg h
theorem sq_ok (s : St) (f : St → Int × St) : seqS (0, s) f = f s := if_pos rfl
theorem save_remove (s : St) (b : List Int) : saveS s b = if (s.remove nwN).1 = 0 ∨ (s.remove nwN).1 = 11 then restS (s.remove nwN).2 b else s.remove nwN := by
  unfold saveS restS ex
  by_cases hd : s.dead = true
  · have hr : s.remove nwN = (7, s) := by unfold St.remove; rw [if_neg (by decide), if_pos hd]
    have ha : s.append nwN b = (7, s) := by unfold St.append; rw [if_neg (by decide), if_pos hd]
    rw [if_pos hd, hr]
    simp [seqS, ha]
  · rw [if_neg hd]
    by_cases hx : (aget nwN s.files).isSome = true
    · have hr : s.remove nwN = s.work kRm := by unfold St.remove; rw [if_neg (by decide), if_neg hd, if_neg (by rw [hx]; decide)]
      rw [if_pos hx, hr]
      rcases work_11 s kRm with h | h
      · rw [if_pos (.inl h), seq_ok (q := s.work kRm) h]
      · rw [if_neg (by rw [h]; decide), seq_no (q := s.work kRm) (by rw [h]; decide), seq_no (q := s.work kRm) (by rw [h]; decide), seq_no (q := s.work kRm) (by rw [h]; decide), seq_no (q := s.work kRm) (by rw [h]; decide)]
    · have hr : s.remove nwN = (11, s) := by unfold St.remove; rw [if_neg (by decide), if_neg hd, if_pos (by simpa using hx)]
      rw [if_neg hx, hr, if_pos (.inr rfl)]
      simp [seqS]
theorem DPost.trans {w w1 w2 : World} {B b : Nat} {S S1 : Nat → Prop} {s2 : St} (o1 : Only S w w1) (h1 : ∀ k, S1 k → S k ∨ w.heap.size ≤ k) (h2 : DPost w1 B b S1 s2 w2) : DPost w B b S s2 w2 := by
  obtain ⟨S2, d2, o2, k2⟩ := h2
  refine ⟨S2, d2, o1.trans o2 (fun _ h => h) (fun k hk e => (h1 k e).elim id (fun e => by omega)), fun k hk => (k2 k hk).elim (h1 k) (fun e => .inr (Nat.le_trans o1.size e))⟩
/-- The disk behind what was done so far. -/
structure Dk (w W : World) (B b : Nat) (S S' : Nat → Prop) (s : St) : Prop where
  ds : DS W B b S' s
  on : Only S w W
  sub : ∀ k, S' k → S k ∨ w.heap.size ≤ k
theorem Dk.refl {w : World} {B b : Nat} {S : Nat → Prop} {s : St} (h : DS w B b S s) : Dk w w B b S S s := ⟨h, Only.refl _ _, fun _ h => .inl h⟩
theorem Dk.kb {w W W' : World} {B b : Nat} {S S' : Nat → Prop} {s : St} (h : Dk w W B b S S' s) (hb : Below W.heap.size W W') : Dk w W' B b S S' s := ⟨h.ds.kb hb, h.on.trans (S := S) (Only.of_below hb (S := fun _ => False)) (fun _ h => h) (fun _ _ h => h.elim), h.sub⟩
theorem Dk.step {w W W' : World} {B b : Nat} {S S1 : Nat → Prop} {s s' : St} (h : Dk w W B b S S1 s) (hp : DPost W B b S1 s' W') : ∃ S', Dk w W' B b S S' s' ∧ Only S1 W W' ∧ ∀ k, S' k → S1 k ∨ W.heap.size ≤ k := by
  obtain ⟨S2, d2, o2, k2⟩ := hp
  obtain ⟨S3, d3, o3, k3⟩ := DPost.trans h.on h.sub ⟨S2, d2, o2, k2⟩
  exact ⟨S2, ⟨d2, h.on.trans o2 (fun _ h => h) (fun k hk e => (h.sub k e).elim id (fun e => by omega)), fun k hk => (k2 k hk).elim (h.sub k) (fun e => .inr (Nat.le_trans h.on.size e))⟩, o2, k2⟩
theorem Dk.post {w W : World} {B b : Nat} {S S' : Nat → Prop} {s : St} (h : Dk w W B b S S' s) : DPost w B b S s W := ⟨S', h.ds, h.on, h.sub⟩
/-- What the walk may go on with. -/
structure Sm (s : St) (k : Nat) : Prop where
  works : s.works ≤ 800000000 + k
  fuse : s.fuse < 9223372036854775808
theorem Sm.wb {s t : St} {k : Nat} (h : Sm s k) (hb : Wb 1 s t) : Sm t (k + 1) := ⟨by have := h.works; have := hb.works; omega, by have := h.fuse; have := hb.fuse; omega⟩
set_option maxRecDepth 20000 in
set_option maxHeartbeats 8000000 in
theorem replace_to (w : World) (B d : Nat) (S : Nat → Prop) (s : St) (u : Value) (b : List Int) (B' : Nat) (h : DS w B d S s) (hm : Sm s 0) (hu : Beside w S B' u b) (hb : b.length ≤ 140737488351232) :
    Calls Tryz.prog 45 #[.pointer (some ⟨d, 0, none⟩), u] w (AppPost w B d S (saveS s b)) := by
  unfold AppPost
  obtain ⟨pu, cu, rfl⟩ := own_slice hu.own
  have HU := Lib.hid hu
  have HM := Lib.hid hm
  have HK := Lib.hid (Dk.refl h)
  have HR := Lib.hid (remove_to w B d S s nwN h (Nat.le_trans hm.works (by decide)) hm.fuse (by decide))
  have HSV := Lib.hid (save_remove s b)
  have HM1 := Lib.hid (hm.wb (wb_remove s nwN))
  clear h hm hu
  obtain ⟨r1, hr1⟩ : ∃ z, z = s.remove nwN := ⟨_, rfl⟩
  rw [← hr1] at HR HSV HM1
  clear hr1
  obtain ⟨c1, s1⟩ := r1
  simp only at HSV HM1
  go_enter Tryz.func45, Tryz.ntmps45
  go_wp2_with fail
  refine HR.out.mono ?_
  rintro e w1 ⟨rfl, hp⟩
  obtain ⟨S1, k1, o1, z1⟩ := HK.out.step hp
  have K1 := Lib.hid k1
  have U1 := Lib.hid (HU.out.step o1 z1)
  clear hp k1 o1 z1 HR HU HK HM
  have hn11 : ∀ W, (binOp .neq 41 (eno 11) .nilIface).run Tryz.prog W = .ok (.bool true) W := fun W => by kernel_rfl
  by_cases hx : c1 = 0 ∨ c1 = 11
  case neg =>
    rw [if_neg hx] at HSV
    have hx1 : ¬ c1 = 0 := fun e => hx (.inl e)
    have hx2 : (c1 == 11) = false := by simpa using fun e => hx (.inr e)
    have HE := Lib.hid (eis_to w1 c1 11)
    rw [hx2] at HE
    have hnn : ∀ W, (binOp .neq 41 (eno c1) .nilIface).run Tryz.prog W = .ok (.bool true) W := fun W => by kernel_rfl
    have HEE := Lib.hid (enoOf_nz hx1)
    rw [HEE.out]
    clear hx hx1 hx2
    go_wp2_with (go_at_call 74; refine HE.out.mono ?_; rintro e w' ⟨rfl, rfl⟩)
    go_ret
    exact ⟨by rw [HSV.out, HEE.out]; rfl, by rw [HSV.out]; exact K1.out.post⟩
  case pos =>
    rw [if_pos hx] at HSV
    have HE := Lib.hid (eis_to w1 11 11)
    have HX := Lib.hid hx
    have HA := Lib.hid (append_to w1 B d S1 s1 nwN (.slice pu b.length cu) b K1.out.ds (Nat.le_trans HM1.out.works (by decide)) HM1.out.fuse (by decide) (Seen.own U1.out.own) U1.out.out hb)
    have HM2 := Lib.hid (HM1.out.wb (wb_append s1 nwN b))
    have HSV2 : Hid (saveS s b = seqS (seqS (seqS (s1.append nwN b) St.sync) fun s => s.rename nwN rtN) St.sync) := Lib.hid HSV.out
    clear HSV hx HM1 U1
    obtain ⟨r2, hr2⟩ : ∃ z, z = s1.append nwN b := ⟨_, rfl⟩
    rw [← hr2] at HA HSV2 HM2
    clear hr2
    obtain ⟨c2, s2⟩ := r2
    simp only at HM2
    have hnn : ∀ c W, (binOp .neq 41 (eno c) .nilIface).run Tryz.prog W = .ok (.bool true) W := fun c W => by kernel_rfl
    rcases HX.out with hx | hx
    all_goals
      rw [hx]
      first | rw [show enoOf 0 = .nilIface from rfl] | rw [show enoOf 11 = eno 11 from rfl]
      clear hx
      go_wp2_with (go_at_call 74; refine HE.out.mono ?_; rintro e w' ⟨rfl, rfl⟩)
      refine HA.out.mono ?_
      rintro e w2 ⟨rfl, hp⟩
      obtain ⟨S2, k2, _, _⟩ := K1.out.step hp
      have K2 := Lib.hid k2
      clear hp k2 HA HE HX
      simp only
      by_cases h2 : c2 = 0
      case neg =>
        have HF : Hid (saveS s b = (c2, s2)) := Lib.hid (by rw [HSV2.out, sq_no _ h2, sq_no _ h2, sq_no _ h2])
        have HEE := Lib.hid (enoOf_nz h2)
        rw [HEE.out]
        clear h2
        go_wp2_with fail
        go_ret
        exact ⟨by rw [HF.out, HEE.out]; rfl, by rw [HF.out]; exact K2.out.post⟩
      case pos =>
        subst h2
        rw [show enoOf 0 = .nilIface from rfl]
        have HSV3 : Hid (saveS s b = seqS (seqS s2.sync fun s => s.rename nwN rtN) St.sync) := Lib.hid (by rw [HSV2.out, sq_ok])
        have HA := Lib.hid (sync_to w2 B d S2 s2 K2.out.ds (Nat.le_trans HM2.out.works (by decide)) HM2.out.fuse)
        have HM3 := Lib.hid (HM2.out.wb (wb_sync s2))
        clear HSV2 HM2
        obtain ⟨r3, hr3⟩ : ∃ z, z = s2.sync := ⟨_, rfl⟩
        rw [← hr3] at HA HSV3 HM3
        clear hr3
        obtain ⟨c3, s3⟩ := r3
        simp only at HM3
        go_wp2_with fail
        refine HA.out.mono ?_
        rintro e w3 ⟨rfl, hp⟩
        obtain ⟨S3, k3, _, _⟩ := K2.out.step hp
        have K3 := Lib.hid k3
        clear hp k3 HA
        simp only
        by_cases h3 : c3 = 0
        case neg =>
          have HF : Hid (saveS s b = (c3, s3)) := Lib.hid (by rw [HSV3.out, sq_no _ h3, sq_no _ h3])
          have HEE := Lib.hid (enoOf_nz h3)
          rw [HEE.out]
          clear h3
          go_wp2_with fail
          go_ret
          exact ⟨by rw [HF.out, HEE.out]; rfl, by rw [HF.out]; exact K3.out.post⟩
        case pos =>
          subst h3
          rw [show enoOf 0 = .nilIface from rfl]
          have HSV4 : Hid (saveS s b = seqS (s3.rename nwN rtN) St.sync) := Lib.hid (by rw [HSV3.out, sq_ok])
          have HA := Lib.hid (rename_to w3 B d S3 s3 nwN rtN K3.out.ds (Nat.le_trans HM3.out.works (by decide)) HM3.out.fuse (by decide) (by decide))
          have HM4 := Lib.hid (HM3.out.wb (wb_rename s3 nwN rtN))
          clear HSV3 HM3
          obtain ⟨r4, hr4⟩ : ∃ z, z = s3.rename nwN rtN := ⟨_, rfl⟩
          rw [← hr4] at HA HSV4 HM4
          clear hr4
          obtain ⟨c4, s4⟩ := r4
          simp only at HM4
          go_wp2_with fail
          refine HA.out.mono ?_
          rintro e w4 ⟨rfl, hp⟩
          obtain ⟨S4, k4, _, _⟩ := K3.out.step hp
          have K4 := Lib.hid k4
          clear hp k4 HA
          simp only
          by_cases h4 : c4 = 0
          case neg =>
            have HF : Hid (saveS s b = (c4, s4)) := Lib.hid (by rw [HSV4.out, sq_no _ h4])
            have HEE := Lib.hid (enoOf_nz h4)
            rw [HEE.out]
            clear h4
            go_wp2_with fail
            go_ret
            exact ⟨by rw [HF.out, HEE.out]; rfl, by rw [HF.out]; exact K4.out.post⟩
          case pos =>
            subst h4
            rw [show enoOf 0 = .nilIface from rfl]
            have HSV5 : Hid (saveS s b = s4.sync) := Lib.hid (by rw [HSV4.out, sq_ok])
            have HA := Lib.hid (sync_to w4 B d S4 s4 K4.out.ds (Nat.le_trans HM4.out.works (by decide)) HM4.out.fuse)
            clear HSV4 HM4
            obtain ⟨r5, hr5⟩ : ∃ z, z = s4.sync := ⟨_, rfl⟩
            rw [← hr5] at HA HSV5
            clear hr5
            go_wp2_with fail
            refine HA.out.mono ?_
            rintro e w5 ⟨rfl, hp⟩
            obtain ⟨S5, k5, _, _⟩ := K4.out.step hp
            have K5 := Lib.hid k5
            clear hp k5 HA
            obtain ⟨ce, hce⟩ : ∃ z, z = enoOf r5.1 := ⟨_, rfl⟩
            rw [← hce]
            have HCE := Lib.hid hce
            clear hce
            go_wp2_with fail
            go_ret
            exact ⟨by rw [HSV5.out, ← HCE.out]; rfl, by rw [HSV5.out]; exact K5.out.post⟩
/-- The text "root". -/
abbrev sroot : ByteArray := ⟨#[114, 111, 111, 116]⟩
/-- Save's state, by the root. -/
def svS (s : St) (r : Rt) : Int × St := if okR r = true then saveS s (encR r) else (1, s)
theorem svS_yes {s : St} {r : Rt} (h : okR r = true) : svS s r = saveS s (encR r) := if_pos h
theorem svS_no {s : St} {r : Rt} (h : ¬ okR r = true) : svS s r = (1, s) := if_neg h
/-- An error of number c: none, itself, or in a Step "root". -/
def SvErr (w : World) (B : Nat) (c : Int) (v : Value) : Prop := (c = 0 ∧ v = .nilIface) ∨ (c ≠ 0 ∧ v = eno c) ∨ (c ≠ 0 ∧ ∃ g, v = .iface 128 (.pointer (some ⟨g, 0, none⟩)) ∧ B ≤ g ∧ w.heap[g]? = some (.cells #[.string sroot, eno c] 130 (0, 0)))
theorem SvErr.kb {w w' : World} {B : Nat} {c : Int} {v : Value} (h : SvErr w B c v) (hb : Below w.heap.size w w') : SvErr w' B c v := by
  rcases h with h | h | ⟨hc, g, h, hB, hg⟩
  · exact .inl h
  · exact .inr (.inl h)
  · exact .inr (.inr ⟨hc, g, h, hB, (hb.block _ (lt_of_block hg)).trans hg⟩)
def SvPost (w : World) (B d : Nat) (S : Nat → Prop) (r : Int × St) (e : Ending) (w' : World) : Prop := ∃ v, e = .returned v ∧ SvErr w' w.heap.size r.1 v ∧ DPost w B d S r.2 w'
theorem rwrap_to (w : World) (c : Int) : Calls Tryz.prog 44 #[.string sroot, eno c] w fun e w' => e = .returned (.iface 128 (.pointer (some ⟨w.heap.size, 0, none⟩))) ∧ w' = w.alloc (.cells #[.string sroot, eno c] 130) := by
  have hn : ∀ w : World, (binOp .eql 41 (eno c) .nilIface).run Tryz.prog w = .ok (.bool false) w := fun w => by kernel_rfl
  go_enter Tryz.func44, Tryz.ntmps44
  go_wp2
  go_ret
  exact ⟨rfl, rfl⟩
theorem rwrap_nil (w : World) : Calls Tryz.prog 44 #[.string sroot, .nilIface] w fun e w' => e = .returned .nilIface ∧ w = w' := by
  have hn : ∀ w : World, (binOp .eql 41 .nilIface .nilIface).run Tryz.prog w = .ok (.bool true) w := fun w => by kernel_rfl
  go_enter Tryz.func44, Tryz.ntmps44
  go_wp2
  go_ret
  exact ⟨rfl, rfl⟩
set_option maxRecDepth 20000 in
set_option maxHeartbeats 4000000 in
theorem rsave_to (w : World) (B d : Nat) (S : Nat → Prop) (s : St) (g i : Int) (v : Value) (ls : List Int) (h : DS w B d S s) (hm : Sm s 0) (hs : ISeen w v ls) :
    Calls Tryz.prog 17 #[.pointer (some ⟨d, 0, none⟩), rtv g v i] w (SvPost w B d S (svS s ⟨g, ls, i⟩)) := by
  unfold SvPost
  obtain ⟨p, c, rfl, _⟩ := hs.form
  have B1 : Hid (Below w.heap.size w (w.alloc (.cells #[.int .i64 g, .slice p ls.length c, .int .i64 i] 45))) := Lib.hid ((Below.refl _ w).alloc (Nat.le_refl _) _)
  have HL := Lib.hid (rlay_to (w.alloc (.cells #[.int .i64 g, .slice p ls.length c, .int .i64 i] 45)) g i _ ls (hs.kb B1.out))
  have HD := Lib.hid h
  have HM := Lib.hid hm
  clear h hm hs
  go_enter Tryz.func17, Tryz.ntmps17
  go_wp2_with fail
  refine HL.out.mono ?_
  rintro e w1 ⟨u, rfl, ou, b1⟩
  have B2 : Hid (Below w.heap.size w w1) := Lib.hid (B1.out.trans (b1.mono (by simp)))
  have HSZ : Hid (w.heap.size < (w.alloc (.cells #[.int .i64 g, .slice p ls.length c, .int .i64 i] 45)).heap.size) := Lib.hid (by simp)
  obtain ⟨BB, hBB⟩ : ∃ z, z = (w.alloc (.cells #[.int .i64 g, .slice p ls.length c, .int .i64 i] 45)).heap.size := ⟨_, rfl⟩
  rw [← hBB] at ou HSZ
  clear b1 hBB B1 HL
  by_cases hok : okR ⟨g, ls, i⟩ = true
  case neg =>
    have HV := Lib.hid (svS_no (s := s) hok)
    rw [layR_no hok, show enoOf 1 = eno 1 from rfl]
    have hnn : ∀ W, (binOp .neq 41 (eno 1) .nilIface).run Tryz.prog W = .ok (.bool true) W := fun W => by kernel_rfl
    clear ou hok
    go_wp2_with fail
    go_ret
    exact ⟨_, rfl, by rw [HV.out]; exact .inr (.inl ⟨(by show (1 : Int) ≠ 0; decide), rfl⟩), by rw [HV.out]; exact DPost.same HD.out B2.out⟩
  case pos =>
    have HV := Lib.hid (svS_yes (s := s) hok)
    have HBL := Lib.hid (encR_len hok)
    rw [layR_yes hok] at ou
    rw [layR_yes hok, show enoOf 0 = .nilIface from rfl]
    have hDS := HD.out
    have K1 : Hid (DS w1 B d S s) := Lib.hid (hDS.kb B2.out)
    have U1 : Hid (Beside w1 S BB u (encR ⟨g, ls, i⟩)) := Lib.hid ⟨ou, fun k hk hs => by have h1 := (ou.lt k hk).1; have h2 := hDS.lt k hs; have := HSZ.out; omega⟩
    clear ou hok hDS
    go_wp2_with fail
    refine (replace_to w1 B d S s u _ BB K1.out HM.out U1.out (Nat.le_trans HBL.out (by decide))).mono ?_
    rintro e w2 ⟨rfl, hp⟩
    rw [← HV.out] at hp ⊢
    have HP : Hid (DPost w B d S (svS s ⟨g, ls, i⟩).2 w2) := Lib.hid (DPost.trans (S1 := S) (Only.of_below B2.out) (fun _ h => .inl h) hp)
    have HB2 : Hid (w.heap.size ≤ w2.heap.size) := Lib.hid (Nat.le_trans B2.out.size (by obtain ⟨_, _, o, _⟩ := hp; exact o.size))
    clear hp K1 U1 HV
    obtain ⟨r, hr⟩ : ∃ z, z = svS s ⟨g, ls, i⟩ := ⟨_, rfl⟩
    rw [← hr] at HP ⊢
    have HR := Lib.hid hr
    clear hr
    by_cases h0 : r.1 = 0
    · have H0 := Lib.hid h0
      rw [h0, show enoOf 0 = .nilIface from rfl]
      clear h0
      go_wp2_with fail
      refine (rwrap_nil w2).mono ?_
      rintro e w' ⟨rfl, rfl⟩
      go_wp2_with fail
      go_ret
      rw [← HR.out]
      exact ⟨_, rfl, .inl ⟨H0.out, rfl⟩, HP.out⟩
    · rw [enoOf_nz h0]
      have H0 := Lib.hid h0
      clear h0
      go_wp2_with fail
      refine (rwrap_to w2 r.1).mono ?_
      rintro e w' ⟨rfl, rfl⟩
      go_wp2_with fail
      go_ret
      rw [← HR.out]
      refine ⟨_, rfl, .inr (.inr ⟨H0.out, w2.heap.size, rfl, HB2.out, heap_alloc_last w2 _⟩), ?_⟩
      obtain ⟨S', d', o', k'⟩ := HP.out
      have b3 : Below w2.heap.size w2 (w2.alloc (.cells #[.string sroot, eno r.1] 130)) := (Below.refl _ w2).alloc (Nat.le_refl _) _
      exact ⟨S', d'.kb b3, o'.trans (S := S) (Only.of_below b3 (S := fun _ => False)) (fun _ h => h) (fun _ _ h => h.elim), k'⟩
end Go.Proofs.YtfneadlknieppaaGreatDoor
namespace Go.Proofs.YtfneadlknieppaaGreatDoor
open Go.RowKit
open Go.Maps

theorem khand_en (w : World) (k : Int) (hg : Glob w) : Calls Tryz.prog 13 #[enoOf k] w fun e w' => e = .returned (.int .i64 k) ∧ Below w.heap.size w w' := khand_any w k hg
theorem khand_sv (w : World) (B : Nat) (c : Int) (v : Value) (h : SvErr w B c v) (hg : Glob w) : Calls Tryz.prog 13 #[v] w fun e w' => e = .returned (.int .i64 c) ∧ Below w.heap.size w w' := by
  rcases h with ⟨rfl, rfl⟩ | ⟨hc, rfl⟩ | ⟨hc, g, rfl, _, h⟩
  · exact khand_any w 0 hg
  · have := khand_any w c hg
    unfold errOf at this
    rw [if_neg hc] at this
    exact this
  · exact khand_step w c g sroot h hg
def kRt : Rt := ⟨3, [4, 500], 1⟩
def kS0 : St := St.new 1000
def kS1 : St := (svS kS0 kRt).2
theorem kS_a : okR kRt = true ∧ (svS kS0 kRt).1 = 0 ∧ ex kS0 rtN = false ∧ ex kS1 rtN = true ∧ rdS kS1 rtN = encR kRt := by decide +kernel
theorem kS_b : kS0.works ≤ 0 ∧ kS0.fuse < 100 := by decide +kernel
theorem ldis_no {s : St} (h : ex s rtN = false) : LdIs s 11 Rt.zero := by unfold LdIs; rw [if_neg (by rw [h]; decide)]; exact ⟨rfl, rfl⟩
theorem ldis_yes {s : St} {r : Rt} (h : ex s rtN = true) (h2 : rdS s rtN = encR r) (h3 : okR r = true) : LdIs s 0 r := by
  unfold LdIs
  rw [if_pos h, h2]
  exact rdis_enc h3
theorem kS_l : LdIs kS0 11 Rt.zero := ldis_no kS_a.2.2.1
theorem kS_1 : ex kS1 rtN = true := by decide +kernel
theorem kS_2 : rdS kS1 rtN = encR kRt := by decide +kernel
theorem kS_3 : okR kRt = true := by decide +kernel
set_option maxRecDepth 100000 in
theorem kS_m : LdIs kS1 0 kRt := by
  refine ldis_yes ?_ ?_ ?_
  · exact kS_1
  · exact kS_2
  · exact kS_3
theorem kS_o : Okb (rdS kS0 rtN) ∧ Okb (rdS kS1 rtN) := ⟨(OkT.new 1000).rd rtN, by rw [kS_a.2.2.2.2]; exact encR_ok _⟩
theorem seen_two (w : World) (x y : Int) : ISeen (w.alloc (.cells #[.int .i64 x, .int .i64 y] 3)) (.slice (some ⟨w.heap.size, 0, none⟩) 2 2) [x, y] :=
  .inr ⟨_, 2, rfl, Nat.le_refl _, fun j u hj => World.news_of_block (cs := #[.int .i64 x, .int .i64 y]) (t := 3) (fr := (0, 0)) (heap_alloc_new w _) j u hj⟩
set_option maxRecDepth 20000 in
set_option maxHeartbeats 4000000 in
theorem known8_to (w : World) (hg : Glob w) : Calls Tryz.prog 7 #[] w fun e w' => e = .returned (.bool true) ∧ Below w.heap.size w w' := by
  have HG := Lib.hid hg
  clear hg
  go_enter Tryz.func7, Tryz.ntmps7
  go_wp2_with fail
  refine (new_to w 1000).mono ?_
  rintro e w1 ⟨d, S1, rfl, h1, b1, g1⟩
  have C1 : Hid (Cl w w1 w.heap.size d S1 kS0) := Lib.hid ⟨h1, b1, g1⟩
  clear h1 b1 g1
  go_wp2_with fail
  refine (rload_to w1 _ d S1 _ C1.out.ds kS_o.1).mono ?_
  rintro e w2 ⟨g, v, i, c, ls, rfl, ov, hl, b2⟩
  obtain ⟨rfl, hr⟩ := hl.unique kS_l
  simp only [Rt.zero, Rt.mk.injEq] at hr
  obtain ⟨rfl, rfl, rfl⟩ := hr
  obtain ⟨pv, cv, rfl⟩ := own_slice ov
  have C2 := Lib.hid (C1.out.kb b2)
  rw [show enoOf 11 = eno 11 from rfl]
  clear ov hl b2 C1
  go_wp2_with fail
  have b3 : Below w2.heap.size w2 (w2.alloc (.cells #[.int .i64 0, .slice pv 0 cv, .int .i64 0] 45)) := (Below.refl _ w2).alloc (Nat.le_refl _) _
  have C3 := Lib.hid (C2.out.kb b3)
  clear b3 C2
  generalize w2.alloc (.cells #[.int .i64 0, .slice pv 0 cv, .int .i64 0] 45) = w3 at C3 ⊢
  refine (khand_en w3 11 (HG.out.kb C3.out.bel)).mono ?_
  rintro e w4 ⟨rfl, b4⟩
  have C4 := Lib.hid (C3.out.kb b4)
  clear b4 C3
  go_wp2_with fail
  have b5 : Below w4.heap.size w4 (w4.alloc (.cells #[.int .i64 4, .int .i64 500] 3)) := (Below.refl _ w4).alloc (Nat.le_refl _) _
  have C5 := Lib.hid (C4.out.kb b5)
  have S5 := Lib.hid (seen_two w4 4 500)
  clear b5 C4
  have HSV := Lib.hid (rsave_to _ _ d S1 kS0 3 1 _ [4, 500] C5.out.ds ⟨Nat.le_trans kS_b.1 (by decide), Int.lt_trans kS_b.2 (by decide)⟩ S5.out)
  refine HSV.out.mono ?_
  rintro e w6 ⟨v6, rfl, he, S6, d6, o6, s6⟩
  have hv6 : v6 = .nilIface := by
    rcases he with ⟨_, h⟩ | ⟨h, _⟩ | ⟨h, _⟩
    · exact h
    · exact absurd kS_a.2.1 h
    · exact absurd kS_a.2.1 h
  subst hv6
  have C6 : Hid (Cl w w6 w.heap.size d S6 kS1) := Lib.hid (C5.out.step d6 o6 s6)
  clear he d6 o6 s6 C5 S5 HSV
  go_wp2_with fail
  refine (rload_to w6 _ d S6 _ C6.out.ds kS_o.2).mono ?_
  rintro e w7 ⟨g, v, i, c, ls, rfl, ov, hl, b7⟩
  obtain ⟨rfl, hr⟩ := hl.unique kS_m
  simp only [kRt, Rt.mk.injEq] at hr
  obtain ⟨rfl, rfl, rfl⟩ := hr
  rw [show enoOf 0 = .nilIface from rfl]
  obtain ⟨a7, c7, rfl, _, _, hc7⟩ := iown_at ov (by decide)
  have hq7 := hc7 1 500 rfl
  have C7 := Lib.hid (C6.out.kb b7)
  have HC7 := Lib.hid hq7
  clear ov hl b7 hc7 hq7 C6
  have b8 : Below w7.heap.size w7 (w7.alloc (.cells #[.int .i64 3, .slice (some ⟨a7, 0, none⟩) 2 c7, .int .i64 1] 45)) := (Below.refl _ w7).alloc (Nat.le_refl _) _
  have C8 := Lib.hid (C7.out.kb b8)
  have h500 : (w7.alloc (.cells #[.int .i64 3, .slice (some ⟨a7, 0, none⟩) 2 c7, .int .i64 1] 45)).cell? ⟨a7, 1, none⟩ = some (.int .i64 500) := by
    rw [World.cell?_of_block (w := w7) (b8.block _ (World.block_lt_of_cell? w7 _ HC7.out))]; exact HC7.out
  clear b8 C7 HC7
  go_wp2_with fail
  go_ret
  exact ⟨rfl, C8.out.bel⟩
end Go.Proofs.YtfneadlknieppaaGreatDoor
