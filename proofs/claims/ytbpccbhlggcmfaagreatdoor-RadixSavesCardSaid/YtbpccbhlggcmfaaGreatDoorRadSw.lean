/- Save of a tree of digits, a record at a time. Condition: the disk has room enough. -/
import Derived.Test.YtbpccbhlggcmfaaGreatDoorRadSs
import Derived.Test.YtbpccbhlggcmfaaGreatDoorRadKa
namespace Go.Proofs.YtbpccbhlggcmfaaGreatDoor
open Go.RowKit
open Go.Maps
attribute [local go_sem ↓] hld_open heq_open hne_open

/-- What Save holds to. -/
structure LpI (w W0 W1 wr : World) (B d l tb : Nat) (S0 S : Nat → Prop) (s : St) (nm : Key) (R : List Rc) (T : Nd) (ρ : Nat → Nat) (k : En) (m : Nat) : Prop where
  ct : CT wr w.heap.size tb T ρ k
  cl : CL w wr B d l S s nm R
  dis : ∀ j, (j = tb ∨ T.Bl j) → ¬ S j
  ok : Ok9 s nm R m
  only : Only (fun j => S0 j ∨ T.Bl j) W0 wr
  sb : ∀ j, S j → S0 j ∨ W1.heap.size ≤ j
  le : W1.heap.size ≤ wr.heap.size
section
variable {w W0 W1 wr W : World} {B d l tb : Nat} {S0 S : Nat → Prop} {s s' : St} {nm : Key} {R R' : List Rc} {T : Nd} {ρ : Nat → Nat} {k : En} {m m' : Nat}
theorem LpI.below (h : LpI w W0 W1 wr B d l tb S0 S s nm R T ρ k m) (hb : Below wr.heap.size wr W) : LpI w W0 W1 W B d l tb S0 S s nm R T ρ k m :=
  ⟨h.ct.kb hb, h.cl.kb hb, h.dis, h.ok, h.only.trans (Only.of_below (S := fun _ => False) hb) (fun _ e => e) (fun _ _ e => e.elim), h.sb, Nat.le_trans h.le hb.size⟩
theorem LpI.add (h : LpI w W0 W1 wr B d l tb S0 S s nm R T ρ k m) (h0 : W0.heap.size ≤ W1.heap.size) (hp : LPost wr B d l S s' nm R' W) (ho : Ok9 s' nm R' m') : ∃ S', LpI w W0 W1 W B d l tb S0 S' s' nm R' T ρ k m' := by
  obtain ⟨S', h1, h2, h3⟩ := hp
  refine ⟨S', { h.ct with tt := h.ct.tt.kept h2 h.dis }, h.cl.step h1 h2 h3, fun j hj e => ?_, ho, h.only.trans h2 (fun _ e => e) (fun j hj e => ?_), fun j hj => ?_, Nat.le_trans h.le h2.size⟩
  · rcases h3 j e with e | e
    · exact h.dis j hj e
    · rcases hj with rfl | hj
      · have := h.ct.tt.lt; omega
      · have := h.ct.tt.ta.lt j hj; omega
  · rcases h.sb j e with e | e
    · exact .inl e
    · omega
  · rcases h3 j hj with e | e
    · exact h.sb j e
    · exact .inr (Nat.le_trans h.le e)
theorem LpI.turn {x : Nd} (h : LpI w W0 W1 wr B d l tb S0 S s nm R T ρ k m) (hx : x.In T) (n : Nat) : LpI w W0 W1 (wr.setCell ⟨x.blk, 0, none⟩ (.int .i64 (n : Nat))) B d l tb S0 S s nm R T (upn ρ x.blk n) k m := by
  have hb := in_blk hx
  have o1 : Only (fun j => j = x.blk) wr (wr.setCell ⟨x.blk, 0, none⟩ (.int .i64 (n : Nat))) := Only.setCell (S := fun j => j = x.blk) (Only.refl _ wr) (p := ⟨x.blk, 0, none⟩) rfl _
  have htb : x.blk ≠ tb := fun e => h.ct.tt.ne (e ▸ hb)
  refine ⟨{ h.ct with tt := ⟨(o1.block tb h.ct.tt.lt (fun e => htb e.symm)).trans h.ct.tt.top, ta_turn n h.ct.tt.ta h.ct.tt.sep (.inl ⟨x, hx, rfl⟩), h.ct.tt.wf, h.ct.tt.sep, h.ct.tt.ne⟩ }, ?_, h.dis, h.ok, h.only.trans o1 (fun _ e => e) (fun j _ e => .inr (e ▸ hb)), h.sb, by simpa using h.le⟩
  exact ⟨h.cl.dl.kept o1 (fun j hj e => h.dis j (.inr (by rw [e]; exact hb)) hj), h.cl.bel.trans (o1.below h.cl.bel.size (fun j hj => hj ▸ h.ct.gb _ hb)), h.cl.ge⟩
end
/-- Behind Save. -/
def SavePost (w W0 : World) (B d l tb : Nat) (S0 : Nat → Prop) (nm : Key) (R : List Rc) (T : Nd) (ρ : Nat → Nat) (k : En) (m : Nat) (e : Ending) (W : World) : Prop :=
  ∃ (S : Nat → Prop) (s : St) (R' : List Rc) (σ : Nat → Nat), e = .returned (.tuple #[.int .i64 (T.rec' σ), .nilIface]) ∧ LpI w W0 W0 W B d l tb S0 S s nm R' T σ k (m - (T.usn ρ).length) ∧ SvP T (ρ, R) (σ, R') (T.usn ρ).length ∧ (σ, R') = savs (ρ, R) (T.usn ρ)
theorem okb_body (ρ : Nat → Nat) (s : Nd) : Okb (s.body ρ).2 := by
  cases s with
  | none => exact Okb.nil
  | leaf b h m => exact (nmb_ok h).app (vb_ok m)
  | fork b g ws =>
    intro x hx
    have hx' : x ∈ frec ρ ws := by simpa only [Nd.body] using hx
    obtain ⟨i, _, hi⟩ := List.mem_flatMap.1 hx'
    exact vb_ok _ x hi
theorem kind_body {ρ : Nat → Nat} {t s : Nd} (h : s.In t) : 1 ≤ (s.body ρ).1 ∧ (s.body ρ).1 ≤ 255 := by
  cases s with
  | none => exact absurd (in_pad h) (by rw [pad_none]; simp)
  | leaf b h m => exact ⟨by simp [Nd.body], by simp [Nd.body]⟩
  | fork b g ws => exact ⟨by simp [Nd.body], by simp [Nd.body]⟩
theorem in_h32 {W : World} {ρ : Nat → Nat} {t s : Nd} (ht : TA W ρ t) (h : s.In t) : ∀ b x m, s = .leaf b x m → x.length = 32 := fun b x m e => by
  have h1 := ta_in ht h
  rw [e] at h1
  exact h1.2
theorem ta_cell0 {W : World} {ρ : Nat → Nat} {t s : Nd} (ht : TA W ρ t) (h : s.In t) : W.cell? ⟨s.blk, 0, none⟩ = some (.int .i64 (ρ s.blk)) ∧ W.frozen? ⟨s.blk, 0, none⟩ = false := by
  have h1 := ta_in ht h
  cases s with
  | none => exact absurd (in_pad h) (by rw [pad_none]; simp)
  | leaf b x m => exact ⟨nd_0 h1.1, by simp [World.frozen?, Nd.blk, h1.1]⟩
  | fork b g ws => exact ⟨nd_0 h1.1, by simp [World.frozen?, Nd.blk, h1.1]⟩
theorem pown_keep {w W : World} {B : Nat} {v : Value} {us : List Nd} {S : Nat → Prop} (h : POwn w B v us) (ho : Only S w W) (hS : ∀ g, v.ownBlock = some g → ¬ S g) : POwn W B v us := by
  refine ⟨h.1, ?_⟩
  rcases h.2 with h1 | ⟨g, cap, cur, h1, h2, hg, h3⟩
  · exact .inl h1
  · exact .inr ⟨g, cap, cur, h1, h2, (ho.block g (Array.getElem?_eq_some_iff.1 hg).1 (hS g (by rw [h1]; rfl))).trans hg, h3⟩
theorem pown_at {w : World} {B : Nat} {p : Option Addr} {n c : Nat} {us : List Nd} (h : POwn w B (.slice p n c) us) {j : Nat} (hj : j < us.length) : ∃ g, p = some ⟨g, 0, none⟩ ∧ w.cell? ⟨g, j, none⟩ = some (ptr us[j]) := by
  rcases h.2 with ⟨h1, h2⟩ | ⟨g, cap, cur, h1, h2, hg, h3⟩
  · omega
  · injection h1 with e1 e2 e3
    subst e1
    have := h.cells (g := g) rfl j (ptr us[j]) (by rw [List.getElem?_map, List.getElem?_eq_getElem hj]; rfl)
    rw [Addr.add_lit, Nat.zero_add] at this
    exact ⟨g, rfl, this⟩
set_option maxRecDepth 20000 in
set_option maxHeartbeats 8000000 in
theorem save_to (w W0 : World) (B d l tb : Nat) (S0 : Nat → Prop) (s0 : St) (nm : Key) (R : List Rc) (T : Nd) (ρ : Nat → Nat) (k : En) (m : Nat) (H : LpI w W0 W0 W0 B d l tb S0 S0 s0 nm R T ρ k m) (hsv : T.Sv ρ R) (hm : (T.usn ρ).length ≤ m) (hm2 : m ≤ 1000000) :
    Calls Tryz.prog 10 #[.pointer (some ⟨tb, 0, none⟩), .pointer (some ⟨l, 0, none⟩)] W0 (SavePost w W0 B d l tb S0 nm R T ρ k m) := by
  have HH := Lib.hid H
  have HSV := Lib.hid hsv
  have HM := Lib.hid hm
  have HTL := Lib.hid (fun j (hj : T.Bl j) => H.ct.tt.ta.lt j hj)
  have HLN := Lib.hid (len_dl W0 B d l S0 s0 nm R H.cl.dl)
  have c0 : W0.cell? ⟨tb, 0, none⟩ = some (.pointer (pad T)) := by rw [cell_of_row W0 tb 0 _ _ _ H.ct.tt.top]; rfl
  have HUN := Lib.hid (unsaved_to ρ W0.heap.size T W0 [] (.slice none 0 0) H.ct.tt.ta H.ct.tt.ta.lt (World.ownsRow_nil _ _ _ _) (Nat.le_refl _) (by simp; omega))
  rw [List.nil_append] at HUN
  obtain ⟨us, hus⟩ : ∃ us, us = T.usn ρ := ⟨_, rfl⟩
  have HUS := Lib.hid hus
  rw [← hus] at HUN hm
  unfold SavePost
  rw [← hus]
  obtain ⟨P, hP⟩ : ∃ P, P = pad T := ⟨_, rfl⟩
  rw [← hP] at c0 HUN
  have HP := Lib.hid hP
  clear H hsv hus hP
  go_enter Tryz.func10, Tryz.ntmps10
  go_wp2_with (first
    | (go_at_call 28; refine HLN.out.mono ?_; rintro e w' ⟨rfl, rfl⟩)
    | (go_at_call 29; refine HUN.out.mono ?_; rintro e W1 ⟨v1, rfl, o1, b1⟩; have O1 := Lib.hid o1; have B1 := Lib.hid b1; obtain ⟨pu, cu, rfl⟩ := pown_shape O1.out; clear o1 b1))
  have hW1 : W0.heap.size ≤ W1.heap.size := B1.out.size
  have L0 : Hid (LpI w W0 W1 W1 B d l tb S0 S0 s0 nm R T ρ k m) := Lib.hid { HH.out.below B1.out with sb := fun _ hj => .inl hj, le := Nat.le_refl _ }
  have HPG : Hid (∀ g, (Value.slice pu us.length cu).ownBlock = some g → W0.heap.size ≤ g ∧ g < W1.heap.size) := Lib.hid fun g hg => O1.out.lt g hg
  have HSL : Hid (∀ j, S0 j → j < W0.heap.size) := Lib.hid HH.out.cl.dl.lt
  have HW1 := Lib.hid hW1
  clear hW1
  go_loopw [23] (fun i wr => ∃ (j : Nat) (S : Nat → Prop) (s : St), j ≤ us.length ∧ i = .int .i64 j ∧ Hid (LpI w W0 W1 wr B d l tb S0 S s nm (savs (ρ, R) (us.take j)).2 T (savs (ρ, R) (us.take j)).1 k (m - j)) ∧ Hid (POwn wr W0.heap.size (.slice pu us.length cu) us)) (fun i _ => us.length - (intOf i).toNat)
  case atStart => exact ⟨0, S0, s0, Nat.zero_le _, rfl, L0, O1⟩
  case round =>
    obtain ⟨j, S, s, hj, rfl, HL, HO⟩ := hrel
    by_cases hlt : j < us.length
    · have hdc : decide ((j : Int) < us.length) = true := decide_eq_true (by omega)
      obtain ⟨gp, hgp, hcell⟩ := pown_at HO.out hlt
      subst hgp
      have HIN : Hid (us[j].In T) := Lib.hid (usn_in (ρ := ρ) (by rw [← HUS.out]; exact List.getElem_mem hlt))
      have HTK : Hid (savs (ρ, R) (us.take (j + 1)) = sav1 (savs (ρ, R) (us.take j)) us[j]) := Lib.hid (by rw [List.take_succ_eq_append_getElem hlt, savs_snoc])
      generalize us[j] = x at *
      generalize savs (ρ, R) (us.take j) = z at *
      have HPX := Lib.hid (in_pad HIN.out)
      rw [ptr_pad, HPX.out] at hcell
      have HEN := Lib.hid (encode_to wr z.1 x x.blk HPX.out (ta_in HL.out.ct.tt.ta HIN.out))
      obtain ⟨y, hy⟩ : ∃ y, y = x.body z.1 := ⟨_, rfl⟩
      have HY := Lib.hid hy
      rw [← hy] at HEN
      have HYK : Hid (1 ≤ y.1 ∧ y.1 ≤ 255) := Lib.hid (by rw [hy]; exact kind_body HIN.out)
      have HYL : Hid (y.2.length ≤ 160) := Lib.hid (by rw [hy]; exact body_length z.1 (in_h32 HL.out.ct.tt.ta HIN.out))
      have HYO : Hid (Okb y.2) := Lib.hid (by rw [hy]; exact okb_body z.1 x)
      obtain ⟨s', hadd, hok⟩ := add_ok (n := m - (j + 1)) (by have := HL.out.ok; rwa [show m - j = m - (j + 1) + 1 from by omega] at this) HYK.out HYL.out
      have HADD := Lib.hid hadd
      have HOK := Lib.hid hok
      clear hy hadd hok
      obtain ⟨bx, hbx⟩ : ∃ bx, bx = x.blk := ⟨_, rfl⟩
      rw [← hbx] at hcell HEN
      have HBX := Lib.hid hbx
      clear hbx
      go_wp2_with fail
      refine HEN.out.mono ?_
      rintro e w2 ⟨v2, rfl, o2, b2⟩
      have L2 := Lib.hid (HL.out.below b2)
      have HO2 := Lib.hid (pown_kb HO.out b2)
      have HAD : Hid (Calls Tryz.prog 30 #[.pointer (some ⟨l, 0, none⟩), .int .i64 y.1, v2] w2 fun e w' => e = .returned .nilIface ∧ LPost w2 B d l S s' nm (z.2 ++ [(y.1, y.2)]) w') := Lib.hid (by
        have hS := Seen.own o2
        have := add_to w2 B d l S s nm z.2 y.1 v2 y.2 L2.out.cl.dl (by have := L2.out.ok.works; omega) (by rw [L2.out.ok.fuse]; decide) (by
          have h9 := L2.out.ok.name
          unfold okName at h9
          simp only [Bool.and_eq_true, decide_eq_true_eq] at h9
          omega) HYO.out hS (fun g hg hs => by
          have h1 := (o2.lt g hg).1
          have h2 := HL.out.cl.dl.lt g hs
          omega) (by have := HYL.out; omega) (by have := L2.out.ok.ends; omega)
        unfold AddPost at this
        rw [HADD.out] at this
        exact this)
      clear o2 b2 HEN
      go_wp2_with fail
      refine HAD.out.mono ?_
      rintro e w3 ⟨rfl, hp⟩
      obtain ⟨S3, l3⟩ := L2.out.add HW1.out hp HOK.out
      have L3 := Lib.hid l3
      have HO3 : Hid (POwn w3 W0.heap.size (.slice (some ⟨gp, 0, none⟩) us.length cu) us) := Lib.hid (by
        obtain ⟨_, _, h2, _⟩ := hp
        refine pown_keep HO2.out h2 (fun g hg hs => ?_)
        have h3 := HPG.out g hg
        rcases L2.out.sb g hs with e | e
        · have := HSL.out g e; omega
        · omega)
      have HCN := Lib.hid (count_dl w3 B d l S3 s' nm _ l3.cl.dl)
      rw [List.length_append, List.length_singleton] at HCN
      clear hp l3 HAD L2 HO2
      go_wp2_with fail
      refine HCN.out.mono ?_
      rintro e w' ⟨rfl, rfl⟩
      have cx := ta_cell0 L3.out.ct.tt.ta HIN.out
      rw [← HBX.out] at cx
      obtain ⟨cx1, cx2⟩ := cx
      have L4 := Lib.hid (L3.out.turn HIN.out (z.2.length + 1))
      rw [← HBX.out] at L4
      have HO4 : Hid (POwn (w3.setCell ⟨bx, 0, none⟩ (.int .i64 ((z.2.length + 1 : Nat) : Int))) W0.heap.size (.slice (some ⟨gp, 0, none⟩) us.length cu) us) := Lib.hid (pown_keep HO3.out (Only.setCell (S := fun g => g = bx) (Only.refl _ w3) (p := ⟨bx, 0, none⟩) rfl _) (fun g hg e => by
        have h3 := HPG.out g hg
        have h4 := HTL.out bx (by rw [HBX.out]; exact in_blk HIN.out)
        omega))
      go_wp2_with fail
      go_round
      case rel => exact ⟨j + 1, S3, s', by omega, by go_num, Lib.hid (by
        rw [HTK.out, HBX.out]
        have h8 := L4.out
        have h9 : ((z.2.length + 1 : Nat) : Int) = (z.2.length : Int) + 1 := by omega
        rw [HBX.out, HY.out, h9] at h8
        exact h8), by rw [show ((z.2.length + 1 : Nat) : Int) = (z.2.length : Int) + 1 from by omega] at HO4; exact HO4⟩
      case measure => simp [intOf]; omega
    · obtain rfl : j = us.length := by omega
      have hdc : decide (((us.length : Nat) : Int) < us.length) = false := decide_eq_false (by omega)
      have HST := Lib.hid (sav_tree T (ρ, R) HSV.out HH.out.ct.tt.sep)
      rw [List.take_length] at HL
      rw [show T.usn ((ρ, R) : Sav).1 = us from HUS.out.symm] at HST
      obtain ⟨z, hz⟩ : ∃ z, z = savs (ρ, R) us := ⟨_, rfl⟩
      have HZ := Lib.hid hz
      rw [← hz] at HL HST
      clear hz
      have ct0 : wr.cell? ⟨tb, 0, none⟩ = some (.pointer P) := by rw [cell_of_row wr tb 0 _ _ _ HL.out.ct.tt.top, HP.out]; rfl
      have HSD := Lib.hid (saved_to wr z.1 T HL.out.ct.tt.ta)
      rw [← HP.out] at HSD
      go_wp2_with (go_at_call 34; refine HSD.out.mono ?_; rintro e w' ⟨rfl, rfl⟩)
      go_ret2
      exact ⟨S, s, z.2, z.1, rfl, { HL.out with sb := fun g hg => (HL.out.sb g hg).imp id (fun e => Nat.le_trans HW1.out e), le := Nat.le_trans HW1.out HL.out.le }, HST.out, HZ.out⟩
end Go.Proofs.YtbpccbhlggcmfaaGreatDoor
