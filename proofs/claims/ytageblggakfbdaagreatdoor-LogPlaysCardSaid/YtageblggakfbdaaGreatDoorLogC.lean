/- Add. Conditions: the numbers are no greater than a program's may be; what is added lies in no block of the log. -/
import Derived.Test.YtageblggakfbdaaGreatDoorLogB
import Derived.Test.YtageblggakfbdaaGreatDoorDskB
import Derived.Deep.RegionHeld3
namespace Go.Proofs.YtageblggakfbdaaGreatDoor
open Go.RowKit
open Go.Maps

def addS (s : St) (nm : Key) (R : List Rc) (k : Int) (x : List Int) : Int × St × List Rc :=
  if k < 1 ∨ 255 < k ∨ 1048576 < x.length then (1, s, R) else if (s.append nm (frm k x)).1 = 0 then (0, (s.append nm (frm k x)).2, R ++ [(k, x)]) else ((s.append nm (frm k x)).1, (s.append nm (frm k x)).2, R)
def AddPost (w : World) (B d l : Nat) (S : Nat → Prop) (nm : Key) (r : Int × St × List Rc) (e : Ending) (w' : World) : Prop := e = .returned (enoOf r.1) ∧ LPost w B d l S r.2.1 nm r.2.2 w'
theorem enoOf_nz {k : Int} (h : ¬ k = 0) : enoOf k = eno k := if_neg h
theorem RAt.ne {w : World} {B l : Nat} {rv : Value} {E : List Re} {cs : Array Value} {fr : Nat × Nat} (h : RAt w B rv E) (hl : w.heap[l]? = some (.cells cs 110 fr)) : ∀ k, (rv.ownBlock = some k ∨ ∃ e ∈ E, e.1.ownBlock = some k) → k ≠ l := by
  rintro k (hk | ⟨e, he, hk⟩) rfl
  · obtain ⟨cs', hcs⟩ := own_type h.row hk
    rw [hl] at hcs
    simp at hcs
  · obtain ⟨cs', hcs⟩ := own_type (h.bod e he) hk
    rw [hl] at hcs
    simp at hcs
/-- What is left of the log when one more record stands behind the others. -/
theorem add_end {w w2 W4 w5 : World} {B d l gg cc H : Nat} {S S0 S2 : Nat → Prop} {s s2 : St} {nm : Key} {rv v3 : Value} {E : List Re} {k : Int} {x : List Int} (HD : DLx w B d l S S0 s nm rv E) (HO2 : Only S0 w w2) (HX4 : DLx W4 B d l (fun k => S k ∨ S2 k) S2 s2 nm rv E)
    (HS2 : ∀ k, S2 k → S0 k ∨ w.heap.size ≤ k) (h2 : ∀ k, S2 k → k < w2.heap.size) (HB4 : Below w2.heap.size w2 W4) (hv : BOwn W4 w2.heap.size v3 x) (hr : Rok (k, x)) (hs : ends (rcs E) ≤ 900000000)
    (own5 : w5.ownsRow B 119 3 (.slice (some ⟨gg, 0, none⟩) (E.length + 1) cc) (E.length + 1) (lrows 0 E ++ rrow (ends (rcs E)) (v3, k, x))) (o5 : Only (fun k => rv.ownBlock = some k) W4 w5) (hat : rv.ownBlock = some gg ∨ gg = H) (hH : w2.heap.size ≤ H) (hlt : gg < w5.heap.size) :
    LPost w B d l S s2 nm (rcs E ++ [(k, x)]) (w5.setCell ⟨l, 2, none⟩ (.slice (some ⟨gg, 0, none⟩) (E.length + 1) cc)) := by
  have hB : B ≤ w2.heap.size := Nat.le_trans HD.log.bl (Nat.le_trans (Nat.le_of_lt (lt_of_block HD.log.cell)) HO2.size)
  have hR5 := HX4.log.ra.snoc (e := (v3, k, x)) (hv.mono hB) hr (by rw [rcs_app, show rcs [(v3, k, x)] = [(k, x)] from rfl, ends_snoc]; have := hr.2.2.1; simp only at this ⊢; omega) own5 o5
  have hl5 : w5.heap[l]? = _ := (o5.block l (lt_of_block HX4.log.cell) HX4.log.ne_row).trans HX4.log.cell
  have o6 : Only (fun j => j = l ∨ rv.ownBlock = some j) W4 (w5.setCell ⟨l, 2, none⟩ (.slice (some ⟨gg, 0, none⟩) (E.length + 1) cc)) := (o5.mono (fun _ _ e => .inr e)).one (.inl rfl) _
  have hne := hR5.ne hl5
  have o61 : Only (fun j => j = l) w5 (w5.setCell ⟨l, 2, none⟩ (.slice (some ⟨gg, 0, none⟩) (E.length + 1) cc)) := (Only.refl _ _).one (S := fun j => j = l) rfl _
  have hv5 : ∀ j, v3.ownBlock = some j → w2.heap.size ≤ j ∧ j < w5.heap.size := fun j hj => ⟨(hv.lt j hj).1, Nat.lt_of_lt_of_le (hv.lt j hj).2 o5.size⟩
  have hgg : (S gg ∨ w2.heap.size ≤ gg) ∧ ¬ S2 gg := by
    rcases hat with e | e
    · exact ⟨.inl (HD.sl gg (.inr (.inl e))), HX4.out gg (.inr (.inl e))⟩
    · exact ⟨.inr (by omega), fun h => by have := h2 gg h; omega⟩
  have hsz : (w5.setCell ⟨l, 2, none⟩ (.slice (some ⟨gg, 0, none⟩) (E.length + 1) cc)).heap.size = w5.heap.size := by simp [World.setCell]
  refine ⟨fun j => S j ∨ S2 j ∨ j = gg ∨ v3.ownBlock = some j, ⟨S2, .slice (some ⟨gg, 0, none⟩) (E.length + 1) cc, E ++ [(v3, k, x)], {
    ds := HX4.ds.kept o6 fun j hj _ e => HX4.out j (e.elim (fun e => .inl e) (fun e => .inr (.inl e))) hj
    log := ⟨Lib.heap_setCell_same hl5 _, hR5.kept o61 hne, HX4.log.bl⟩
    out := ?_
    s0 := fun j hj => .inr (.inl hj)
    sl := ?_
    lt := ?_ }, by rw [rcs_app]; rfl⟩, ?_, ?_⟩
  · rintro j (rfl | hj | ⟨e, he, hj⟩)
    · exact HX4.out _ (.inl rfl)
    · simp only [Value.ownBlock, Option.some.injEq] at hj
      subst hj
      exact hgg.2
    · rcases List.mem_append.1 he with he | he
      · exact HX4.out j (.inr (.inr ⟨e, he, hj⟩))
      · rw [List.mem_singleton.1 he] at hj
        intro h
        have h1 := h2 j h
        have h3 := (hv5 j hj).1
        omega
  · rintro j (rfl | hj | ⟨e, he, hj⟩)
    · exact .inl (HD.sl _ (.inl rfl))
    · simp only [Value.ownBlock, Option.some.injEq] at hj
      subst hj
      exact .inr (.inr (.inl rfl))
    · rcases List.mem_append.1 he with he | he
      · exact .inl (HD.sl j (.inr (.inr ⟨e, he, hj⟩)))
      · rw [List.mem_singleton.1 he] at hj
        exact .inr (.inr (.inr hj))
  · intro j hj
    rw [hsz]
    rcases hj with hj | hj | rfl | hj
    · exact Nat.lt_of_lt_of_le (HX4.lt j (.inl hj)) o5.size
    · exact Nat.lt_of_lt_of_le (HX4.lt j (.inr hj)) o5.size
    · exact hlt
    · exact (hv5 j hj).2
  · have a1 : Only S w w2 := HO2.mono fun j _ e => HD.s0 j e
    have a2 : Only S w W4 := a1.trans (Only.of_below HB4 (S := fun _ => False)) (fun _ h => h) (fun _ _ h => h.elim)
    exact a2.trans o6 (fun _ h => h) (fun j _ e => e.elim (fun e => HD.sl j (.inl e)) (fun e => HD.sl j (.inr (.inl e))))
  · intro j hj
    have hw2 := HO2.size
    rcases hj with hj | hj | rfl | hj
    · exact .inl hj
    · exact (HS2 j hj).imp (HD.s0 j) id
    · exact hgg.1.imp id (fun e => by omega)
    · exact .inr (by have := (hv5 j hj).1; omega)
theorem wp_region_any_drew {P : Program} {ops : Array Oper} {Q : Exit → Act → World → Prop} {id : Nat} {a : Act} {w : World} (hm : P.follows .mixedOrders = true) (h : wpAny P .any ops Q ops.size (Array.replicate ops.size false) a w.drew) : (Code.region id ops true).wp P Q a w := wp_region_any hm h
set_option maxRecDepth 20000 in
set_option maxHeartbeats 4000000 in
theorem add_to (w : World) (B d l : Nat) (S : Nat → Prop) (s : St) (nm : Key) (R : List Rc) (k : Int) (v : Value) (x : List Int) (h : DL w B d l S s nm R) (hw : s.works ≤ 900000000) (hfu : s.fuse < 9223372036854775808) (hnm : nm.length ≤ 281474976710656) (ok : Okb x) (hx : Seen w v x) (hxo : ∀ j, v.ownBlock = some j → ¬ S j) (hxl : x.length ≤ 140737488351232) (hR : ends R ≤ 900000000) :
    Calls Tryz.prog 34 #[.pointer (some ⟨l, 0, none⟩), .int .i64 k, v] w (AddPost w B d l S nm (addS s nm R k x)) := by
  obtain ⟨S0, rv, E, hd, rfl⟩ := h
  obtain ⟨a, cap, rfl⟩ := len_val hx
  by_cases hb : k < 1 ∨ 255 < k ∨ 1048576 < x.length
  · have HA : Hid (addS s nm (rcs E) k x = (1, s, rcs E)) := Lib.hid (by unfold addS; rw [if_pos hb])
    have HL := Lib.hid (lay_no w k a x.length cap hb)
    have HP : Hid (LPost w B d l S s nm (rcs E) w) := Lib.hid (LPost.same ⟨S0, rv, E, hd, rfl⟩ (Below.refl _ _))
    clear hd hb hx
    go_enter Tryz.func34, Tryz.ntmps34
    go_wp2_with fail
    refine HL.out.mono ?_
    rintro e w' ⟨rfl, rfl⟩
    go_wp2_with fail
    go_ret
    exact ⟨by rw [HA.out]; exact eno_1, by rw [HA.out]; exact HP.out⟩
  have hk1 : 1 ≤ k := by omega
  have hk2 : k ≤ 255 := by omega
  have hx1 : x.length ≤ 1048576 := by omega
  have HD := Lib.hid hd
  have HL := Lib.hid (lay_yes w k _ x hk1 hk2 ok hx1 hx)
  have HRK : Hid (Rok (k, x)) := Lib.hid ⟨hk1, hk2, hx1, ok⟩
  have HX := Lib.hid hx
  have HXO := Lib.hid hxo
  have HAD : Hid (addS s nm (rcs E) k x = if (s.append nm (frm k x)).1 = 0 then (0, (s.append nm (frm k x)).2, rcs E ++ [(k, x)]) else ((s.append nm (frm k x)).1, (s.append nm (frm k x)).2, rcs E)) := Lib.hid (by unfold addS; rw [if_neg hb])
  clear hd hb hx hxo ok
  go_enter Tryz.func34, Tryz.ntmps34
  go_wp2_with fail
  refine HL.out.mono ?_
  rintro e w1 ⟨u, rfl, ou, b1⟩
  obtain ⟨fl, hfl⟩ : ∃ fl, fl = (frm k x).length := ⟨_, rfl⟩
  have HFL : Hid (fl = 9 + x.length) := Lib.hid (by rw [hfl, frm_len])
  have HD1 : Hid (DLx w1 B d l S S0 s nm rv E) := Lib.hid (HD.out.kept (T := fun _ => False) (Only.of_below b1) (fun _ _ h => h))
  obtain ⟨pu, cu, rfl⟩ := own_slice ou
  have HAP := Lib.hid (append_to w1.drew B d S0 s nm (.slice pu (frm k x).length cu) (frm k x) (HD1.out.ds.kept (T := fun _ => False) ⟨rfl, rfl, rfl, Nat.le_refl _, fun _ _ _ => rfl⟩ (fun _ _ _ h => h)) hw hfu hnm (Seen.own (w := w1.drew) ou.drew) (fun j hj hs => by have h1 := (ou.lt j hj).1; have h2 := HD.out.lt j (HD.out.s0 j hs); omega) (by rw [frm_len]; omega))
  rw [← hfl] at HAP ⊢
  have HU1 := Lib.hid ou.drew
  have B1 := Lib.hid b1
  have c0 := HD1.out.log.c0
  have c1 := HD1.out.log.c1
  clear ou b1 HL hfl
  go_wp2_with fail
  try simp only [List.append]
  refine wp_region_noPanic ?_
  refine wp_region_held_drew (S := (fun W => W.cell? ⟨l, 0, none⟩ = some (.pointer (some ⟨d, 0, none⟩)) ∧ W.cell? ⟨l, 1, none⟩ = some (stv nm))) (by kernel_rfl) ⟨c0, c1⟩ (fun hHeld => ?_)
  refine wpAnyH_take (i := 0) (v := ?_) (by simp only [List.getElem?_toArray, List.getElem?_cons_zero]; rfl) (by kernel_rfl) (by kernel_rfl) (by kernel_rfl) (fun _ _ _ h => h) (Or.inl ⟨by rfl, ?_⟩) (by assumption) ?_
  rotate_left
  · intro w hSw
    try dsimp only at hSw
    go_simp
    try with_reducible rfl
  try simp only [Act.put, List.setIfInBounds_toArray, List.set_cons_zero, List.set_cons_succ]
  refine wpAnyH_take (i := 1) (v := ?_) (by simp only [List.getElem?_toArray, List.getElem?_cons_succ, List.getElem?_cons_zero]; rfl) (by kernel_rfl) (by kernel_rfl) (by kernel_rfl) (fun _ _ _ h => h) (Or.inl ⟨by rfl, ?_⟩) (by assumption) ?_
  rotate_left
  · intro w hSw
    try dsimp only at hSw
    go_simp
    try with_reducible rfl
  try simp only [Act.put, List.setIfInBounds_toArray, List.set_cons_zero, List.set_cons_succ]
  refine wpAnyH_take (i := 2) (v := ?_) (by simp only [List.getElem?_toArray, List.getElem?_cons_succ, List.getElem?_cons_zero]; rfl) (by kernel_rfl) (by kernel_rfl) (by kernel_rfl) (fun _ _ _ h => h) (Or.inl ⟨by rfl, ?_⟩) (by assumption) ?_
  rotate_left
  · intro w hSw
    try dsimp only at hSw
    go_simp
    try with_reducible rfl
  try simp only [Act.put, List.setIfInBounds_toArray, List.set_cons_zero, List.set_cons_succ]
  refine wpAnyH_take (i := 3) (v := ?_) (by simp only [List.getElem?_toArray, List.getElem?_cons_succ, List.getElem?_cons_zero]; rfl) (by kernel_rfl) (by kernel_rfl) (by kernel_rfl) (fun _ _ _ h => h) (Or.inl ⟨by rfl, ?_⟩) (by assumption) ?_
  rotate_left
  · intro w hSw
    try dsimp only at hSw
    go_simp
    try with_reducible rfl
  try simp only [Act.put, List.setIfInBounds_toArray, List.set_cons_zero, List.set_cons_succ]
  refine wpAnyH_take (i := 4) (v := ?_) (by simp only [List.getElem?_toArray, List.getElem?_cons_succ, List.getElem?_cons_zero]; rfl) (by kernel_rfl) (by kernel_rfl) (by kernel_rfl) (fun _ _ _ h => h) (Or.inl ⟨by rfl, ?_⟩) (by assumption) ?_
  rotate_left
  · intro w hSw
    try dsimp only at hSw
    go_simp
    try with_reducible rfl
  try simp only [Act.put, List.setIfInBounds_toArray, List.set_cons_zero, List.set_cons_succ]
  refine wpAnyH_take (i := 5) (v := ?_) (by simp only [List.getElem?_toArray, List.getElem?_cons_succ, List.getElem?_cons_zero]; rfl) (by kernel_rfl) (by kernel_rfl) (by kernel_rfl) (fun _ _ _ h => h) (Or.inl ⟨by rfl, ?_⟩) (by assumption) ?_
  rotate_left
  · intro w hSw
    try dsimp only at hSw
    go_simp
    try with_reducible rfl
  try simp only [Act.put, List.setIfInBounds_toArray, List.set_cons_zero, List.set_cons_succ]
  refine wpAnyH_take (i := 6) (v := ?_) (by simp only [List.getElem?_toArray, List.getElem?_cons_succ, List.getElem?_cons_zero]; rfl) (by kernel_rfl) (by kernel_rfl) (by kernel_rfl) (fun _ _ _ h => h) (Or.inl ⟨by rfl, ?_⟩) (by assumption) ?_
  rotate_left
  · intro w hSw
    try dsimp only at hSw
    go_simp
    try with_reducible rfl
  try simp only [Act.put, List.setIfInBounds_toArray, List.set_cons_zero, List.set_cons_succ]
  refine wpAnyH_take (i := 7) (v := ?_) (by simp only [List.getElem?_toArray, List.getElem?_cons_succ, List.getElem?_cons_zero]; rfl) (by kernel_rfl) (by kernel_rfl) (by kernel_rfl) (fun _ _ _ h => h) (Or.inl ⟨by rfl, ?_⟩) (by assumption) ?_
  rotate_left
  · intro w hSw
    try dsimp only at hSw
    go_simp
    try with_reducible rfl
  try simp only [Act.put, List.setIfInBounds_toArray, List.set_cons_zero, List.set_cons_succ]
  refine wpAnyH_take (i := 8) (v := ?_) (by simp only [List.getElem?_toArray, List.getElem?_cons_succ, List.getElem?_cons_zero]; rfl) (by kernel_rfl) (by kernel_rfl) (by kernel_rfl) (fun _ _ _ h => h) (Or.inl ⟨by rfl, ?_⟩) (by assumption) ?_
  rotate_left
  · intro w hSw
    try dsimp only at hSw
    go_simp
    try with_reducible rfl
  try simp only [Act.put, List.setIfInBounds_toArray, List.set_cons_zero, List.set_cons_succ]
  refine wpAnyH_ready (rs := [9]) (by kernel_rfl) (by simp) ?_
  refine AllReadyH.cons (by simp only [List.getElem?_toArray, List.getElem?_cons_succ, List.getElem?_cons_zero]; rfl) (fun K hK => ?_) AllReadyH.nil
  go_simp
  refine HAP.out.mono ?_
  rintro e w2 ⟨rfl, S2, d2, o2, s2⟩
  have HO2 : Hid (Only S0 w w2) := Lib.hid ((Only.of_below B1.out).trans (b := w1) (T := S0) ⟨o2.os, o2.tape, o2.output, o2.size, o2.block⟩ (fun _ h => h) (fun _ _ h => h))
  have HX2 : Hid (DLx w2 B d l (fun k => S k ∨ S2 k) S2 (s.append nm (frm k x)).2 nm rv E) := Lib.hid (HD.out.disk d2 HO2.out (fun k hk => (s2 k hk).imp id (fun e => Nat.le_trans B1.out.size e)))
  have HS2 : Hid (∀ k, S2 k → S0 k ∨ w.heap.size ≤ k) := Lib.hid (fun k hk => (s2 k hk).imp id (fun e => Nat.le_trans B1.out.size e))
  have q2 : w2.cell? ⟨l, 0, none⟩ = some (.pointer (some ⟨d, 0, none⟩)) ∧ w2.cell? ⟨l, 1, none⟩ = some (stv nm) := ⟨HX2.out.log.c0, HX2.out.log.c1⟩
  clear d2 o2 s2 HAP HD1
  go_wp2_with fail
  refine hK.out _ _ q2 (fun hHeld => ?_)
  clear hK K
  try simp only [Act.put, List.setIfInBounds_toArray, List.set_cons_zero, List.set_cons_succ]
  refine wpAnyH_take (i := 10) (v := ?_) (by simp only [List.getElem?_toArray, List.getElem?_cons_succ, List.getElem?_cons_zero]; rfl) (by kernel_rfl) (by kernel_rfl) (by kernel_rfl) (fun _ _ _ h => h) (Or.inl ⟨by rfl, ?_⟩) (by assumption) ?_
  rotate_left
  · intro w hSw
    try dsimp only at hSw
    go_simp
    try with_reducible rfl
  try simp only [Act.put, List.setIfInBounds_toArray, List.set_cons_zero, List.set_cons_succ]
  refine wpAnyH_done (by kernel_rfl) ?_ _
  refine NoPanic.normal ?_
  clear c0 c1
  obtain ⟨r, hr⟩ : ∃ r, r = s.append nm (frm k x) := ⟨_, rfl⟩
  rw [← hr] at HAD HX2 ⊢
  have HR := Lib.hid hr
  clear hr
  by_cases he : r.1 = 0
  case' neg =>
    rw [if_neg he] at HAD
    rw [enoOf_nz he]
    have HE := Lib.hid he
    clear he
    go_wp2_with fail
    go_ret
    refine ⟨by rw [HAD.out]; exact congrArg _ (enoOf_nz HE.out).symm, ?_⟩
    rw [HAD.out]
    exact ⟨_, ⟨S2, rv, E, HX2.out, rfl⟩, HO2.out.mono (fun k _ e => HD.out.s0 k e), fun k hk => hk.elim .inl (fun e => (HS2.out k e).imp (HD.out.s0 k) id)⟩
  case' pos =>
    rw [if_pos he] at HAD
    rw [he, show enoOf 0 = .nilIface from rfl]
    clear he
    go_wp2_with fail
    obtain ⟨i0, hi0, hz0, hz1, hz2⟩ := info_parts rinfo
    have c2 := HX2.out.log.c2
    obtain ⟨p, c, rfl⟩ := HX2.out.log.ra.slice
    have HXS : Hid (Seen w2.drew (.slice a x.length cap) x) := Lib.hid (HX.out.only (w' := w2) HO2.out (fun j hj e => HXO.out j hj (HD.out.s0 j e)))
    have HC := Lib.hid (clone_any w2.drew _ x hxl HXS.out)
    obtain ⟨en, hen⟩ : ∃ en, en = ends (rcs E) := ⟨_, rfl⟩
    have HEN := Lib.hid hen
    obtain ⟨n, hn⟩ : ∃ n, n = E.length := ⟨_, rfl⟩
    have HN := Lib.hid hn
    have hz2' : (en : Int) + (fl : Int) = ((en + (9 + x.length) : Nat) : Int) := by rw [HFL.out]; omega
    obtain ⟨z, hz⟩ : ∃ z : Nat, z = en + (9 + x.length) := ⟨_, rfl⟩
    rw [← hz] at hz2'
    have HZ := Lib.hid hz
    have hz63 : IntKind.i64.wrap ((en : Int) + (fl : Int)) = z := by rw [hz2']; exact IntWalk.i64_in _ (by omega)
    rw [← hn] at c2 HX2
    have HFT : Hid (n + 1 ≤ maxLen ∧ (n + 1) * 40 ≤ 140737488355328) := Lib.hid (dec_fits (by rw [hn]; exact HX2.out.log.ra.many))
    have HNB : Hid (n ≤ 111111111) := Lib.hid (by rw [hn]; exact HX2.out.log.ra.many)
    clear hz hen hn hz2'
    have c2d : w2.drew.cell? ⟨l, 2, none⟩ = some (.slice p n c) := c2
    have HLTL : Hid (l < w2.heap.size) := Lib.hid (lt_of_block HX2.out.log.cell)
    try simp only [List.append]
    refine wp_region_noPanic ?_
    refine wp_region_any_drew (by kernel_rfl) ?_
    refine wpAny_take (i := 0) (v := ?_) (by simp only [List.getElem?_toArray, List.getElem?_cons_zero]; rfl) (by kernel_rfl) (by kernel_rfl) (by kernel_rfl) (fun _ _ _ h => h) (Or.inl ⟨by rfl, ?_⟩) ?_
    rotate_left
    · intro w
      go_simp
      try with_reducible rfl
    try simp only [Act.put, List.setIfInBounds_toArray, List.set_cons_zero, List.set_cons_succ]
    refine wpAny_take (i := 1) (v := ?_) (by simp only [List.getElem?_toArray, List.getElem?_cons_succ, List.getElem?_cons_zero]; rfl) (by kernel_rfl) (by kernel_rfl) (by kernel_rfl) (fun _ _ _ h => h) (Or.inl ⟨by rfl, ?_⟩) ?_
    rotate_left
    · intro w
      go_simp
      try with_reducible rfl
    try simp only [Act.put, List.setIfInBounds_toArray, List.set_cons_zero, List.set_cons_succ]
    refine wpAny_take (i := 2) (v := ?_) (by simp only [List.getElem?_toArray, List.getElem?_cons_succ, List.getElem?_cons_zero]; rfl) (by kernel_rfl) (by kernel_rfl) (by kernel_rfl) (fun _ _ _ h => h) (Or.inl ⟨by rfl, ?_⟩) ?_
    rotate_left
    · intro w
      go_simp
      try with_reducible rfl
    try simp only [Act.put, List.setIfInBounds_toArray, List.set_cons_zero, List.set_cons_succ]
    refine wpAny_take (i := 3) (v := ?_) (by simp only [List.getElem?_toArray, List.getElem?_cons_succ, List.getElem?_cons_zero]; rfl) (by kernel_rfl) (by kernel_rfl) (by kernel_rfl) (fun _ _ _ h => h) (Or.inl ⟨by rfl, ?_⟩) ?_
    rotate_left
    · intro w
      go_simp
      try with_reducible rfl
    try simp only [Act.put, List.setIfInBounds_toArray, List.set_cons_zero, List.set_cons_succ]
    refine wpAny_take (i := 5) (v := ?_) (by simp only [List.getElem?_toArray, List.getElem?_cons_succ, List.getElem?_cons_zero]; rfl) (by kernel_rfl) (by kernel_rfl) (by kernel_rfl) (fun _ _ _ h => h) (Or.inl ⟨by rfl, ?_⟩) ?_
    rotate_left
    · intro w
      go_simp
      try with_reducible rfl
    try simp only [Act.put, List.setIfInBounds_toArray, List.set_cons_zero, List.set_cons_succ]
    refine wpAny_take (i := 6) (v := ?_) (by simp only [List.getElem?_toArray, List.getElem?_cons_succ, List.getElem?_cons_zero]; rfl) (by kernel_rfl) (by kernel_rfl) (by kernel_rfl) (fun _ _ _ h => h) (Or.inl ⟨by rfl, ?_⟩) ?_
    rotate_left
    · intro w
      go_simp
      try with_reducible rfl
    try simp only [Act.put, List.setIfInBounds_toArray, List.set_cons_zero, List.set_cons_succ]
    refine wpAny_take (i := 8) (v := ?_) (by simp only [List.getElem?_toArray, List.getElem?_cons_succ, List.getElem?_cons_zero]; rfl) (by kernel_rfl) (by kernel_rfl) (by kernel_rfl) (fun _ _ _ h => h) (Or.inl ⟨by rfl, ?_⟩) ?_
    rotate_left
    · intro w
      go_simp
      try with_reducible rfl
    try simp only [Act.put, List.setIfInBounds_toArray, List.set_cons_zero, List.set_cons_succ]
    refine wpAny_take (i := 10) (v := ?_) (by simp only [List.getElem?_toArray, List.getElem?_cons_succ, List.getElem?_cons_zero]; rfl) (by kernel_rfl) (by kernel_rfl) (by kernel_rfl) (fun _ _ _ h => h) (Or.inl ⟨by rfl, ?_⟩) ?_
    rotate_left
    · intro w
      go_simp
      try with_reducible rfl
    try simp only [Act.put, List.setIfInBounds_toArray, List.set_cons_zero, List.set_cons_succ]
    refine wpAny_take (i := 11) (v := ?_) (by simp only [List.getElem?_toArray, List.getElem?_cons_succ, List.getElem?_cons_zero]; rfl) (by kernel_rfl) (by kernel_rfl) (by kernel_rfl) (fun _ _ _ h => h) (Or.inl ⟨by rfl, ?_⟩) ?_
    rotate_left
    · intro w
      go_simp
      try with_reducible rfl
    try simp only [Act.put, List.setIfInBounds_toArray, List.set_cons_zero, List.set_cons_succ]
    refine wpAny_ready (rs := [4, 7]) (by kernel_rfl) (by simp) ?_
    refine (AllReady.cons (by simp only [List.getElem?_toArray, List.getElem?_cons_succ, List.getElem?_cons_zero]; rfl) (fun K hK => ?_) (AllReady.cons (by simp only [List.getElem?_toArray, List.getElem?_cons_succ, List.getElem?_cons_zero]; rfl) (fun K hK => ?_) AllReady.nil))
    · have HK := Lib.hid hK
      clear hK
      go_simp
      refine HK.out _ _ ?_
      clear HK K
      try simp only [Act.put, List.setIfInBounds_toArray, List.set_cons_zero, List.set_cons_succ]
      refine wpAny_ready (rs := [7]) (by kernel_rfl) (by simp) ?_
      refine (AllReady.cons (by simp only [List.getElem?_toArray, List.getElem?_cons_succ, List.getElem?_cons_zero]; rfl) (fun K hK => ?_) AllReady.nil)
      have HK := Lib.hid hK
      clear hK
      go_simp
      refine HC.out.mono ?_
      rintro e w3 ⟨v3, rfl, o3, b3⟩
      have HX3 : Hid (DLx w3 B d l (fun k => S k ∨ S2 k) S2 r.2 nm (.slice p n c) E) := Lib.hid (HX2.out.kept (T := fun _ => False) (Only.of_below (w := w2) ⟨b3.os, b3.tape, b3.output, b3.size, b3.block⟩) (fun _ _ h => h))
      have HB3 : Hid (Below w2.heap.size w2 w3) := Lib.hid ⟨b3.os, b3.tape, b3.output, b3.size, b3.block⟩
      have HV3 : Hid (BOwn w3 w2.heap.size v3 x) := Lib.hid o3
      have c3 := HX3.out.log.c2
      clear o3 b3
      obtain ⟨p3, cc3, rfl⟩ := own_slice HV3.out
      have HLN := Lib.hid (len_to w3 B l d nm _ E HX3.out.log)
      rw [← HEN.out] at HLN
      go_wp2_with fail
      refine HK.out _ _ ?_
      clear HK K
      try simp only [Act.put, List.setIfInBounds_toArray, List.set_cons_zero, List.set_cons_succ]
      refine wpAny_ready (rs := [9]) (by kernel_rfl) (by simp) ?_
      refine (AllReady.cons (by simp only [List.getElem?_toArray, List.getElem?_cons_succ, List.getElem?_cons_zero]; rfl) (fun K hK => ?_) AllReady.nil)
      have HK := Lib.hid hK
      clear hK
      go_simp
      refine HLN.out.mono ?_
      rintro e w4 ⟨rfl, rfl⟩
      go_wp2_with fail
      refine HK.out _ _ ?_
      clear HK K
      try simp only [Act.put, List.setIfInBounds_toArray, List.set_cons_zero, List.set_cons_succ]
      refine wpAny_take (i := 12) (v := ?_) (by simp only [List.getElem?_toArray, List.getElem?_cons_succ, List.getElem?_cons_zero]; rfl) (by kernel_rfl) (by kernel_rfl) (by kernel_rfl) (fun _ _ _ h => h) (Or.inl ⟨by rfl, ?_⟩) ?_
      rotate_left
      · intro w
        go_simp
        try with_reducible rfl
      try simp only [Act.put, List.setIfInBounds_toArray, List.set_cons_zero, List.set_cons_succ]
      refine wpAny_take (i := 13) (v := ?_) (by simp only [List.getElem?_toArray, List.getElem?_cons_succ, List.getElem?_cons_zero]; rfl) (by kernel_rfl) (by kernel_rfl) (by kernel_rfl) (fun _ _ _ h => h) (Or.inl ⟨by rfl, ?_⟩) ?_
      rotate_left
      · intro w
        go_simp
        try with_reducible rfl
      try simp only [Act.put, List.setIfInBounds_toArray, List.set_cons_zero, List.set_cons_succ]
      refine wpAny_ready (rs := [14]) (by kernel_rfl) (by simp) ?_
      refine (AllReady.cons (by simp only [List.getElem?_toArray, List.getElem?_cons_succ, List.getElem?_cons_zero]; rfl) (fun K hK => ?_) AllReady.nil)
      have HK := Lib.hid hK
      clear hK
      go_simp
      have HX4 : Hid (DLx (w3.alloc (.cells #[.int .i64 k, .slice p3 x.length cc3, .int .i64 z] 119)) B d l (fun k => S k ∨ S2 k) S2 r.2 nm (.slice p n c) E) := Lib.hid (HX3.out.kept (T := fun _ => False) (Only.of_below ((Below.refl _ w3).alloc (Nat.le_refl _) _)) (fun _ _ h => h))
      have c4 := HX4.out.log.c2
      have HN4 : Hid (∀ j u, ([.int .i64 k, .slice p3 x.length cc3, .int .i64 z] : List Value)[j]? = some u → (w3.alloc (.cells #[.int .i64 k, .slice p3 x.length cc3, .int .i64 z] 119)).cell? ((⟨w3.heap.size, 0, none⟩ : Addr).add j) = some u) := Lib.hid (World.news_of_block (cs := #[.int .i64 k, .slice p3 x.length cc3, .int .i64 z]) (t := 119) (fr := (0, 0)) (heap_alloc_new w3 _))
      have HV4 : Hid (BOwn (w3.alloc (.cells #[.int .i64 k, .slice p3 x.length cc3, .int .i64 z] 119)) w2.heap.size (.slice p3 x.length cc3) x) := Lib.hid (HV3.out.alloc _)
      have HB4 : Hid (Below w2.heap.size w2 (w3.alloc (.cells #[.int .i64 k, .slice p3 x.length cc3, .int .i64 z] 119))) := Lib.hid (HB3.out.alloc HB3.out.size _)
      have HSZ4 : Hid ((w3.alloc (.cells #[.int .i64 k, .slice p3 x.length cc3, .int .i64 z] 119)).heap.size = w3.heap.size + 1) := Lib.hid (by simp)
      refine HK.out _ _ ?_
      clear HK K
      try simp only [Act.put, List.setIfInBounds_toArray, List.set_cons_zero, List.set_cons_succ]
      refine wpAny_ready (rs := [15]) (by kernel_rfl) (by simp) ?_
      refine (AllReady.cons (by simp only [List.getElem?_toArray, List.getElem?_cons_succ, List.getElem?_cons_zero]; rfl) (fun K hK => ?_) AllReady.nil)
      have HK := Lib.hid hK
      clear hK
      refine step_append_lies _ (by rfl) _ _ _ (by rfl) B 119 i0 _ 3 40 Tryz.underlying104 hi0 hz0 hz1 hz2 rfl (by omega) (.slice p n c) n (lrows 0 E) (by rfl) (by rw [HN.out]; have := HX4.out.log.ra.row; rw [HN.out] at this; exact this) ⟨w3.heap.size, 0, none⟩ 1 1 [.int .i64 k, .slice p3 x.length cc3, .int .i64 z] (by rfl) (by rfl) (fun j u hj => HN4.out j u hj) (by simp [Value.oneCell']) (by decide) HFT.out.1 HFT.out.2 (Nat.le_trans HX4.out.log.bl (Nat.le_of_lt (lt_of_block HX4.out.log.cell))) _ HSZ4.out ?_
      intro gg cc w5 own5 grow5 hat5 hlt5
      have HO5 : Hid (Only (fun k => (Value.slice p n c).ownBlock = some k) (w3.alloc (.cells #[.int .i64 k, .slice p3 x.length cc3, .int .i64 z] 119)) w5) := Lib.hid ((Only.refl _ _).grown grow5 (fun k _ e => e))
      have HOW5 : Hid (w5.ownsRow B 119 3 (.slice (some ⟨gg, 0, none⟩) (n + 1) cc) (n + 1) (lrows 0 E ++ rrow (ends (rcs E)) (.slice p3 x.length cc3, k, x))) := Lib.hid (by rw [rrow, ← HEN.out, ← HZ.out]; exact own5)
      have HAT5 := Lib.hid hat5
      have HGL5 := Lib.hid hlt5
      have hl5 := (HO5.out.block l (lt_of_block HX4.out.log.cell) HX4.out.log.ne_row).trans HX4.out.log.cell
      have c5 : w5.cell? ⟨l, 2, none⟩ = some (.slice p n c) := by rw [cell_of_row w5 l 2 _ _ _ hl5]; rfl
      have f5 : w5.frozen? ⟨l, 2, none⟩ = false := by simp [World.frozen?, hl5]
      clear own5 grow5 hat5 hlt5 hl5
      refine HK.out _ _ ?_
      clear HK K
      try simp only [Act.put, List.setIfInBounds_toArray, List.set_cons_zero, List.set_cons_succ]
      refine wpAny_take (i := 16) (v := ?_) (by simp only [List.getElem?_toArray, List.getElem?_cons_succ, List.getElem?_cons_zero]; rfl) (by kernel_rfl) (by kernel_rfl) (by kernel_rfl) (fun _ _ _ h => h) (Or.inl ⟨by rfl, ?_⟩) ?_
      rotate_left
      · intro w
        go_simp
        try with_reducible rfl
      try simp only [Act.put, List.setIfInBounds_toArray, List.set_cons_zero, List.set_cons_succ]
      refine wpAny_take (i := 17) (v := ?_) (by simp only [List.getElem?_toArray, List.getElem?_cons_succ, List.getElem?_cons_zero]; rfl) (by kernel_rfl) (by kernel_rfl) (by kernel_rfl) (fun _ _ _ h => h) (Or.inl ⟨by rfl, ?_⟩) ?_
      rotate_left
      · intro w
        go_simp
        try with_reducible rfl
      try simp only [Act.put, List.setIfInBounds_toArray, List.set_cons_zero, List.set_cons_succ]
      refine wpAny_ready (rs := [18]) (by kernel_rfl) (by simp) ?_
      refine (AllReady.cons (by simp only [List.getElem?_toArray, List.getElem?_cons_succ, List.getElem?_cons_zero]; rfl) (fun K hK => ?_) AllReady.nil)
      have HK := Lib.hid hK
      clear hK
      go_simp
      refine HK.out _ _ ?_
      clear HK K
      try simp only [Act.put, List.setIfInBounds_toArray, List.set_cons_zero, List.set_cons_succ]
      refine wpAny_done (by kernel_rfl) ?_ _
      refine NoPanic.normal ?_
      clear c2 c2d c3 c4 c5 f5
      go_wp2_with fail
      go_ret
      refine ⟨by rw [HAD.out]; exact eno_0, ?_⟩
      rw [HAD.out]
      have HX4' := HX4.out
      have HOW5' := HOW5.out
      rw [HN.out] at HX4' HOW5' ⊢
      exact add_end HD.out HO2.out HX4' HS2.out (fun j hj => HX2.out.lt j (.inr hj)) HB4.out HV4.out HRK.out hR HOW5' (by have := HO5.out; rw [HN.out] at this; exact this) (by have := HAT5.out; rw [HN.out] at this; exact this) (Nat.le_trans HB3.out.size (Nat.le_succ _)) HGL5.out
    · have HK := Lib.hid hK
      clear hK
      go_simp
      refine HC.out.mono ?_
      rintro e w3 ⟨v3, rfl, o3, b3⟩
      have HX3 : Hid (DLx w3 B d l (fun k => S k ∨ S2 k) S2 r.2 nm (.slice p n c) E) := Lib.hid (HX2.out.kept (T := fun _ => False) (Only.of_below (w := w2) ⟨b3.os, b3.tape, b3.output, b3.size, b3.block⟩) (fun _ _ h => h))
      have HB3 : Hid (Below w2.heap.size w2 w3) := Lib.hid ⟨b3.os, b3.tape, b3.output, b3.size, b3.block⟩
      have HV3 : Hid (BOwn w3 w2.heap.size v3 x) := Lib.hid o3
      have c3 := HX3.out.log.c2
      clear o3 b3
      obtain ⟨p3, cc3, rfl⟩ := own_slice HV3.out
      have HLN := Lib.hid (len_to w3 B l d nm _ E HX3.out.log)
      rw [← HEN.out] at HLN
      go_wp2_with fail
      refine HK.out _ _ ?_
      clear HK K
      try simp only [Act.put, List.setIfInBounds_toArray, List.set_cons_zero, List.set_cons_succ]
      refine wpAny_ready (rs := [4, 9]) (by kernel_rfl) (by simp) ?_
      refine (AllReady.cons (by simp only [List.getElem?_toArray, List.getElem?_cons_succ, List.getElem?_cons_zero]; rfl) (fun K hK => ?_) (AllReady.cons (by simp only [List.getElem?_toArray, List.getElem?_cons_succ, List.getElem?_cons_zero]; rfl) (fun K hK => ?_) AllReady.nil))
      · have HK := Lib.hid hK
        clear hK
        go_simp
        refine HK.out _ _ ?_
        clear HK K
        try simp only [Act.put, List.setIfInBounds_toArray, List.set_cons_zero, List.set_cons_succ]
        refine wpAny_ready (rs := [9]) (by kernel_rfl) (by simp) ?_
        refine (AllReady.cons (by simp only [List.getElem?_toArray, List.getElem?_cons_succ, List.getElem?_cons_zero]; rfl) (fun K hK => ?_) AllReady.nil)
        have HK := Lib.hid hK
        clear hK
        go_simp
        refine HLN.out.mono ?_
        rintro e w4 ⟨rfl, rfl⟩
        go_wp2_with fail
        refine HK.out _ _ ?_
        clear HK K
        try simp only [Act.put, List.setIfInBounds_toArray, List.set_cons_zero, List.set_cons_succ]
        refine wpAny_take (i := 12) (v := ?_) (by simp only [List.getElem?_toArray, List.getElem?_cons_succ, List.getElem?_cons_zero]; rfl) (by kernel_rfl) (by kernel_rfl) (by kernel_rfl) (fun _ _ _ h => h) (Or.inl ⟨by rfl, ?_⟩) ?_
        rotate_left
        · intro w
          go_simp
          try with_reducible rfl
        try simp only [Act.put, List.setIfInBounds_toArray, List.set_cons_zero, List.set_cons_succ]
        refine wpAny_take (i := 13) (v := ?_) (by simp only [List.getElem?_toArray, List.getElem?_cons_succ, List.getElem?_cons_zero]; rfl) (by kernel_rfl) (by kernel_rfl) (by kernel_rfl) (fun _ _ _ h => h) (Or.inl ⟨by rfl, ?_⟩) ?_
        rotate_left
        · intro w
          go_simp
          try with_reducible rfl
        try simp only [Act.put, List.setIfInBounds_toArray, List.set_cons_zero, List.set_cons_succ]
        refine wpAny_ready (rs := [14]) (by kernel_rfl) (by simp) ?_
        refine (AllReady.cons (by simp only [List.getElem?_toArray, List.getElem?_cons_succ, List.getElem?_cons_zero]; rfl) (fun K hK => ?_) AllReady.nil)
        have HK := Lib.hid hK
        clear hK
        go_simp
        have HX4 : Hid (DLx (w3.alloc (.cells #[.int .i64 k, .slice p3 x.length cc3, .int .i64 z] 119)) B d l (fun k => S k ∨ S2 k) S2 r.2 nm (.slice p n c) E) := Lib.hid (HX3.out.kept (T := fun _ => False) (Only.of_below ((Below.refl _ w3).alloc (Nat.le_refl _) _)) (fun _ _ h => h))
        have c4 := HX4.out.log.c2
        have HN4 : Hid (∀ j u, ([.int .i64 k, .slice p3 x.length cc3, .int .i64 z] : List Value)[j]? = some u → (w3.alloc (.cells #[.int .i64 k, .slice p3 x.length cc3, .int .i64 z] 119)).cell? ((⟨w3.heap.size, 0, none⟩ : Addr).add j) = some u) := Lib.hid (World.news_of_block (cs := #[.int .i64 k, .slice p3 x.length cc3, .int .i64 z]) (t := 119) (fr := (0, 0)) (heap_alloc_new w3 _))
        have HV4 : Hid (BOwn (w3.alloc (.cells #[.int .i64 k, .slice p3 x.length cc3, .int .i64 z] 119)) w2.heap.size (.slice p3 x.length cc3) x) := Lib.hid (HV3.out.alloc _)
        have HB4 : Hid (Below w2.heap.size w2 (w3.alloc (.cells #[.int .i64 k, .slice p3 x.length cc3, .int .i64 z] 119))) := Lib.hid (HB3.out.alloc HB3.out.size _)
        have HSZ4 : Hid ((w3.alloc (.cells #[.int .i64 k, .slice p3 x.length cc3, .int .i64 z] 119)).heap.size = w3.heap.size + 1) := Lib.hid (by simp)
        refine HK.out _ _ ?_
        clear HK K
        try simp only [Act.put, List.setIfInBounds_toArray, List.set_cons_zero, List.set_cons_succ]
        refine wpAny_ready (rs := [15]) (by kernel_rfl) (by simp) ?_
        refine (AllReady.cons (by simp only [List.getElem?_toArray, List.getElem?_cons_succ, List.getElem?_cons_zero]; rfl) (fun K hK => ?_) AllReady.nil)
        have HK := Lib.hid hK
        clear hK
        refine step_append_lies _ (by rfl) _ _ _ (by rfl) B 119 i0 _ 3 40 Tryz.underlying104 hi0 hz0 hz1 hz2 rfl (by omega) (.slice p n c) n (lrows 0 E) (by rfl) (by rw [HN.out]; have := HX4.out.log.ra.row; rw [HN.out] at this; exact this) ⟨w3.heap.size, 0, none⟩ 1 1 [.int .i64 k, .slice p3 x.length cc3, .int .i64 z] (by rfl) (by rfl) (fun j u hj => HN4.out j u hj) (by simp [Value.oneCell']) (by decide) HFT.out.1 HFT.out.2 (Nat.le_trans HX4.out.log.bl (Nat.le_of_lt (lt_of_block HX4.out.log.cell))) _ HSZ4.out ?_
        intro gg cc w5 own5 grow5 hat5 hlt5
        have HO5 : Hid (Only (fun k => (Value.slice p n c).ownBlock = some k) (w3.alloc (.cells #[.int .i64 k, .slice p3 x.length cc3, .int .i64 z] 119)) w5) := Lib.hid ((Only.refl _ _).grown grow5 (fun k _ e => e))
        have HOW5 : Hid (w5.ownsRow B 119 3 (.slice (some ⟨gg, 0, none⟩) (n + 1) cc) (n + 1) (lrows 0 E ++ rrow (ends (rcs E)) (.slice p3 x.length cc3, k, x))) := Lib.hid (by rw [rrow, ← HEN.out, ← HZ.out]; exact own5)
        have HAT5 := Lib.hid hat5
        have HGL5 := Lib.hid hlt5
        have hl5 := (HO5.out.block l (lt_of_block HX4.out.log.cell) HX4.out.log.ne_row).trans HX4.out.log.cell
        have c5 : w5.cell? ⟨l, 2, none⟩ = some (.slice p n c) := by rw [cell_of_row w5 l 2 _ _ _ hl5]; rfl
        have f5 : w5.frozen? ⟨l, 2, none⟩ = false := by simp [World.frozen?, hl5]
        clear own5 grow5 hat5 hlt5 hl5
        refine HK.out _ _ ?_
        clear HK K
        try simp only [Act.put, List.setIfInBounds_toArray, List.set_cons_zero, List.set_cons_succ]
        refine wpAny_take (i := 16) (v := ?_) (by simp only [List.getElem?_toArray, List.getElem?_cons_succ, List.getElem?_cons_zero]; rfl) (by kernel_rfl) (by kernel_rfl) (by kernel_rfl) (fun _ _ _ h => h) (Or.inl ⟨by rfl, ?_⟩) ?_
        rotate_left
        · intro w
          go_simp
          try with_reducible rfl
        try simp only [Act.put, List.setIfInBounds_toArray, List.set_cons_zero, List.set_cons_succ]
        refine wpAny_take (i := 17) (v := ?_) (by simp only [List.getElem?_toArray, List.getElem?_cons_succ, List.getElem?_cons_zero]; rfl) (by kernel_rfl) (by kernel_rfl) (by kernel_rfl) (fun _ _ _ h => h) (Or.inl ⟨by rfl, ?_⟩) ?_
        rotate_left
        · intro w
          go_simp
          try with_reducible rfl
        try simp only [Act.put, List.setIfInBounds_toArray, List.set_cons_zero, List.set_cons_succ]
        refine wpAny_ready (rs := [18]) (by kernel_rfl) (by simp) ?_
        refine (AllReady.cons (by simp only [List.getElem?_toArray, List.getElem?_cons_succ, List.getElem?_cons_zero]; rfl) (fun K hK => ?_) AllReady.nil)
        have HK := Lib.hid hK
        clear hK
        go_simp
        refine HK.out _ _ ?_
        clear HK K
        try simp only [Act.put, List.setIfInBounds_toArray, List.set_cons_zero, List.set_cons_succ]
        refine wpAny_done (by kernel_rfl) ?_ _
        refine NoPanic.normal ?_
        clear c2 c2d c3 c4 c5 f5
        go_wp2_with fail
        go_ret
        refine ⟨by rw [HAD.out]; exact eno_0, ?_⟩
        rw [HAD.out]
        have HX4' := HX4.out
        have HOW5' := HOW5.out
        rw [HN.out] at HX4' HOW5' ⊢
        exact add_end HD.out HO2.out HX4' HS2.out (fun j hj => HX2.out.lt j (.inr hj)) HB4.out HV4.out HRK.out hR HOW5' (by have := HO5.out; rw [HN.out] at this; exact this) (by have := HAT5.out; rw [HN.out] at this; exact this) (Nat.le_trans HB3.out.size (Nat.le_succ _)) HGL5.out
      · have HK := Lib.hid hK
        clear hK
        go_simp
        refine HLN.out.mono ?_
        rintro e w4 ⟨rfl, rfl⟩
        go_wp2_with fail
        refine HK.out _ _ ?_
        clear HK K
        try simp only [Act.put, List.setIfInBounds_toArray, List.set_cons_zero, List.set_cons_succ]
        refine wpAny_take (i := 12) (v := ?_) (by simp only [List.getElem?_toArray, List.getElem?_cons_succ, List.getElem?_cons_zero]; rfl) (by kernel_rfl) (by kernel_rfl) (by kernel_rfl) (fun _ _ _ h => h) (Or.inl ⟨by rfl, ?_⟩) ?_
        rotate_left
        · intro w
          go_simp
          try with_reducible rfl
        try simp only [Act.put, List.setIfInBounds_toArray, List.set_cons_zero, List.set_cons_succ]
        refine wpAny_take (i := 13) (v := ?_) (by simp only [List.getElem?_toArray, List.getElem?_cons_succ, List.getElem?_cons_zero]; rfl) (by kernel_rfl) (by kernel_rfl) (by kernel_rfl) (fun _ _ _ h => h) (Or.inl ⟨by rfl, ?_⟩) ?_
        rotate_left
        · intro w
          go_simp
          try with_reducible rfl
        try simp only [Act.put, List.setIfInBounds_toArray, List.set_cons_zero, List.set_cons_succ]
        refine wpAny_ready (rs := [4, 14]) (by kernel_rfl) (by simp) ?_
        refine (AllReady.cons (by simp only [List.getElem?_toArray, List.getElem?_cons_succ, List.getElem?_cons_zero]; rfl) (fun K hK => ?_) (AllReady.cons (by simp only [List.getElem?_toArray, List.getElem?_cons_succ, List.getElem?_cons_zero]; rfl) (fun K hK => ?_) AllReady.nil))
        · have HK := Lib.hid hK
          clear hK
          go_simp
          refine HK.out _ _ ?_
          clear HK K
          try simp only [Act.put, List.setIfInBounds_toArray, List.set_cons_zero, List.set_cons_succ]
          refine wpAny_ready (rs := [14]) (by kernel_rfl) (by simp) ?_
          refine (AllReady.cons (by simp only [List.getElem?_toArray, List.getElem?_cons_succ, List.getElem?_cons_zero]; rfl) (fun K hK => ?_) AllReady.nil)
          have HK := Lib.hid hK
          clear hK
          go_simp
          have HX4 : Hid (DLx (w3.alloc (.cells #[.int .i64 k, .slice p3 x.length cc3, .int .i64 z] 119)) B d l (fun k => S k ∨ S2 k) S2 r.2 nm (.slice p n c) E) := Lib.hid (HX3.out.kept (T := fun _ => False) (Only.of_below ((Below.refl _ w3).alloc (Nat.le_refl _) _)) (fun _ _ h => h))
          have c4 := HX4.out.log.c2
          have HN4 : Hid (∀ j u, ([.int .i64 k, .slice p3 x.length cc3, .int .i64 z] : List Value)[j]? = some u → (w3.alloc (.cells #[.int .i64 k, .slice p3 x.length cc3, .int .i64 z] 119)).cell? ((⟨w3.heap.size, 0, none⟩ : Addr).add j) = some u) := Lib.hid (World.news_of_block (cs := #[.int .i64 k, .slice p3 x.length cc3, .int .i64 z]) (t := 119) (fr := (0, 0)) (heap_alloc_new w3 _))
          have HV4 : Hid (BOwn (w3.alloc (.cells #[.int .i64 k, .slice p3 x.length cc3, .int .i64 z] 119)) w2.heap.size (.slice p3 x.length cc3) x) := Lib.hid (HV3.out.alloc _)
          have HB4 : Hid (Below w2.heap.size w2 (w3.alloc (.cells #[.int .i64 k, .slice p3 x.length cc3, .int .i64 z] 119))) := Lib.hid (HB3.out.alloc HB3.out.size _)
          have HSZ4 : Hid ((w3.alloc (.cells #[.int .i64 k, .slice p3 x.length cc3, .int .i64 z] 119)).heap.size = w3.heap.size + 1) := Lib.hid (by simp)
          refine HK.out _ _ ?_
          clear HK K
          try simp only [Act.put, List.setIfInBounds_toArray, List.set_cons_zero, List.set_cons_succ]
          refine wpAny_ready (rs := [15]) (by kernel_rfl) (by simp) ?_
          refine (AllReady.cons (by simp only [List.getElem?_toArray, List.getElem?_cons_succ, List.getElem?_cons_zero]; rfl) (fun K hK => ?_) AllReady.nil)
          have HK := Lib.hid hK
          clear hK
          refine step_append_lies _ (by rfl) _ _ _ (by rfl) B 119 i0 _ 3 40 Tryz.underlying104 hi0 hz0 hz1 hz2 rfl (by omega) (.slice p n c) n (lrows 0 E) (by rfl) (by rw [HN.out]; have := HX4.out.log.ra.row; rw [HN.out] at this; exact this) ⟨w3.heap.size, 0, none⟩ 1 1 [.int .i64 k, .slice p3 x.length cc3, .int .i64 z] (by rfl) (by rfl) (fun j u hj => HN4.out j u hj) (by simp [Value.oneCell']) (by decide) HFT.out.1 HFT.out.2 (Nat.le_trans HX4.out.log.bl (Nat.le_of_lt (lt_of_block HX4.out.log.cell))) _ HSZ4.out ?_
          intro gg cc w5 own5 grow5 hat5 hlt5
          have HO5 : Hid (Only (fun k => (Value.slice p n c).ownBlock = some k) (w3.alloc (.cells #[.int .i64 k, .slice p3 x.length cc3, .int .i64 z] 119)) w5) := Lib.hid ((Only.refl _ _).grown grow5 (fun k _ e => e))
          have HOW5 : Hid (w5.ownsRow B 119 3 (.slice (some ⟨gg, 0, none⟩) (n + 1) cc) (n + 1) (lrows 0 E ++ rrow (ends (rcs E)) (.slice p3 x.length cc3, k, x))) := Lib.hid (by rw [rrow, ← HEN.out, ← HZ.out]; exact own5)
          have HAT5 := Lib.hid hat5
          have HGL5 := Lib.hid hlt5
          have hl5 := (HO5.out.block l (lt_of_block HX4.out.log.cell) HX4.out.log.ne_row).trans HX4.out.log.cell
          have c5 : w5.cell? ⟨l, 2, none⟩ = some (.slice p n c) := by rw [cell_of_row w5 l 2 _ _ _ hl5]; rfl
          have f5 : w5.frozen? ⟨l, 2, none⟩ = false := by simp [World.frozen?, hl5]
          clear own5 grow5 hat5 hlt5 hl5
          refine HK.out _ _ ?_
          clear HK K
          try simp only [Act.put, List.setIfInBounds_toArray, List.set_cons_zero, List.set_cons_succ]
          refine wpAny_take (i := 16) (v := ?_) (by simp only [List.getElem?_toArray, List.getElem?_cons_succ, List.getElem?_cons_zero]; rfl) (by kernel_rfl) (by kernel_rfl) (by kernel_rfl) (fun _ _ _ h => h) (Or.inl ⟨by rfl, ?_⟩) ?_
          rotate_left
          · intro w
            go_simp
            try with_reducible rfl
          try simp only [Act.put, List.setIfInBounds_toArray, List.set_cons_zero, List.set_cons_succ]
          refine wpAny_take (i := 17) (v := ?_) (by simp only [List.getElem?_toArray, List.getElem?_cons_succ, List.getElem?_cons_zero]; rfl) (by kernel_rfl) (by kernel_rfl) (by kernel_rfl) (fun _ _ _ h => h) (Or.inl ⟨by rfl, ?_⟩) ?_
          rotate_left
          · intro w
            go_simp
            try with_reducible rfl
          try simp only [Act.put, List.setIfInBounds_toArray, List.set_cons_zero, List.set_cons_succ]
          refine wpAny_ready (rs := [18]) (by kernel_rfl) (by simp) ?_
          refine (AllReady.cons (by simp only [List.getElem?_toArray, List.getElem?_cons_succ, List.getElem?_cons_zero]; rfl) (fun K hK => ?_) AllReady.nil)
          have HK := Lib.hid hK
          clear hK
          go_simp
          refine HK.out _ _ ?_
          clear HK K
          try simp only [Act.put, List.setIfInBounds_toArray, List.set_cons_zero, List.set_cons_succ]
          refine wpAny_done (by kernel_rfl) ?_ _
          refine NoPanic.normal ?_
          clear c2 c2d c3 c4 c5 f5
          go_wp2_with fail
          go_ret
          refine ⟨by rw [HAD.out]; exact eno_0, ?_⟩
          rw [HAD.out]
          have HX4' := HX4.out
          have HOW5' := HOW5.out
          rw [HN.out] at HX4' HOW5' ⊢
          exact add_end HD.out HO2.out HX4' HS2.out (fun j hj => HX2.out.lt j (.inr hj)) HB4.out HV4.out HRK.out hR HOW5' (by have := HO5.out; rw [HN.out] at this; exact this) (by have := HAT5.out; rw [HN.out] at this; exact this) (Nat.le_trans HB3.out.size (Nat.le_succ _)) HGL5.out
        · have HK := Lib.hid hK
          clear hK
          go_simp
          have HX4 : Hid (DLx (w3.alloc (.cells #[.int .i64 k, .slice p3 x.length cc3, .int .i64 z] 119)) B d l (fun k => S k ∨ S2 k) S2 r.2 nm (.slice p n c) E) := Lib.hid (HX3.out.kept (T := fun _ => False) (Only.of_below ((Below.refl _ w3).alloc (Nat.le_refl _) _)) (fun _ _ h => h))
          have c4 := HX4.out.log.c2
          have HN4 : Hid (∀ j u, ([.int .i64 k, .slice p3 x.length cc3, .int .i64 z] : List Value)[j]? = some u → (w3.alloc (.cells #[.int .i64 k, .slice p3 x.length cc3, .int .i64 z] 119)).cell? ((⟨w3.heap.size, 0, none⟩ : Addr).add j) = some u) := Lib.hid (World.news_of_block (cs := #[.int .i64 k, .slice p3 x.length cc3, .int .i64 z]) (t := 119) (fr := (0, 0)) (heap_alloc_new w3 _))
          have HV4 : Hid (BOwn (w3.alloc (.cells #[.int .i64 k, .slice p3 x.length cc3, .int .i64 z] 119)) w2.heap.size (.slice p3 x.length cc3) x) := Lib.hid (HV3.out.alloc _)
          have HB4 : Hid (Below w2.heap.size w2 (w3.alloc (.cells #[.int .i64 k, .slice p3 x.length cc3, .int .i64 z] 119))) := Lib.hid (HB3.out.alloc HB3.out.size _)
          have HSZ4 : Hid ((w3.alloc (.cells #[.int .i64 k, .slice p3 x.length cc3, .int .i64 z] 119)).heap.size = w3.heap.size + 1) := Lib.hid (by simp)
          refine HK.out _ _ ?_
          clear HK K
          try simp only [Act.put, List.setIfInBounds_toArray, List.set_cons_zero, List.set_cons_succ]
          refine wpAny_ready (rs := [4]) (by kernel_rfl) (by simp) ?_
          refine (AllReady.cons (by simp only [List.getElem?_toArray, List.getElem?_cons_succ, List.getElem?_cons_zero]; rfl) (fun K hK => ?_) AllReady.nil)
          have HK := Lib.hid hK
          clear hK
          go_simp
          refine HK.out _ _ ?_
          clear HK K
          try simp only [Act.put, List.setIfInBounds_toArray, List.set_cons_zero, List.set_cons_succ]
          refine wpAny_ready (rs := [15]) (by kernel_rfl) (by simp) ?_
          refine (AllReady.cons (by simp only [List.getElem?_toArray, List.getElem?_cons_succ, List.getElem?_cons_zero]; rfl) (fun K hK => ?_) AllReady.nil)
          have HK := Lib.hid hK
          clear hK
          refine step_append_lies _ (by rfl) _ _ _ (by rfl) B 119 i0 _ 3 40 Tryz.underlying104 hi0 hz0 hz1 hz2 rfl (by omega) (.slice p n c) n (lrows 0 E) (by rfl) (by rw [HN.out]; have := HX4.out.log.ra.row; rw [HN.out] at this; exact this) ⟨w3.heap.size, 0, none⟩ 1 1 [.int .i64 k, .slice p3 x.length cc3, .int .i64 z] (by rfl) (by rfl) (fun j u hj => HN4.out j u hj) (by simp [Value.oneCell']) (by decide) HFT.out.1 HFT.out.2 (Nat.le_trans HX4.out.log.bl (Nat.le_of_lt (lt_of_block HX4.out.log.cell))) _ HSZ4.out ?_
          intro gg cc w5 own5 grow5 hat5 hlt5
          have HO5 : Hid (Only (fun k => (Value.slice p n c).ownBlock = some k) (w3.alloc (.cells #[.int .i64 k, .slice p3 x.length cc3, .int .i64 z] 119)) w5) := Lib.hid ((Only.refl _ _).grown grow5 (fun k _ e => e))
          have HOW5 : Hid (w5.ownsRow B 119 3 (.slice (some ⟨gg, 0, none⟩) (n + 1) cc) (n + 1) (lrows 0 E ++ rrow (ends (rcs E)) (.slice p3 x.length cc3, k, x))) := Lib.hid (by rw [rrow, ← HEN.out, ← HZ.out]; exact own5)
          have HAT5 := Lib.hid hat5
          have HGL5 := Lib.hid hlt5
          have hl5 := (HO5.out.block l (lt_of_block HX4.out.log.cell) HX4.out.log.ne_row).trans HX4.out.log.cell
          have c5 : w5.cell? ⟨l, 2, none⟩ = some (.slice p n c) := by rw [cell_of_row w5 l 2 _ _ _ hl5]; rfl
          have f5 : w5.frozen? ⟨l, 2, none⟩ = false := by simp [World.frozen?, hl5]
          clear own5 grow5 hat5 hlt5 hl5
          refine HK.out _ _ ?_
          clear HK K
          try simp only [Act.put, List.setIfInBounds_toArray, List.set_cons_zero, List.set_cons_succ]
          refine wpAny_take (i := 16) (v := ?_) (by simp only [List.getElem?_toArray, List.getElem?_cons_succ, List.getElem?_cons_zero]; rfl) (by kernel_rfl) (by kernel_rfl) (by kernel_rfl) (fun _ _ _ h => h) (Or.inl ⟨by rfl, ?_⟩) ?_
          rotate_left
          · intro w
            go_simp
            try with_reducible rfl
          try simp only [Act.put, List.setIfInBounds_toArray, List.set_cons_zero, List.set_cons_succ]
          refine wpAny_take (i := 17) (v := ?_) (by simp only [List.getElem?_toArray, List.getElem?_cons_succ, List.getElem?_cons_zero]; rfl) (by kernel_rfl) (by kernel_rfl) (by kernel_rfl) (fun _ _ _ h => h) (Or.inl ⟨by rfl, ?_⟩) ?_
          rotate_left
          · intro w
            go_simp
            try with_reducible rfl
          try simp only [Act.put, List.setIfInBounds_toArray, List.set_cons_zero, List.set_cons_succ]
          refine wpAny_ready (rs := [18]) (by kernel_rfl) (by simp) ?_
          refine (AllReady.cons (by simp only [List.getElem?_toArray, List.getElem?_cons_succ, List.getElem?_cons_zero]; rfl) (fun K hK => ?_) AllReady.nil)
          have HK := Lib.hid hK
          clear hK
          go_simp
          refine HK.out _ _ ?_
          clear HK K
          try simp only [Act.put, List.setIfInBounds_toArray, List.set_cons_zero, List.set_cons_succ]
          refine wpAny_done (by kernel_rfl) ?_ _
          refine NoPanic.normal ?_
          clear c2 c2d c3 c4 c5 f5
          go_wp2_with fail
          go_ret
          refine ⟨by rw [HAD.out]; exact eno_0, ?_⟩
          rw [HAD.out]
          have HX4' := HX4.out
          have HOW5' := HOW5.out
          rw [HN.out] at HX4' HOW5' ⊢
          exact add_end HD.out HO2.out HX4' HS2.out (fun j hj => HX2.out.lt j (.inr hj)) HB4.out HV4.out HRK.out hR HOW5' (by have := HO5.out; rw [HN.out] at this; exact this) (by have := HAT5.out; rw [HN.out] at this; exact this) (Nat.le_trans HB3.out.size (Nat.le_succ _)) HGL5.out
end Go.Proofs.YtageblggakfbdaaGreatDoor
