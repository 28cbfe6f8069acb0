/- Cut. Conditions: the numbers are no greater than a program's may be. -/
import Derived.Test.YtageblggakfbdaaGreatDoorLogF
import Derived.Test.YtageblggakfbdaaGreatDoorLogK
namespace Go.Proofs.YtageblggakfbdaaGreatDoor
open Go.RowKit
open Go.Maps

def St.has (s : St) (nm : Key) : Bool := if s.dead = true then false else (aget nm s.files).isSome
def trS (s : St) (nm : Key) (L : Int) : Int × St := if L = 0 ∧ s.has nm = false then (0, s) else s.truncate nm L
def cutS (s : St) (nm : Key) (R : List Rc) (L : Int) : Int × St × List Rc :=
  match cutAt R L with
  | none => (1, s, R)
  | some k => if (trS s nm L).1 = 0 then (0, (trS s nm L).2, R.take k) else ((trS s nm L).1, (trS s nm L).2, R)
def TrPost (w : World) (B d l : Nat) (S : Nat → Prop) (nm : Key) (R : List Rc) (r : Int × St) (e : Ending) (w' : World) : Prop := e = .returned (enoOf r.1) ∧ LPost w B d l S r.2 nm R w'
theorem read_has (w : World) (B b : Nat) (S : Nat → Prop) (s : St) (n : Key) (h : DS w B b S s) (hn : n.length ≤ maxLen) :
    Calls Tryz.prog 38 #[.pointer (some ⟨b,0,none⟩), stv n] w fun e w' => ∃ v, e = .returned (.tuple #[v, .bool (s.has n)]) ∧ BOwn w' w.heap.size v (s.rd n) ∧ Below w.heap.size w w' := read_to w B b S s n h hn
theorem DLx.drew {W : World} {B d l : Nat} {S S0 : Nat → Prop} {s : St} {nm : Key} {rv : Value} {E : List Re} (h : DLx W B d l S S0 s nm rv E) : DLx W.drew B d l S S0 s nm rv E := h.kept (T := fun _ => False) ⟨rfl, rfl, rfl, Nat.le_refl _, fun _ _ _ => rfl⟩ (fun _ _ h => h)
set_option maxRecDepth 20000 in
set_option maxHeartbeats 4000000 in
theorem ltrunc_to (w : World) (B d l : Nat) (S S0 : Nat → Prop) (s : St) (nm : Key) (rv : Value) (E : List Re) (L : Int) (h : DLx w B d l S S0 s nm rv E) (hw : s.works ≤ 900000000) (hfu : s.fuse < 9223372036854775808) (hnm : nm.length ≤ 281474976710656) :
    Calls Tryz.prog 72 #[.pointer (some ⟨l, 0, none⟩), .int .i64 L] w (TrPost w B d l S nm (rcs E) (trS s nm L)) := by
  have HXW := Lib.hid h
  by_cases h0 : L = 0
  · have HRD := Lib.hid (read_has w.drew B d S0 s nm h.drew.ds (Nat.le_trans hnm (by decide)))
    obtain ⟨hb, hhb⟩ : ∃ hb, hb = s.has nm := ⟨_, rfl⟩
    have HHB := Lib.hid hhb
    rw [← hhb] at HRD
    clear hhb
    have h0' : (L == 0) = true := by simpa using h0
    have HL0 := Lib.hid h0
    clear h h0
    go_enter Tryz.func72, Tryz.ntmps72
    go_wp2_with fail
    try simp only [List.append]
    refine wp_region_noPanic ?_
    refine wp_region_held_drew (S := (fun W => W.cell? ⟨l, 0, none⟩ = some (.pointer (some ⟨d, 0, none⟩)) ∧ W.cell? ⟨l, 1, none⟩ = some (stv nm))) (by kernel_rfl) ⟨HXW.out.log.c0, HXW.out.log.c1⟩ (fun hHeld => ?_)
    refine wpAnyH_take (i := 0) (v := ?_) (by simp only [List.getElem?_toArray, List.getElem?_cons_zero]; rfl) (by kernel_rfl) (by kernel_rfl) (by kernel_rfl) (fun _ _ _ h => h) (Or.inl ⟨by rfl, ?_⟩) (by assumption) ?_
    rotate_left
    · intro w hSw
      try dsimp only at hSw
      go_simp
      try with_reducible rfl
    try simp only [Act.put, List.setIfInBounds_toArray, List.set_cons_zero, List.set_cons_succ]
    refine wpAnyH_take (i := 1) (v := ?_) (by simp only [List.getElem?_toArray, List.getElem?_cons_succ, List.getElem?_cons_zero]; rfl) (by kernel_rfl) (by kernel_rfl) (by kernel_rfl) (fun _ _ _ h => h) (Or.inl ⟨by rfl, ?_⟩) (by assumption) ?_
    rotate_left
    · intro w hSw
      try dsimp only at hSw
      go_simp
      try with_reducible rfl
    try simp only [Act.put, List.setIfInBounds_toArray, List.set_cons_zero, List.set_cons_succ]
    refine wpAnyH_take (i := 2) (v := ?_) (by simp only [List.getElem?_toArray, List.getElem?_cons_succ, List.getElem?_cons_zero]; rfl) (by kernel_rfl) (by kernel_rfl) (by kernel_rfl) (fun _ _ _ h => h) (Or.inl ⟨by rfl, ?_⟩) (by assumption) ?_
    rotate_left
    · intro w hSw
      try dsimp only at hSw
      go_simp
      try with_reducible rfl
    try simp only [Act.put, List.setIfInBounds_toArray, List.set_cons_zero, List.set_cons_succ]
    refine wpAnyH_take (i := 3) (v := ?_) (by simp only [List.getElem?_toArray, List.getElem?_cons_succ, List.getElem?_cons_zero]; rfl) (by kernel_rfl) (by kernel_rfl) (by kernel_rfl) (fun _ _ _ h => h) (Or.inl ⟨by rfl, ?_⟩) (by assumption) ?_
    rotate_left
    · intro w hSw
      try dsimp only at hSw
      go_simp
      try with_reducible rfl
    try simp only [Act.put, List.setIfInBounds_toArray, List.set_cons_zero, List.set_cons_succ]
    refine wpAnyH_take (i := 4) (v := ?_) (by simp only [List.getElem?_toArray, List.getElem?_cons_succ, List.getElem?_cons_zero]; rfl) (by kernel_rfl) (by kernel_rfl) (by kernel_rfl) (fun _ _ _ h => h) (Or.inl ⟨by rfl, ?_⟩) (by assumption) ?_
    rotate_left
    · intro w hSw
      try dsimp only at hSw
      go_simp
      try with_reducible rfl
    try simp only [Act.put, List.setIfInBounds_toArray, List.set_cons_zero, List.set_cons_succ]
    refine wpAnyH_take (i := 5) (v := ?_) (by simp only [List.getElem?_toArray, List.getElem?_cons_succ, List.getElem?_cons_zero]; rfl) (by kernel_rfl) (by kernel_rfl) (by kernel_rfl) (fun _ _ _ h => h) (Or.inl ⟨by rfl, ?_⟩) (by assumption) ?_
    rotate_left
    · intro w hSw
      try dsimp only at hSw
      go_simp
      try with_reducible rfl
    try simp only [Act.put, List.setIfInBounds_toArray, List.set_cons_zero, List.set_cons_succ]
    refine wpAnyH_take (i := 6) (v := ?_) (by simp only [List.getElem?_toArray, List.getElem?_cons_succ, List.getElem?_cons_zero]; rfl) (by kernel_rfl) (by kernel_rfl) (by kernel_rfl) (fun _ _ _ h => h) (Or.inl ⟨by rfl, ?_⟩) (by assumption) ?_
    rotate_left
    · intro w hSw
      try dsimp only at hSw
      go_simp
      try with_reducible rfl
    try simp only [Act.put, List.setIfInBounds_toArray, List.set_cons_zero, List.set_cons_succ]
    refine wpAnyH_take (i := 7) (v := ?_) (by simp only [List.getElem?_toArray, List.getElem?_cons_succ, List.getElem?_cons_zero]; rfl) (by kernel_rfl) (by kernel_rfl) (by kernel_rfl) (fun _ _ _ h => h) (Or.inl ⟨by rfl, ?_⟩) (by assumption) ?_
    rotate_left
    · intro w hSw
      try dsimp only at hSw
      go_simp
      try with_reducible rfl
    try simp only [Act.put, List.setIfInBounds_toArray, List.set_cons_zero, List.set_cons_succ]
    refine wpAnyH_ready (rs := [8]) (by kernel_rfl) (by simp) ?_
    refine AllReadyH.cons (by simp only [List.getElem?_toArray, List.getElem?_cons_succ, List.getElem?_cons_zero]; rfl) (fun K hK => ?_) AllReadyH.nil
    go_simp
    refine HRD.out.mono ?_
    rintro e w2 ⟨v2, rfl, o2, b2⟩
    have B2 : Hid (Below w.heap.size w w2) := Lib.hid ⟨b2.os, b2.tape, b2.output, b2.size, b2.block⟩
    have HX2 := Lib.hid (HXW.out.kept (T := fun _ => False) (Only.of_below B2.out) (fun _ _ h => h))
    obtain ⟨p2, c2, rfl⟩ := own_slice o2
    clear o2 b2 HRD
    go_wp2_with fail
    refine hK.out _ _ ⟨HX2.out.log.c0, HX2.out.log.c1⟩ (fun hHeld => ?_)
    clear hK K
    try simp only [Act.put, List.setIfInBounds_toArray, List.set_cons_zero, List.set_cons_succ]
    refine wpAnyH_take (i := 9) (v := ?_) (by simp only [List.getElem?_toArray, List.getElem?_cons_succ, List.getElem?_cons_zero]; rfl) (by kernel_rfl) (by kernel_rfl) (by kernel_rfl) (fun _ _ _ h => h) (Or.inl ⟨by rfl, ?_⟩) (by assumption) ?_
    rotate_left
    · intro w hSw
      try dsimp only at hSw
      go_simp
      try with_reducible rfl
    try simp only [Act.put, List.setIfInBounds_toArray, List.set_cons_zero, List.set_cons_succ]
    refine wpAnyH_take (i := 10) (v := ?_) (by simp only [List.getElem?_toArray, List.getElem?_cons_succ, List.getElem?_cons_zero]; rfl) (by kernel_rfl) (by kernel_rfl) (by kernel_rfl) (fun _ _ _ h => h) (Or.inl ⟨by rfl, ?_⟩) (by assumption) ?_
    rotate_left
    · intro w hSw
      try dsimp only at hSw
      go_simp
      try with_reducible rfl
    try simp only [Act.put, List.setIfInBounds_toArray, List.set_cons_zero, List.set_cons_succ]
    refine wpAnyH_take (i := 11) (v := ?_) (by simp only [List.getElem?_toArray, List.getElem?_cons_succ, List.getElem?_cons_zero]; rfl) (by kernel_rfl) (by kernel_rfl) (by kernel_rfl) (fun _ _ _ h => h) (Or.inl ⟨by rfl, ?_⟩) (by assumption) ?_
    rotate_left
    · intro w hSw
      try dsimp only at hSw
      go_simp
      try with_reducible rfl
    try simp only [Act.put, List.setIfInBounds_toArray, List.set_cons_zero, List.set_cons_succ]
    refine wpAnyH_take (i := 12) (v := ?_) (by simp only [List.getElem?_toArray, List.getElem?_cons_succ, List.getElem?_cons_zero]; rfl) (by kernel_rfl) (by kernel_rfl) (by kernel_rfl) (fun _ _ _ h => h) (Or.inl ⟨by rfl, ?_⟩) (by assumption) ?_
    rotate_left
    · intro w hSw
      try dsimp only at hSw
      go_simp
      try with_reducible rfl
    try simp only [Act.put, List.setIfInBounds_toArray, List.set_cons_zero, List.set_cons_succ]
    refine wpAnyH_take (i := 13) (v := ?_) (by simp only [List.getElem?_toArray, List.getElem?_cons_succ, List.getElem?_cons_zero]; rfl) (by kernel_rfl) (by kernel_rfl) (by kernel_rfl) (fun _ _ _ h => h) (Or.inl ⟨by rfl, ?_⟩) (by assumption) ?_
    rotate_left
    · intro w hSw
      try dsimp only at hSw
      go_simp
      try with_reducible rfl
    try simp only [Act.put, List.setIfInBounds_toArray, List.set_cons_zero, List.set_cons_succ]
    refine wpAnyH_done (by kernel_rfl) ?_ _
    refine NoPanic.normal ?_
    by_cases hh : hb = false
    · have HR : Hid (trS s nm L = (0, s)) := Lib.hid (by unfold trS; rw [if_pos ⟨HL0.out, by rw [← HHB.out]; exact hh⟩])
      subst hh
      go_wp2_with fail
      go_ret
      exact ⟨by rw [HR.out]; exact eno_0, by rw [HR.out]; exact LPost.same ⟨S0, rv, E, HXW.out, rfl⟩ B2.out⟩
    have HR : Hid (trS s nm L = s.truncate nm L) := Lib.hid (by unfold trS; rw [if_neg (fun h => hh (by rw [HHB.out]; exact h.2))])
    obtain rfl : hb = true := by simpa using hh
    clear hh
    have HT := Lib.hid (truncate_to w2.drew B d S0 s nm L HX2.out.drew.ds hw hfu hnm)
    go_wp2_with fail
    try simp only [List.append]
    refine wp_region_noPanic ?_
    refine wp_region_held_drew (S := (fun W => W.cell? ⟨l, 0, none⟩ = some (.pointer (some ⟨d, 0, none⟩)) ∧ W.cell? ⟨l, 1, none⟩ = some (stv nm))) (by kernel_rfl) ⟨HX2.out.log.c0, HX2.out.log.c1⟩ (fun hHeld => ?_)
    refine wpAnyH_take (i := 0) (v := ?_) (by simp only [List.getElem?_toArray, List.getElem?_cons_zero]; rfl) (by kernel_rfl) (by kernel_rfl) (by kernel_rfl) (fun _ _ _ h => h) (Or.inl ⟨by rfl, ?_⟩) (by assumption) ?_
    rotate_left
    · intro w hSw
      try dsimp only at hSw
      go_simp
      try with_reducible rfl
    try simp only [Act.put, List.setIfInBounds_toArray, List.set_cons_zero, List.set_cons_succ]
    refine wpAnyH_take (i := 1) (v := ?_) (by simp only [List.getElem?_toArray, List.getElem?_cons_succ, List.getElem?_cons_zero]; rfl) (by kernel_rfl) (by kernel_rfl) (by kernel_rfl) (fun _ _ _ h => h) (Or.inl ⟨by rfl, ?_⟩) (by assumption) ?_
    rotate_left
    · intro w hSw
      try dsimp only at hSw
      go_simp
      try with_reducible rfl
    try simp only [Act.put, List.setIfInBounds_toArray, List.set_cons_zero, List.set_cons_succ]
    refine wpAnyH_take (i := 2) (v := ?_) (by simp only [List.getElem?_toArray, List.getElem?_cons_succ, List.getElem?_cons_zero]; rfl) (by kernel_rfl) (by kernel_rfl) (by kernel_rfl) (fun _ _ _ h => h) (Or.inl ⟨by rfl, ?_⟩) (by assumption) ?_
    rotate_left
    · intro w hSw
      try dsimp only at hSw
      go_simp
      try with_reducible rfl
    try simp only [Act.put, List.setIfInBounds_toArray, List.set_cons_zero, List.set_cons_succ]
    refine wpAnyH_take (i := 3) (v := ?_) (by simp only [List.getElem?_toArray, List.getElem?_cons_succ, List.getElem?_cons_zero]; rfl) (by kernel_rfl) (by kernel_rfl) (by kernel_rfl) (fun _ _ _ h => h) (Or.inl ⟨by rfl, ?_⟩) (by assumption) ?_
    rotate_left
    · intro w hSw
      try dsimp only at hSw
      go_simp
      try with_reducible rfl
    try simp only [Act.put, List.setIfInBounds_toArray, List.set_cons_zero, List.set_cons_succ]
    refine wpAnyH_take (i := 4) (v := ?_) (by simp only [List.getElem?_toArray, List.getElem?_cons_succ, List.getElem?_cons_zero]; rfl) (by kernel_rfl) (by kernel_rfl) (by kernel_rfl) (fun _ _ _ h => h) (Or.inl ⟨by rfl, ?_⟩) (by assumption) ?_
    rotate_left
    · intro w hSw
      try dsimp only at hSw
      go_simp
      try with_reducible rfl
    try simp only [Act.put, List.setIfInBounds_toArray, List.set_cons_zero, List.set_cons_succ]
    refine wpAnyH_take (i := 5) (v := ?_) (by simp only [List.getElem?_toArray, List.getElem?_cons_succ, List.getElem?_cons_zero]; rfl) (by kernel_rfl) (by kernel_rfl) (by kernel_rfl) (fun _ _ _ h => h) (Or.inl ⟨by rfl, ?_⟩) (by assumption) ?_
    rotate_left
    · intro w hSw
      try dsimp only at hSw
      go_simp
      try with_reducible rfl
    try simp only [Act.put, List.setIfInBounds_toArray, List.set_cons_zero, List.set_cons_succ]
    refine wpAnyH_take (i := 6) (v := ?_) (by simp only [List.getElem?_toArray, List.getElem?_cons_succ, List.getElem?_cons_zero]; rfl) (by kernel_rfl) (by kernel_rfl) (by kernel_rfl) (fun _ _ _ h => h) (Or.inl ⟨by rfl, ?_⟩) (by assumption) ?_
    rotate_left
    · intro w hSw
      try dsimp only at hSw
      go_simp
      try with_reducible rfl
    try simp only [Act.put, List.setIfInBounds_toArray, List.set_cons_zero, List.set_cons_succ]
    refine wpAnyH_take (i := 7) (v := ?_) (by simp only [List.getElem?_toArray, List.getElem?_cons_succ, List.getElem?_cons_zero]; rfl) (by kernel_rfl) (by kernel_rfl) (by kernel_rfl) (fun _ _ _ h => h) (Or.inl ⟨by rfl, ?_⟩) (by assumption) ?_
    rotate_left
    · intro w hSw
      try dsimp only at hSw
      go_simp
      try with_reducible rfl
    try simp only [Act.put, List.setIfInBounds_toArray, List.set_cons_zero, List.set_cons_succ]
    refine wpAnyH_take (i := 8) (v := ?_) (by simp only [List.getElem?_toArray, List.getElem?_cons_succ, List.getElem?_cons_zero]; rfl) (by kernel_rfl) (by kernel_rfl) (by kernel_rfl) (fun _ _ _ h => h) (Or.inl ⟨by rfl, ?_⟩) (by assumption) ?_
    rotate_left
    · intro w hSw
      try dsimp only at hSw
      go_simp
      try with_reducible rfl
    try simp only [Act.put, List.setIfInBounds_toArray, List.set_cons_zero, List.set_cons_succ]
    refine wpAnyH_ready (rs := [9]) (by kernel_rfl) (by simp) ?_
    refine AllReadyH.cons (by simp only [List.getElem?_toArray, List.getElem?_cons_succ, List.getElem?_cons_zero]; rfl) (fun K hK => ?_) AllReadyH.nil
    go_simp
    refine HT.out.mono ?_
    rintro e w4 ⟨rfl, S4, d4, o4, s4⟩
    have HP : Hid (LPost w2 B d l S (s.truncate nm L).2 nm (rcs E) w4) := Lib.hid (HX2.out.disk' d4 ⟨o4.os, o4.tape, o4.output, o4.size, o4.block⟩ s4)
    have HX4 := Lib.hid (HX2.out.disk d4 ⟨o4.os, o4.tape, o4.output, o4.size, o4.block⟩ s4)
    clear d4 o4 s4 HT
    go_wp2_with fail
    refine hK.out _ _ ⟨HX4.out.log.c0, HX4.out.log.c1⟩ (fun hHeld => ?_)
    clear hK K
    try simp only [Act.put, List.setIfInBounds_toArray, List.set_cons_zero, List.set_cons_succ]
    refine wpAnyH_take (i := 10) (v := ?_) (by simp only [List.getElem?_toArray, List.getElem?_cons_succ, List.getElem?_cons_zero]; rfl) (by kernel_rfl) (by kernel_rfl) (by kernel_rfl) (fun _ _ _ h => h) (Or.inl ⟨by rfl, ?_⟩) (by assumption) ?_
    rotate_left
    · intro w hSw
      try dsimp only at hSw
      go_simp
      try with_reducible rfl
    try simp only [Act.put, List.setIfInBounds_toArray, List.set_cons_zero, List.set_cons_succ]
    refine wpAnyH_done (by kernel_rfl) ?_ _
    refine NoPanic.normal ?_
    obtain ⟨t, ht⟩ : ∃ t, t = s.truncate nm L := ⟨_, rfl⟩
    rw [← ht] at HP HR ⊢
    clear ht
    go_wp2_with fail
    go_ret
    exact ⟨by rw [HR.out]; rfl, by rw [HR.out]; exact LPost.trans (S1 := S) (Only.of_below B2.out) (fun _ h => .inl h) HP.out⟩
  · have HR : Hid (trS s nm L = s.truncate nm L) := Lib.hid (by unfold trS; rw [if_neg (fun h => h0 h.1)])
    have HT := Lib.hid (truncate_to w.drew B d S0 s nm L h.drew.ds hw hfu hnm)
    have h0' : (L == 0) = false := by simpa using h0
    clear h h0
    go_enter Tryz.func72, Tryz.ntmps72
    go_wp2_with fail
    try simp only [List.append]
    refine wp_region_noPanic ?_
    refine wp_region_held_drew (S := (fun W => W.cell? ⟨l, 0, none⟩ = some (.pointer (some ⟨d, 0, none⟩)) ∧ W.cell? ⟨l, 1, none⟩ = some (stv nm))) (by kernel_rfl) ⟨HXW.out.log.c0, HXW.out.log.c1⟩ (fun hHeld => ?_)
    refine wpAnyH_take (i := 0) (v := ?_) (by simp only [List.getElem?_toArray, List.getElem?_cons_zero]; rfl) (by kernel_rfl) (by kernel_rfl) (by kernel_rfl) (fun _ _ _ h => h) (Or.inl ⟨by rfl, ?_⟩) (by assumption) ?_
    rotate_left
    · intro w hSw
      try dsimp only at hSw
      go_simp
      try with_reducible rfl
    try simp only [Act.put, List.setIfInBounds_toArray, List.set_cons_zero, List.set_cons_succ]
    refine wpAnyH_take (i := 1) (v := ?_) (by simp only [List.getElem?_toArray, List.getElem?_cons_succ, List.getElem?_cons_zero]; rfl) (by kernel_rfl) (by kernel_rfl) (by kernel_rfl) (fun _ _ _ h => h) (Or.inl ⟨by rfl, ?_⟩) (by assumption) ?_
    rotate_left
    · intro w hSw
      try dsimp only at hSw
      go_simp
      try with_reducible rfl
    try simp only [Act.put, List.setIfInBounds_toArray, List.set_cons_zero, List.set_cons_succ]
    refine wpAnyH_take (i := 2) (v := ?_) (by simp only [List.getElem?_toArray, List.getElem?_cons_succ, List.getElem?_cons_zero]; rfl) (by kernel_rfl) (by kernel_rfl) (by kernel_rfl) (fun _ _ _ h => h) (Or.inl ⟨by rfl, ?_⟩) (by assumption) ?_
    rotate_left
    · intro w hSw
      try dsimp only at hSw
      go_simp
      try with_reducible rfl
    try simp only [Act.put, List.setIfInBounds_toArray, List.set_cons_zero, List.set_cons_succ]
    refine wpAnyH_take (i := 3) (v := ?_) (by simp only [List.getElem?_toArray, List.getElem?_cons_succ, List.getElem?_cons_zero]; rfl) (by kernel_rfl) (by kernel_rfl) (by kernel_rfl) (fun _ _ _ h => h) (Or.inl ⟨by rfl, ?_⟩) (by assumption) ?_
    rotate_left
    · intro w hSw
      try dsimp only at hSw
      go_simp
      try with_reducible rfl
    try simp only [Act.put, List.setIfInBounds_toArray, List.set_cons_zero, List.set_cons_succ]
    refine wpAnyH_take (i := 4) (v := ?_) (by simp only [List.getElem?_toArray, List.getElem?_cons_succ, List.getElem?_cons_zero]; rfl) (by kernel_rfl) (by kernel_rfl) (by kernel_rfl) (fun _ _ _ h => h) (Or.inl ⟨by rfl, ?_⟩) (by assumption) ?_
    rotate_left
    · intro w hSw
      try dsimp only at hSw
      go_simp
      try with_reducible rfl
    try simp only [Act.put, List.setIfInBounds_toArray, List.set_cons_zero, List.set_cons_succ]
    refine wpAnyH_take (i := 5) (v := ?_) (by simp only [List.getElem?_toArray, List.getElem?_cons_succ, List.getElem?_cons_zero]; rfl) (by kernel_rfl) (by kernel_rfl) (by kernel_rfl) (fun _ _ _ h => h) (Or.inl ⟨by rfl, ?_⟩) (by assumption) ?_
    rotate_left
    · intro w hSw
      try dsimp only at hSw
      go_simp
      try with_reducible rfl
    try simp only [Act.put, List.setIfInBounds_toArray, List.set_cons_zero, List.set_cons_succ]
    refine wpAnyH_take (i := 6) (v := ?_) (by simp only [List.getElem?_toArray, List.getElem?_cons_succ, List.getElem?_cons_zero]; rfl) (by kernel_rfl) (by kernel_rfl) (by kernel_rfl) (fun _ _ _ h => h) (Or.inl ⟨by rfl, ?_⟩) (by assumption) ?_
    rotate_left
    · intro w hSw
      try dsimp only at hSw
      go_simp
      try with_reducible rfl
    try simp only [Act.put, List.setIfInBounds_toArray, List.set_cons_zero, List.set_cons_succ]
    refine wpAnyH_take (i := 7) (v := ?_) (by simp only [List.getElem?_toArray, List.getElem?_cons_succ, List.getElem?_cons_zero]; rfl) (by kernel_rfl) (by kernel_rfl) (by kernel_rfl) (fun _ _ _ h => h) (Or.inl ⟨by rfl, ?_⟩) (by assumption) ?_
    rotate_left
    · intro w hSw
      try dsimp only at hSw
      go_simp
      try with_reducible rfl
    try simp only [Act.put, List.setIfInBounds_toArray, List.set_cons_zero, List.set_cons_succ]
    refine wpAnyH_take (i := 8) (v := ?_) (by simp only [List.getElem?_toArray, List.getElem?_cons_succ, List.getElem?_cons_zero]; rfl) (by kernel_rfl) (by kernel_rfl) (by kernel_rfl) (fun _ _ _ h => h) (Or.inl ⟨by rfl, ?_⟩) (by assumption) ?_
    rotate_left
    · intro w hSw
      try dsimp only at hSw
      go_simp
      try with_reducible rfl
    try simp only [Act.put, List.setIfInBounds_toArray, List.set_cons_zero, List.set_cons_succ]
    refine wpAnyH_ready (rs := [9]) (by kernel_rfl) (by simp) ?_
    refine AllReadyH.cons (by simp only [List.getElem?_toArray, List.getElem?_cons_succ, List.getElem?_cons_zero]; rfl) (fun K hK => ?_) AllReadyH.nil
    go_simp
    refine HT.out.mono ?_
    rintro e w4 ⟨rfl, S4, d4, o4, s4⟩
    have HP : Hid (LPost w B d l S (s.truncate nm L).2 nm (rcs E) w4) := Lib.hid (HXW.out.disk' d4 ⟨o4.os, o4.tape, o4.output, o4.size, o4.block⟩ s4)
    have HX4 := Lib.hid (HXW.out.disk d4 ⟨o4.os, o4.tape, o4.output, o4.size, o4.block⟩ s4)
    clear d4 o4 s4 HT
    go_wp2_with fail
    refine hK.out _ _ ⟨HX4.out.log.c0, HX4.out.log.c1⟩ (fun hHeld => ?_)
    clear hK K
    try simp only [Act.put, List.setIfInBounds_toArray, List.set_cons_zero, List.set_cons_succ]
    refine wpAnyH_take (i := 10) (v := ?_) (by simp only [List.getElem?_toArray, List.getElem?_cons_succ, List.getElem?_cons_zero]; rfl) (by kernel_rfl) (by kernel_rfl) (by kernel_rfl) (fun _ _ _ h => h) (Or.inl ⟨by rfl, ?_⟩) (by assumption) ?_
    rotate_left
    · intro w hSw
      try dsimp only at hSw
      go_simp
      try with_reducible rfl
    try simp only [Act.put, List.setIfInBounds_toArray, List.set_cons_zero, List.set_cons_succ]
    refine wpAnyH_done (by kernel_rfl) ?_ _
    refine NoPanic.normal ?_
    obtain ⟨t, ht⟩ : ∃ t, t = s.truncate nm L := ⟨_, rfl⟩
    rw [← ht] at HP HR ⊢
    clear ht
    go_wp2_with fail
    go_ret
    exact ⟨by rw [HR.out]; rfl, by rw [HR.out]; exact HP.out⟩
theorem cutAt_le {R : List Rc} {L : Int} {k : Nat} (h : cutAt R L = some k) : k ≤ R.length ∧ (ends (R.take k) : Int) = L := by
  unfold cutAt at h
  have h1 := List.mem_of_find?_eq_some h
  have h2 := List.find?_some h
  exact ⟨by have := List.mem_range.1 h1; omega, by simpa using h2⟩
def CutPost (w : World) (B d l : Nat) (S : Nat → Prop) (nm : Key) (r : Int × St × List Rc) (e : Ending) (w' : World) : Prop := e = .returned (enoOf r.1) ∧ LPost w B d l S r.2.1 nm r.2.2 w'
theorem cut_end {w2 w3 : World} {B d l k : Nat} {S2 S0 : Nat → Prop} {s : St} {nm : Key} {rv rv' : Value} {E : List Re} (h : DLx w2 B d l S2 S0 s nm rv E) (hl : LAt w3 B l d nm rv' (E.take k)) (ho : Only (fun j => j = l ∨ rv.ownBlock = some j) w2 w3) (hr : ∀ j, rv'.ownBlock = some j → (rv.ownBlock = some j ∨ w2.heap.size ≤ j) ∧ j < w3.heap.size) :
    LPost w2 B d l S2 s nm (rcs (E.take k)) w3 := by
  refine ⟨fun j => S2 j ∨ rv'.ownBlock = some j, ⟨S0, rv', E.take k, {
    ds := h.ds.kept ho fun j hj _ e => h.out j (e.elim .inl fun e => .inr (.inl e)) hj
    log := hl
    out := ?_
    s0 := fun j hj => .inl (h.s0 j hj)
    sl := ?_
    lt := ?_ }, rfl⟩, ?_, ?_⟩
  · rintro j (rfl | hj | ⟨e, he, hj⟩) h0
    · exact h.out _ (.inl rfl) h0
    · rcases (hr j hj).1 with e | e
      · exact h.out j (.inr (.inl e)) h0
      · have := h.lt j (h.s0 j h0); omega
    · exact h.out j (.inr (.inr ⟨e, List.mem_of_mem_take he, hj⟩)) h0
  · rintro j (rfl | hj | ⟨e, he, hj⟩)
    · exact .inl (h.sl _ (.inl rfl))
    · exact .inr hj
    · exact .inl (h.sl j (.inr (.inr ⟨e, List.mem_of_mem_take he, hj⟩)))
  · rintro j (hj | hj)
    · exact Nat.lt_of_lt_of_le (h.lt j hj) ho.size
    · exact (hr j hj).2
  · exact ho.mono fun j _ e => e.elim (fun e => h.sl j (.inl e)) (fun e => h.sl j (.inr (.inl e)))
  · rintro j (hj | hj)
    · exact .inl hj
    · exact (hr j hj).1.imp (fun e => h.sl j (.inr (.inl e))) id
set_option maxRecDepth 20000 in
set_option maxHeartbeats 4000000 in
theorem cut_to (w : World) (B d l : Nat) (S : Nat → Prop) (s : St) (nm : Key) (R : List Rc) (L : Int) (h : DL w B d l S s nm R) (hw : s.works ≤ 900000000) (hfu : s.fuse < 9223372036854775808) (hnm : nm.length ≤ 281474976710656) :
    Calls Tryz.prog 30 #[.pointer (some ⟨l, 0, none⟩), .int .i64 L] w (CutPost w B d l S nm (cutS s nm R L)) := by
  obtain ⟨S0, rv, E, hd, rfl⟩ := h
  have HD := Lib.hid hd
  have HW := Lib.hid (within_to w B l d nm rv E L hd.log)
  clear hd
  go_enter Tryz.func30, Tryz.ntmps30
  go_wp2_with fail
  refine HW.out.mono ?_
  rintro e w1 ⟨k, b, rfl, hk, b1⟩
  have B1 := Lib.hid b1
  have HD1 := Lib.hid (HD.out.kept (T := fun _ => False) (Only.of_below b1) (fun _ _ h => h))
  clear b1 HW
  cases b with
  | false =>
    rw [if_neg (by decide)] at hk
    have HC : Hid (cutS s nm (rcs E) L = (1, s, rcs E)) := Lib.hid (by unfold cutS; rw [hk])
    clear hk
    go_wp2_with fail
    go_ret
    exact ⟨by rw [HC.out]; exact eno_1, by rw [HC.out]; exact LPost.same ⟨S0, rv, E, HD.out, rfl⟩ B1.out⟩
  | true =>
    rw [if_pos rfl] at hk
    have HKL := Lib.hid (cutAt_le hk).1
    have HC : Hid (cutS s nm (rcs E) L = if (trS s nm L).1 = 0 then (0, (trS s nm L).2, (rcs E).take k) else ((trS s nm L).1, (trS s nm L).2, rcs E)) := Lib.hid (by unfold cutS; rw [hk])
    have HT := Lib.hid (ltrunc_to w1 B d l S S0 s nm rv E L HD1.out hw hfu hnm)
    clear hk
    go_wp2_with fail
    refine HT.out.mono ?_
    rintro e w2 ⟨rfl, hp⟩
    have HP := Lib.hid hp
    clear hp HT
    obtain ⟨t, ht⟩ : ∃ t, t = trS s nm L := ⟨_, rfl⟩
    rw [← ht] at HC HP ⊢
    clear ht
    by_cases h0 : t.1 = 0
    case' neg =>
      rw [if_neg h0] at HC
      rw [enoOf_nz h0]
      have HE := Lib.hid h0
      clear h0
      go_wp2_with fail
      go_ret
      exact ⟨by rw [HC.out]; exact congrArg _ (enoOf_nz HE.out).symm, by rw [HC.out]; exact LPost.trans (S1 := S) (Only.of_below B1.out) (fun _ h => .inl h) HP.out⟩
    case' pos =>
      rw [if_pos h0] at HC
      rw [h0, show enoOf 0 = .nilIface from rfl]
      obtain ⟨S2, ⟨S02, rv2, E2, hx2, hE2⟩, o2, s2⟩ := HP.out
      have HX2 := Lib.hid hx2
      have HE2 := Lib.hid hE2
      have HO2 := Lib.hid o2
      have HS2 := Lib.hid s2
      have hkl : k ≤ E2.length := by rw [← rcs_len, hE2]; exact HKL.out
      have HK := Lib.hid (keep_to w2 B l d nm rv2 E2 k hx2.log hkl)
      clear h0 hx2 hE2 o2 s2 hkl
      go_wp2_with fail
      refine HK.out.mono ?_
      rintro e w3 ⟨rfl, rv3, hl3, o3, r3⟩
      have HEND := Lib.hid (cut_end HX2.out hl3 o3 r3)
      clear hl3 o3 r3 HK
      go_wp2_with fail
      go_ret
      refine ⟨by rw [HC.out]; exact eno_0, ?_⟩
      rw [HC.out]
      have h3 := HEND.out
      rw [rcs_take, HE2.out] at h3
      exact LPost.trans (S1 := S) (Only.of_below B1.out) (fun _ h => .inl h) (LPost.trans HO2.out HS2.out h3)
end Go.Proofs.YtageblggakfbdaaGreatDoor
