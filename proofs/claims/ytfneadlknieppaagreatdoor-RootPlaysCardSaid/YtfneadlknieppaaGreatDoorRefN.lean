/- The reference's calls New, Append, Truncate, Rename, Remove, Sync, Read, Used, SetFuse. Conditions: no more than 900000 works; the fuse within an int; what is appended is within what a slice may take up. · The reference's calls Truncate, Rename, Remove, Sync, Read, Used, SetFuse, NewDisk. Conditions: no more than 900000 works; the fuse within an int. · The reference's calls Names, pick, Crash. Conditions: no more than 900000 works. -/
import Derived.Test.YtfneadlknieppaaGreatDoorRefPd
import Derived.Test.YtfneadlknieppaaGreatDoorDskN
import Derived.Test.YtfneadlknieppaaGreatDoorDskE
import Derived.Test.YtfneadlknieppaaGreatDoorDskY
namespace Go.Proofs.YtfneadlknieppaaGreatDoor
open Go.RowKit
open Go.Maps

section
variable {w w5 w' : World} {B b : Nat} {A : Nat → Prop} {s s' : St}
theorem RS.wide (h : RS w B b A s) (hb : Below w.heap.size w w5) : RS w5 B b (fun j => A j ∨ (w.heap.size ≤ j ∧ j < w5.heap.size)) s := by
  obtain ⟨f, vk, vp, E, Q, h⟩ := h
  have h1 := h.blt
  have h2 := h.bb
  exact ⟨f, vk, vp, E, Q, (h.kb hb).mono (fun k hk => .inl hk) (fun e => e.elim h.nb (fun e => by omega)) (fun k hk => hk.elim (h.ge k) (fun e => by omega)) (fun k hk => hk.elim (fun e => Nat.lt_of_lt_of_le (h.lt k e) hb.size) (fun e => e.2))⟩
theorem RPost.back (hb : Below w.heap.size w w5) (h : RPost w5 B b (fun j => A j ∨ (w.heap.size ≤ j ∧ j < w5.heap.size)) s' w') : RPost w B b A s' w' := by
  obtain ⟨A', h1, h2, h3⟩ := h
  exact ⟨A', h1, (Only.of_below hb).trans (S := fun k => k = b) h2 (fun _ h => h) (fun _ _ h => h), fun k hk => (h3 k hk).elim (fun e => e.imp id (fun e => e.1)) (fun e => .inr (Nat.le_trans hb.size e))⟩
end
theorem good_len {s : St} {E2 : List Fe} (h : SmF s.works s.files) (hf : fb E2 = s.files) (hw : s.works ≤ 900000) : E2.length ≤ 1000000 := by
  have h1 := h.many
  rw [← hf, fb_length] at h1
  omega
def RCall (w : World) (B b : Nat) (A : Nat → Prop) (r : Int × St) (e : Ending) (w' : World) : Prop := e = .returned (.int .i64 r.1) ∧ RPost w B b A r.2 w'
set_option maxRecDepth 20000 in
set_option maxHeartbeats 2000000 in
theorem rappend_to (w : World) (B b : Nat) (A : Nat → Prop) (s : St) (n : Key) (u : Value) (l : List Int) (h : RS w B b A s) (hg : Good s) (hw : s.works ≤ 900000) (hf : s.fuse < 9223372036854775808) (hn : n.length ≤ 4611686018427387904) (hu : Seen w u l) (hul : l.length ≤ 140737488351232) :
    Calls Tryz.prog 15 #[.pointer (some ⟨b,0,none⟩), stv n, u] w (RCall w B b A (s.append n l)) := by
  have HR := Lib.hid h
  obtain ⟨f, vk, vp, E, Q, hx⟩ := h
  obtain ⟨pu, cu, rfl⟩ := len_val hu
  have c0 := hx.c0
  have c4 := hx.c4
  have HU := Lib.hid hu
  have HG := Lib.hid hg
  have HW := Lib.hid hw
  have HF := Lib.hid hf
  have HS : Hid (∀ w', Below w.heap.size w w' → RPost w B b A s w') := Lib.hid (fun w' hb => RPost.same HR.out hb)
  unfold RCall
  clear hx hu hg hw hf
  go_enter Tryz.func15, Tryz.ntmps15
  go_wp2_with fail
  refine (rname_to w n hn).mono ?_
  rintro e w' ⟨rfl, rfl⟩
  by_cases hok : okName n = true
  case' neg =>
    have hok' : okName n = false := by simpa using hok
    have HA : Hid (s.append n l = (1, s)) := Lib.hid (by unfold St.append; rw [if_pos hok'])
    rw [hok']
    clear hok hok'
    go_wp2_with fail
    go_ret
    exact ⟨by rw [HA.out]; rfl, by rw [HA.out]; exact HS.out _ (Below.refl _ _)⟩
  case' pos =>
    have hok' : ¬ okName n = false := by simp [hok]
    by_cases hd : s.dead = true
    case' pos =>
      have HA : Hid (s.append n l = (7, s)) := Lib.hid (by unfold St.append; rw [if_neg hok', if_pos hd])
      rw [hd] at c4
      rw [hok]
      clear hok hok' hd
      go_wp2_with fail
      go_ret
      exact ⟨by rw [HA.out]; rfl, by rw [HA.out]; exact HS.out _ (Below.refl _ _)⟩
    case' neg =>
      have hd' : s.dead = false := by simpa using hd
      have HA : Hid (s.append n l = if s.room - s.used < l.length then (6, s) else s.work ⟨0, n, [], l, 0⟩) := Lib.hid (by unfold St.append; rw [if_neg hok', if_neg hd])
      rw [hd'] at c4
      rw [hok]
      clear hok hok' hd hd'
      have HM := Lib.hid (HG.out.last)
      have HUZ : Hid (s.used ≤ 16777216) := Lib.hid HM.out.tot
      obtain ⟨uz, huz⟩ : ∃ z, z = s.used := ⟨_, rfl⟩
      have HUE := Lib.hid huz
      rw [← huz] at HUZ HA
      clear huz
      have huz := HUZ.out
      have hz63 : IntKind.i64.wrap ((uz : Int) + (l.length : Int)) = (uz : Int) + (l.length : Int) := IntWalk.i64_in _ (by omega)
      by_cases hgt : s.room < (uz : Int) + (l.length : Int)
      all_goals
        go_wp2_with fail
        try simp only [List.append]
        refine wp_region_noPanic ?_
        refine wp_region_held_drew (S := (fun W => W.cell? ⟨b, 0, none⟩ = some (.int .i64 s.room))) (by kernel_rfl) c0 (fun hHeld => ?_)
        refine wpAnyH_take (i := 0) (v := ?_) (by simp only [List.getElem?_toArray, List.getElem?_cons_zero]; rfl) (by kernel_rfl) (by kernel_rfl) (by kernel_rfl) (fun _ _ _ h => h) (Or.inl ⟨by rfl, ?_⟩) (by assumption) ?_
        rotate_left
        · intro w hSw
          try dsimp only at hSw
          go_simp
          try with_reducible rfl
        try simp only [Act.put, List.setIfInBounds_toArray, List.set_cons_zero, List.set_cons_succ]
        refine wpAnyH_take (i := 3) (v := ?_) (by simp only [List.getElem?_toArray, List.getElem?_cons_succ, List.getElem?_cons_zero]; rfl) (by kernel_rfl) (by kernel_rfl) (by kernel_rfl) (fun _ _ _ h => h) (Or.inl ⟨by rfl, ?_⟩) (by assumption) ?_
        rotate_left
        · intro w hSw
          try dsimp only at hSw
          go_simp
          try with_reducible rfl
        try simp only [Act.put, List.setIfInBounds_toArray, List.set_cons_zero, List.set_cons_succ]
        refine wpAnyH_take (i := 4) (v := ?_) (by simp only [List.getElem?_toArray, List.getElem?_cons_succ, List.getElem?_cons_zero]; rfl) (by kernel_rfl) (by kernel_rfl) (by kernel_rfl) (fun _ _ _ h => h) (Or.inl ⟨by rfl, ?_⟩) (by assumption) ?_
        rotate_left
        · intro w hSw
          try dsimp only at hSw
          go_simp
          try with_reducible rfl
        try simp only [Act.put, List.setIfInBounds_toArray, List.set_cons_zero, List.set_cons_succ]
        refine wpAnyH_take (i := 6) (v := ?_) (by simp only [List.getElem?_toArray, List.getElem?_cons_succ, List.getElem?_cons_zero]; rfl) (by kernel_rfl) (by kernel_rfl) (by kernel_rfl) (fun _ _ _ h => h) (Or.inl ⟨by rfl, ?_⟩) (by assumption) ?_
        rotate_left
        · intro w hSw
          try dsimp only at hSw
          go_simp
          try with_reducible rfl
        try simp only [Act.put, List.setIfInBounds_toArray, List.set_cons_zero, List.set_cons_succ]
        refine wpAnyH_take (i := 7) (v := ?_) (by simp only [List.getElem?_toArray, List.getElem?_cons_succ, List.getElem?_cons_zero]; rfl) (by kernel_rfl) (by kernel_rfl) (by kernel_rfl) (fun _ _ _ h => h) (Or.inl ⟨by rfl, ?_⟩) (by assumption) ?_
        rotate_left
        · intro w hSw
          try dsimp only at hSw
          go_simp
          try with_reducible rfl
        try simp only [Act.put, List.setIfInBounds_toArray, List.set_cons_zero, List.set_cons_succ]
        refine wpAnyH_take (i := 8) (v := ?_) (by simp only [List.getElem?_toArray, List.getElem?_cons_succ, List.getElem?_cons_zero]; rfl) (by kernel_rfl) (by kernel_rfl) (by kernel_rfl) (fun _ _ _ h => h) (Or.inl ⟨by rfl, ?_⟩) (by assumption) ?_
        rotate_left
        · intro w hSw
          try dsimp only at hSw
          go_simp
          try with_reducible rfl
        try simp only [Act.put, List.setIfInBounds_toArray, List.set_cons_zero, List.set_cons_succ]
        refine wpAnyH_take (i := 9) (v := ?_) (by simp only [List.getElem?_toArray, List.getElem?_cons_succ, List.getElem?_cons_zero]; rfl) (by kernel_rfl) (by kernel_rfl) (by kernel_rfl) (fun _ _ _ h => h) (Or.inl ⟨by rfl, ?_⟩) (by assumption) ?_
        rotate_left
        · intro w hSw
          try dsimp only at hSw
          go_simp
          try with_reducible rfl
        try simp only [Act.put, List.setIfInBounds_toArray, List.set_cons_zero, List.set_cons_succ]
        refine wpAnyH_ready (rs := [1]) (by kernel_rfl) (by simp) ?_
        refine AllReadyH.cons (by simp only [List.getElem?_toArray, List.getElem?_cons_succ, List.getElem?_cons_zero]; rfl) (fun K hK => ?_) AllReadyH.nil
        go_simp
        refine (now_to w.drew B b A s (HR.out.kb (below_dn (m := 1) (Below.refl _ w))) HG.out HW.out).mono ?_
        rintro e w2 ⟨v2, E2, rfl, h2, f2, b2⟩
        obtain ⟨p2, cap2, rfl, _⟩ := h2.slice
        have H2 := Lib.hid h2
        have F2 := Lib.hid f2
        have B2 : Hid (Below w.heap.size w w2) := Lib.hid ((below_dn (m := 1) (Below.refl _ w)).trans b2)
        have q2 := cell_kb c0 B2.out
        clear h2 f2 b2
        go_wp2_with fail
        refine hK.out _ _ q2 (fun hHeld => ?_)
        clear hK K
        try simp only [Act.put, List.setIfInBounds_toArray, List.set_cons_zero, List.set_cons_succ]
        refine wpAnyH_ready (rs := [2]) (by kernel_rfl) (by simp) ?_
        refine AllReadyH.cons (by simp only [List.getElem?_toArray, List.getElem?_cons_succ, List.getElem?_cons_zero]; rfl) (fun K hK => ?_) AllReadyH.nil
        go_simp
        refine (rused_to w2 _ _ E2 H2.out (good_len HM.out F2.out HW.out) (by rw [F2.out]; exact Nat.le_trans HM.out.tot (by decide))).mono ?_
        rintro e w' ⟨rfl, rfl⟩
        rw [F2.out, show totF s.files = s.used from rfl, ← HUE.out]
        go_wp2_with fail
        refine hK.out _ _ q2 (fun hHeld => ?_)
        clear hK K
        try simp only [Act.put, List.setIfInBounds_toArray, List.set_cons_zero, List.set_cons_succ]
        refine wpAnyH_take (i := 5) (v := ?_) (by simp only [List.getElem?_toArray, List.getElem?_cons_succ, List.getElem?_cons_zero]; rfl) (by kernel_rfl) (by kernel_rfl) (by kernel_rfl) (fun _ _ _ h => h) (Or.inl ⟨by rfl, ?_⟩) (by assumption) ?_
        rotate_left
        · intro w hSw
          try dsimp only at hSw
          go_simp
          try with_reducible rfl
        try simp only [Act.put, List.setIfInBounds_toArray, List.set_cons_zero, List.set_cons_succ]
        refine wpAnyH_take (i := 10) (v := ?_) (by simp only [List.getElem?_toArray, List.getElem?_cons_succ, List.getElem?_cons_zero]; rfl) (by kernel_rfl) (by kernel_rfl) (by kernel_rfl) (fun _ _ _ h => h) (Or.inl ⟨by rfl, ?_⟩) (by assumption) ?_
        rotate_left
        · intro w hSw
          try dsimp only at hSw
          go_simp
          try with_reducible rfl
        try simp only [Act.put, List.setIfInBounds_toArray, List.set_cons_zero, List.set_cons_succ]
        refine wpAnyH_take (i := 11) (v := ?_) (by simp only [List.getElem?_toArray, List.getElem?_cons_succ, List.getElem?_cons_zero]; rfl) (by kernel_rfl) (by kernel_rfl) (by kernel_rfl) (fun _ _ _ h => h) (Or.inl ⟨by rfl, ?_⟩) (by assumption) ?_
        rotate_left
        · intro w hSw
          try dsimp only at hSw
          go_simp
          try with_reducible rfl
        try simp only [Act.put, List.setIfInBounds_toArray, List.set_cons_zero, List.set_cons_succ]
        refine wpAnyH_done (by kernel_rfl) ?_ _
        refine NoPanic.normal ?_
      · have HA1 : Hid (s.append n l = (6, s)) := Lib.hid (by rw [HA.out, if_pos (by omega)])
        go_wp2_with fail
        go_ret
        exact ⟨by rw [HA1.out]; rfl, by rw [HA1.out]; exact HS.out _ B2.out⟩
      · have HA1 : Hid (s.append n l = s.work ⟨0, n, [], l, 0⟩) := Lib.hid (by rw [HA.out, if_neg (by omega)])
        have hown : Hid (BOwn (w2.alloc (.cells #[] 5)) w2.heap.size (.slice (some ⟨w2.heap.size, 0, none⟩) 0 0) []) := Lib.hid (World.ownsRow_made (base := w2.heap.size) (e := 5) (size := 1) w2 #[] 0 (Nat.le_refl _) (by decide) rfl)
        have HB3 : Hid (Below w2.heap.size w2 (w2.alloc (.cells #[] 5))) := Lib.hid ((Below.refl _ w2).alloc (Nat.le_refl _) _)
        have HSE : Hid (Seen (w2.alloc (.cells #[] 5)) (.slice pu l.length cu) l) := Lib.hid (HU.out.kb (B2.out.trans (HB3.out.mono B2.out.size)))
        have HL0 : Hid (([] : List Int).length + l.length ≤ 140737488351232) := Lib.hid (by simp; omega)
        clear c0 c4 q2 hz63 huz
        go_wp2_with (at_builtin; refine append_bytes (by rfl) (.tmp 30) (.tmp 31) (by rfl) w2.heap.size (.slice (some ⟨w2.heap.size, 0, none⟩) 0 0) [] (by rfl) hown.out (.slice pu l.length cu) l (by rfl) HSE.out HL0.out HB3.out.size ?_; intro v5 w5 own5 grow5 _; obtain ⟨p5, c5, rfl⟩ := own_slice own5; have O5 : Hid (BOwn w5 w2.heap.size (.slice p5 l.length c5) l) := Lib.hid own5; have B5 : Hid (Below w2.heap.size w2 w5) := Lib.hid (HB3.out.grown grow5 HB3.out.size (fun k hk => (hown.out.lt k hk).1)); clear own5 grow5)
        have BW5 : Hid (Below w.heap.size w w5) := Lib.hid (B2.out.trans (B5.out.mono B2.out.size))
        refine (rpend_to w5 B b (fun j => A j ∨ (w.heap.size ≤ j ∧ j < w5.heap.size)) s ⟨0, n, [], l, 0⟩ (.slice p5 l.length c5) (HR.out.wide BW5.out) ((BAt.own (A := fun k => w.heap.size ≤ k) O5.out (fun k hk => Nat.le_trans B2.out.size hk)).tight.mono (fun k hk => .inr hk)) HW.out (Nat.le_trans HG.out.pl HW.out) HF.out).mono ?_
        rintro e w9 ⟨rfl, h9⟩
        have H9 := Lib.hid h9
        clear h9
        go_wp2_with fail
        go_ret
        exact ⟨by rw [HA1.out]; rfl, by rw [HA1.out]; exact H9.out.back BW5.out⟩
end Go.Proofs.YtfneadlknieppaaGreatDoor
namespace Go.Proofs.YtfneadlknieppaaGreatDoor
open Go.RowKit
open Go.Maps

theorem get_some {E : List Fe} {F : Fil} (h : fb E = F) (n : Key) : (aget n E).isSome = (aget n F).isSome := by rw [← h, fb_some]
set_option maxRecDepth 20000 in
set_option maxHeartbeats 2000000 in
theorem rremove_to (w : World) (B b : Nat) (A : Nat → Prop) (s : St) (n : Key) (h : RS w B b A s) (hg : Good s) (hw : s.works ≤ 900000) (hf : s.fuse < 9223372036854775808) (hn : n.length ≤ 4611686018427387904) :
    Calls Tryz.prog 48 #[.pointer (some ⟨b,0,none⟩), stv n] w (RCall w B b A (s.remove n)) := by
  have HR := Lib.hid h
  obtain ⟨f, vk, vp, E, Q, hx⟩ := h
  have HX := Lib.hid hx
  have HG := Lib.hid hg
  have HW := Lib.hid hw
  have HF := Lib.hid hf
  have HM := Lib.hid (hg.last)
  have HS : Hid (∀ w', Below w.heap.size w w' → RPost w B b A s w') := Lib.hid (fun w' hb => RPost.same HR.out hb)
  unfold RCall
  clear hx hg hw hf
  go_enter Tryz.func48, Tryz.ntmps48
  go_wp2_with fail
  refine (now_to w B b A s HR.out HG.out HW.out).mono ?_
  rintro e w2 ⟨v2, E2, rfl, h2, f2, b2⟩
  obtain ⟨p2, cap2, rfl, _⟩ := h2.slice
  have H2 := Lib.hid h2
  have F2 := Lib.hid f2
  have B2 := Lib.hid b2
  have c4 := cell_kb HX.out.c4 b2
  clear h2 f2 b2
  go_wp2_with fail
  refine (find_to w2 _ _ E2 n H2.out (good_len HM.out F2.out HW.out)).mono ?_
  rintro e w' ⟨rfl, rfl⟩
  obtain ⟨pb, cb, hfr, hbb⟩ := find_bat H2.out n
  rw [hfr, get_some F2.out]
  clear hfr
  rw [F2.out] at hbb ⊢
  obtain ⟨bl, hbl⟩ : ∃ bl, bl = fbytes n s.files := ⟨_, rfl⟩
  rw [← hbl] at hbb ⊢
  have HBL := Lib.hid hbl
  clear hbb hbl
  obtain ⟨so, hso⟩ : ∃ so, so = (aget n s.files).isSome := ⟨_, rfl⟩
  rw [← hso]
  have HSO := Lib.hid hso
  clear hso
  go_wp2_with fail
  refine (rname_to w2 n hn).mono ?_
  rintro e w' ⟨rfl, rfl⟩
  obtain ⟨ok, hok⟩ : ∃ ok, ok = okName n := ⟨_, rfl⟩
  rw [← hok]
  have HOK := Lib.hid hok
  clear hok
  cases ok
  case' false =>
    have HA : Hid (s.remove n = (1, s)) := Lib.hid (by unfold St.remove; rw [if_pos (by rw [← HOK.out]; decide)])
    go_wp2_with fail
    go_ret
    exact ⟨by rw [HA.out]; rfl, by rw [HA.out]; exact HS.out _ B2.out⟩
  case' true =>
    have HOK1 : Hid (¬ ¬ okName n = true) := Lib.hid (fun h => h HOK.out.symm)
    by_cases hd : s.dead = true
    case' pos =>
      have HA : Hid (s.remove n = (7, s)) := Lib.hid (by unfold St.remove; rw [if_neg HOK1.out, if_pos hd])
      rw [hd] at c4
      clear hd
      go_wp2_with fail
      go_ret
      exact ⟨by rw [HA.out]; rfl, by rw [HA.out]; exact HS.out _ B2.out⟩
    case' neg =>
      have hd' : s.dead = false := by simpa using hd
      rw [hd'] at c4
      have HD := Lib.hid hd
      clear hd hd'
      cases so
      case' false =>
        have HA : Hid (s.remove n = (11, s)) := Lib.hid (by unfold St.remove; rw [if_neg HOK1.out, if_neg HD.out, if_pos HSO.out.symm])
        go_wp2_with fail
        go_ret
        exact ⟨by rw [HA.out]; rfl, by rw [HA.out]; exact HS.out _ B2.out⟩
      case' true =>
        have HNS : Hid (¬ (aget n s.files).isSome = false) := Lib.hid (by rw [← HSO.out]; decide)
        have HA : Hid (s.remove n = s.work ⟨3, n, [], [], 0⟩) := Lib.hid (by unfold St.remove; rw [if_neg HOK1.out, if_neg HD.out, if_neg HNS.out])
        go_wp2_with fail
        refine (show Calls Tryz.prog 43 #[.pointer (some ⟨b,0,none⟩), .agg #[.int .i64 4, stv n, .string ⟨#[]⟩, .slice none 0 0, .int .i64 0]] w2 _ from rpend_to w2 B b (fun j => A j ∨ (w.heap.size ≤ j ∧ j < w2.heap.size)) s ⟨3, n, [], [], 0⟩ (.slice none 0 0) (HR.out.wide B2.out) ⟨.inl ⟨rfl, rfl⟩, fun hn => absurd rfl hn⟩ HW.out (Nat.le_trans HG.out.pl HW.out) HF.out).mono ?_
        rintro e w9 ⟨rfl, h9⟩
        have H9 := Lib.hid h9
        clear h9
        go_wp2_with fail
        go_ret
        exact ⟨by rw [HA.out]; rfl, by rw [HA.out]; exact H9.out.back B2.out⟩
set_option maxRecDepth 20000 in
set_option maxHeartbeats 2000000 in
theorem rrename_to (w : World) (B b : Nat) (A : Nat → Prop) (s : St) (n m : Key) (h : RS w B b A s) (hg : Good s) (hw : s.works ≤ 900000) (hf : s.fuse < 9223372036854775808) (hn : n.length ≤ 4611686018427387904) (hm : m.length ≤ 4611686018427387904) :
    Calls Tryz.prog 50 #[.pointer (some ⟨b,0,none⟩), stv n, stv m] w (RCall w B b A (s.rename n m)) := by
  have HR := Lib.hid h
  obtain ⟨f, vk, vp, E, Q, hx⟩ := h
  have HX := Lib.hid hx
  have HG := Lib.hid hg
  have HW := Lib.hid hw
  have HF := Lib.hid hf
  have HM := Lib.hid (hg.last)
  have HS : Hid (∀ w', Below w.heap.size w w' → RPost w B b A s w') := Lib.hid (fun w' hb => RPost.same HR.out hb)
  unfold RCall
  clear hx hg hw hf
  go_enter Tryz.func50, Tryz.ntmps50
  go_wp2_with fail
  refine (now_to w B b A s HR.out HG.out HW.out).mono ?_
  rintro e w2 ⟨v2, E2, rfl, h2, f2, b2⟩
  obtain ⟨p2, cap2, rfl, _⟩ := h2.slice
  have H2 := Lib.hid h2
  have F2 := Lib.hid f2
  have B2 := Lib.hid b2
  have c4 := cell_kb HX.out.c4 b2
  clear h2 f2 b2
  go_wp2_with fail
  refine (find_to w2 _ _ E2 n H2.out (good_len HM.out F2.out HW.out)).mono ?_
  rintro e w' ⟨rfl, rfl⟩
  obtain ⟨pb, cb, hfr, hbb⟩ := find_bat H2.out n
  rw [hfr, get_some F2.out]
  clear hfr
  rw [F2.out] at hbb ⊢
  obtain ⟨bl, hbl⟩ : ∃ bl, bl = fbytes n s.files := ⟨_, rfl⟩
  rw [← hbl] at hbb ⊢
  have HBL := Lib.hid hbl
  clear hbb hbl
  obtain ⟨so, hso⟩ : ∃ so, so = (aget n s.files).isSome := ⟨_, rfl⟩
  rw [← hso]
  have HSO := Lib.hid hso
  clear hso
  go_wp2_with fail
  refine (rname_to w2 n hn).mono ?_
  rintro e w' ⟨rfl, rfl⟩
  obtain ⟨ok, hok⟩ : ∃ ok, ok = okName n := ⟨_, rfl⟩
  rw [← hok]
  have HOK := Lib.hid hok
  clear hok
  cases ok
  case' false =>
    have HA : Hid (s.rename n m = (1, s)) := Lib.hid (by unfold St.rename; rw [if_pos (by rw [← HOK.out]; simp)])
    go_wp2_with fail
    go_ret
    exact ⟨by rw [HA.out]; rfl, by rw [HA.out]; exact HS.out _ B2.out⟩
  case' true =>
    go_wp2_with fail
    refine (rname_to w2 m hm).mono ?_
    rintro e w' ⟨rfl, rfl⟩
    obtain ⟨ok2, hok2⟩ : ∃ ok, ok = okName m := ⟨_, rfl⟩
    rw [← hok2]
    have HOK2 := Lib.hid hok2
    clear hok2
    cases ok2
    case' false =>
      have HA : Hid (s.rename n m = (1, s)) := Lib.hid (by unfold St.rename; rw [if_pos (by rw [← HOK.out, ← HOK2.out]; simp)])
      go_wp2_with fail
      go_ret
      exact ⟨by rw [HA.out]; rfl, by rw [HA.out]; exact HS.out _ B2.out⟩
    case' true =>
      have HOK1 : Hid (¬ ¬ (okName n = true ∧ okName m = true)) := Lib.hid (fun h => h ⟨HOK.out.symm, HOK2.out.symm⟩)
      by_cases hd : s.dead = true
      case' pos =>
        have HA : Hid (s.rename n m = (7, s)) := Lib.hid (by unfold St.rename; rw [if_neg HOK1.out, if_pos hd])
        rw [hd] at c4
        clear hd
        go_wp2_with fail
        go_ret
        exact ⟨by rw [HA.out]; rfl, by rw [HA.out]; exact HS.out _ B2.out⟩
      case' neg =>
        have hd' : s.dead = false := by simpa using hd
        rw [hd'] at c4
        have HD := Lib.hid hd
        clear hd hd'
        cases so
        case' false =>
          have HA : Hid (s.rename n m = (11, s)) := Lib.hid (by unfold St.rename; rw [if_neg HOK1.out, if_neg HD.out, if_pos HSO.out.symm])
          go_wp2_with fail
          go_ret
          exact ⟨by rw [HA.out]; rfl, by rw [HA.out]; exact HS.out _ B2.out⟩
        case' true =>
          have HNS : Hid (¬ (aget n s.files).isSome = false) := Lib.hid (by rw [← HSO.out]; decide)
          have HA : Hid (s.rename n m = s.work ⟨2, n, m, [], 0⟩) := Lib.hid (by unfold St.rename; rw [if_neg HOK1.out, if_neg HD.out, if_neg HNS.out])
          go_wp2_with fail
          refine (show Calls Tryz.prog 43 #[.pointer (some ⟨b,0,none⟩), .agg #[.int .i64 3, stv n, stv m, .slice none 0 0, .int .i64 0]] w2 _ from rpend_to w2 B b (fun j => A j ∨ (w.heap.size ≤ j ∧ j < w2.heap.size)) s ⟨2, n, m, [], 0⟩ (.slice none 0 0) (HR.out.wide B2.out) ⟨.inl ⟨rfl, rfl⟩, fun hn => absurd rfl hn⟩ HW.out (Nat.le_trans HG.out.pl HW.out) HF.out).mono ?_
          rintro e w9 ⟨rfl, h9⟩
          have H9 := Lib.hid h9
          clear h9
          go_wp2_with fail
          go_ret
          exact ⟨by rw [HA.out]; rfl, by rw [HA.out]; exact H9.out.back B2.out⟩
/-- What Read tells. -/
def RRead (w : World) (A : Nat → Prop) (n : Key) (s : St) (e : Ending) (w' : World) : Prop :=
  ∃ p cap, e = .returned (.tuple #[.slice p (if s.dead = true then [] else fbytes n s.files).length cap, .bool (if s.dead = true then false else (aget n s.files).isSome)]) ∧ BAt w' (fun k => A k ∨ w.heap.size ≤ k) (.slice p (if s.dead = true then [] else fbytes n s.files).length cap) (if s.dead = true then [] else fbytes n s.files) ∧ Below w.heap.size w w'
set_option maxRecDepth 20000 in
set_option maxHeartbeats 2000000 in
theorem rread_to (w : World) (B b : Nat) (A : Nat → Prop) (s : St) (n : Key) (h : RS w B b A s) (hg : Good s) (hw : s.works ≤ 900000) :
    Calls Tryz.prog 47 #[.pointer (some ⟨b,0,none⟩), stv n] w (RRead w A n s) := by
  have HR := Lib.hid h
  obtain ⟨f, vk, vp, E, Q, hx⟩ := h
  have c4 := hx.c4
  have HG := Lib.hid hg
  have HW := Lib.hid hw
  have HM := Lib.hid (hg.last)
  clear hx hg hw
  unfold RRead
  by_cases hd : s.dead = true
  · rw [hd] at c4
    simp only [hd, if_true]
    clear hd
    go_enter Tryz.func47, Tryz.ntmps47
    go_wp2_with fail
    go_ret2
    exact ⟨none, 0, rfl, ⟨.inl ⟨rfl, rfl⟩, fun hn => absurd rfl hn⟩, Below.refl _ _⟩
  · have hd' : s.dead = false := by simpa using hd
    rw [hd'] at c4
    simp only [hd]
    clear hd hd'
    go_enter Tryz.func47, Tryz.ntmps47
    go_wp2_with fail
    refine (now_to w B b A s HR.out HG.out HW.out).mono ?_
    rintro e w2 ⟨v2, E2, rfl, h2, f2, b2⟩
    obtain ⟨p2, cap2, rfl, _⟩ := h2.slice
    have H2 := Lib.hid h2
    have F2 := Lib.hid f2
    have B2 := Lib.hid b2
    clear h2 f2 b2
    go_wp2_with fail
    refine (find_to w2 _ _ E2 n H2.out (good_len HM.out F2.out HW.out)).mono ?_
    rintro e w' ⟨rfl, rfl⟩
    obtain ⟨pb, cb, hfr, hbb⟩ := find_bat H2.out n
    rw [hfr, get_some F2.out]
    clear hfr
    rw [F2.out] at hbb ⊢
    have HBB := Lib.hid hbb
    clear hbb
    go_wp2_with fail
    go_ret2
    exact ⟨pb, cb, rfl, HBB.out, B2.out⟩
set_option maxRecDepth 20000 in
theorem rused_ds (w : World) (B b : Nat) (A : Nat → Prop) (s : St) (h : RS w B b A s) (hg : Good s) (hw : s.works ≤ 900000) :
    Calls Tryz.prog 26 #[.pointer (some ⟨b,0,none⟩)] w fun e w' => e = .returned (.int .i64 (if s.dead = true then 0 else (s.used : Int))) ∧ Below w.heap.size w w' := by
  have HR := Lib.hid h
  obtain ⟨f, vk, vp, E, Q, hx⟩ := h
  have c4 := hx.c4
  have HG := Lib.hid hg
  have HW := Lib.hid hw
  have HM := Lib.hid (hg.last)
  clear hx hg hw
  by_cases hd : s.dead = true
  · rw [hd] at c4
    rw [if_pos hd]
    clear hd
    go_enter Tryz.func26, Tryz.ntmps26
    go_wp2_with fail
    go_ret
    exact ⟨rfl, Below.refl _ _⟩
  · have hd' : s.dead = false := by simpa using hd
    rw [hd'] at c4
    rw [if_neg hd]
    clear hd hd'
    go_enter Tryz.func26, Tryz.ntmps26
    go_wp2_with fail
    refine (now_to w B b A s HR.out HG.out HW.out).mono ?_
    rintro e w2 ⟨v2, E2, rfl, h2, f2, b2⟩
    obtain ⟨p2, cap2, rfl, _⟩ := h2.slice
    have H2 := Lib.hid h2
    have F2 := Lib.hid f2
    have B2 := Lib.hid b2
    clear h2 f2 b2
    go_wp2_with fail
    refine (rused_to w2 _ _ E2 H2.out (good_len HM.out F2.out HW.out) (by rw [F2.out]; exact Nat.le_trans HM.out.tot (by decide))).mono ?_
    rintro e w' ⟨rfl, rfl⟩
    rw [F2.out, show totF s.files = s.used from rfl]
    go_wp2_with fail
    go_ret
    exact ⟨rfl, B2.out⟩
set_option maxRecDepth 20000 in
theorem rfuse_to (w : World) (B b : Nat) (A : Nat → Prop) (s : St) (n : Int) (h : RS w B b A s) (hn : n < 9223372036854775808) :
    Calls Tryz.prog 10 #[.pointer (some ⟨b,0,none⟩), .int .i64 n] w fun e w' => e = .returned (.tuple #[]) ∧ RPost w B b A { s with fuse := n } w' := by
  obtain ⟨f, vk, vp, E, Q, hx⟩ := h
  have c3 := hx.c3
  have f3 := hx.fz 3
  have HX := Lib.hid hx
  clear hx
  obtain ⟨m, hm⟩ : ∃ m, m = max (-1) n := ⟨_, rfl⟩
  have hm' : max (-1) n = m := hm.symm
  have HM := Lib.hid hm
  clear hm
  go_enter Tryz.func10, Tryz.ntmps10
  go_wp2_with fail
  go_end0
  refine ⟨rfl, A, ⟨m, vk, vp, E, Q, HX.out.scal ((Only.refl _ _).one (S := fun k => k = b) rfl _) { s with fuse := n } m ?_ rfl rfl (by rw [HM.out]; show max (-1) n = n ∨ (max (-1) n < 0 ∧ n < 0); omega)⟩, (Only.refl _ _).one (S := fun k => k = b) rfl _, fun k hk => .inl hk⟩
  exact Lib.heap_setCell_same (i := 3) HX.out.obj _
theorem sync_end {w w1 w2 : World} {B b : Nat} {A : Nat → Prop} {t : St} {f : Int} {vk vp v2 : Value} {E E2 : List Fe} {Q : List Qe} {F : Fil} (h1 : RD w1 B b A t f vk vp E Q) (hx : RD w2 B b A t f vk vp E Q) (o1 : Only (fun k => k = b) w w1) (b2 : Below w1.heap.size w1 w2)
    (h2 : FAt w2 (fun k => A k ∨ w1.heap.size ≤ k) v2 E2) (hf : fb E2 = F) (hl : ∀ k, A k → k < w.heap.size) : RPost w B b A { t with kept := F, pend := [] } ((w2.setCell ⟨b, 1, none⟩ v2).setCell ⟨b, 2, none⟩ (.slice none 0 0)) := by
  have hs := o1.size
  have hs2 := b2.size
  have os : Only (fun k => k = b) w2 ((w2.setCell ⟨b, 1, none⟩ v2).setCell ⟨b, 2, none⟩ (.slice none 0 0)) := ((Only.refl _ w2).one (S := fun k => k = b) rfl _).one rfl _
  have hsz : ((w2.setCell ⟨b, 1, none⟩ v2).setCell ⟨b, 2, none⟩ (.slice none 0 0)).heap.size = w2.heap.size := by simp [World.setCell]
  have hb1 := h1.blt
  have hb2 := h1.bb
  have hno : ¬ (A b ∨ (w1.heap.size ≤ b ∧ b < w2.heap.size)) := fun e => e.elim h1.nb (fun e => by omega)
  refine ⟨fun j => A j ∨ (w1.heap.size ≤ j ∧ j < w2.heap.size), ⟨f, v2, .slice none 0 0, E2, [], ?_⟩, ?_, fun j hj => hj.imp id (fun e => by omega)⟩
  · refine { obj := ?_, fuse := h1.fuse, kept := ?_, fbk := hf, pend := QAt.nil _ _, fsq := rfl, nb := hno, bb := h1.bb, ge := fun j hj => hj.elim (h1.ge j) (fun e => by omega), lt := fun j hj => by rw [hsz]; exact hj.elim (fun e => by have := hl j e; omega) (fun e => e.2) }
    · have := Lib.heap_setCell_same (i := 2) (Lib.heap_setCell_same (i := 1) hx.obj v2) (.slice none 0 0)
      rw [this]
      rfl
    · exact (h2.tight.mono (fun j hj => hj.1.elim .inl (fun e => .inr ⟨e, hj.2⟩))).kept os (fun k hk e => hno (e ▸ hk))
  · exact (o1.trans (Only.of_below b2 (S := fun k => k = b)) (fun _ h => h) (fun _ _ h => h)).trans os (fun _ h => h) (fun _ _ h => h)
set_option maxRecDepth 20000 in
theorem rsync_to (w : World) (B b : Nat) (A : Nat → Prop) (s : St) (h : RS w B b A s) (hg : Good s) (hw : s.works ≤ 800000) (hf : s.fuse < 9223372036854775808) :
    Calls Tryz.prog 49 #[.pointer (some ⟨b,0,none⟩)] w (RCall w B b A s.sync) := by
  have HR := Lib.hid h
  obtain ⟨f, vk, vp, E, Q, hx⟩ := h
  have c4 := hx.c4
  have hff : f < 9223372036854775808 := by rcases hx.fuse with e | e <;> omega
  have HX := Lib.hid hx
  have HG := Lib.hid hg
  have HW := Lib.hid hw
  have HFF := Lib.hid hff
  clear hx hg hw hf hff
  unfold RCall
  by_cases hd : s.dead = true
  · have HA : Hid (s.sync = (7, s)) := Lib.hid (by unfold St.sync; rw [if_pos hd])
    rw [hd] at c4
    clear hd
    go_enter Tryz.func49, Tryz.ntmps49
    go_wp2_with fail
    go_ret
    exact ⟨by rw [HA.out]; rfl, by rw [HA.out]; exact RPost.same HR.out (Below.refl _ _)⟩
  · have hd' : s.dead = false := by simpa using hd
    rw [hd'] at c4
    have HD := Lib.hid hd
    clear hd hd'
    go_enter Tryz.func49, Tryz.ntmps49
    go_wp2_with fail
    refine (rworks_to w B b A s f _ _ E Q HX.out (by have := HW.out; omega) HFF.out).mono ?_
    rintro e w1 ⟨rfl, h1, o1⟩
    have H1 := Lib.hid h1
    have O1 := Lib.hid o1
    clear h1 o1
    by_cases h0 : s.fuse = 0
    · have hb0 : (!decide (s.fuse = 0)) = false := by simp [h0]
      have HA : Hid (s.sync = (7, s.rpass)) := Lib.hid (by unfold St.sync St.rpass; rw [if_neg HD.out, if_pos h0, if_pos h0])
      rw [hb0]
      clear hb0 h0
      go_wp2_with fail
      go_ret
      exact ⟨by rw [HA.out]; rfl, by rw [HA.out]; exact ⟨A, ⟨_, _, _, E, Q, H1.out⟩, O1.out, fun k hk => .inl hk⟩⟩
    · have hb0 : (!decide (s.fuse = 0)) = true := by simp [h0]
      have HA : Hid (s.sync = (0, { s.rpass with kept := s.files, pend := [] })) := Lib.hid (by unfold St.sync St.rpass; rw [if_neg HD.out, if_neg h0, if_neg h0])
      have HGR : Hid (Good s.rpass) := Lib.hid (by
        have hr : s.rpass = { s with fuse := if 0 < s.fuse then s.fuse - 1 else s.fuse, works := s.works + 1 } := by unfold St.rpass; rw [if_neg h0]
        obtain ⟨P, hP⟩ := HG.out.hist
        rw [hr]
        exact ⟨⟨P, hP.mono (Nat.le_succ _)⟩, Nat.le_succ_of_le HG.out.pl, HG.out.room0⟩)
      have HWR : Hid (s.rpass.works ≤ 900000) := Lib.hid (by have hr : s.rpass.works = s.works + 1 := by (unfold St.rpass; rw [if_neg h0])
                                                             have := HW.out; omega)
      have HFE : Hid (s.rpass.files = s.files) := Lib.hid (by unfold St.files; rw [(rpass_kp s).1, (rpass_kp s).2.1])
      rw [hb0]
      clear hb0 h0
      go_wp2_with fail
      refine (now_to w1 B b A s.rpass ⟨_, _, _, E, Q, H1.out⟩ HGR.out HWR.out).mono ?_
      rintro e w2 ⟨v2, E2, rfl, h2, f2, b2⟩
      obtain ⟨p2, cap2, rfl, _⟩ := h2.slice
      have H2 := Lib.hid h2
      have F2 := Lib.hid (f2.trans HFE.out)
      have B2 := Lib.hid b2
      have HX2 := Lib.hid (H1.out.kb b2)
      have d1 := HX2.out.c1
      have d2 := HX2.out.c2
      have q1 := HX2.out.fz 1
      have q2 := HX2.out.fz 2
      clear h2 f2 b2
      go_wp2_with fail
      go_ret
      refine ⟨by rw [HA.out]; rfl, ?_⟩
      rw [HA.out]
      exact sync_end H1.out HX2.out O1.out B2.out H2.out F2.out HX.out.lt
set_option maxRecDepth 20000 in
theorem rnew_to (w : World) (room : Int) : Calls Tryz.prog 8 #[.int .i64 room] w fun e w' => ∃ b, e = .returned (.pointer (some ⟨b, 0, none⟩)) ∧ RS w' w.heap.size b (fun _ => False) (St.new room) ∧ Below w.heap.size w w' ∧ w.heap.size ≤ b := by
  obtain ⟨m, hm⟩ : ∃ m, m = max 0 (min room 16777216) := ⟨_, rfl⟩
  have hm' : max 0 (min room 16777216) = m := hm.symm
  have HM := Lib.hid hm
  clear hm
  go_enter Tryz.func8, Tryz.ntmps8
  go_wp2_with fail
  go_ret
  refine ⟨w.heap.size, rfl, ⟨-1, .slice none 0 0, .slice none 0 0, [], [], { obj := ?_, fuse := .inl rfl, kept := FAt.nil _ _, fbk := rfl, pend := QAt.nil _ _, fsq := rfl, nb := fun h => h, bb := Nat.le_refl _, ge := fun _ h => h.elim, lt := fun _ h => h.elim }⟩, (Below.refl _ w).alloc (Nat.le_refl _) _, Nat.le_refl _⟩
  unfold St.new
  rw [← HM.out]
  exact heap_alloc_last w _
end Go.Proofs.YtfneadlknieppaaGreatDoor
namespace Go.Proofs.YtfneadlknieppaaGreatDoor
open Go.RowKit
open Go.Maps

theorem sinfo : (Tryz.prog.info? 9).map (fun i => (i.zero, i.size, i.bytes)) = some (some (.string ⟨#[]⟩), 1, 16) := by kernel_rfl
def rnm (s : St) : List Key := if s.dead = true then [] else nms s.files
def nmE (E : List Fe) : List Key := E.map (·.1)
theorem nmE_fb {E : List Fe} {F : Fil} (h : fb E = F) : nmE E = nms F := by rw [← h]; simp [nmE, nms, fb, amap]
theorem nmE_step {E : List Fe} {k : Nat} (hk : k < E.length) : nmE (E.take (k + 1)) = nmE (E.take k) ++ [E[k].1] := by
  unfold nmE; rw [List.take_succ_eq_append_getElem hk, List.map_append]; rfl
theorem rpick_any (w : World) (n m : Int) (h : 0 < m) (hm : m ≤ 4611686018427387904) : Calls Tryz.prog 33 #[.int .i64 n, .int .i64 m] w fun e w' => e = .returned (.int .i64 (n % m)) ∧ w = w' := by
  have h1 := Int.tmod_lt_of_pos n h
  have h3 : ¬ m = 0 := by omega
  have h4 : n.tmod m = n % m ∨ (n.tmod m < 0 ∧ n.tmod m + m = n % m) := by
    have := Int.tmod_eq_emod (a := n) (b := m)
    have hp := Int.emod_nonneg n h3
    have hl := Int.emod_lt_of_pos n h
    split at this <;> omega
  have h2 : -m ≤ n.tmod m := by
    have hp := Int.emod_nonneg n h3
    omega
  have h5 := Int.emod_nonneg n h3
  have H4 := Lib.hid h4
  clear h4
  go_enter Tryz.func33, Tryz.ntmps33
  go_wp2
  all_goals go_ret
  · rcases H4.out with h | ⟨h, h'⟩
    · omega
    · exact ⟨by show Ending.returned (.int .i64 (n.tmod m + m)) = _; rw [h'], rfl⟩
  · rcases H4.out with h | ⟨h, h'⟩
    · exact ⟨by show Ending.returned (.int .i64 (n.tmod m)) = _; rw [h], rfl⟩
    · omega
theorem crash_rend {w w2 : World} {B b : Nat} {A : Nat → Prop} {s : St} {f : Int} {vk vp v2 : Value} {E E2 : List Fe} {Q : List Qe} {F : Fil} (hx : RD w B b A s f vk vp E Q) (b2 : Below w.heap.size w w2)
    (h2 : FAt w2 (fun k => A k ∨ w.heap.size ≤ k) v2 E2) (hf : fb E2 = F) : RPost w B b A { s with kept := F, pend := [], fuse := -1, dead := false } ((((w2.setCell ⟨b, 1, none⟩ v2).setCell ⟨b, 2, none⟩ (.slice none 0 0)).setCell ⟨b, 4, none⟩ (.bool false)).setCell ⟨b, 3, none⟩ (.int .i64 (-1))) := by
  have hs2 := b2.size
  have os : Only (fun k => k = b) w2 ((((w2.setCell ⟨b, 1, none⟩ v2).setCell ⟨b, 2, none⟩ (.slice none 0 0)).setCell ⟨b, 4, none⟩ (.bool false)).setCell ⟨b, 3, none⟩ (.int .i64 (-1))) := ((((Only.refl _ w2).one (S := fun k => k = b) rfl _).one rfl _).one rfl _).one rfl _
  have hsz : ((((w2.setCell ⟨b, 1, none⟩ v2).setCell ⟨b, 2, none⟩ (.slice none 0 0)).setCell ⟨b, 4, none⟩ (.bool false)).setCell ⟨b, 3, none⟩ (.int .i64 (-1))).heap.size = w2.heap.size := by simp [World.setCell]
  have hb1 := hx.blt
  have hb2 := hx.bb
  have hno : ¬ (A b ∨ (w.heap.size ≤ b ∧ b < w2.heap.size)) := fun e => e.elim hx.nb (fun e => by omega)
  refine ⟨fun j => A j ∨ (w.heap.size ≤ j ∧ j < w2.heap.size), ⟨-1, v2, .slice none 0 0, E2, [], ?_⟩, ?_, fun j hj => hj.imp id (fun e => by omega)⟩
  · refine { obj := ?_, fuse := .inl rfl, kept := ?_, fbk := hf, pend := QAt.nil _ _, fsq := rfl, nb := hno, bb := hx.bb, ge := fun j hj => hj.elim (hx.ge j) (fun e => by omega), lt := fun j hj => by rw [hsz]; exact hj.elim (fun e => by have := hx.lt j e; omega) (fun e => e.2) }
    · have := Lib.heap_setCell_same (i := 3) (Lib.heap_setCell_same (i := 4) (Lib.heap_setCell_same (i := 2) (Lib.heap_setCell_same (i := 1) (hx.kb b2).obj v2) (.slice none 0 0)) (.bool false)) (.int .i64 (-1))
      rw [this]
      rfl
    · exact (h2.tight.mono (fun j hj => hj.1.elim .inl (fun e => .inr ⟨e, hj.2⟩))).kept os (fun k hk e => hno (e ▸ hk))
  · exact (Only.of_below b2 (S := fun k => k = b)).trans os (fun _ h => h) (fun _ _ h => h)
set_option maxRecDepth 20000 in
set_option maxHeartbeats 4000000 in
theorem rcrash_to (w : World) (B b : Nat) (A : Nat → Prop) (s : St) (done cut : Int) (h : RS w B b A s) (hg : Good s) (hw : s.works ≤ 900000) :
    Calls Tryz.prog 12 #[.pointer (some ⟨b,0,none⟩), .int .i64 done, .int .i64 cut] w fun e w' => e = .returned (.tuple #[]) ∧ RPost w B b A (s.crash done cut) w' := by
  obtain ⟨f, vk, vp, E, Q, h⟩ := h
  obtain ⟨p0, cap0, rfl, _⟩ := h.kept.slice
  obtain ⟨p, cap, rfl, hp⟩ := h.pend.slice
  have hql : Q.length = s.pend.length := by rw [← h.fsq, List.length_map]
  obtain ⟨n, hn⟩ : ∃ n, n = Q.length := ⟨_, rfl⟩
  rw [← hn] at h hp
  have HN := Lib.hid hn
  have HNP : Hid (n = s.pend.length) := Lib.hid (hn.trans hql)
  have HP := Lib.hid hp
  have H := Lib.hid h
  have HG := Lib.hid hg
  have HW := Lib.hid hw
  have c1 := h.c1
  have c2 := h.c2
  have hn6 : n ≤ 900000 := by have := hg.pl; omega
  obtain ⟨d, hd, hdn, hdd⟩ := crash_mod (n := n) done (by omega)
  have HPK := Lib.hid (fun W => by have := rpick_any W done ((n : Int) + 1) (by omega) (by omega); rw [← hd] at this; exact this)
  have HDD : Hid ((done % ((s.pend.length : Int) + 1)).toNat = d) := Lib.hid (by rw [← HNP.out]; exact hdd)
  clear h hg hp hn hql hw hd hdd
  go_enter Tryz.func12, Tryz.ntmps12
  go_wp2_with fail
  refine (HPK.out _).mono ?_
  rintro e w' ⟨rfl, rfl⟩
  go_wp2_with fail
  clear HPK c1 c2
  go_loopw [6, 7] (fun vl i wr => ∃ (k : Nat) (q : Option Addr) (m c : Nat) (D : List Fe), k ≤ d ∧ i = .int .i64 k ∧ vl = .slice q m c ∧ Hid (FAt wr (fun x => A x ∨ w.heap.size ≤ x) (.slice q m c) D ∧ fb D = run s.kept (s.pend.take k) ∧ Below w.heap.size w wr)) (fun _ i _ => d - (intOf i).toNat)
  case atStart => exact ⟨0, p0, E.length, cap0, E, Nat.zero_le _, rfl, rfl, Lib.hid ⟨H.out.kept.mono (fun k hk => .inl hk), H.out.fbk, Below.refl _ _⟩⟩
  case round =>
    obtain ⟨k, q, m, c, D, hk, rfl, rfl, HS⟩ := hrel
    have HR := Lib.hid (H.out.kb HS.out.2.2)
    have r2 := HR.out.c2
    by_cases hlt : k < d
    · have hkQ : k < Q.length := by rw [← HN.out]; omega
      have hkP : k < s.pend.length := by rw [← HNP.out]; omega
      have hqe : Q[k].1 = s.pend[k] := by
        have h1 : (Q.map (·.1))[k]'(by rw [List.length_map]; exact hkQ) = s.pend[k] := by simp only [H.out.fsq]
        simpa using h1
      have hgo := HG.out.at hkP
      have hbs := HG.out.bs hkP
      have hst := run_take_succ s.kept s.pend hkP
      rw [← hqe] at hgo hbs hst
      obtain ⟨g, o, rfl⟩ := HP.out (by omega)
      have e0 := QAt.at HR.out.pend hkQ (c := 0) (by omega) rfl
      have e1 := QAt.at HR.out.pend hkQ (c := 1) (by omega) rfl
      have e2 := QAt.at HR.out.pend hkQ (c := 2) (by omega) rfl
      have e3 := QAt.at HR.out.pend hkQ (c := 3) (by omega) rfl
      have e4 := QAt.at HR.out.pend hkQ (c := 4) (by omega) rfl
      have hbd := HR.out.pend.bod Q[k] (List.getElem_mem hkQ)
      generalize Q[k] = x at *
      obtain ⟨⟨kind, nm, to, bs, z⟩, u⟩ := x
      obtain ⟨pu, cu, hv⟩ := len_val hbd.seen
      have hv' : u = .slice pu bs.length cu := hv
      subst hv'
      rw [Nat.add_zero] at e0
      have HGO := Lib.hid hgo
      have HBS := Lib.hid hbs
      have HST := Lib.hid hst
      have HBD := Lib.hid hbd
      clear hqe hgo hbs hst hbd
      have hkn : k < n := by omega
      go_wp2_with fail
      have hfd := HS.out.2.1
      refine (rturn_to wr (fun x => A x ∨ w.heap.size ≤ x) _ D ⟨kind, nm, to, bs, z⟩ (.slice pu bs.length cu) HS.out.1 (by have := HGO.out.1.many; rw [← hfd, fb_length] at this; have := HW.out; omega) (HBD.out.mono (fun k hk => .inl hk)) (by rw [hfd]; exact HGO.out.2.1) (by rw [hfd]; exact HGO.out.1.tot) HBS.out).mono ?_
      rintro e w9 ⟨v9, E9, rfl, h9, f9, b9⟩
      obtain ⟨p9, c9, rfl, _⟩ := h9.slice
      have HS9 : Hid (FAt w9 (fun x => A x ∨ w.heap.size ≤ x) (.slice p9 E9.length c9) E9 ∧ fb E9 = run s.kept (s.pend.take (k + 1)) ∧ Below w.heap.size w w9) := Lib.hid ⟨h9.mono (fun x hx => by
          rcases hx with hx | hx
          · exact hx
          · exact .inr (Nat.le_trans HS.out.2.2.size hx)), by rw [f9, hfd, HST.out], HS.out.2.2.trans (b9.mono HS.out.2.2.size)⟩
      clear hfd h9 f9 b9
      go_wp2_with fail
      exact ⟨⟨k + 1, p9, E9.length, c9, E9, by omega, by simp, rfl, HS9⟩, by simp [intOf]; omega⟩
    · obtain rfl : k = d := by omega
      clear hlt hk
      by_cases hkn : k < n
      · have hkQ : k < Q.length := by rw [← HN.out]; omega
        have hkP : k < s.pend.length := by rw [← HNP.out]; omega
        have hqe : Q[k].1 = s.pend[k] := by
          have h1 : (Q.map (·.1))[k]'(by rw [List.length_map]; exact hkQ) = s.pend[k] := by simp only [H.out.fsq]
          simpa using h1
        have hgo := HG.out.at hkP
        have hbs := HG.out.bs hkP
        have HCR : Hid (s.crash done cut = { s with kept := part (run s.kept (s.pend.take k)) Q[k].1 cut, pend := [], fuse := -1, dead := false }) := Lib.hid (by
          unfold St.crash crashF
          rw [HDD.out, List.getElem?_eq_getElem hkP, hqe])
        rw [← hqe] at hgo hbs
        obtain ⟨g, o, rfl⟩ := HP.out (by omega)
        have e0 := QAt.at HR.out.pend hkQ (c := 0) (by omega) rfl
        have e1 := QAt.at HR.out.pend hkQ (c := 1) (by omega) rfl
        have e2 := QAt.at HR.out.pend hkQ (c := 2) (by omega) rfl
        have e3 := QAt.at HR.out.pend hkQ (c := 3) (by omega) rfl
        have e4 := QAt.at HR.out.pend hkQ (c := 4) (by omega) rfl
        have hbd := HR.out.pend.bod Q[k] (List.getElem_mem hkQ)
        generalize Q[k] = x at *
        obtain ⟨⟨kind, nm, to, bs, z⟩, u⟩ := x
        obtain ⟨pu, cu, hv⟩ := len_val hbd.seen
        have hv' : u = .slice pu bs.length cu := hv
        subst hv'
        rw [Nat.add_zero] at e0
        have HGO := Lib.hid hgo
        have HBS := Lib.hid hbs
        have HBD := Lib.hid hbd
        clear hqe hgo hbs hbd
        have r1 := HR.out.c1
        have r3 := HR.out.c3
        have r4 := HR.out.c4
        have z1 := HR.out.fz 1
        have z2 := HR.out.fz 2
        have z3 := HR.out.fz 3
        have z4 := HR.out.fz 4
        by_cases hk0 : kind = 0
        · subst hk0
          obtain ⟨lb, hlb⟩ : ∃ lb, lb = bs.length := ⟨_, rfl⟩
          have hbl : bs.length ≤ 16777216 := HBS.out rfl
          have hm0 := Int.emod_nonneg cut (show ((lb : Nat) : Int) + 1 ≠ 0 by omega)
          have hm1 := Int.emod_lt_of_pos cut (show (0 : Int) < ((lb : Nat) : Int) + 1 by omega)
          obtain ⟨m', hm⟩ : ∃ m' : Nat, (m' : Int) = cut % ((lb : Int) + 1) := ⟨(cut % ((lb : Int) + 1)).toNat, by omega⟩
          have hml : m' ≤ lb := by omega
          have HPC := Lib.hid (fun W => by have := rpick_any W cut ((lb : Int) + 1) (by omega) (by omega); rw [← hm] at this; exact this)
          have hfm := HBD.out.form
          have hsr := bslice_run pu lb cu m' (by rw [← hlb] at hfm; omega) (fun e => by have := hfm.2 e; rw [← hlb] at hfm this; omega)
          have HTB := Lib.hid (HBD.out.take m' (by rw [← hlb]; exact hml))
          have HPA : Hid (part (run s.kept (s.pend.take k)) ⟨0, nm, to, bs, z⟩ cut = if m' = 0 then run s.kept (s.pend.take k) else turn (run s.kept (s.pend.take k)) ⟨0, nm, to, bs.take m', z⟩) := Lib.hid (by
            unfold part turn
            rw [if_pos rfl, if_pos rfl]
            simp only [← hlb, ← hm, Int.toNat_natCast]
            by_cases h0 : m' = 0 <;> simp [h0])
          have HLB := Lib.hid hlb
          rw [← hlb] at e3 hbl
          have hz63 : IntKind.i64.wrap ((lb : Int) + 1) = (lb : Int) + 1 := IntWalk.i64_in _ (by omega)
          have HML := Lib.hid hml
          clear hm0 hm1 hm hfm hlb
          go_wp2_with fail
          have B5 : Hid (Below wr.heap.size wr (wr.alloc (.cells #[.int .i64 1, stv nm, stv to, .slice pu lb cu, .int .i64 z] 78))) := Lib.hid ((Below.refl _ wr).alloc (Nat.le_refl _) _)
          have X5 : Hid ((wr.alloc (.cells #[.int .i64 1, stv nm, stv to, .slice pu lb cu, .int .i64 z] 78)).heap[wr.heap.size]? = some (.cells #[.int .i64 1, stv nm, stv to, .slice pu lb cu, .int .i64 z] 78 (0, 0))) := Lib.hid (heap_alloc_last wr _)
          change Code.wp _ _ _ _ (wr.alloc (.cells #[.int .i64 1, stv nm, stv to, .slice pu lb cu, .int .i64 z] 78))
          generalize wr.alloc (.cells #[.int .i64 1, stv nm, stv to, .slice pu lb cu, .int .i64 z] 78) = W5 at *
          obtain ⟨bw, hbw⟩ : ∃ bw, bw = wr.heap.size := ⟨_, rfl⟩
          have HBW := Lib.hid hbw
          rw [← hbw] at X5 ⊢
          clear hbw
          have x3 : W5.drew.cell? ⟨bw, 3, none⟩ = some (.slice pu lb cu) := by
            show W5.cell? ⟨bw, 3, none⟩ = _
            rw [cell_of_row W5 bw 3 _ _ _ X5.out]; rfl
          have z5 : W5.drew.frozen? ⟨bw, 3, none⟩ = false := by
            show W5.frozen? ⟨bw, 3, none⟩ = _
            simp [World.frozen?, X5.out]
          try simp only [List.append]
          refine wp_region_noPanic ?_
          refine wp_region_any_drew (by kernel_rfl) ?_
          refine wpAny_take (i := 0) (v := ?_) (by simp only [List.getElem?_toArray, List.getElem?_cons_zero]; rfl) (by kernel_rfl) (by kernel_rfl) (by kernel_rfl) (fun _ _ _ h => h) (Or.inl ⟨by rfl, ?_⟩) ?_
          rotate_left
          · intro w
            go_simp
            try with_reducible rfl
          try simp only [Act.put, List.setIfInBounds_toArray, List.set_cons_zero, List.set_cons_succ]
          refine wpAny_take (i := 2) (v := ?_) (by simp only [List.getElem?_toArray, List.getElem?_cons_succ, List.getElem?_cons_zero]; rfl) (by kernel_rfl) (by kernel_rfl) (by kernel_rfl) (fun _ _ _ h => h) (Or.inl ⟨by rfl, ?_⟩) ?_
          rotate_left
          · intro w
            go_simp
            try with_reducible rfl
          try simp only [Act.put, List.setIfInBounds_toArray, List.set_cons_zero, List.set_cons_succ]
          refine wpAny_take (i := 3) (v := ?_) (by simp only [List.getElem?_toArray, List.getElem?_cons_succ, List.getElem?_cons_zero]; rfl) (by kernel_rfl) (by kernel_rfl) (by kernel_rfl) (fun _ _ _ h => h) (Or.inl ⟨by rfl, ?_⟩) ?_
          rotate_left
          · intro w
            go_simp
            try with_reducible rfl
          try simp only [Act.put, List.setIfInBounds_toArray, List.set_cons_zero, List.set_cons_succ]
          refine wpAny_ready (rs := [1, 4]) (by kernel_rfl) (by simp) ?_
          refine (AllReady.cons (by simp only [List.getElem?_toArray, List.getElem?_cons_succ, List.getElem?_cons_zero]; rfl) (fun K hK => ?_) (AllReady.cons (by simp only [List.getElem?_toArray, List.getElem?_cons_succ, List.getElem?_cons_zero]; rfl) (fun K hK => ?_) AllReady.nil))
          · have HK := Lib.hid hK
            clear hK
            go_simp
            refine HK.out _ _ ?_
            clear HK K
            try simp only [Act.put, List.setIfInBounds_toArray, List.set_cons_zero, List.set_cons_succ]
            refine wpAny_ready (rs := [4]) (by kernel_rfl) (by simp) ?_
            refine (AllReady.cons (by simp only [List.getElem?_toArray, List.getElem?_cons_succ, List.getElem?_cons_zero]; rfl) (fun K hK => ?_) AllReady.nil)
            have HK := Lib.hid hK
            clear hK
            go_simp
            refine HK.out _ _ ?_
            clear HK K
            try simp only [Act.put, List.setIfInBounds_toArray, List.set_cons_zero, List.set_cons_succ]
            refine wpAny_take (i := 5) (v := ?_) (by simp only [List.getElem?_toArray, List.getElem?_cons_succ, List.getElem?_cons_zero]; rfl) (by kernel_rfl) (by kernel_rfl) (by kernel_rfl) (fun _ _ _ h => h) (Or.inl ⟨by rfl, ?_⟩) ?_
            rotate_left
            · intro w
              go_simp
              try with_reducible rfl
            try simp only [Act.put, List.setIfInBounds_toArray, List.set_cons_zero, List.set_cons_succ]
            refine wpAny_take (i := 6) (v := ?_) (by simp only [List.getElem?_toArray, List.getElem?_cons_succ, List.getElem?_cons_zero]; rfl) (by kernel_rfl) (by kernel_rfl) (by kernel_rfl) (fun _ _ _ h => h) (Or.inl ⟨by rfl, ?_⟩) ?_
            rotate_left
            · intro w
              go_simp
              try with_reducible rfl
            try simp only [Act.put, List.setIfInBounds_toArray, List.set_cons_zero, List.set_cons_succ]
            refine wpAny_ready (rs := [7]) (by kernel_rfl) (by simp) ?_
            refine (AllReady.cons (by simp only [List.getElem?_toArray, List.getElem?_cons_succ, List.getElem?_cons_zero]; rfl) (fun K hK => ?_) AllReady.nil)
            have HK := Lib.hid hK
            clear hK
            go_simp
            refine (HPC.out _).mono ?_
            rintro e w' ⟨rfl, rfl⟩
            go_wp2_with fail
            refine HK.out _ _ ?_
            clear HK K
            try simp only [Act.put, List.setIfInBounds_toArray, List.set_cons_zero, List.set_cons_succ]
            refine wpAny_ready (rs := [8]) (by kernel_rfl) (by simp) ?_
            refine (AllReady.cons (by simp only [List.getElem?_toArray, List.getElem?_cons_succ, List.getElem?_cons_zero]; rfl) (fun K hK => ?_) AllReady.nil)
            have HK := Lib.hid hK
            clear hK
            go_simp
            refine HK.out _ _ ?_
            clear HK K
            try simp only [Act.put, List.setIfInBounds_toArray, List.set_cons_zero, List.set_cons_succ]
            refine wpAny_take (i := 9) (v := ?_) (by simp only [List.getElem?_toArray, List.getElem?_cons_succ, List.getElem?_cons_zero]; rfl) (by kernel_rfl) (by kernel_rfl) (by kernel_rfl) (fun _ _ _ h => h) (Or.inl ⟨by rfl, ?_⟩) ?_
            rotate_left
            · intro w
              go_simp
              try with_reducible rfl
            try simp only [Act.put, List.setIfInBounds_toArray, List.set_cons_zero, List.set_cons_succ]
            refine wpAny_ready (rs := [10]) (by kernel_rfl) (by simp) ?_
            refine (AllReady.cons (by simp only [List.getElem?_toArray, List.getElem?_cons_succ, List.getElem?_cons_zero]; rfl) (fun K hK => ?_) AllReady.nil)
            have HK := Lib.hid hK
            clear hK
            go_simp
            refine HK.out _ _ ?_
            clear HK K
            try simp only [Act.put, List.setIfInBounds_toArray, List.set_cons_zero, List.set_cons_succ]
            refine wpAny_done (by kernel_rfl) ?_ _
            refine NoPanic.normal ?_
            have X6 : Hid (((W5.setCell ⟨bw, 3, none⟩ (.slice pu m' cu)).drew).heap[bw]? = some (.cells #[.int .i64 1, stv nm, stv to, .slice pu m' cu, .int .i64 z] 78 (0, 0))) := Lib.hid (Lib.heap_setCell_same (w := W5) (i := 3) X5.out _)
            have B6 : Hid (Below wr.heap.size wr ((W5.setCell ⟨bw, 3, none⟩ (.slice pu m' cu)).drew)) := Lib.hid ((((Only.of_below (S := fun k => k = bw) B5.out).one (b := bw) (i := 3) rfl _).drew).below (Nat.le_refl _) (fun k hk => by rw [hk, HBW.out]; exact Nat.le_refl _))
            clear x3 z5
            generalize (W5.setCell ⟨bw, 3, none⟩ (.slice pu m' cu)).drew = W6 at *
            have HB6 : Hid (Below w.heap.size w W6) := Lib.hid (HS.out.2.2.trans (B6.out.mono HS.out.2.2.size))
            have y0 : W6.cell? ⟨bw, 0, none⟩ = some (.int .i64 1) := by rw [cell_of_row W6 bw 0 _ _ _ X6.out]; rfl
            have y1 : W6.cell? ⟨bw, 1, none⟩ = some (stv nm) := by rw [cell_of_row W6 bw 1 _ _ _ X6.out]; rfl
            have y2 : W6.cell? ⟨bw, 2, none⟩ = some (stv to) := by rw [cell_of_row W6 bw 2 _ _ _ X6.out]; rfl
            have y3 : W6.cell? ⟨bw, 3, none⟩ = some (.slice pu m' cu) := by rw [cell_of_row W6 bw 3 _ _ _ X6.out]; rfl
            have y4 : W6.cell? ⟨bw, 4, none⟩ = some (.int .i64 z) := by rw [cell_of_row W6 bw 4 _ _ _ X6.out]; rfl
            clear e0 e1 e2 e3 e4 r1 r2 r3 r4 z1 z2 z3 z4
            by_cases hm0 : 0 < m'
            · have HPT : Hid (part (run s.kept (s.pend.take k)) ⟨0, nm, to, bs, z⟩ cut = aput nm (fbytes nm (fb D) ++ bs.take m') (fb D)) := Lib.hid (by rw [HPA.out, if_neg (by omega), HS.out.2.1]; unfold turn; rw [if_pos rfl])
              go_wp2_with fail
              refine (rturn0_to W6 (fun x => A x ∨ w.heap.size ≤ x) _ D nm to (.slice pu m' cu) (bs.take m') (z : Int) (HS.out.1.kb B6.out) (by have := HGO.out.1.many; rw [← HS.out.2.1, fb_length] at this; have := HW.out; omega) ((HTB.out.kb B6.out).mono (fun k hk => .inl hk)) (Nat.le_trans (fbytes_le nm (fb D)) (by rw [HS.out.2.1]; exact HGO.out.1.tot)) (by rw [List.length_take]; have := HLB.out; omega)).mono ?_
              rintro e w9 ⟨v9, E9, rfl, h9, f9, b9⟩
              obtain ⟨p9, c9, rfl, _⟩ := h9.slice
              have HB9 : Hid (Below w.heap.size w w9) := Lib.hid (HB6.out.trans (b9.mono HB6.out.size))
              have H9 : Hid (FAt w9 (fun x => A x ∨ w.heap.size ≤ x) (.slice p9 E9.length c9) E9) := Lib.hid (h9.mono (fun x hx => by
                rcases hx with hx | hx
                · exact hx
                · exact .inr (Nat.le_trans HB6.out.size hx)))
              have F9 := Lib.hid f9
              have HR9 := Lib.hid (H.out.kb HB9.out)
              have r1 := HR9.out.c1
              have r2 := HR9.out.c2
              have r3 := HR9.out.c3
              have r4 := HR9.out.c4
              have z1 := HR9.out.fz 1
              have z2 := HR9.out.fz 2
              have z3 := HR9.out.fz 3
              have z4 := HR9.out.fz 4
              clear h9 f9 b9 y0 y1 y2 y3 y4
              go_wp2_with fail
              go_end0
              refine ⟨rfl, ?_⟩
              rw [HCR.out, HPT.out]
              exact crash_rend H.out HB9.out H9.out F9.out
            · have hm00 : m' = 0 := by omega
              have HPT : Hid (part (run s.kept (s.pend.take k)) ⟨0, nm, to, bs, z⟩ cut = run s.kept (s.pend.take k)) := Lib.hid (by rw [HPA.out, if_pos hm00])
              have HR9 := Lib.hid (H.out.kb HB6.out)
              have r1 := HR9.out.c1
              have r2 := HR9.out.c2
              have r3 := HR9.out.c3
              have r4 := HR9.out.c4
              have z1 := HR9.out.fz 1
              have z2 := HR9.out.fz 2
              have z3 := HR9.out.fz 3
              have z4 := HR9.out.fz 4
              have HM0 : Hid ((m' : Int) = 0) := Lib.hid (by omega)
              have hm9 : ¬ (0 : Int) < (m' : Int) := by omega
              clear hm00
              go_wp2_with fail
              go_end0
              refine ⟨rfl, ?_⟩
              rw [HCR.out, HPT.out]
              exact crash_rend H.out HB6.out (HS.out.1.kb B6.out) HS.out.2.1
          · have HK := Lib.hid hK
            clear hK
            go_simp
            refine HK.out _ _ ?_
            clear HK K
            try simp only [Act.put, List.setIfInBounds_toArray, List.set_cons_zero, List.set_cons_succ]
            refine wpAny_take (i := 5) (v := ?_) (by simp only [List.getElem?_toArray, List.getElem?_cons_succ, List.getElem?_cons_zero]; rfl) (by kernel_rfl) (by kernel_rfl) (by kernel_rfl) (fun _ _ _ h => h) (Or.inl ⟨by rfl, ?_⟩) ?_
            rotate_left
            · intro w
              go_simp
              try with_reducible rfl
            try simp only [Act.put, List.setIfInBounds_toArray, List.set_cons_zero, List.set_cons_succ]
            refine wpAny_take (i := 6) (v := ?_) (by simp only [List.getElem?_toArray, List.getElem?_cons_succ, List.getElem?_cons_zero]; rfl) (by kernel_rfl) (by kernel_rfl) (by kernel_rfl) (fun _ _ _ h => h) (Or.inl ⟨by rfl, ?_⟩) ?_
            rotate_left
            · intro w
              go_simp
              try with_reducible rfl
            try simp only [Act.put, List.setIfInBounds_toArray, List.set_cons_zero, List.set_cons_succ]
            refine wpAny_ready (rs := [1, 7]) (by kernel_rfl) (by simp) ?_
            refine (AllReady.cons (by simp only [List.getElem?_toArray, List.getElem?_cons_succ, List.getElem?_cons_zero]; rfl) (fun K hK => ?_) (AllReady.cons (by simp only [List.getElem?_toArray, List.getElem?_cons_succ, List.getElem?_cons_zero]; rfl) (fun K hK => ?_) AllReady.nil))
            · have HK := Lib.hid hK
              clear hK
              go_simp
              refine HK.out _ _ ?_
              clear HK K
              try simp only [Act.put, List.setIfInBounds_toArray, List.set_cons_zero, List.set_cons_succ]
              refine wpAny_ready (rs := [7]) (by kernel_rfl) (by simp) ?_
              refine (AllReady.cons (by simp only [List.getElem?_toArray, List.getElem?_cons_succ, List.getElem?_cons_zero]; rfl) (fun K hK => ?_) AllReady.nil)
              have HK := Lib.hid hK
              clear hK
              go_simp
              refine (HPC.out _).mono ?_
              rintro e w' ⟨rfl, rfl⟩
              go_wp2_with fail
              refine HK.out _ _ ?_
              clear HK K
              try simp only [Act.put, List.setIfInBounds_toArray, List.set_cons_zero, List.set_cons_succ]
              refine wpAny_ready (rs := [8]) (by kernel_rfl) (by simp) ?_
              refine (AllReady.cons (by simp only [List.getElem?_toArray, List.getElem?_cons_succ, List.getElem?_cons_zero]; rfl) (fun K hK => ?_) AllReady.nil)
              have HK := Lib.hid hK
              clear hK
              go_simp
              refine HK.out _ _ ?_
              clear HK K
              try simp only [Act.put, List.setIfInBounds_toArray, List.set_cons_zero, List.set_cons_succ]
              refine wpAny_take (i := 9) (v := ?_) (by simp only [List.getElem?_toArray, List.getElem?_cons_succ, List.getElem?_cons_zero]; rfl) (by kernel_rfl) (by kernel_rfl) (by kernel_rfl) (fun _ _ _ h => h) (Or.inl ⟨by rfl, ?_⟩) ?_
              rotate_left
              · intro w
                go_simp
                try with_reducible rfl
              try simp only [Act.put, List.setIfInBounds_toArray, List.set_cons_zero, List.set_cons_succ]
              refine wpAny_ready (rs := [10]) (by kernel_rfl) (by simp) ?_
              refine (AllReady.cons (by simp only [List.getElem?_toArray, List.getElem?_cons_succ, List.getElem?_cons_zero]; rfl) (fun K hK => ?_) AllReady.nil)
              have HK := Lib.hid hK
              clear hK
              go_simp
              refine HK.out _ _ ?_
              clear HK K
              try simp only [Act.put, List.setIfInBounds_toArray, List.set_cons_zero, List.set_cons_succ]
              refine wpAny_done (by kernel_rfl) ?_ _
              refine NoPanic.normal ?_
              have X6 : Hid (((W5.setCell ⟨bw, 3, none⟩ (.slice pu m' cu)).drew).heap[bw]? = some (.cells #[.int .i64 1, stv nm, stv to, .slice pu m' cu, .int .i64 z] 78 (0, 0))) := Lib.hid (Lib.heap_setCell_same (w := W5) (i := 3) X5.out _)
              have B6 : Hid (Below wr.heap.size wr ((W5.setCell ⟨bw, 3, none⟩ (.slice pu m' cu)).drew)) := Lib.hid ((((Only.of_below (S := fun k => k = bw) B5.out).one (b := bw) (i := 3) rfl _).drew).below (Nat.le_refl _) (fun k hk => by rw [hk, HBW.out]; exact Nat.le_refl _))
              clear x3 z5
              generalize (W5.setCell ⟨bw, 3, none⟩ (.slice pu m' cu)).drew = W6 at *
              have HB6 : Hid (Below w.heap.size w W6) := Lib.hid (HS.out.2.2.trans (B6.out.mono HS.out.2.2.size))
              have y0 : W6.cell? ⟨bw, 0, none⟩ = some (.int .i64 1) := by rw [cell_of_row W6 bw 0 _ _ _ X6.out]; rfl
              have y1 : W6.cell? ⟨bw, 1, none⟩ = some (stv nm) := by rw [cell_of_row W6 bw 1 _ _ _ X6.out]; rfl
              have y2 : W6.cell? ⟨bw, 2, none⟩ = some (stv to) := by rw [cell_of_row W6 bw 2 _ _ _ X6.out]; rfl
              have y3 : W6.cell? ⟨bw, 3, none⟩ = some (.slice pu m' cu) := by rw [cell_of_row W6 bw 3 _ _ _ X6.out]; rfl
              have y4 : W6.cell? ⟨bw, 4, none⟩ = some (.int .i64 z) := by rw [cell_of_row W6 bw 4 _ _ _ X6.out]; rfl
              clear e0 e1 e2 e3 e4 r1 r2 r3 r4 z1 z2 z3 z4
              by_cases hm0 : 0 < m'
              · have HPT : Hid (part (run s.kept (s.pend.take k)) ⟨0, nm, to, bs, z⟩ cut = aput nm (fbytes nm (fb D) ++ bs.take m') (fb D)) := Lib.hid (by rw [HPA.out, if_neg (by omega), HS.out.2.1]; unfold turn; rw [if_pos rfl])
                go_wp2_with fail
                refine (rturn0_to W6 (fun x => A x ∨ w.heap.size ≤ x) _ D nm to (.slice pu m' cu) (bs.take m') (z : Int) (HS.out.1.kb B6.out) (by have := HGO.out.1.many; rw [← HS.out.2.1, fb_length] at this; have := HW.out; omega) ((HTB.out.kb B6.out).mono (fun k hk => .inl hk)) (Nat.le_trans (fbytes_le nm (fb D)) (by rw [HS.out.2.1]; exact HGO.out.1.tot)) (by rw [List.length_take]; have := HLB.out; omega)).mono ?_
                rintro e w9 ⟨v9, E9, rfl, h9, f9, b9⟩
                obtain ⟨p9, c9, rfl, _⟩ := h9.slice
                have HB9 : Hid (Below w.heap.size w w9) := Lib.hid (HB6.out.trans (b9.mono HB6.out.size))
                have H9 : Hid (FAt w9 (fun x => A x ∨ w.heap.size ≤ x) (.slice p9 E9.length c9) E9) := Lib.hid (h9.mono (fun x hx => by
                  rcases hx with hx | hx
                  · exact hx
                  · exact .inr (Nat.le_trans HB6.out.size hx)))
                have F9 := Lib.hid f9
                have HR9 := Lib.hid (H.out.kb HB9.out)
                have r1 := HR9.out.c1
                have r2 := HR9.out.c2
                have r3 := HR9.out.c3
                have r4 := HR9.out.c4
                have z1 := HR9.out.fz 1
                have z2 := HR9.out.fz 2
                have z3 := HR9.out.fz 3
                have z4 := HR9.out.fz 4
                clear h9 f9 b9 y0 y1 y2 y3 y4
                go_wp2_with fail
                go_end0
                refine ⟨rfl, ?_⟩
                rw [HCR.out, HPT.out]
                exact crash_rend H.out HB9.out H9.out F9.out
              · have hm00 : m' = 0 := by omega
                have HPT : Hid (part (run s.kept (s.pend.take k)) ⟨0, nm, to, bs, z⟩ cut = run s.kept (s.pend.take k)) := Lib.hid (by rw [HPA.out, if_pos hm00])
                have HR9 := Lib.hid (H.out.kb HB6.out)
                have r1 := HR9.out.c1
                have r2 := HR9.out.c2
                have r3 := HR9.out.c3
                have r4 := HR9.out.c4
                have z1 := HR9.out.fz 1
                have z2 := HR9.out.fz 2
                have z3 := HR9.out.fz 3
                have z4 := HR9.out.fz 4
                have HM0 : Hid ((m' : Int) = 0) := Lib.hid (by omega)
                have hm9 : ¬ (0 : Int) < (m' : Int) := by omega
                clear hm00
                go_wp2_with fail
                go_end0
                refine ⟨rfl, ?_⟩
                rw [HCR.out, HPT.out]
                exact crash_rend H.out HB6.out (HS.out.1.kb B6.out) HS.out.2.1
            · have HK := Lib.hid hK
              clear hK
              go_simp
              refine (HPC.out _).mono ?_
              rintro e w' ⟨rfl, rfl⟩
              go_wp2_with fail
              refine HK.out _ _ ?_
              clear HK K
              try simp only [Act.put, List.setIfInBounds_toArray, List.set_cons_zero, List.set_cons_succ]
              refine wpAny_ready (rs := [1]) (by kernel_rfl) (by simp) ?_
              refine (AllReady.cons (by simp only [List.getElem?_toArray, List.getElem?_cons_succ, List.getElem?_cons_zero]; rfl) (fun K hK => ?_) AllReady.nil)
              have HK := Lib.hid hK
              clear hK
              go_simp
              refine HK.out _ _ ?_
              clear HK K
              try simp only [Act.put, List.setIfInBounds_toArray, List.set_cons_zero, List.set_cons_succ]
              refine wpAny_ready (rs := [8]) (by kernel_rfl) (by simp) ?_
              refine (AllReady.cons (by simp only [List.getElem?_toArray, List.getElem?_cons_succ, List.getElem?_cons_zero]; rfl) (fun K hK => ?_) AllReady.nil)
              have HK := Lib.hid hK
              clear hK
              go_simp
              refine HK.out _ _ ?_
              clear HK K
              try simp only [Act.put, List.setIfInBounds_toArray, List.set_cons_zero, List.set_cons_succ]
              refine wpAny_take (i := 9) (v := ?_) (by simp only [List.getElem?_toArray, List.getElem?_cons_succ, List.getElem?_cons_zero]; rfl) (by kernel_rfl) (by kernel_rfl) (by kernel_rfl) (fun _ _ _ h => h) (Or.inl ⟨by rfl, ?_⟩) ?_
              rotate_left
              · intro w
                go_simp
                try with_reducible rfl
              try simp only [Act.put, List.setIfInBounds_toArray, List.set_cons_zero, List.set_cons_succ]
              refine wpAny_ready (rs := [10]) (by kernel_rfl) (by simp) ?_
              refine (AllReady.cons (by simp only [List.getElem?_toArray, List.getElem?_cons_succ, List.getElem?_cons_zero]; rfl) (fun K hK => ?_) AllReady.nil)
              have HK := Lib.hid hK
              clear hK
              go_simp
              refine HK.out _ _ ?_
              clear HK K
              try simp only [Act.put, List.setIfInBounds_toArray, List.set_cons_zero, List.set_cons_succ]
              refine wpAny_done (by kernel_rfl) ?_ _
              refine NoPanic.normal ?_
              have X6 : Hid (((W5.setCell ⟨bw, 3, none⟩ (.slice pu m' cu)).drew).heap[bw]? = some (.cells #[.int .i64 1, stv nm, stv to, .slice pu m' cu, .int .i64 z] 78 (0, 0))) := Lib.hid (Lib.heap_setCell_same (w := W5) (i := 3) X5.out _)
              have B6 : Hid (Below wr.heap.size wr ((W5.setCell ⟨bw, 3, none⟩ (.slice pu m' cu)).drew)) := Lib.hid ((((Only.of_below (S := fun k => k = bw) B5.out).one (b := bw) (i := 3) rfl _).drew).below (Nat.le_refl _) (fun k hk => by rw [hk, HBW.out]; exact Nat.le_refl _))
              clear x3 z5
              generalize (W5.setCell ⟨bw, 3, none⟩ (.slice pu m' cu)).drew = W6 at *
              have HB6 : Hid (Below w.heap.size w W6) := Lib.hid (HS.out.2.2.trans (B6.out.mono HS.out.2.2.size))
              have y0 : W6.cell? ⟨bw, 0, none⟩ = some (.int .i64 1) := by rw [cell_of_row W6 bw 0 _ _ _ X6.out]; rfl
              have y1 : W6.cell? ⟨bw, 1, none⟩ = some (stv nm) := by rw [cell_of_row W6 bw 1 _ _ _ X6.out]; rfl
              have y2 : W6.cell? ⟨bw, 2, none⟩ = some (stv to) := by rw [cell_of_row W6 bw 2 _ _ _ X6.out]; rfl
              have y3 : W6.cell? ⟨bw, 3, none⟩ = some (.slice pu m' cu) := by rw [cell_of_row W6 bw 3 _ _ _ X6.out]; rfl
              have y4 : W6.cell? ⟨bw, 4, none⟩ = some (.int .i64 z) := by rw [cell_of_row W6 bw 4 _ _ _ X6.out]; rfl
              clear e0 e1 e2 e3 e4 r1 r2 r3 r4 z1 z2 z3 z4
              by_cases hm0 : 0 < m'
              · have HPT : Hid (part (run s.kept (s.pend.take k)) ⟨0, nm, to, bs, z⟩ cut = aput nm (fbytes nm (fb D) ++ bs.take m') (fb D)) := Lib.hid (by rw [HPA.out, if_neg (by omega), HS.out.2.1]; unfold turn; rw [if_pos rfl])
                go_wp2_with fail
                refine (rturn0_to W6 (fun x => A x ∨ w.heap.size ≤ x) _ D nm to (.slice pu m' cu) (bs.take m') (z : Int) (HS.out.1.kb B6.out) (by have := HGO.out.1.many; rw [← HS.out.2.1, fb_length] at this; have := HW.out; omega) ((HTB.out.kb B6.out).mono (fun k hk => .inl hk)) (Nat.le_trans (fbytes_le nm (fb D)) (by rw [HS.out.2.1]; exact HGO.out.1.tot)) (by rw [List.length_take]; have := HLB.out; omega)).mono ?_
                rintro e w9 ⟨v9, E9, rfl, h9, f9, b9⟩
                obtain ⟨p9, c9, rfl, _⟩ := h9.slice
                have HB9 : Hid (Below w.heap.size w w9) := Lib.hid (HB6.out.trans (b9.mono HB6.out.size))
                have H9 : Hid (FAt w9 (fun x => A x ∨ w.heap.size ≤ x) (.slice p9 E9.length c9) E9) := Lib.hid (h9.mono (fun x hx => by
                  rcases hx with hx | hx
                  · exact hx
                  · exact .inr (Nat.le_trans HB6.out.size hx)))
                have F9 := Lib.hid f9
                have HR9 := Lib.hid (H.out.kb HB9.out)
                have r1 := HR9.out.c1
                have r2 := HR9.out.c2
                have r3 := HR9.out.c3
                have r4 := HR9.out.c4
                have z1 := HR9.out.fz 1
                have z2 := HR9.out.fz 2
                have z3 := HR9.out.fz 3
                have z4 := HR9.out.fz 4
                clear h9 f9 b9 y0 y1 y2 y3 y4
                go_wp2_with fail
                go_end0
                refine ⟨rfl, ?_⟩
                rw [HCR.out, HPT.out]
                exact crash_rend H.out HB9.out H9.out F9.out
              · have hm00 : m' = 0 := by omega
                have HPT : Hid (part (run s.kept (s.pend.take k)) ⟨0, nm, to, bs, z⟩ cut = run s.kept (s.pend.take k)) := Lib.hid (by rw [HPA.out, if_pos hm00])
                have HR9 := Lib.hid (H.out.kb HB6.out)
                have r1 := HR9.out.c1
                have r2 := HR9.out.c2
                have r3 := HR9.out.c3
                have r4 := HR9.out.c4
                have z1 := HR9.out.fz 1
                have z2 := HR9.out.fz 2
                have z3 := HR9.out.fz 3
                have z4 := HR9.out.fz 4
                have HM0 : Hid ((m' : Int) = 0) := Lib.hid (by omega)
                have hm9 : ¬ (0 : Int) < (m' : Int) := by omega
                clear hm00
                go_wp2_with fail
                go_end0
                refine ⟨rfl, ?_⟩
                rw [HCR.out, HPT.out]
                exact crash_rend H.out HB6.out (HS.out.1.kb B6.out) HS.out.2.1
        · have hk0' : ¬ (kind : Int) + 1 = 1 := by omega
          have HPT : Hid (part (run s.kept (s.pend.take k)) ⟨kind, nm, to, bs, z⟩ cut = run s.kept (s.pend.take k)) := Lib.hid (by unfold part; rw [if_neg hk0])
          clear hk0
          go_wp2_with fail
          go_end0
          refine ⟨rfl, ?_⟩
          rw [HCR.out, HPT.out]
          exact crash_rend H.out HS.out.2.2 HS.out.1 HS.out.2.1
      · have hkn0 : Hid (k = n) := Lib.hid (by omega)
        have HCR : Hid (s.crash done cut = { s with kept := run s.kept (s.pend.take k), pend := [], fuse := -1, dead := false }) := Lib.hid (by
          unfold St.crash crashF
          rw [HDD.out, List.getElem?_eq_none (by rw [← HNP.out]; omega)])
        have r1 := HR.out.c1
        have r3 := HR.out.c3
        have r4 := HR.out.c4
        have z1 := HR.out.fz 1
        have z2 := HR.out.fz 2
        have z3 := HR.out.fz 3
        have z4 := HR.out.fz 4
        go_wp2_with fail
        go_end0
        refine ⟨rfl, ?_⟩
        rw [HCR.out]
        exact crash_rend H.out HS.out.2.2 HS.out.1 HS.out.2.1
/-- A disk of the caller's own and the reference's, apart from each other. -/
structure Pl (w W : World) (B d B' r : Nat) (S A : Nat → Prop) (s t : St) : Prop where
  ds : DS W B d S s
  rs : RS W B' r A t
  dis : ∀ k, S k → ¬ A k ∧ k ≠ r
  bel : Below w.heap.size w W
  ge : ∀ k, S k → w.heap.size ≤ k
  ger : w.heap.size ≤ r
  alt : ∀ k, A k → k < W.heap.size
  rlt : r < W.heap.size
theorem RS.lts {w : World} {B b : Nat} {A : Nat → Prop} {s : St} (h : RS w B b A s) : (∀ k, A k → k < w.heap.size) ∧ b < w.heap.size := by
  obtain ⟨f, vk, vp, E, Q, h⟩ := h
  exact ⟨h.lt, h.blt⟩
section
variable {w W W' : World} {B d B' r : Nat} {S A : Nat → Prop} {s t s' t' : St}
theorem Pl.kb (h : Pl w W B d B' r S A s t) (hb : Below W.heap.size W W') : Pl w W' B d B' r S A s t :=
  ⟨h.ds.kb hb, h.rs.kb hb, h.dis, h.bel.trans (hb.mono h.bel.size), h.ge, h.ger, fun k hk => Nat.lt_of_lt_of_le (h.alt k hk) hb.size, Nat.lt_of_lt_of_le h.rlt hb.size⟩
theorem Pl.stepD (h : Pl w W B d B' r S A s t) (hp : DPost W B d S s' W') : ∃ S', Pl w W' B d B' r S' A s' t ∧ ∀ k, S' k → S k ∨ W.heap.size ≤ k := by
  obtain ⟨S', h1, h2, h3⟩ := hp
  refine ⟨S', ⟨h1, h.rs.kept h2 (fun e => (h.dis r e).2 rfl) (fun k hk e => (h.dis k e).1 hk), fun k hk => ?_, h.bel.trans (h2.below h.bel.size h.ge), fun k hk => (h3 k hk).elim (h.ge k) (fun e => Nat.le_trans h.bel.size e), h.ger, fun k hk => Nat.lt_of_lt_of_le (h.alt k hk) h2.size, Nat.lt_of_lt_of_le h.rlt h2.size⟩, h3⟩
  rcases h3 k hk with e | e
  · exact h.dis k e
  · exact ⟨fun e2 => by have := h.alt k e2; omega, fun e2 => by have := h.rlt; omega⟩
theorem Pl.stepR (h : Pl w W B d B' r S A s t) (hp : RPost W B' r A t' W') : ∃ A', Pl w W' B d B' r S A' s t' := by
  obtain ⟨A', h1, h2, h3⟩ := hp
  refine ⟨A', ⟨h.ds.kept h2 (fun k hk _ => (h.dis k hk).2), h1, fun k hk => ⟨fun e => ?_, (h.dis k hk).2⟩, h.bel.trans (h2.below h.bel.size (fun k hk => by rw [hk]; exact h.ger)), h.ge, h.ger, h1.lts.1, h1.lts.2⟩⟩
  rcases h3 k e with e | e
  · exact (h.dis k hk).1 e
  · have := h.ds.lt k hk; omega
end
end Go.Proofs.YtfneadlknieppaaGreatDoor
