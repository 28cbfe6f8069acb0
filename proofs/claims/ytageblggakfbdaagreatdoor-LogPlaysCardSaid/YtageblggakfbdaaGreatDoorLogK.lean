/- A log of the caller's own; the chapter's example returns true. No condition. -/
import Derived.Test.YtageblggakfbdaaGreatDoorLogE
import Derived.Test.YtageblggakfbdaaGreatDoorDskRn
namespace Go.Proofs.YtageblggakfbdaaGreatDoor
open Go.RowKit
open Go.Maps

/-- A log of the caller's own in memory, with its disk. -/
structure CL (w W : World) (B d l : Nat) (S : Nat → Prop) (s : St) (nm : Key) (R : List Rc) : Prop where
  dl : DL W B d l S s nm R
  bel : Below w.heap.size w W
  ge : ∀ k, S k → w.heap.size ≤ k
section
variable {w W W' : World} {B d l : Nat} {S S' : Nat → Prop} {s s' : St} {nm : Key} {R R' : List Rc}
theorem CL.kb (h : CL w W B d l S s nm R) (hb : Below W.heap.size W W') : CL w W' B d l S s nm R := ⟨h.dl.kb hb, h.bel.trans (hb.mono h.bel.size), h.ge⟩
theorem CL.step (h : CL w W B d l S s nm R) (hd : DL W' B d l S' s' nm R') (ho : Only S W W') (hs : ∀ k, S' k → S k ∨ W.heap.size ≤ k) : CL w W' B d l S' s' nm R' :=
  ⟨hd, h.bel.trans (ho.below h.bel.size h.ge), fun k hk => (hs k hk).elim (h.ge k) (fun e => Nat.le_trans h.bel.size e)⟩
theorem CL.opened {l' : Nat} {S0 : Nat → Prop} (h : CL w W B d l S s nm R) (h0 : ∀ k, S0 k → S k) (hd : DL W' B d l' S' s' nm R') (ho : Only S0 W W') (hs : ∀ k, S' k → S0 k ∨ W.heap.size ≤ k) : CL w W' B d l' S' s' nm R' :=
  ⟨hd, h.bel.trans (ho.below h.bel.size (fun k hk => h.ge k (h0 k hk))), fun k hk => (hs k hk).elim (fun e => h.ge k (h0 k e)) (fun e => Nat.le_trans h.bel.size e)⟩
theorem Cl.opened {l' : Nat} (h : Cl w W B d S s) (hd : DL W' B d l' S' s' nm R') (ho : Only S W W') (hs : ∀ k, S' k → S k ∨ W.heap.size ≤ k) : CL w W' B d l' S' s' nm R' :=
  ⟨hd, h.bel.trans (ho.below h.bel.size h.ge), fun k hk => (hs k hk).elim (h.ge k) (fun e => Nat.le_trans h.bel.size e)⟩
theorem DL.ds (h : DL W B d l S s nm R) : ∃ S0, DS W B d S0 s ∧ ∀ k, S0 k → S k := by
  obtain ⟨S0, rv, E, hx, _⟩ := h
  exact ⟨S0, hx.ds, hx.s0⟩
/-- A call on the disk alone. -/
theorem DL.disk (h : DL W B d l S s nm R) : ∃ S0, DS W B d S0 s ∧ (∀ k, S0 k → S k) ∧ ∀ W' s', DPost W B d S0 s' W' → LPost W B d l S s' nm R W' := by
  obtain ⟨S0, rv, E, hx, rfl⟩ := h
  exact ⟨S0, hx.ds, hx.s0, fun W' s' hp => by obtain ⟨S1, h1, h2, h3⟩ := hp; exact hx.disk' h1 h2 h3⟩
theorem DL.rok (h : DL W B d l S s nm R) : (∀ r ∈ R, Rok r) ∧ ends R ≤ 1000000000 := by
  obtain ⟨S0, rv, E, hx, rfl⟩ := h
  refine ⟨fun r hr => ?_, hx.log.ra.small⟩
  obtain ⟨e, he, rfl⟩ := List.mem_map.1 hr
  exact hx.log.ra.rok e he
end
theorem len_dl (w : World) (B d l : Nat) (S : Nat → Prop) (s : St) (nm : Key) (R : List Rc) (h : DL w B d l S s nm R) : Calls Tryz.prog 29 #[.pointer (some ⟨l, 0, none⟩)] w fun e w' => e = .returned (.int .i64 (ends R)) ∧ w = w' := by
  obtain ⟨S0, rv, E, hx, rfl⟩ := h
  exact len_to w B l d nm rv E hx.log
theorem count_dl (w : World) (B d l : Nat) (S : Nat → Prop) (s : St) (nm : Key) (R : List Rc) (h : DL w B d l S s nm R) : Calls Tryz.prog 65 #[.pointer (some ⟨l, 0, none⟩)] w fun e w' => e = .returned (.int .i64 R.length) ∧ w = w' := by
  obtain ⟨S0, rv, E, hx, rfl⟩ := h
  rw [rcs_len]
  exact count_to w B l d nm rv E hx.log
theorem record_dl (w : World) (B d l : Nat) (S : Nat → Prop) (s : St) (nm : Key) (R : List Rc) (k : Int) (h : DL w B d l S s nm R) : Calls Tryz.prog 76 #[.pointer (some ⟨l, 0, none⟩), .int .i64 k] w (RecPost w R k) := by
  obtain ⟨S0, rv, E, hx, rfl⟩ := h
  exact record_to w B l d nm rv E k hx.log
/-- Open where it goes well. -/
theorem open_ok (w : World) (B d : Nat) (S0 : Nat → Prop) (s : St) (nm : Key) (n : Int) (h : DS w B d S0 s) (hw : s.works ≤ 900000000) (hfu : s.fuse < 9223372036854775808) (hnm : nm.length ≤ 281474976710656) (ok : Okb (fbytes nm s.files)) (h0 : (openS s nm n).1 = 0) :
    Calls Tryz.prog 27 #[.pointer (some ⟨d, 0, none⟩), stv nm, .int .i64 n] w fun e w' => ∃ l S', e = .returned (.tuple #[.pointer (some ⟨l, 0, none⟩), .nilIface]) ∧ DL w' B d l S' (openS s nm n).2.1 nm (openS s nm n).2.2 ∧ Only S0 w w' ∧ ∀ k, S' k → S0 k ∨ w.heap.size ≤ k := by
  refine (open_to w B d S0 s nm n h hw hfu hnm ok).mono fun e w' hp => ?_
  unfold OpenPost at hp
  rw [if_pos h0] at hp
  exact hp
def kl0 : St := St.new 1000
def kl1 : St := (openS kl0 [102] 0).2.1
def kr1 : List Rc := (openS kl0 [102] 0).2.2
def kl2 : St := (addS kl1 [102] kr1 1 [97]).2.1
def kr2 : List Rc := (addS kl1 [102] kr1 1 [97]).2.2
def kl3 : St := (addS kl2 [102] kr2 2 [98]).2.1
def kr3 : List Rc := (addS kl2 [102] kr2 2 [98]).2.2
theorem kl_a : (openS kl0 [102] 0).1 = 0 ∧ kl0.works ≤ 900000000 ∧ kl0.fuse < 9223372036854775808 ∧ fbytes [102] kl0.files = [] := by decide +kernel
theorem kl_b : (addS kl1 [102] kr1 1 [97]).1 = 0 ∧ kl1.works ≤ 900000000 ∧ kl1.fuse < 9223372036854775808 ∧ ends kr1 ≤ 900000000 := by decide +kernel
theorem kl_c : ends kr2 = 10 := by decide +kernel
theorem kl_d : (addS kl2 [102] kr2 2 [98]).1 = 0 ∧ kl2.works ≤ 900000000 ∧ kl2.fuse < 9223372036854775808 ∧ ends kr2 ≤ 900000000 := by decide +kernel
theorem kl_e : kr3.length = 2 := by decide +kernel
theorem kl_f : (openS kl3 [102] 10).1 = 0 ∧ kl3.works ≤ 900000000 ∧ kl3.fuse < 9223372036854775808 := by decide +kernel
theorem kl_g : fbytes [102] kl3.files = frm 1 [97] ++ frm 2 [98] := by decide +kernel
theorem kl_h : (openS kl3 [102] 10).2.2.length = 1 := by decide +kernel
theorem okb_one {x : Int} (h : 0 ≤ x ∧ x < 256) : Okb [x] := fun y hy => by rw [List.mem_singleton.1 hy]; exact h
theorem seen_one (w : World) (x : Int) (c : Nat) (fr : Nat × Nat) (hc : 1 ≤ c) : Seen (w.alloc (.cells #[.int .u8 x] 5 fr)) (.slice (some ⟨w.heap.size, 0, none⟩) 1 c) [x] := by
  refine .inr ⟨⟨w.heap.size, 0, none⟩, c, rfl, hc, fun j u h => ?_⟩
  rw [Addr.add_lit, Nat.zero_add, World.cell?_alloc_mark w _ _ fr j]
  simpa using h
set_option maxRecDepth 20000 in
set_option maxHeartbeats 4000000 in
theorem known7_to (w : World) : Calls Tryz.prog 26 #[] w fun e w' => e = .returned (.bool true) ∧ Below w.heap.size w w' := by
  have kc := fun (w : World) (C : Array Value) (n c : Nat) => Lib.run_convert_bytes_const (P := Tryz.prog) w 29 5 C n c Tryz.underlying29 Tryz.underlying5
  go_enter Tryz.func26, Tryz.ntmps26
  go_wp2_with fail
  refine (new_to w 1000).mono ?_
  rintro e w1 ⟨d, S1, rfl, h1, b1, g1⟩
  have C1 : Hid (Cl w w1 w.heap.size d S1 kl0) := Lib.hid ⟨h1, b1, g1⟩
  clear h1 b1 g1
  go_wp2_with fail
  refine (open_ok w1 _ d S1 kl0 [102] 0 C1.out.ds kl_a.2.1 kl_a.2.2.1 (by decide) (by rw [kl_a.2.2.2]; exact Okb.nil) kl_a.1).mono ?_
  rintro e w2 ⟨l, S2, rfl, h2, o2, s2⟩
  have C2 : Hid (CL w w2 w.heap.size d l S2 kl1 [102] kr1) := Lib.hid (C1.out.opened h2 o2 s2)
  clear h2 o2 s2 C1
  have b3 : Below w2.heap.size w2 (w2.alloc (.cells #[.int .u8 97] 5 (1, 2))) := (Below.refl _ w2).alloc (Nat.le_refl _) _
  have C2b := Lib.hid (C2.out.kb b3)
  have hlt2 := C2.out.dl.lt
  go_wp2_with fail
  refine (add_to _ _ d l S2 kl1 [102] kr1 1 (.slice (some ⟨w2.heap.size, 0, none⟩) 1 1) [97] C2b.out.dl kl_b.2.1 kl_b.2.2.1 (by decide) (okb_one (by decide)) (seen_one w2 97 1 (1, 2) (by decide)) (fun j hj hs => by cases hj; exact absurd (hlt2 _ hs) (Nat.lt_irrefl _)) (by decide) kl_b.2.2.2).mono ?_
  rintro e w3 ⟨rfl, S3, h3, o3, s3⟩
  have C3 : Hid (CL w w3 w.heap.size d l S3 kl2 [102] kr2) := Lib.hid (C2b.out.step h3 o3 s3)
  rw [kl_b.1, show enoOf 0 = .nilIface from rfl]
  clear h3 o3 s3 b3 hlt2 C2 C2b
  go_wp2_with fail
  refine (len_dl w3 _ d l S3 kl2 [102] kr2 C3.out.dl).mono ?_
  rintro e w' ⟨rfl, rfl⟩
  rw [kl_c]
  have b4 : Below w3.heap.size w3 (w3.alloc (.cells #[.int .u8 98] 5 (1, 2))) := (Below.refl _ w3).alloc (Nat.le_refl _) _
  have C3b := Lib.hid (C3.out.kb b4)
  have hlt3 := C3.out.dl.lt
  go_wp2_with fail
  refine (add_to _ _ d l S3 kl2 [102] kr2 2 (.slice (some ⟨w3.heap.size, 0, none⟩) 1 1) [98] C3b.out.dl kl_d.2.1 kl_d.2.2.1 (by decide) (okb_one (by decide)) (seen_one w3 98 1 (1, 2) (by decide)) (fun j hj hs => by cases hj; exact absurd (hlt3 _ hs) (Nat.lt_irrefl _)) (by decide) kl_d.2.2.2).mono ?_
  rintro e w4 ⟨rfl, S4, h4, o4, s4⟩
  have C4 : Hid (CL w w4 w.heap.size d l S4 kl3 [102] kr3) := Lib.hid (C3b.out.step h4 o4 s4)
  rw [kl_d.1, show enoOf 0 = .nilIface from rfl]
  clear h4 o4 s4 b4 hlt3 C3 C3b
  go_wp2_with fail
  refine (count_dl w4 _ d l S4 kl3 [102] kr3 C4.out.dl).mono ?_
  rintro e w' ⟨rfl, rfl⟩
  rw [kl_e]
  obtain ⟨S5, hd5, hs5⟩ := C4.out.dl.ds
  have HD5 := Lib.hid hd5
  have HS5 := Lib.hid hs5
  clear hd5 hs5
  go_wp2_with fail
  refine (open_ok w4 _ d S5 kl3 [102] 10 HD5.out kl_f.2.1 kl_f.2.2 (by decide) (by rw [kl_g]; exact (frm_ok 1 (okb_one (by decide))).app (frm_ok 2 (okb_one (by decide)))) kl_f.1).mono ?_
  rintro e w5 ⟨m, S6, rfl, h5, o5, s5⟩
  have C5 := Lib.hid (C4.out.opened HS5.out h5 o5 s5)
  clear h5 o5 s5 C4 HD5 HS5
  go_wp2_with fail
  refine (count_dl w5 _ d m S6 _ [102] _ C5.out.dl).mono ?_
  rintro e w' ⟨rfl, rfl⟩
  rw [kl_h]
  go_wp2_with fail
  go_ret
  exact ⟨rfl, C5.out.bel⟩
end Go.Proofs.YtageblggakfbdaaGreatDoor
