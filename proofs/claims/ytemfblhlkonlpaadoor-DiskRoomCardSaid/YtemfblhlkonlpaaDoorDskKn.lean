/- DiskKnown returns true and makes new memory alone. Condition: errors.errorType holds what its text lays. -/
import Derived.Test.YtemfblhlkonlpaaDoorDskY
import Derived.Test.YtemfblhlkonlpaaDoorDskV3
import Derived.Test.YtemfblhlkonlpaaDoorDskK
import Derived.Test.YtemfblhlkonlpaaDoorDskRn
import Derived.Test.YtemfblhlkonlpaaDoorGenAs
namespace Go.Proofs.YtemfblhlkonlpaaDoor
open Go.RowKit
open Go.Maps

theorem khand_eno (w : World) (k : Int) (h : k ≠ 0) (hg : Glob w) : Calls Tryd.prog 23 #[eno k] w fun e w' => e = .returned (.int .i64 k) ∧ Below w.heap.size w w' := by
  have := khand_any w k hg
  unfold errOf at this
  rw [if_neg h] at this
  exact this
/-- A row of the caller's beside the disk. -/
structure RBes (W : World) (S : Nat → Prop) (B e : Nat) (v : Value) (n : Nat) (xs : List Value) : Prop where
  own : W.ownsRow B e 1 v n xs
  out : ∀ k, v.ownBlock = some k → ¬ S k
theorem RBes.step {W W' : World} {S S' : Nat → Prop} {B e n : Nat} {v : Value} {xs : List Value} (h : RBes W S B e v n xs) (ho : Only S W W') (hs : ∀ k, S' k → S k ∨ W.heap.size ≤ k) : RBes W' S' B e v n xs :=
  ⟨own_kept h.own ho h.out, fun k hk hs' => (hs k hs').elim (h.out k hk) (fun e => by have := (h.own.lt k hk).2; omega)⟩
theorem RBes.kb {W W' : World} {S : Nat → Prop} {B e n : Nat} {v : Value} {xs : List Value} (h : RBes W S B e v n xs) (hb : Below W.heap.size W W') : RBes W' S B e v n xs := ⟨own_kept h.own (S := fun _ => False) (Only.of_below hb) (fun _ _ h => h), h.out⟩
theorem RBes.new {w W W' : World} {B b e n : Nat} {S : Nat → Prop} {s : St} {v : Value} {xs : List Value} (hv : W'.ownsRow W.heap.size e 1 v n xs) (h : Cl w W B b S s) : RBes W' S W.heap.size e v n xs :=
  ⟨hv, fun k hk hs => by have h1 := (hv.lt k hk).1; have h2 := h.ds.lt k hs; omega⟩
theorem fuse_ds (w : World) (B b : Nat) (S : Nat → Prop) (s : St) (n : Int) (h : DS w B b S s) : Calls Tryd.prog 38 #[.pointer (some ⟨b,0,none⟩), .int .i64 n] w fun e w' => e = .returned (.tuple #[]) ∧ DPost w B b S { s with fuse := n } w' := by
  obtain ⟨c, L, P, hx⟩ := h
  refine (fuse_to w b c n hx.dc.d).mono ?_
  rintro e w' ⟨rfl, hd, ho⟩
  exact ⟨rfl, S, ⟨_, L, P, { dc := hx.dc.restamp hd rfl rfl rfl ho, hist := hx.hist, fb := hx.fb, room := hx.room, fuse := rfl, dead := hx.dead, works := hx.works, room0 := hx.room0, pl := hx.pl, foot := fun k hk => hx.foot k (foot_restamp rfl rfl hk), lt := fun k hk => Nat.lt_of_lt_of_le (hx.lt k hk) ho.size }⟩, ho.mono (fun k _ e => by subst e; exact hx.foot _ (.inl rfl)), fun k hk => .inl hk⟩
theorem used_ds2 (w : World) (B b : Nat) (S : Nat → Prop) (s : St) (h : DS w B b S s) : Calls Tryd.prog 34 #[.pointer (some ⟨b,0,none⟩)] w fun e w' => e = .returned (.int .i64 (if s.dead = true then 0 else (s.used : Int))) ∧ w = w' := by
  obtain ⟨c, L, P, hx⟩ := h
  have := used_to w b c hx.dc.d
  rw [hx.dead, hx.used_eq] at this
  exact this
theorem dead_ds (w : World) (B b : Nat) (S : Nat → Prop) (s : St) (h : DS w B b S s) : Calls Tryd.prog 40 #[.pointer (some ⟨b,0,none⟩)] w fun e w' => e = .returned (.bool s.dead) ∧ w = w' := by
  obtain ⟨c, L, P, hx⟩ := h
  have c5 := hx.dc.d.c5
  rw [hx.dead] at c5
  clear hx
  go_enter Tryd.func40, Tryd.ntmps40
  go_wp2
  go_ret
  exact ⟨rfl, rfl⟩
theorem dcell_kb {w w' : World} {a : Addr} {u : Value} (h : w.cell? a = some u) (hb : Below w.heap.size w w') : w'.cell? a = some u := by
  rw [World.cell?_of_block (w := w) (hb.block _ (World.block_lt_of_cell? w _ h))]; exact h
theorem row_first {w W : World} {B b : Nat} {S : Nat → Prop} {s : St} {B' e : Nat} {p : Option Addr} {m cap : Nat} {x : Key} {xs : List Key} (_ : Cl w W B b S s) (h : RBes W S B' e (.slice p m cap) (x :: xs).length ((x :: xs).map stv)) : ∃ g, p = some ⟨g, 0, none⟩ ∧ W.cell? ⟨g, 0, none⟩ = some (stv x) := by
  rcases h.own.2 with ⟨_, h0⟩ | ⟨g, cap', cur, he, _⟩
  · simp at h0
  · cases he
    refine ⟨g, rfl, ?_⟩
    have := h.own.cells (g := g) rfl 0 (stv x) (by simp)
    rwa [Addr.add_lit] at this
def k0 : St := St.new 10
def k1 : St := (k0.append [] []).2
theorem k1_e : (k0.append [] []).1 = 1 ∧ k0.works ≤ 900000000 ∧ k0.fuse < 9223372036854775808 := by decide +kernel
def k2 : St := (k1.append [120] [49, 50, 51, 52, 53, 54]).2
theorem k2_e : (k1.append [120] [49, 50, 51, 52, 53, 54]).1 = 0 ∧ k1.works ≤ 900000000 ∧ k1.fuse < 9223372036854775808 := by decide +kernel
def k3 : St := (k2.append [121] [49, 50, 51, 52, 53]).2
theorem k3_e : (k2.append [121] [49, 50, 51, 52, 53]).1 = 6 ∧ k2.works ≤ 900000000 ∧ k2.fuse < 9223372036854775808 := by decide +kernel
def k4 : St := (k3.append [121] [49, 50, 51, 52]).2
theorem k4_e : (k3.append [121] [49, 50, 51, 52]).1 = 0 ∧ k3.works ≤ 900000000 ∧ k3.fuse < 9223372036854775808 := by decide +kernel
def k5 : St := (k4.truncate [120] 9).2
theorem k5_e : (k4.truncate [120] 9).1 = 1 ∧ k4.works ≤ 900000000 ∧ k4.fuse < 9223372036854775808 := by decide +kernel
def k6 : St := (k5.truncate [122] 0).2
theorem k6_e : (k5.truncate [122] 0).1 = 11 ∧ k5.works ≤ 900000000 ∧ k5.fuse < 9223372036854775808 := by decide +kernel
def k7 : St := (k6.truncate [120] 2).2
theorem k7_e : (k6.truncate [120] 2).1 = 0 ∧ k6.works ≤ 900000000 ∧ k6.fuse < 9223372036854775808 := by decide +kernel
def k8 : St := (k7.rename [120] [121]).2
theorem k8_e : (k7.rename [120] [121]).1 = 0 ∧ k7.works ≤ 900000000 ∧ k7.fuse < 9223372036854775808 := by decide +kernel
theorem n1_e : k8.dead = false ∧ nms k8.files = [[121]] ∧ k8.works ≤ 900000000 := by decide +kernel
theorem used_v : k8.dead = false ∧ k8.used = 2 := by decide +kernel
def k9 : St := (k8.remove [120]).2
theorem k9_e : (k8.remove [120]).1 = 11 ∧ k8.works ≤ 900000000 ∧ k8.fuse < 9223372036854775808 := by decide +kernel
theorem pend_v : k9.pend.length = 4 := by decide +kernel
def k10 : St := k9.crash 3 0
theorem k10_e : k9.works ≤ 1000000000 := by decide +kernel
theorem n2_e : k10.dead = false ∧ nms k10.files = [[120], [121]] ∧ k10.works ≤ 900000000 := by decide +kernel
def k11 : St := { k10 with fuse := 1 }
def k12 : St := (k11.sync).2
theorem k12_e : (k11.sync).1 = 0 ∧ k11.works ≤ 900000000 ∧ k11.fuse < 9223372036854775808 := by decide +kernel
def k13 : St := (k12.append [113] [49, 50, 51, 52, 53, 54, 55, 56, 57, 48, 49]).2
theorem k13_e : (k12.append [113] [49, 50, 51, 52, 53, 54, 55, 56, 57, 48, 49]).1 = 6 ∧ k12.works ≤ 900000000 ∧ k12.fuse < 9223372036854775808 := by decide +kernel
def k14 : St := (k13.sync).2
theorem k14_e : (k13.sync).1 = 7 ∧ k13.works ≤ 900000000 ∧ k13.fuse < 9223372036854775808 := by decide +kernel
theorem dead_v : k14.dead = true := by decide +kernel
def k15 : St := (k14.append [] []).2
theorem k15_e : (k14.append [] []).1 = 1 ∧ k14.works ≤ 900000000 ∧ k14.fuse < 9223372036854775808 := by decide +kernel
def k16 : St := k15.crash 0 0
theorem k16_e : k15.works ≤ 1000000000 := by decide +kernel
theorem rd_e : k16.dead = false ∧ fbytes [120] k16.files = [49, 50] ∧ (aget [120] k16.files).isSome = true := by decide +kernel
set_option maxRecDepth 20000 in
set_option maxHeartbeats 4000000 in
theorem diskKnown_walk (w : World) (hg : Glob w) : Calls Tryd.prog 7 #[] w fun e w' => e = .returned (.bool true) ∧ Below w.heap.size w w' := by
  have kc := fun (w : World) (C : Array Value) (n c : Nat) => Lib.run_convert_bytes_const (P := Tryd.prog) w 70 5 C n c Tryd.underlying70 Tryd.underlying5
  have HG := Lib.hid hg
  clear hg
  go_enter Tryd.func7, Tryd.ntmps7
  go_wp2_with fail
  refine (new_to w 10).mono ?_
  rintro e w1 ⟨d, S1, rfl, h1, b1, g1⟩
  have C1 : Hid (Cl w w1 w.heap.size d S1 k0) := Lib.hid ⟨h1, b1, g1⟩
  clear h1 b1 g1
  go_wp2_with fail
  refine (known_to w1).mono ?_
  rintro e w2 ⟨rfl, b2⟩
  have C_w2 := Lib.hid (C1.out.kb b2)
  clear b2 C1
  go_wp2_with fail
  refine (append_to w2 _ d S1 k0 [] (.slice none 0 0) [] C_w2.out.ds k1_e.2.1 k1_e.2.2 (by decide) (Seen.nil _) (fun j hj => by simp [Value.ownBlock] at hj) (by decide)).mono ?_
  rintro e w3 ⟨rfl, T3, h, o, s⟩
  have C_w3 : Hid (Cl w w3 w.heap.size d T3 k1) := Lib.hid (C_w2.out.step h o s)
  rw [k1_e.1, show enoOf 1 = eno 1 from if_neg (by decide)]
  clear h o s
  go_wp2_with fail
  have bb : Below w3.heap.size w3 (w3.alloc (.cells #[.int .u8 49, .int .u8 50, .int .u8 51, .int .u8 52, .int .u8 53, .int .u8 54] 5 (6, 7))) := (Below.refl _ w3).alloc (Nat.le_refl _) _
  have hse : Seen (w3.alloc (.cells #[.int .u8 49, .int .u8 50, .int .u8 51, .int .u8 52, .int .u8 53, .int .u8 54] 5 (6, 7))) (.slice (some ⟨w3.heap.size, 0, none⟩) 6 6) [49, 50, 51, 52, 53, 54] := seen_lit2 w3 [49, 50, 51, 52, 53, 54] 6 6 rfl (by decide) _ _ _ rfl
  have hou : ∀ j, Value.ownBlock (.slice (some ⟨w3.heap.size, 0, none⟩) 6 6) = some j → ¬ T3 j := fun j hj hs => by
    cases hj
    exact absurd (C_w3.out.ds.lt _ hs) (Nat.lt_irrefl _)
  have C_b := Lib.hid (C_w3.out.kb bb)
  refine (append_to _ _ d T3 k1 [120] (.slice (some ⟨w3.heap.size, 0, none⟩) 6 6) [49, 50, 51, 52, 53, 54] C_b.out.ds k2_e.2.1 k2_e.2.2 (by decide) hse hou (by decide)).mono ?_
  rintro e w4 ⟨rfl, T4, h, o, s⟩
  have C_w4 : Hid (Cl w w4 w.heap.size d T4 k2) := Lib.hid (C_b.out.step h o s)
  rw [k2_e.1, show enoOf 0 = .nilIface from rfl]
  clear h o s bb hse hou
  go_wp2_with fail
  have bb : Below w4.heap.size w4 (w4.alloc (.cells #[.int .u8 49, .int .u8 50, .int .u8 51, .int .u8 52, .int .u8 53] 5 (5, 6))) := (Below.refl _ w4).alloc (Nat.le_refl _) _
  have hse : Seen (w4.alloc (.cells #[.int .u8 49, .int .u8 50, .int .u8 51, .int .u8 52, .int .u8 53] 5 (5, 6))) (.slice (some ⟨w4.heap.size, 0, none⟩) 5 5) [49, 50, 51, 52, 53] := seen_lit2 w4 [49, 50, 51, 52, 53] 5 5 rfl (by decide) _ _ _ rfl
  have hou : ∀ j, Value.ownBlock (.slice (some ⟨w4.heap.size, 0, none⟩) 5 5) = some j → ¬ T4 j := fun j hj hs => by
    cases hj
    exact absurd (C_w4.out.ds.lt _ hs) (Nat.lt_irrefl _)
  have C_b := Lib.hid (C_w4.out.kb bb)
  refine (append_to _ _ d T4 k2 [121] (.slice (some ⟨w4.heap.size, 0, none⟩) 5 5) [49, 50, 51, 52, 53] C_b.out.ds k3_e.2.1 k3_e.2.2 (by decide) hse hou (by decide)).mono ?_
  rintro e w5 ⟨rfl, T5, h, o, s⟩
  have C_w5 : Hid (Cl w w5 w.heap.size d T5 k3) := Lib.hid (C_b.out.step h o s)
  rw [k3_e.1, show enoOf 6 = eno 6 from if_neg (by decide)]
  clear h o s bb hse hou
  go_wp2_with fail
  have bb : Below w5.heap.size w5 (w5.alloc (.cells #[.int .u8 49, .int .u8 50, .int .u8 51, .int .u8 52] 5 (4, 5))) := (Below.refl _ w5).alloc (Nat.le_refl _) _
  have hse : Seen (w5.alloc (.cells #[.int .u8 49, .int .u8 50, .int .u8 51, .int .u8 52] 5 (4, 5))) (.slice (some ⟨w5.heap.size, 0, none⟩) 4 4) [49, 50, 51, 52] := seen_lit2 w5 [49, 50, 51, 52] 4 4 rfl (by decide) _ _ _ rfl
  have hou : ∀ j, Value.ownBlock (.slice (some ⟨w5.heap.size, 0, none⟩) 4 4) = some j → ¬ T5 j := fun j hj hs => by
    cases hj
    exact absurd (C_w5.out.ds.lt _ hs) (Nat.lt_irrefl _)
  have C_b := Lib.hid (C_w5.out.kb bb)
  refine (append_to _ _ d T5 k3 [121] (.slice (some ⟨w5.heap.size, 0, none⟩) 4 4) [49, 50, 51, 52] C_b.out.ds k4_e.2.1 k4_e.2.2 (by decide) hse hou (by decide)).mono ?_
  rintro e w6 ⟨rfl, T6, h, o, s⟩
  have C_w6 : Hid (Cl w w6 w.heap.size d T6 k4) := Lib.hid (C_b.out.step h o s)
  rw [k4_e.1, show enoOf 0 = .nilIface from rfl]
  clear h o s bb hse hou
  go_wp2_with fail
  refine (truncate_to w6 _ d T6 k4 [120] 9 C_w6.out.ds k5_e.2.1 k5_e.2.2 (by decide)).mono ?_
  rintro e w7 ⟨rfl, T7, h, o, s⟩
  have C_w7 : Hid (Cl w w7 w.heap.size d T7 k5) := Lib.hid (C_w6.out.step h o s)
  rw [k5_e.1, show enoOf 1 = eno 1 from if_neg (by decide)]
  clear h o s
  go_wp2_with fail
  refine (truncate_to w7 _ d T7 k5 [122] 0 C_w7.out.ds k6_e.2.1 k6_e.2.2 (by decide)).mono ?_
  rintro e w8 ⟨rfl, T8, h, o, s⟩
  have C_w8 : Hid (Cl w w8 w.heap.size d T8 k6) := Lib.hid (C_w7.out.step h o s)
  rw [k6_e.1, show enoOf 11 = eno 11 from if_neg (by decide)]
  clear h o s
  go_wp2_with fail
  refine (truncate_to w8 _ d T8 k6 [120] 2 C_w8.out.ds k7_e.2.1 k7_e.2.2 (by decide)).mono ?_
  rintro e w9 ⟨rfl, T9, h, o, s⟩
  have C_w9 : Hid (Cl w w9 w.heap.size d T9 k7) := Lib.hid (C_w8.out.step h o s)
  rw [k7_e.1, show enoOf 0 = .nilIface from rfl]
  clear h o s
  go_wp2_with fail
  refine (rename_to w9 _ d T9 k7 [120] [121] C_w9.out.ds k8_e.2.1 k8_e.2.2 (by decide) (by decide)).mono ?_
  rintro e w10 ⟨rfl, T10, h, o, s⟩
  have C_w10 : Hid (Cl w w10 w.heap.size d T10 k8) := Lib.hid (C_w9.out.step h o s)
  rw [k8_e.1, show enoOf 0 = .nilIface from rfl]
  clear h o s
  go_wp2_with fail
  refine (names_to w10 _ d T10 k8 C_w10.out.ds n1_e.2.2).mono ?_
  rintro e w11 ⟨vv, rfl, oo, bb⟩
  rw [n1_e.1, n1_e.2.1] at oo
  simp only [Bool.false_eq_true, if_false] at oo
  have R1_w11 := Lib.hid (RBes.new oo C_w10.out)
  have C_w11 := Lib.hid (C_w10.out.kb bb)
  obtain ⟨q1, ncap1, e0⟩ := own_slice oo
  rw [show ([[121]] : List Key).length = 1 from rfl] at e0
  subst e0
  clear oo bb
  go_wp2_with fail
  have HV := Lib.hid (used_ds2 w11 _ d T10 k8 C_w11.out.ds)
  rw [used_v.1, used_v.2] at HV
  simp only [Bool.false_eq_true, if_false] at HV
  refine HV.out.mono ?_
  rintro e w' ⟨rfl, rfl⟩
  clear HV
  go_wp2_with fail
  refine (remove_to w11 _ d T10 k8 [120] C_w11.out.ds k9_e.2.1 k9_e.2.2 (by decide)).mono ?_
  rintro e w12 ⟨rfl, T12, h, o, s⟩
  have C_w12 : Hid (Cl w w12 w.heap.size d T12 k9) := Lib.hid (C_w11.out.step h o s)
  have R1_w12 := Lib.hid (R1_w11.out.step o s)
  rw [k9_e.1, show enoOf 11 = eno 11 from if_neg (by decide)]
  clear h o s
  go_wp2_with fail
  have HV := Lib.hid (pending_ds w12 _ d T12 k9 C_w12.out.ds)
  rw [pend_v] at HV
  refine HV.out.mono ?_
  rintro e w' ⟨rfl, rfl⟩
  clear HV
  go_wp2_with fail
  refine (crash_to w12 _ d T12 k9 3 0 C_w12.out.ds k10_e).mono ?_
  rintro e w13 ⟨rfl, T13, h, o, s⟩
  have C_w13 : Hid (Cl w w13 w.heap.size d T13 k10) := Lib.hid (C_w12.out.step h o s)
  have R1_w13 := Lib.hid (R1_w12.out.step o s)
  clear h o s
  go_wp2_with fail
  refine (names_to w13 _ d T13 k10 C_w13.out.ds n2_e.2.2).mono ?_
  rintro e w14 ⟨vv, rfl, oo, bb⟩
  rw [n2_e.1, n2_e.2.1] at oo
  simp only [Bool.false_eq_true, if_false] at oo
  have R2_w14 := Lib.hid (RBes.new oo C_w13.out)
  have C_w14 := Lib.hid (C_w13.out.kb bb)
  have R1_w14 := Lib.hid (R1_w13.out.kb bb)
  obtain ⟨q2, ncap2, e0⟩ := own_slice oo
  rw [show ([[120], [121]] : List Key).length = 2 from rfl] at e0
  subst e0
  clear oo bb
  go_wp2_with fail
  refine (fuse_ds w14 _ d T13 k10 1 C_w14.out.ds).mono ?_
  rintro e w15 ⟨rfl, T15, h, o, s⟩
  have C_w15 : Hid (Cl w w15 w.heap.size d T15 k11) := Lib.hid (C_w14.out.step h o s)
  have R1_w15 := Lib.hid (R1_w14.out.step o s)
  have R2_w15 := Lib.hid (R2_w14.out.step o s)
  clear h o s
  go_wp2_with fail
  refine (sync_to w15 _ d T15 k11 C_w15.out.ds k12_e.2.1 k12_e.2.2).mono ?_
  rintro e w16 ⟨rfl, T16, h, o, s⟩
  have C_w16 : Hid (Cl w w16 w.heap.size d T16 k12) := Lib.hid (C_w15.out.step h o s)
  have R1_w16 := Lib.hid (R1_w15.out.step o s)
  have R2_w16 := Lib.hid (R2_w15.out.step o s)
  rw [k12_e.1, show enoOf 0 = .nilIface from rfl]
  clear h o s
  go_wp2_with fail
  have bb : Below w16.heap.size w16 (w16.alloc (.cells #[.int .u8 49, .int .u8 50, .int .u8 51, .int .u8 52, .int .u8 53, .int .u8 54, .int .u8 55, .int .u8 56, .int .u8 57, .int .u8 48, .int .u8 49] 5 (11, 12))) := (Below.refl _ w16).alloc (Nat.le_refl _) _
  have hse : Seen (w16.alloc (.cells #[.int .u8 49, .int .u8 50, .int .u8 51, .int .u8 52, .int .u8 53, .int .u8 54, .int .u8 55, .int .u8 56, .int .u8 57, .int .u8 48, .int .u8 49] 5 (11, 12))) (.slice (some ⟨w16.heap.size, 0, none⟩) 11 11) [49, 50, 51, 52, 53, 54, 55, 56, 57, 48, 49] := seen_lit2 w16 [49, 50, 51, 52, 53, 54, 55, 56, 57, 48, 49] 11 11 rfl (by decide) _ _ _ rfl
  have hou : ∀ j, Value.ownBlock (.slice (some ⟨w16.heap.size, 0, none⟩) 11 11) = some j → ¬ T16 j := fun j hj hs => by
    cases hj
    exact absurd (C_w16.out.ds.lt _ hs) (Nat.lt_irrefl _)
  have C_b := Lib.hid (C_w16.out.kb bb)
  have R1_b := Lib.hid (R1_w16.out.kb bb)
  have R2_b := Lib.hid (R2_w16.out.kb bb)
  refine (append_to _ _ d T16 k12 [113] (.slice (some ⟨w16.heap.size, 0, none⟩) 11 11) [49, 50, 51, 52, 53, 54, 55, 56, 57, 48, 49] C_b.out.ds k13_e.2.1 k13_e.2.2 (by decide) hse hou (by decide)).mono ?_
  rintro e w17 ⟨rfl, T17, h, o, s⟩
  have C_w17 : Hid (Cl w w17 w.heap.size d T17 k13) := Lib.hid (C_b.out.step h o s)
  have R1_w17 := Lib.hid (R1_b.out.step o s)
  have R2_w17 := Lib.hid (R2_b.out.step o s)
  rw [k13_e.1, show enoOf 6 = eno 6 from if_neg (by decide)]
  clear h o s bb hse hou
  go_wp2_with fail
  refine (sync_to w17 _ d T17 k13 C_w17.out.ds k14_e.2.1 k14_e.2.2).mono ?_
  rintro e w18 ⟨rfl, T18, h, o, s⟩
  have C_w18 : Hid (Cl w w18 w.heap.size d T18 k14) := Lib.hid (C_w17.out.step h o s)
  have R1_w18 := Lib.hid (R1_w17.out.step o s)
  have R2_w18 := Lib.hid (R2_w17.out.step o s)
  rw [k14_e.1, show enoOf 7 = eno 7 from if_neg (by decide)]
  clear h o s
  go_wp2_with fail
  have HV := Lib.hid (dead_ds w18 _ d T18 k14 C_w18.out.ds)
  rw [dead_v] at HV
  refine HV.out.mono ?_
  rintro e w' ⟨rfl, rfl⟩
  clear HV
  go_wp2_with fail
  refine (append_to w18 _ d T18 k14 [] (.slice none 0 0) [] C_w18.out.ds k15_e.2.1 k15_e.2.2 (by decide) (Seen.nil _) (fun j hj => by simp [Value.ownBlock] at hj) (by decide)).mono ?_
  rintro e w19 ⟨rfl, T19, h, o, s⟩
  have C_w19 : Hid (Cl w w19 w.heap.size d T19 k15) := Lib.hid (C_w18.out.step h o s)
  have R1_w19 := Lib.hid (R1_w18.out.step o s)
  have R2_w19 := Lib.hid (R2_w18.out.step o s)
  rw [k15_e.1, show enoOf 1 = eno 1 from if_neg (by decide)]
  clear h o s
  go_wp2_with fail
  refine (crash_to w19 _ d T19 k15 0 0 C_w19.out.ds k16_e).mono ?_
  rintro e w20 ⟨rfl, T20, h, o, s⟩
  have C_w20 : Hid (Cl w w20 w.heap.size d T20 k16) := Lib.hid (C_w19.out.step h o s)
  have R1_w20 := Lib.hid (R1_w19.out.step o s)
  have R2_w20 := Lib.hid (R2_w19.out.step o s)
  clear h o s
  go_wp2_with fail
  refine (read_to w20 _ d T20 k16 [120] C_w20.out.ds (by decide)).mono ?_
  rintro e w21 ⟨vr, rfl, oo, bb⟩
  rw [rd_e.1, rd_e.2.1] at oo
  rw [rd_e.1, rd_e.2.2]
  simp only [Bool.false_eq_true, if_false] at oo ⊢
  have OR_w21 := Lib.hid oo
  have C_w21 := Lib.hid (C_w20.out.kb bb)
  have R1_w21 := Lib.hid (R1_w20.out.kb bb)
  have R2_w21 := Lib.hid (R2_w20.out.kb bb)
  obtain ⟨qr, rcap, e0⟩ := own_slice oo
  rw [show ([49, 50] : List Int).length = 2 from rfl] at e0
  subst e0
  clear oo bb
  go_wp2_with fail
  obtain ⟨g1, rfl, hA⟩ := row_first (C_w21.out) R1_w21.out
  obtain ⟨g2, rfl, hB⟩ := row_first (C_w21.out) R2_w21.out
  have OV := OR_w21
  have D0 := C_w21
  clear R1_w21 R2_w21
  refine (khand_eno _ 1 (by decide) (HG.out.kb D0.out.bel)).mono ?_
  rintro e z0 ⟨rfl, bz⟩
  have hA0 := dcell_kb hA bz
  have hB0 := dcell_kb hB bz
  have O0 : Hid (BOwn z0 _ _ _) := Lib.hid (own_kept OV.out (S := fun _ => False) (Only.of_below bz) (fun _ _ h => h))
  have E0 := Lib.hid (D0.out.kb bz)
  clear bz hA hB OV D0
  go_wp2_with fail
  refine (khand_eno _ 6 (by decide) (HG.out.kb E0.out.bel)).mono ?_
  rintro e z1 ⟨rfl, bz⟩
  have hA1 := dcell_kb hA0 bz
  have hB1 := dcell_kb hB0 bz
  have O1 : Hid (BOwn z1 _ _ _) := Lib.hid (own_kept O0.out (S := fun _ => False) (Only.of_below bz) (fun _ _ h => h))
  have E1 := Lib.hid (E0.out.kb bz)
  clear bz hA0 hB0 O0 E0
  go_wp2_with fail
  refine (khand_eno _ 1 (by decide) (HG.out.kb E1.out.bel)).mono ?_
  rintro e z2 ⟨rfl, bz⟩
  have hA2 := dcell_kb hA1 bz
  have hB2 := dcell_kb hB1 bz
  have O2 : Hid (BOwn z2 _ _ _) := Lib.hid (own_kept O1.out (S := fun _ => False) (Only.of_below bz) (fun _ _ h => h))
  have E2 := Lib.hid (E1.out.kb bz)
  clear bz hA1 hB1 O1 E1
  go_wp2_with fail
  refine (khand_eno _ 11 (by decide) (HG.out.kb E2.out.bel)).mono ?_
  rintro e z3 ⟨rfl, bz⟩
  have hA3 := dcell_kb hA2 bz
  have hB3 := dcell_kb hB2 bz
  have O3 : Hid (BOwn z3 _ _ _) := Lib.hid (own_kept O2.out (S := fun _ => False) (Only.of_below bz) (fun _ _ h => h))
  have E3 := Lib.hid (E2.out.kb bz)
  clear bz hA2 hB2 O2 E2
  go_wp2_with fail
  refine (khand_eno _ 11 (by decide) (HG.out.kb E3.out.bel)).mono ?_
  rintro e z4 ⟨rfl, bz⟩
  have hA4 := dcell_kb hA3 bz
  have hB4 := dcell_kb hB3 bz
  have O4 : Hid (BOwn z4 _ _ _) := Lib.hid (own_kept O3.out (S := fun _ => False) (Only.of_below bz) (fun _ _ h => h))
  have E4 := Lib.hid (E3.out.kb bz)
  clear bz hA3 hB3 O3 E3
  go_wp2_with fail
  refine (khand_eno _ 6 (by decide) (HG.out.kb E4.out.bel)).mono ?_
  rintro e z5 ⟨rfl, bz⟩
  have hA5 := dcell_kb hA4 bz
  have hB5 := dcell_kb hB4 bz
  have O5 : Hid (BOwn z5 _ _ _) := Lib.hid (own_kept O4.out (S := fun _ => False) (Only.of_below bz) (fun _ _ h => h))
  have E5 := Lib.hid (E4.out.kb bz)
  clear bz hA4 hB4 O4 E4
  go_wp2_with fail
  refine (khand_eno _ 7 (by decide) (HG.out.kb E5.out.bel)).mono ?_
  rintro e z6 ⟨rfl, bz⟩
  have hA6 := dcell_kb hA5 bz
  have hB6 := dcell_kb hB5 bz
  have O6 : Hid (BOwn z6 _ _ _) := Lib.hid (own_kept O5.out (S := fun _ => False) (Only.of_below bz) (fun _ _ h => h))
  have E6 := Lib.hid (E5.out.kb bz)
  clear bz hA5 hB5 O5 E5
  go_wp2_with fail
  refine (khand_eno _ 1 (by decide) (HG.out.kb E6.out.bel)).mono ?_
  rintro e z7 ⟨rfl, bz⟩
  have hA7 := dcell_kb hA6 bz
  have hB7 := dcell_kb hB6 bz
  have O7 : Hid (BOwn z7 _ _ _) := Lib.hid (own_kept O6.out (S := fun _ => False) (Only.of_below bz) (fun _ _ h => h))
  have E7 := Lib.hid (E6.out.kb bz)
  clear bz hA6 hB6 O6 E6
  have hcv := conv_own O7.out
  rw [show strOfNums [49, 50] = ⟨#[49, 50]⟩ from rfl] at hcv
  go_wp2_with fail
  go_ret
  exact ⟨rfl, E7.out.bel⟩
end Go.Proofs.YtemfblhlkonlpaaDoor
