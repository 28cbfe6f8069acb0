/- DiskKnown returns true and makes new memory alone. Condition: errors.errorType holds what its text lays. -/
import Derived.Test.YtageblggakfbdaaGreatDoorDskRb
import Derived.Test.YtageblggakfbdaaGreatDoorDskY
import Derived.Test.YtageblggakfbdaaGreatDoorDskE
import Derived.Test.YtageblggakfbdaaGreatDoorDskK
import Derived.Test.YtageblggakfbdaaGreatDoorDskRn
import Derived.Test.YtageblggakfbdaaGreatDoorGenAs
namespace Go.Proofs.YtageblggakfbdaaGreatDoor
open Go.RowKit
open Go.Maps

theorem khand_eno (w : World) (k : Int) (h : k ≠ 0) (hg : Glob w) : Calls Tryz.prog 24 #[eno k] w fun e w' => e = .returned (.int .i64 k) ∧ Below w.heap.size w w' := by
  have := khand_any w k hg
  unfold errOf at this
  rw [if_neg h] at this
  exact this
theorem fuse_ds (w : World) (B b : Nat) (S : Nat → Prop) (s : St) (n : Int) (h : DS w B b S s) : Calls Tryz.prog 20 #[.pointer (some ⟨b,0,none⟩), .int .i64 n] w fun e w' => e = .returned (.tuple #[]) ∧ DPost w B b S { s with fuse := n } w' := by
  obtain ⟨c, L, P, hx⟩ := h
  refine (fuse_to w b c n hx.dc.d).mono ?_
  rintro e w' ⟨rfl, hd, ho⟩
  exact ⟨rfl, S, ⟨_, L, P, { dc := hx.dc.restamp hd rfl rfl rfl ho, hist := hx.hist, fb := hx.fb, room := hx.room, fuse := rfl, dead := hx.dead, works := hx.works, room0 := hx.room0, pl := hx.pl, foot := fun k hk => hx.foot k (foot_restamp rfl rfl hk), lt := fun k hk => Nat.lt_of_lt_of_le (hx.lt k hk) ho.size }⟩, ho.mono (fun k _ e => by subst e; exact hx.foot _ (.inl rfl)), fun k hk => .inl hk⟩
theorem used_ds2 (w : World) (B b : Nat) (S : Nat → Prop) (s : St) (h : DS w B b S s) : Calls Tryz.prog 62 #[.pointer (some ⟨b,0,none⟩)] w fun e w' => e = .returned (.int .i64 (if s.dead = true then 0 else (s.used : Int))) ∧ w = w' := by
  obtain ⟨c, L, P, hx⟩ := h
  have := used_to w b c hx.dc.d
  rw [hx.dead, hx.used_eq] at this
  exact this
theorem dead_ds (w : World) (B b : Nat) (S : Nat → Prop) (s : St) (h : DS w B b S s) : Calls Tryz.prog 33 #[.pointer (some ⟨b,0,none⟩)] w fun e w' => e = .returned (.bool s.dead) ∧ w = w' := by
  obtain ⟨c, L, P, hx⟩ := h
  have c5 := hx.dc.d.c5
  rw [hx.dead] at c5
  clear hx
  go_enter Tryz.func33, Tryz.ntmps33
  go_wp2
  go_ret
  exact ⟨rfl, rfl⟩
theorem dcell_kb {w w' : World} {a : Addr} {u : Value} (h : w.cell? a = some u) (hb : Below w.heap.size w w') : w'.cell? a = some u := by
  rw [World.cell?_of_block (w := w) (hb.block _ (World.block_lt_of_cell? w _ h))]; exact h
theorem row_first {w W : World} {B b : Nat} {S : Nat → Prop} {s : St} {B' e : Nat} {p : Option Addr} {m cap : Nat} {x : Key} {xs : List Key} (_ : Cl w W B b S s) (h : RBes W S B' e (.slice p m cap) (x :: xs).length ((x :: xs).map stv)) : ∃ g, p = some ⟨g, 0, none⟩ ∧ W.cell? ⟨g, 0, none⟩ = some (stv x) := by
  rcases h.own.2 with ⟨_, h0⟩ | ⟨g, cap', cur, he, _⟩
  · simp at h0
  · cases he
    refine ⟨g, rfl, ?_⟩
    have := h.own.cells (g := g) rfl 0 (stv x) (by simp)
    rwa [Addr.add_lit] at this
def k0 : St := St.new 10
def k1 : St := (k0.append [] []).2
theorem k1_e : (k0.append [] []).1 = 1 ∧ k0.works ≤ 900000000 ∧ k0.fuse < 9223372036854775808 := by decide +kernel
def k2 : St := (k1.append [120] [49, 50, 51, 52, 53, 54]).2
theorem k2_e : (k1.append [120] [49, 50, 51, 52, 53, 54]).1 = 0 ∧ k1.works ≤ 900000000 ∧ k1.fuse < 9223372036854775808 := by decide +kernel
def k3 : St := (k2.append [121] [49, 50, 51, 52, 53]).2
theorem k3_e : (k2.append [121] [49, 50, 51, 52, 53]).1 = 6 ∧ k2.works ≤ 900000000 ∧ k2.fuse < 9223372036854775808 := by decide +kernel
def k4 : St := (k3.append [121] [49, 50, 51, 52]).2
theorem k4_e : (k3.append [121] [49, 50, 51, 52]).1 = 0 ∧ k3.works ≤ 900000000 ∧ k3.fuse < 9223372036854775808 := by decide +kernel
def k5 : St := (k4.truncate [120] 9).2
theorem k5_e : (k4.truncate [120] 9).1 = 1 ∧ k4.works ≤ 900000000 ∧ k4.fuse < 9223372036854775808 := by decide +kernel
def k6 : St := (k5.truncate [122] 0).2
theorem k6_e : (k5.truncate [122] 0).1 = 11 ∧ k5.works ≤ 900000000 ∧ k5.fuse < 9223372036854775808 := by decide +kernel
def k7 : St := (k6.truncate [120] 2).2
theorem k7_e : (k6.truncate [120] 2).1 = 0 ∧ k6.works ≤ 900000000 ∧ k6.fuse < 9223372036854775808 := by decide +kernel
def k8 : St := (k7.rename [120] [121]).2
theorem k8_e : (k7.rename [120] [121]).1 = 0 ∧ k7.works ≤ 900000000 ∧ k7.fuse < 9223372036854775808 := by decide +kernel
theorem n1_e : k8.dead = false ∧ nms k8.files = [[121]] ∧ k8.works ≤ 900000000 := by decide +kernel
theorem used_v : k8.dead = false ∧ k8.used = 2 := by decide +kernel
def k9 : St := (k8.remove [120]).2
theorem k9_e : (k8.remove [120]).1 = 11 ∧ k8.works ≤ 900000000 ∧ k8.fuse < 9223372036854775808 := by decide +kernel
theorem pend_v : k9.pend.length = 4 := by decide +kernel
def k10 : St := k9.crash 3 0
theorem k10_e : k9.works ≤ 1000000000 := by decide +kernel
theorem n2_e : k10.dead = false ∧ nms k10.files = [[120], [121]] ∧ k10.works ≤ 900000000 := by decide +kernel
def k11 : St := { k10 with fuse := 1 }
def k12 : St := (k11.sync).2
theorem k12_e : (k11.sync).1 = 0 ∧ k11.works ≤ 900000000 ∧ k11.fuse < 9223372036854775808 := by decide +kernel
def k13 : St := (k12.append [113] [49, 50, 51, 52, 53, 54, 55, 56, 57, 48, 49]).2
theorem k13_e : (k12.append [113] [49, 50, 51, 52, 53, 54, 55, 56, 57, 48, 49]).1 = 6 ∧ k12.works ≤ 900000000 ∧ k12.fuse < 9223372036854775808 := by decide +kernel
def k14 : St := (k13.sync).2
theorem k14_e : (k13.sync).1 = 7 ∧ k13.works ≤ 900000000 ∧ k13.fuse < 9223372036854775808 := by decide +kernel
theorem dead_v : k14.dead = true := by decide +kernel
def k15 : St := (k14.append [] []).2
theorem k15_e : (k14.append [] []).1 = 1 ∧ k14.works ≤ 900000000 ∧ k14.fuse < 9223372036854775808 := by decide +kernel
def k16 : St := k15.crash 0 0
theorem k16_e : k15.works ≤ 1000000000 := by decide +kernel
theorem rd_e : k16.dead = false ∧ fbytes [120] k16.files = [49, 50] ∧ (aget [120] k16.files).isSome = true := by decide +kernel
end Go.Proofs.YtageblggakfbdaaGreatDoor
