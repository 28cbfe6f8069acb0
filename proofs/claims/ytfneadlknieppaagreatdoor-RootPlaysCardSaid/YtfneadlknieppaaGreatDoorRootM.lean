/- Roots of the caller's own in memory, beside a disk. No condition. -/
import Derived.Test.YtfneadlknieppaaGreatDoorRootK
import Derived.Test.YtfneadlknieppaaGreatDoorRootX
import Derived.Test.YtfneadlknieppaaGreatDoorRootIn
namespace Go.Proofs.YtfneadlknieppaaGreatDoor
open Go.RowKit
open Go.Maps

/-- The root r at block b, its lengths at v, beside the blocks S. -/
structure RM (W : World) (S : Nat → Prop) (T b : Nat) (v : Value) (r : Rt) : Prop where
  obj : W.heap[b]? = some (.cells #[.int .i64 r.gen, v, .int .i64 r.idx] T (0, 0))
  own : IOwn W 0 v r.logs
  nb : ¬ S b
  out : ∀ k, v.ownBlock = some k → ¬ S k
section
variable {W W' : World} {S S' : Nat → Prop} {T b : Nat} {v : Value} {r : Rt}
theorem RM.lt (h : RM W S T b v r) : b < W.heap.size := lt_of_block h.obj
theorem RM.kb (h : RM W S T b v r) (hb : Below W.heap.size W W') : RM W' S T b v r := ⟨(hb.block _ h.lt).trans h.obj, own_kb h.own hb, h.nb, h.out⟩
theorem RM.step (h : RM W S T b v r) (ho : Only S W W') (hs : ∀ k, S' k → S k ∨ W.heap.size ≤ k) : RM W' S' T b v r :=
  ⟨(ho.block _ h.lt h.nb).trans h.obj, own_kept h.own ho h.out, fun e => (hs b e).elim h.nb (fun e => by have := h.lt; omega), fun k hk e => (hs k e).elim (h.out k hk) (fun e => by have := (h.own.lt k hk).2; omega)⟩
theorem RM.other (h : RM W S T b v r) {b0 : Nat} {cs : Array Value} {T0 : TypeId} (ho : Only (fun k => k = b0) W W') (hb : b ≠ b0) (h0 : W.heap[b0]? = some (.cells cs T0 (0, 0))) (hT : T0 ≠ 3) : RM W' S T b v r :=
  ⟨(ho.block _ h.lt hb).trans h.obj, own_kept h.own ho (fun k hk e => by
    obtain ⟨cs', hcs⟩ := own_type h.own hk
    rw [e, h0] at hcs
    simp at hcs
    exact hT hcs.2), h.nb, h.out⟩
theorem RM.cells (h : RM W S T b v r) : W.cell? ⟨b, 0, none⟩ = some (.int .i64 r.gen) ∧ W.cell? ⟨b, 1, none⟩ = some v ∧ W.cell? ⟨b, 2, none⟩ = some (.int .i64 r.idx) ∧ ∀ i, W.frozen? ⟨b, i, none⟩ = false := three_cells h.obj
theorem RM.seen (h : RM W S T b v r) : ISeen W v r.logs := ISeen.own h.own
/-- A new one. -/
theorem RM.new {B : Nat} {x0 x1 x2 : Value} (ho : IOwn W B v r.logs) (hs : ∀ k, S k → k < W.heap.size) (hv : ∀ k, v.ownBlock = some k → ¬ S k) (e0 : x0 = .int .i64 r.gen) (e1 : x1 = v) (e2 : x2 = .int .i64 r.idx) : RM (W.alloc (.cells #[x0, x1, x2] T)) S T W.heap.size v r := by
  subst e0 e1 e2
  exact ⟨heap_alloc_last W _, (own_kb ho ((Below.refl _ _).alloc (Nat.le_refl _) _)).mono (Nat.zero_le _), fun e => by have := hs _ e; omega, hv⟩
/-- One laid over another. -/
theorem RM.set {T2 b2 : Nat} {v2 : Value} {r2 : Rt} (h : RM W S T b v r) (h2 : RM W S T2 b2 v2 r2) (hT : T ≠ 3) : RM (((W.setCell ⟨b, 0, none⟩ (.int .i64 r2.gen)).setCell ⟨b, 1, none⟩ v2).setCell ⟨b, 2, none⟩ (.int .i64 r2.idx)) S T b v2 r2 := by
  have o := only3 (Only.refl (fun k => k = b) W) rfl (.int .i64 r2.gen) v2 (.int .i64 r2.idx)
  refine ⟨set3 h.obj, own_kept h2.own o (fun k hk e => ?_), h.nb, h2.out⟩
  obtain ⟨cs', hcs⟩ := own_type h2.own hk
  rw [e, h.obj] at hcs
  simp at hcs
  exact hT hcs.2
end
theorem Cl.other {w W W' : World} {B d b0 : Nat} {S : Nat → Prop} {s : St} (h : Cl w W B d S s) (ho : Only (fun k => k = b0) W W') (hb : w.heap.size ≤ b0) (h0 : ¬ S b0) : Cl w W' B d S s :=
  ⟨h.ds.kept ho (fun _ hk _ e => h0 (e ▸ hk)), h.bel.trans (ho.below h.bel.size (fun _ hk => hk ▸ hb)), h.ge⟩
/-- The step at hand, copied. -/
structure Xs (W : World) (S : Nat → Prop) (xb : Nat) (x : Sr) : Prop where
  obj : W.heap[xb]? = some (.cells #[.int .i64 x.what, .int .i64 x.n, .int .i64 x.cut, .int .i64 x.r.gen, .int .i64 x.r.idx, .int .i64 x.r.how, .slice x.q x.r.logs.length x.c] 33 (0, 0))
  out : ¬ S xb
section
variable {W W' : World} {S S' : Nat → Prop} {xb : Nat} {x : Sr}
theorem Xs.lt (h : Xs W S xb x) : xb < W.heap.size := lt_of_block h.obj
theorem Xs.kb (h : Xs W S xb x) (hb : Below W.heap.size W W') : Xs W' S xb x := ⟨(hb.block _ h.lt).trans h.obj, h.out⟩
theorem Xs.step (h : Xs W S xb x) (ho : Only S W W') (hs : ∀ k, S' k → S k ∨ W.heap.size ≤ k) : Xs W' S' xb x := ⟨(ho.block _ h.lt h.out).trans h.obj, fun e => (hs xb e).elim h.out (fun e => by have := h.lt; omega)⟩
theorem Xs.other (h : Xs W S xb x) {b0 : Nat} (ho : Only (fun k => k = b0) W W') (hb : xb ≠ b0) : Xs W' S xb x := ⟨(ho.block _ h.lt hb).trans h.obj, h.out⟩
theorem Xs.c0 (h : Xs W S xb x) : W.cell? ⟨xb, 0, none⟩ = some (.int .i64 x.what) := by rw [cell_of_row W _ 0 _ _ _ h.obj]; rfl
theorem Xs.c1 (h : Xs W S xb x) : W.cell? ⟨xb, 1, none⟩ = some (.int .i64 x.n) := by rw [cell_of_row W _ 1 _ _ _ h.obj]; rfl
theorem Xs.c2 (h : Xs W S xb x) : W.cell? ⟨xb, 2, none⟩ = some (.int .i64 x.cut) := by rw [cell_of_row W _ 2 _ _ _ h.obj]; rfl
theorem Xs.r (h : Xs W S xb x) : W.cell? ⟨xb, 3, none⟩ = some (.int .i64 x.r.gen) ∧ W.cell? ⟨xb, 4, none⟩ = some (.int .i64 x.r.idx) ∧ W.cell? ⟨xb, 5, none⟩ = some (.int .i64 x.r.how) ∧ W.cell? ⟨xb, 6, none⟩ = some (.slice x.q x.r.logs.length x.c) :=
  ⟨by rw [cell_of_row W _ 3 _ _ _ h.obj]; rfl, by rw [cell_of_row W _ 4 _ _ _ h.obj]; rfl, by rw [cell_of_row W _ 5 _ _ _ h.obj]; rfl, by rw [cell_of_row W _ 6 _ _ _ h.obj]; rfl⟩
end
theorem fuse8_ds (w : World) (B b : Nat) (S : Nat → Prop) (s : St) (n : Int) (h : DS w B b S s) : Calls Tryz.prog 9 #[.pointer (some ⟨b,0,none⟩), .int .i64 n] w fun e w' => e = .returned (.tuple #[]) ∧ DPost w B b S { s with fuse := n } w' := by
  obtain ⟨c, L, P, hx⟩ := h
  refine (fuse_to w b c n hx.dc.d).mono ?_
  rintro e w' ⟨rfl, hd, ho⟩
  exact ⟨rfl, S, ⟨_, L, P, { dc := hx.dc.restamp hd rfl rfl rfl ho, hist := hx.hist, fb := hx.fb, room := hx.room, fuse := rfl, dead := hx.dead, works := hx.works, room0 := hx.room0, pl := hx.pl, foot := fun k hk => hx.foot k (foot_restamp rfl rfl hk), lt := fun k hk => Nat.lt_of_lt_of_le (hx.lt k hk) ho.size }⟩, ho.mono (fun k _ e => by subst e; exact hx.foot _ (.inl rfl)), fun k hk => .inl hk⟩
theorem dead8_ds (w : World) (B b : Nat) (S : Nat → Prop) (s : St) (h : DS w B b S s) : Calls Tryz.prog 24 #[.pointer (some ⟨b,0,none⟩)] w fun e w' => e = .returned (.bool s.dead) ∧ w = w' := by
  obtain ⟨c, L, P, hx⟩ := h
  have c5 := hx.dc.d.c5
  rw [hx.dead] at c5
  clear hx
  go_enter Tryz.func24, Tryz.ntmps24
  go_wp2
  go_ret
  exact ⟨rfl, rfl⟩
/-- The numbers stay small: k works at most. -/
structure Sk (s : St) (k : Nat) : Prop where
  works : s.works ≤ k
  fuse : s.fuse < 100
theorem Sk.sm {s : St} {k : Nat} (h : Sk s k) (hk : k ≤ 800000000) : Sm s 0 := ⟨Nat.le_trans h.works hk, Int.lt_trans h.fuse (by decide)⟩
theorem Sk.wb {s t : St} {k m : Nat} (h : Sk s k) (hb : Wb m s t) : Sk t (k + m) := ⟨by have := hb.works; have := h.works; omega, by have := hb.fuse; have := h.fuse; omega⟩
theorem Sk.mono {s : St} {k m : Nat} (h : Sk s k) (hk : k ≤ m) : Sk s m := ⟨Nat.le_trans h.works hk, h.fuse⟩
theorem Sk.setFuse {s : St} {k : Nat} (h : Sk s k) {n : Int} (hn : n < 100) : Sk { s with fuse := n } k := ⟨h.works, hn⟩
theorem Sk.crash {s : St} {k : Nat} (h : Sk s k) (a b : Int) : Sk (s.crash a b) k := ⟨h.works, by show (-1 : Int) < 100; decide⟩
theorem Sk.new (r : Int) : Sk (St.new r) 0 := ⟨Nat.le_refl _, by show (-1 : Int) < 100; decide⟩
theorem wb_sv (s : St) (r : Rt) : Wb 5 s (svS s r).2 := by
  unfold svS
  split
  · exact wb_save s _
  · exact wb_same _ s
end Go.Proofs.YtfneadlknieppaaGreatDoor
