/- DiskPlays returns true and makes new memory alone. Condition: errors.errorType holds what its text lays; each step's bytes are within what a slice may take up. -/
import Derived.Test.YtageblggakfbdaaGreatDoorDskPs
import Derived.Test.YtageblggakfbdaaGreatDoorDskB2
import Derived.Test.YtageblggakfbdaaGreatDoorDskSt5
namespace Go.Proofs.YtageblggakfbdaaGreatDoor
open Go.RowKit
open Go.Maps

/-- A disk of the caller's own and the reference's, apart from each other. -/
structure Pl (w W : World) (B d B' r : Nat) (S A : Nat → Prop) (s t : St) : Prop where
  ds : DS W B d S s
  rs : RS W B' r A t
  dis : ∀ k, S k → ¬ A k ∧ k ≠ r
  bel : Below w.heap.size w W
  ge : ∀ k, S k → w.heap.size ≤ k
  ger : w.heap.size ≤ r
  alt : ∀ k, A k → k < W.heap.size
  rlt : r < W.heap.size
theorem RS.lts {w : World} {B b : Nat} {A : Nat → Prop} {s : St} (h : RS w B b A s) : (∀ k, A k → k < w.heap.size) ∧ b < w.heap.size := by
  obtain ⟨f, vk, vp, E, Q, h⟩ := h
  exact ⟨h.lt, h.blt⟩
section
variable {w W W' : World} {B d B' r : Nat} {S A : Nat → Prop} {s t s' t' : St}
theorem Pl.kb (h : Pl w W B d B' r S A s t) (hb : Below W.heap.size W W') : Pl w W' B d B' r S A s t :=
  ⟨h.ds.kb hb, h.rs.kb hb, h.dis, h.bel.trans (hb.mono h.bel.size), h.ge, h.ger, fun k hk => Nat.lt_of_lt_of_le (h.alt k hk) hb.size, Nat.lt_of_lt_of_le h.rlt hb.size⟩
theorem Pl.stepD (h : Pl w W B d B' r S A s t) (hp : DPost W B d S s' W') : ∃ S', Pl w W' B d B' r S' A s' t ∧ ∀ k, S' k → S k ∨ W.heap.size ≤ k := by
  obtain ⟨S', h1, h2, h3⟩ := hp
  refine ⟨S', ⟨h1, h.rs.kept h2 (fun e => (h.dis r e).2 rfl) (fun k hk e => (h.dis k e).1 hk), fun k hk => ?_, h.bel.trans (h2.below h.bel.size h.ge), fun k hk => (h3 k hk).elim (h.ge k) (fun e => Nat.le_trans h.bel.size e), h.ger, fun k hk => Nat.lt_of_lt_of_le (h.alt k hk) h2.size, Nat.lt_of_lt_of_le h.rlt h2.size⟩, h3⟩
  rcases h3 k hk with e | e
  · exact h.dis k e
  · exact ⟨fun e2 => by have := h.alt k e2; omega, fun e2 => by have := h.rlt; omega⟩
theorem Pl.stepR (h : Pl w W B d B' r S A s t) (hp : RPost W B' r A t' W') : ∃ A', Pl w W' B d B' r S A' s t' := by
  obtain ⟨A', h1, h2, h3⟩ := hp
  refine ⟨A', ⟨h.ds.kept h2 (fun k hk _ => (h.dis k hk).2), h1, fun k hk => ⟨fun e => ?_, (h.dis k hk).2⟩, h.bel.trans (h2.below h.bel.size (fun k hk => by rw [hk]; exact h.ger)), h.ge, h.ger, h1.lts.1, h1.lts.2⟩⟩
  rcases h3 k e with e | e
  · exact (h.dis k hk).1 e
  · have := h.ds.lt k hk; omega
/-- The step at hand, copied. -/
structure Px (W : World) (S : Nat → Prop) (r xb : Nat) (x : Sf) : Prop where
  obj : W.heap[xb]? = some (.cells #[.int .i64 x.what, .int .i64 x.name, .int .i64 x.to, .int .i64 x.n, .int .i64 x.cut, .slice x.q x.b.length x.c] 31 (0, 0))
  out : ¬ S xb
  ner : xb ≠ r
theorem Px.lt {xb : Nat} {x : Sf} (h : Px W S r xb x) : xb < W.heap.size := (Array.getElem?_eq_some_iff.1 h.obj).1
theorem Px.kb {xb : Nat} {x : Sf} (h : Px W S r xb x) (hb : Below W.heap.size W W') : Px W' S r xb x := ⟨(hb.block _ h.lt).trans h.obj, h.out, h.ner⟩
theorem Px.stepD {xb : Nat} {x : Sf} {S' : Nat → Prop} (h : Px W S r xb x) (h2 : Only S W W') (h3 : ∀ k, S' k → S k ∨ W.heap.size ≤ k) : Px W' S' r xb x :=
  ⟨(h2.block _ h.lt h.out).trans h.obj, fun e => (h3 xb e).elim h.out (fun e => by have := h.lt; omega), h.ner⟩
theorem Px.stepR {xb : Nat} {x : Sf} (h : Px W S r xb x) (h2 : Only (fun k => k = r) W W') : Px W' S r xb x := ⟨(h2.block _ h.lt h.ner).trans h.obj, h.out, h.ner⟩
end
section
variable {W : World} {S : Nat → Prop} {r xb : Nat} {x : Sf}
theorem Px.c0 (h : Px W S r xb x) : W.cell? ⟨xb, 0, none⟩ = some (.int .i64 x.what) := by rw [cell_of_row W _ 0 _ _ _ h.obj]; rfl
theorem Px.c1 (h : Px W S r xb x) : W.cell? ⟨xb, 1, none⟩ = some (.int .i64 x.name) := by rw [cell_of_row W _ 1 _ _ _ h.obj]; rfl
theorem Px.c2 (h : Px W S r xb x) : W.cell? ⟨xb, 2, none⟩ = some (.int .i64 x.to) := by rw [cell_of_row W _ 2 _ _ _ h.obj]; rfl
theorem Px.c3 (h : Px W S r xb x) : W.cell? ⟨xb, 3, none⟩ = some (.int .i64 x.n) := by rw [cell_of_row W _ 3 _ _ _ h.obj]; rfl
theorem Px.c4 (h : Px W S r xb x) : W.cell? ⟨xb, 4, none⟩ = some (.int .i64 x.cut) := by rw [cell_of_row W _ 4 _ _ _ h.obj]; rfl
theorem Px.c5 (h : Px W S r xb x) : W.cell? ⟨xb, 5, none⟩ = some (.slice x.q x.b.length x.c) := by rw [cell_of_row W _ 5 _ _ _ h.obj]; rfl
end
/-- The numbers of a disk stay small. -/
structure Bd (s t : St) : Prop where
  works : t.works ≤ s.works + 1
  fuse : t.fuse ≤ s.fuse ∨ t.fuse < 100
theorem Bd.refl (s : St) : Bd s s := ⟨Nat.le_succ _, .inl (Int.le_refl _)⟩
theorem work_bd (s : St) (k : Wk) : Bd s (s.work k).2 := by
  unfold St.work
  split
  · exact ⟨Nat.le_succ _, .inl (Int.le_refl _)⟩
  · refine ⟨Nat.le_refl _, .inl ?_⟩
    show (if 0 < s.fuse then s.fuse - 1 else s.fuse) ≤ s.fuse
    split <;> omega
theorem append_bd (s : St) (n : Key) (l : List Int) : Bd s (s.append n l).2 := by
  unfold St.append
  repeat' split
  all_goals first | exact Bd.refl s | exact work_bd s _
theorem truncate_bd (s : St) (n : Key) (q : Int) : Bd s (s.truncate n q).2 := by
  unfold St.truncate
  repeat' split
  all_goals first | exact Bd.refl s | exact work_bd s _
theorem rename_bd (s : St) (n m : Key) : Bd s (s.rename n m).2 := by
  unfold St.rename
  repeat' split
  all_goals first | exact Bd.refl s | exact work_bd s _
theorem remove_bd (s : St) (n : Key) : Bd s (s.remove n).2 := by
  unfold St.remove
  repeat' split
  all_goals first | exact Bd.refl s | exact work_bd s _
theorem sync_bd (s : St) : Bd s s.sync.2 := by
  unfold St.sync
  split
  · exact Bd.refl s
  · split
    · exact ⟨Nat.le_succ _, .inl (Int.le_refl _)⟩
    · refine ⟨Nat.le_refl _, .inl ?_⟩
      show (if 0 < s.fuse then s.fuse - 1 else s.fuse) ≤ s.fuse
      split <;> omega
theorem crash_bd (s : St) (a b : Int) : Bd s (s.crash a b) := ⟨Nat.le_succ _, .inr (by show (-1 : Int) < 100; decide)⟩
theorem fuse_bd (s : St) (n : Int) (h : n < 100) : Bd s { s with fuse := n } := ⟨Nat.le_succ _, .inr h⟩
theorem ehand (w : World) (k : Int) (hg : Glob w) : Calls Tryz.prog 24 #[enoOf k] w fun e w' => e = .returned (.int .i64 k) ∧ Below w.heap.size w w' := khand_any w k hg
theorem seen_lt {w : World} {v : Value} {l : List Int} (h : Seen w v l) (hn : l ≠ []) {k : Nat} (hk : v.ownBlock = some k) : k < w.heap.size := by
  rcases h with ⟨_, h2⟩ | ⟨a, cap, rfl, hc, hu⟩
  · exact absurd h2 hn
  · cases hk
    obtain ⟨x, r, rfl⟩ := List.exists_cons_of_ne_nil hn
    have h2 := World.block_lt_of_cell? w _ (hu 0 (.int .u8 x) rfl)
    rwa [Addr.add_block] at h2
theorem sf_at {w : World} {p : Option Addr} {E : List Sf} (h : SfSeen w p E) {i : Nat} (hi : i < E.length) : ∃ b o, p = some ⟨b, o, none⟩ ∧ (∀ j u, E[i].row[j]? = some u → w.cell? ⟨b, o + i * 6 + j, none⟩ = some u) ∧ Seen w (.slice E[i].q E[i].b.length E[i].c) E[i].b := h i _ (List.getElem?_eq_getElem hi)
set_option maxRecDepth 20000 in
set_option maxHeartbeats 8000000 in
theorem diskPlays_walk (w : World) (hg : Glob w) (room : Int) (p0 : Option Addr) (c0 : Nat) (E : List Sf) (hE : SfSeen w p0 E) (hEb : ∀ (j : Nat) (x : Sf), E[j]? = some x → x.b.length ≤ 140737488351232) :
    Calls Tryz.prog 3 #[.int .i64 room, .slice p0 E.length c0] w fun e w' => e = .returned (.bool true) ∧ Below w.heap.size w w' := by
  have HG := Lib.hid hg
  have HE := Lib.hid hE
  have HEB := Lib.hid hEb
  obtain ⟨n, hn⟩ : ∃ n, n = E.length := ⟨_, rfl⟩
  rw [← hn]
  have HN := Lib.hid hn
  clear hg hE hEb hn
  go_enter Tryz.func3, Tryz.ntmps3
  go_wp2_with fail
  refine (pick_any w room 120 (by decide) (by decide)).mono ?_
  rintro e w' ⟨rfl, rfl⟩
  obtain ⟨rm, hrm⟩ : ∃ z : Int, z = room % 120 := ⟨_, rfl⟩
  rw [← hrm]
  clear hrm
  go_wp2_with fail
  refine (new_to w rm).mono ?_
  rintro e w1 ⟨d, S1, rfl, d1, b1, g1⟩
  have D1 := Lib.hid d1
  have B1 := Lib.hid b1
  have G1 := Lib.hid g1
  clear d1 b1 g1
  go_wp2_with fail
  refine (known_to w1).mono ?_
  rintro e w2 ⟨rfl, b2⟩
  have D2 := Lib.hid (D1.out.kb b2)
  have B2 : Hid (Below w.heap.size w w2) := Lib.hid (B1.out.trans (b2.mono B1.out.size))
  clear b2 D1 B1
  go_wp2_with fail
  refine (rnew_to w2 rm).mono ?_
  rintro e w3 ⟨r, rfl, r3, b3, g3⟩
  have P3 : Hid (Pl w w3 w.heap.size d w2.heap.size r S1 (fun _ => False) (St.new rm) (St.new rm)) := Lib.hid ⟨D2.out.kb b3, r3, fun k hk => ⟨fun h => h, fun e => by have := D2.out.lt k hk; omega⟩, B2.out.trans (b3.mono B2.out.size), G1.out, Nat.le_trans B2.out.size g3, fun _ h => h.elim, r3.lts.2⟩
  obtain ⟨B', hB'⟩ : ∃ B', B' = w2.heap.size := ⟨_, rfl⟩
  rw [← hB'] at P3
  clear r3 b3 g3 hB' D2 B2 G1
  go_wp2_with fail
  go_loopw [7] (fun i wr => ∃ (k : Nat) (S A : Nat → Prop) (s : St), k ≤ n ∧ k ≤ 60 ∧ i = .int .i64 k ∧ Hid (Pl w wr w.heap.size d B' r S A s s) ∧ Hid (s.works ≤ k ∧ s.fuse < 100)) (fun i _ => 60 - (intOf i).toNat)
  case atStart => exact ⟨0, S1, _, _, Nat.zero_le _, Nat.zero_le _, rfl, P3, Lib.hid ⟨Nat.le_refl _, by show (-1 : Int) < 100; decide⟩⟩
  case round =>
    obtain ⟨k, S, A, s, hkn, hk60, rfl, HP, HB⟩ := hrel
    by_cases hlt : k < n
    case neg =>
      go_wp2_with fail
      go_ret
      exact ⟨rfl, HP.out.bel⟩
    by_cases hlt6 : k < 60
    case neg =>
      have hlt6' : ¬ (k : Int) < 60 := by omega
      go_wp2_with fail
      go_ret
      exact ⟨rfl, HP.out.bel⟩
    case pos =>
    have hkE : k < E.length := by rw [← HN.out]; exact hlt
    obtain ⟨g, o, rfl, hce, hse⟩ := sf_at HE.out hkE
    have hxb := HEB.out k _ (List.getElem?_eq_getElem hkE)
    generalize E[k] = x at *
    have HSE := Lib.hid hse
    have HXB := Lib.hid hxb
    have e0 : wr.cell? ⟨g, o + k * 6, none⟩ = some (.int .i64 x.what) := cell_kb (hce 0 _ rfl) HP.out.bel
    have e1 : wr.cell? ⟨g, o + k * 6 + 1, none⟩ = some (.int .i64 x.name) := cell_kb (hce 1 _ rfl) HP.out.bel
    have e2 : wr.cell? ⟨g, o + k * 6 + 2, none⟩ = some (.int .i64 x.to) := cell_kb (hce 2 _ rfl) HP.out.bel
    have e3 : wr.cell? ⟨g, o + k * 6 + 3, none⟩ = some (.int .i64 x.n) := cell_kb (hce 3 _ rfl) HP.out.bel
    have e4 : wr.cell? ⟨g, o + k * 6 + 4, none⟩ = some (.int .i64 x.cut) := cell_kb (hce 4 _ rfl) HP.out.bel
    have e5 : wr.cell? ⟨g, o + k * 6 + 5, none⟩ = some (.slice x.q x.b.length x.c) := cell_kb (hce 5 _ rfl) HP.out.bel
    clear hce hse hxb
    have hk6' : (k : Int) < 60 := by omega
    go_wp2_with fail
    have b4 : Below wr.heap.size wr (wr.alloc (.cells #[.int .i64 x.what, .int .i64 x.name, .int .i64 x.to, .int .i64 x.n, .int .i64 x.cut, .slice x.q x.b.length x.c] 31)) := (Below.refl _ wr).alloc (Nat.le_refl _) _
    have X4 : Hid (Px (wr.alloc (.cells #[.int .i64 x.what, .int .i64 x.name, .int .i64 x.to, .int .i64 x.n, .int .i64 x.cut, .slice x.q x.b.length x.c] 31)) S r wr.heap.size x) := Lib.hid ⟨heap_alloc_last wr _, fun e => by have := HP.out.ds.lt _ e; omega, fun e => by have := HP.out.rlt; omega⟩
    have P4 := Lib.hid (HP.out.kb b4)
    clear b4 e0 e1 e2 e3 e4 e5 HP P3
    generalize wr.alloc (.cells #[.int .i64 x.what, .int .i64 x.name, .int .i64 x.to, .int .i64 x.n, .int .i64 x.cut, .slice x.q x.b.length x.c] 31) = W4 at *
    obtain ⟨xb, hxb⟩ : ∃ xb, xb = wr.heap.size := ⟨_, rfl⟩
    rw [← hxb] at X4 ⊢
    clear hxb
    obtain ⟨r1, hr1⟩ : ∃ r1 : Nat, x.name % 6 = r1 := ⟨(x.name % 6).toNat, by omega⟩
    refine (lname_to W4 x.name r1 hr1).mono ?_
    rintro e w' ⟨rfl, rfl⟩
    clear hr1
    have hnl := nm6_len r1
    generalize nm6 r1 = nm at *
    have HNL : Hid (nm.length ≤ 40) := Lib.hid hnl
    clear hnl
    have x0 := X4.out.c0
    have x2 := X4.out.c2
    have x3 := X4.out.c3
    have x4 := X4.out.c4
    have x5 := X4.out.c5
    go_wp2_with fail
    have h12 : x.what % 12 = 0 ∨ x.what % 12 = 1 ∨ x.what % 12 = 2 ∨ x.what % 12 = 3 ∨ x.what % 12 = 4 ∨ x.what % 12 = 5 ∨ x.what % 12 = 6 ∨ x.what % 12 = 7 ∨ x.what % 12 = 8 ∨ x.what % 12 = 9 ∨ x.what % 12 = 10 ∨ x.what % 12 = 11 := by omega
    rcases h12 with h12 | h12 | h12 | h12 | h12 | h12 | h12 | h12 | h12 | h12 | h12 | h12
    · have HPK := Lib.hid (pick_to W4 x.what 12 0 (by decide) (by decide) h12)
      refine HPK.out.mono ?_
      rintro e w' ⟨rfl, rfl⟩
      clear HPK h12
      have P4g := Lib.hid P4.out.ds.good
      go_wp2_with fail
      refine (append_nb W4 w.heap.size d S s nm _ x.b P4.out.ds (by have := HB.out; omega) (by have := HB.out; omega) (by have := HNL.out; omega) (HSE.out.kb P4.out.bel) (fun hne k hk e => by have h1 := P4.out.ge k e; have h2 := seen_lt HSE.out hne hk; omega)).mono ?_
      rintro e w5 ⟨rfl, hp5⟩
      have ho5 := hp5
      obtain ⟨S5, p5, s5⟩ := P4.out.stepD hp5
      obtain ⟨S5', _, o5, _⟩ := ho5
      have P5 := Lib.hid p5
      have X5 : Hid (Px w5 S5 r xb x) := Lib.hid (X4.out.stepD o5 s5)
      clear hp5 p5 s5 o5 P4 X4 x0 x2 x3 x4 x5
      have G5 := Lib.hid P4g.out
      have y2 := X5.out.c2
      have y3 := X5.out.c3
      have y4 := X5.out.c4
      have y5 := X5.out.c5
      go_wp2_with fail
      refine (rappend_to w5 B' r A s nm _ x.b P5.out.rs G5.out (by have := HB.out; omega) (by have := HB.out; omega) (by have := HNL.out; omega) (HSE.out.kb P5.out.bel) HXB.out).mono ?_
      rintro e w6 ⟨rfl, hp6⟩
      obtain ⟨A6, p6⟩ := P5.out.stepR hp6
      have P6 := Lib.hid p6
      have HB6 : Hid ((s.append nm x.b).2.works ≤ k + 1 ∧ (s.append nm x.b).2.fuse < 100) := Lib.hid (by have h1 := append_bd s nm x.b; have h2 := h1.works; have h3 := h1.fuse; have := HB.out; omega)
      clear hp6 p6 P5 X5 y2 y3 y4 y5
      obtain ⟨z, hz⟩ : ∃ z : St, z = (s.append nm x.b).2 := ⟨_, rfl⟩
      rw [← hz] at P6 HB6
      clear hz
      obtain ⟨cd, hcd⟩ : ∃ z : Int, z = (s.append nm x.b).1 := ⟨_, rfl⟩
      rw [← hcd]
      clear hcd
      go_wp2_with fail
      refine (ehand w6 cd (HG.out.kb P6.out.bel)).mono ?_
      rintro e w7 ⟨rfl, b7⟩
      have P7 := Lib.hid (P6.out.kb b7)
      clear b7 P6
      go_wp2_with fail
      refine (lsame_to w7 _ d B' r _ _ _ P7.out.ds P7.out.rs (by have := HB6.out; omega)).mono ?_
      rintro e w8 ⟨rfl, b8⟩
      have P8 := Lib.hid (P7.out.kb b8)
      clear b8 P7
      go_wp2_with fail
      exact ⟨⟨k + 1, _, _, _, by omega, by omega, by simp, P8, Lib.hid HB6.out⟩, by simp [intOf]; omega⟩
    · have HPK := Lib.hid (pick_to W4 x.what 12 1 (by decide) (by decide) h12)
      refine HPK.out.mono ?_
      rintro e w' ⟨rfl, rfl⟩
      clear HPK h12
      have P4g := Lib.hid P4.out.ds.good
      go_wp2_with fail
      refine (append_nb W4 w.heap.size d S s nm _ x.b P4.out.ds (by have := HB.out; omega) (by have := HB.out; omega) (by have := HNL.out; omega) (HSE.out.kb P4.out.bel) (fun hne k hk e => by have h1 := P4.out.ge k e; have h2 := seen_lt HSE.out hne hk; omega)).mono ?_
      rintro e w5 ⟨rfl, hp5⟩
      have ho5 := hp5
      obtain ⟨S5, p5, s5⟩ := P4.out.stepD hp5
      obtain ⟨S5', _, o5, _⟩ := ho5
      have P5 := Lib.hid p5
      have X5 : Hid (Px w5 S5 r xb x) := Lib.hid (X4.out.stepD o5 s5)
      clear hp5 p5 s5 o5 P4 X4 x0 x2 x3 x4 x5
      have G5 := Lib.hid P4g.out
      have y2 := X5.out.c2
      have y3 := X5.out.c3
      have y4 := X5.out.c4
      have y5 := X5.out.c5
      go_wp2_with fail
      refine (rappend_to w5 B' r A s nm _ x.b P5.out.rs G5.out (by have := HB.out; omega) (by have := HB.out; omega) (by have := HNL.out; omega) (HSE.out.kb P5.out.bel) HXB.out).mono ?_
      rintro e w6 ⟨rfl, hp6⟩
      obtain ⟨A6, p6⟩ := P5.out.stepR hp6
      have P6 := Lib.hid p6
      have HB6 : Hid ((s.append nm x.b).2.works ≤ k + 1 ∧ (s.append nm x.b).2.fuse < 100) := Lib.hid (by have h1 := append_bd s nm x.b; have h2 := h1.works; have h3 := h1.fuse; have := HB.out; omega)
      clear hp6 p6 P5 X5 y2 y3 y4 y5
      obtain ⟨z, hz⟩ : ∃ z : St, z = (s.append nm x.b).2 := ⟨_, rfl⟩
      rw [← hz] at P6 HB6
      clear hz
      obtain ⟨cd, hcd⟩ : ∃ z : Int, z = (s.append nm x.b).1 := ⟨_, rfl⟩
      rw [← hcd]
      clear hcd
      go_wp2_with fail
      refine (ehand w6 cd (HG.out.kb P6.out.bel)).mono ?_
      rintro e w7 ⟨rfl, b7⟩
      have P7 := Lib.hid (P6.out.kb b7)
      clear b7 P6
      go_wp2_with fail
      refine (lsame_to w7 _ d B' r _ _ _ P7.out.ds P7.out.rs (by have := HB6.out; omega)).mono ?_
      rintro e w8 ⟨rfl, b8⟩
      have P8 := Lib.hid (P7.out.kb b8)
      clear b8 P7
      go_wp2_with fail
      exact ⟨⟨k + 1, _, _, _, by omega, by omega, by simp, P8, Lib.hid HB6.out⟩, by simp [intOf]; omega⟩
    · have HPK := Lib.hid (pick_to W4 x.what 12 2 (by decide) (by decide) h12)
      refine HPK.out.mono ?_
      rintro e w' ⟨rfl, rfl⟩
      clear HPK h12
      have P4g := Lib.hid P4.out.ds.good
      go_wp2_with fail
      refine (append_nb W4 w.heap.size d S s nm _ x.b P4.out.ds (by have := HB.out; omega) (by have := HB.out; omega) (by have := HNL.out; omega) (HSE.out.kb P4.out.bel) (fun hne k hk e => by have h1 := P4.out.ge k e; have h2 := seen_lt HSE.out hne hk; omega)).mono ?_
      rintro e w5 ⟨rfl, hp5⟩
      have ho5 := hp5
      obtain ⟨S5, p5, s5⟩ := P4.out.stepD hp5
      obtain ⟨S5', _, o5, _⟩ := ho5
      have P5 := Lib.hid p5
      have X5 : Hid (Px w5 S5 r xb x) := Lib.hid (X4.out.stepD o5 s5)
      clear hp5 p5 s5 o5 P4 X4 x0 x2 x3 x4 x5
      have G5 := Lib.hid P4g.out
      have y2 := X5.out.c2
      have y3 := X5.out.c3
      have y4 := X5.out.c4
      have y5 := X5.out.c5
      go_wp2_with fail
      refine (rappend_to w5 B' r A s nm _ x.b P5.out.rs G5.out (by have := HB.out; omega) (by have := HB.out; omega) (by have := HNL.out; omega) (HSE.out.kb P5.out.bel) HXB.out).mono ?_
      rintro e w6 ⟨rfl, hp6⟩
      obtain ⟨A6, p6⟩ := P5.out.stepR hp6
      have P6 := Lib.hid p6
      have HB6 : Hid ((s.append nm x.b).2.works ≤ k + 1 ∧ (s.append nm x.b).2.fuse < 100) := Lib.hid (by have h1 := append_bd s nm x.b; have h2 := h1.works; have h3 := h1.fuse; have := HB.out; omega)
      clear hp6 p6 P5 X5 y2 y3 y4 y5
      obtain ⟨z, hz⟩ : ∃ z : St, z = (s.append nm x.b).2 := ⟨_, rfl⟩
      rw [← hz] at P6 HB6
      clear hz
      obtain ⟨cd, hcd⟩ : ∃ z : Int, z = (s.append nm x.b).1 := ⟨_, rfl⟩
      rw [← hcd]
      clear hcd
      go_wp2_with fail
      refine (ehand w6 cd (HG.out.kb P6.out.bel)).mono ?_
      rintro e w7 ⟨rfl, b7⟩
      have P7 := Lib.hid (P6.out.kb b7)
      clear b7 P6
      go_wp2_with fail
      refine (lsame_to w7 _ d B' r _ _ _ P7.out.ds P7.out.rs (by have := HB6.out; omega)).mono ?_
      rintro e w8 ⟨rfl, b8⟩
      have P8 := Lib.hid (P7.out.kb b8)
      clear b8 P7
      go_wp2_with fail
      exact ⟨⟨k + 1, _, _, _, by omega, by omega, by simp, P8, Lib.hid HB6.out⟩, by simp [intOf]; omega⟩
    · have HPK := Lib.hid (pick_to W4 x.what 12 3 (by decide) (by decide) h12)
      refine HPK.out.mono ?_
      rintro e w' ⟨rfl, rfl⟩
      clear HPK h12
      have P4g := Lib.hid P4.out.ds.good
      go_wp2_with fail
      refine (append_nb W4 w.heap.size d S s nm _ x.b P4.out.ds (by have := HB.out; omega) (by have := HB.out; omega) (by have := HNL.out; omega) (HSE.out.kb P4.out.bel) (fun hne k hk e => by have h1 := P4.out.ge k e; have h2 := seen_lt HSE.out hne hk; omega)).mono ?_
      rintro e w5 ⟨rfl, hp5⟩
      have ho5 := hp5
      obtain ⟨S5, p5, s5⟩ := P4.out.stepD hp5
      obtain ⟨S5', _, o5, _⟩ := ho5
      have P5 := Lib.hid p5
      have X5 : Hid (Px w5 S5 r xb x) := Lib.hid (X4.out.stepD o5 s5)
      clear hp5 p5 s5 o5 P4 X4 x0 x2 x3 x4 x5
      have G5 := Lib.hid P4g.out
      have y2 := X5.out.c2
      have y3 := X5.out.c3
      have y4 := X5.out.c4
      have y5 := X5.out.c5
      go_wp2_with fail
      refine (rappend_to w5 B' r A s nm _ x.b P5.out.rs G5.out (by have := HB.out; omega) (by have := HB.out; omega) (by have := HNL.out; omega) (HSE.out.kb P5.out.bel) HXB.out).mono ?_
      rintro e w6 ⟨rfl, hp6⟩
      obtain ⟨A6, p6⟩ := P5.out.stepR hp6
      have P6 := Lib.hid p6
      have HB6 : Hid ((s.append nm x.b).2.works ≤ k + 1 ∧ (s.append nm x.b).2.fuse < 100) := Lib.hid (by have h1 := append_bd s nm x.b; have h2 := h1.works; have h3 := h1.fuse; have := HB.out; omega)
      clear hp6 p6 P5 X5 y2 y3 y4 y5
      obtain ⟨z, hz⟩ : ∃ z : St, z = (s.append nm x.b).2 := ⟨_, rfl⟩
      rw [← hz] at P6 HB6
      clear hz
      obtain ⟨cd, hcd⟩ : ∃ z : Int, z = (s.append nm x.b).1 := ⟨_, rfl⟩
      rw [← hcd]
      clear hcd
      go_wp2_with fail
      refine (ehand w6 cd (HG.out.kb P6.out.bel)).mono ?_
      rintro e w7 ⟨rfl, b7⟩
      have P7 := Lib.hid (P6.out.kb b7)
      clear b7 P6
      go_wp2_with fail
      refine (lsame_to w7 _ d B' r _ _ _ P7.out.ds P7.out.rs (by have := HB6.out; omega)).mono ?_
      rintro e w8 ⟨rfl, b8⟩
      have P8 := Lib.hid (P7.out.kb b8)
      clear b8 P7
      go_wp2_with fail
      exact ⟨⟨k + 1, _, _, _, by omega, by omega, by simp, P8, Lib.hid HB6.out⟩, by simp [intOf]; omega⟩
    · have HPK := Lib.hid (pick_to W4 x.what 12 4 (by decide) (by decide) h12)
      refine HPK.out.mono ?_
      rintro e w' ⟨rfl, rfl⟩
      clear HPK h12
      have P4g := Lib.hid P4.out.ds.good
      go_wp2_with fail
      refine (append_nb W4 w.heap.size d S s nm _ x.b P4.out.ds (by have := HB.out; omega) (by have := HB.out; omega) (by have := HNL.out; omega) (HSE.out.kb P4.out.bel) (fun hne k hk e => by have h1 := P4.out.ge k e; have h2 := seen_lt HSE.out hne hk; omega)).mono ?_
      rintro e w5 ⟨rfl, hp5⟩
      have ho5 := hp5
      obtain ⟨S5, p5, s5⟩ := P4.out.stepD hp5
      obtain ⟨S5', _, o5, _⟩ := ho5
      have P5 := Lib.hid p5
      have X5 : Hid (Px w5 S5 r xb x) := Lib.hid (X4.out.stepD o5 s5)
      clear hp5 p5 s5 o5 P4 X4 x0 x2 x3 x4 x5
      have G5 := Lib.hid P4g.out
      have y2 := X5.out.c2
      have y3 := X5.out.c3
      have y4 := X5.out.c4
      have y5 := X5.out.c5
      go_wp2_with fail
      refine (rappend_to w5 B' r A s nm _ x.b P5.out.rs G5.out (by have := HB.out; omega) (by have := HB.out; omega) (by have := HNL.out; omega) (HSE.out.kb P5.out.bel) HXB.out).mono ?_
      rintro e w6 ⟨rfl, hp6⟩
      obtain ⟨A6, p6⟩ := P5.out.stepR hp6
      have P6 := Lib.hid p6
      have HB6 : Hid ((s.append nm x.b).2.works ≤ k + 1 ∧ (s.append nm x.b).2.fuse < 100) := Lib.hid (by have h1 := append_bd s nm x.b; have h2 := h1.works; have h3 := h1.fuse; have := HB.out; omega)
      clear hp6 p6 P5 X5 y2 y3 y4 y5
      obtain ⟨z, hz⟩ : ∃ z : St, z = (s.append nm x.b).2 := ⟨_, rfl⟩
      rw [← hz] at P6 HB6
      clear hz
      obtain ⟨cd, hcd⟩ : ∃ z : Int, z = (s.append nm x.b).1 := ⟨_, rfl⟩
      rw [← hcd]
      clear hcd
      go_wp2_with fail
      refine (ehand w6 cd (HG.out.kb P6.out.bel)).mono ?_
      rintro e w7 ⟨rfl, b7⟩
      have P7 := Lib.hid (P6.out.kb b7)
      clear b7 P6
      go_wp2_with fail
      refine (lsame_to w7 _ d B' r _ _ _ P7.out.ds P7.out.rs (by have := HB6.out; omega)).mono ?_
      rintro e w8 ⟨rfl, b8⟩
      have P8 := Lib.hid (P7.out.kb b8)
      clear b8 P7
      go_wp2_with fail
      exact ⟨⟨k + 1, _, _, _, by omega, by omega, by simp, P8, Lib.hid HB6.out⟩, by simp [intOf]; omega⟩
    · have HPK := Lib.hid (pick_to W4 x.what 12 5 (by decide) (by decide) h12)
      refine HPK.out.mono ?_
      rintro e w' ⟨rfl, rfl⟩
      clear HPK h12
      have P4g := Lib.hid P4.out.ds.good
      go_wp2_with fail
      refine (pick_any W4 x.n 30 (by decide) (by decide)).mono ?_
      rintro e w' ⟨rfl, rfl⟩
      obtain ⟨q, hq⟩ : ∃ q : Int, q = x.n % 30 - 1 := ⟨_, rfl⟩
      have hqw : IntKind.i64.wrap (x.n % 30 - 1) = q := by rw [hq]; exact IntWalk.i64_in _ (by omega)
      have hqw' : x.n % 30 - 1 = q := hq.symm
      clear hq
      go_wp2_with fail
      refine (truncate_to W4 w.heap.size d S s nm q P4.out.ds (by have := HB.out; omega) (by have := HB.out; omega) (by have := HNL.out; omega)).mono ?_
      rintro e w5 ⟨rfl, hp5⟩
      have ho5 := hp5
      obtain ⟨S5, p5, s5⟩ := P4.out.stepD hp5
      obtain ⟨S5', _, o5, _⟩ := ho5
      have P5 := Lib.hid p5
      have X5 : Hid (Px w5 S5 r xb x) := Lib.hid (X4.out.stepD o5 s5)
      clear hp5 p5 s5 o5 P4 X4 x0 x2 x3 x4 x5
      have G5 := Lib.hid P4g.out
      have y2 := X5.out.c2
      have y3 := X5.out.c3
      have y4 := X5.out.c4
      have y5 := X5.out.c5
      go_wp2_with fail
      refine (rtruncate_to w5 B' r A s nm q P5.out.rs G5.out (by have := HB.out; omega) (by have := HB.out; omega) (by have := HNL.out; omega)).mono ?_
      rintro e w6 ⟨rfl, hp6⟩
      obtain ⟨A6, p6⟩ := P5.out.stepR hp6
      have P6 := Lib.hid p6
      have HB6 : Hid ((s.truncate nm q).2.works ≤ k + 1 ∧ (s.truncate nm q).2.fuse < 100) := Lib.hid (by have h1 := truncate_bd s nm q; have h2 := h1.works; have h3 := h1.fuse; have := HB.out; omega)
      clear hp6 p6 P5 X5 y2 y3 y4 y5
      obtain ⟨z, hz⟩ : ∃ z : St, z = (s.truncate nm q).2 := ⟨_, rfl⟩
      rw [← hz] at P6 HB6
      clear hz
      obtain ⟨cd, hcd⟩ : ∃ z : Int, z = (s.truncate nm q).1 := ⟨_, rfl⟩
      rw [← hcd]
      clear hcd
      go_wp2_with fail
      refine (ehand w6 cd (HG.out.kb P6.out.bel)).mono ?_
      rintro e w7 ⟨rfl, b7⟩
      have P7 := Lib.hid (P6.out.kb b7)
      clear b7 P6
      go_wp2_with fail
      refine (lsame_to w7 _ d B' r _ _ _ P7.out.ds P7.out.rs (by have := HB6.out; omega)).mono ?_
      rintro e w8 ⟨rfl, b8⟩
      have P8 := Lib.hid (P7.out.kb b8)
      clear b8 P7
      go_wp2_with fail
      exact ⟨⟨k + 1, _, _, _, by omega, by omega, by simp, P8, Lib.hid HB6.out⟩, by simp [intOf]; omega⟩
    · have HPK := Lib.hid (pick_to W4 x.what 12 6 (by decide) (by decide) h12)
      refine HPK.out.mono ?_
      rintro e w' ⟨rfl, rfl⟩
      clear HPK h12
      have P4g := Lib.hid P4.out.ds.good
      obtain ⟨r2, hr2⟩ : ∃ r2 : Nat, x.to % 6 = r2 := ⟨(x.to % 6).toNat, by omega⟩
      have HL2 := Lib.hid (fun W => lname_to W x.to r2 hr2)
      have hml := nm6_len r2
      clear hr2
      generalize nm6 r2 = mm at *
      have HML : Hid (mm.length ≤ 40) := Lib.hid hml
      clear hml
      go_wp2_with fail
      refine (HL2.out _).mono ?_
      rintro e w' ⟨rfl, rfl⟩
      go_wp2_with fail
      refine (rename_to W4 w.heap.size d S s nm mm P4.out.ds (by have := HB.out; omega) (by have := HB.out; omega) (by have := HNL.out; omega) (by have := HML.out; omega)).mono ?_
      rintro e w5 ⟨rfl, hp5⟩
      have ho5 := hp5
      obtain ⟨S5, p5, s5⟩ := P4.out.stepD hp5
      obtain ⟨S5', _, o5, _⟩ := ho5
      have P5 := Lib.hid p5
      have X5 : Hid (Px w5 S5 r xb x) := Lib.hid (X4.out.stepD o5 s5)
      clear hp5 p5 s5 o5 P4 X4 x0 x2 x3 x4 x5
      have G5 := Lib.hid P4g.out
      have y2 := X5.out.c2
      have y3 := X5.out.c3
      have y4 := X5.out.c4
      have y5 := X5.out.c5
      go_wp2_with fail
      refine (HL2.out _).mono ?_
      rintro e w' ⟨rfl, rfl⟩
      go_wp2_with fail
      refine (rrename_to w5 B' r A s nm mm P5.out.rs G5.out (by have := HB.out; omega) (by have := HB.out; omega) (by have := HNL.out; omega) (by have := HML.out; omega)).mono ?_
      rintro e w6 ⟨rfl, hp6⟩
      obtain ⟨A6, p6⟩ := P5.out.stepR hp6
      have P6 := Lib.hid p6
      have HB6 : Hid ((s.rename nm mm).2.works ≤ k + 1 ∧ (s.rename nm mm).2.fuse < 100) := Lib.hid (by have h1 := rename_bd s nm mm; have h2 := h1.works; have h3 := h1.fuse; have := HB.out; omega)
      clear hp6 p6 P5 X5 y2 y3 y4 y5
      obtain ⟨z, hz⟩ : ∃ z : St, z = (s.rename nm mm).2 := ⟨_, rfl⟩
      rw [← hz] at P6 HB6
      clear hz
      obtain ⟨cd, hcd⟩ : ∃ z : Int, z = (s.rename nm mm).1 := ⟨_, rfl⟩
      rw [← hcd]
      clear hcd
      go_wp2_with fail
      refine (ehand w6 cd (HG.out.kb P6.out.bel)).mono ?_
      rintro e w7 ⟨rfl, b7⟩
      have P7 := Lib.hid (P6.out.kb b7)
      clear b7 P6
      go_wp2_with fail
      refine (lsame_to w7 _ d B' r _ _ _ P7.out.ds P7.out.rs (by have := HB6.out; omega)).mono ?_
      rintro e w8 ⟨rfl, b8⟩
      have P8 := Lib.hid (P7.out.kb b8)
      clear b8 P7
      go_wp2_with fail
      exact ⟨⟨k + 1, _, _, _, by omega, by omega, by simp, P8, Lib.hid HB6.out⟩, by simp [intOf]; omega⟩
    · have HPK := Lib.hid (pick_to W4 x.what 12 7 (by decide) (by decide) h12)
      refine HPK.out.mono ?_
      rintro e w' ⟨rfl, rfl⟩
      clear HPK h12
      have P4g := Lib.hid P4.out.ds.good
      go_wp2_with fail
      refine (remove_to W4 w.heap.size d S s nm P4.out.ds (by have := HB.out; omega) (by have := HB.out; omega) (by have := HNL.out; omega)).mono ?_
      rintro e w5 ⟨rfl, hp5⟩
      have ho5 := hp5
      obtain ⟨S5, p5, s5⟩ := P4.out.stepD hp5
      obtain ⟨S5', _, o5, _⟩ := ho5
      have P5 := Lib.hid p5
      have X5 : Hid (Px w5 S5 r xb x) := Lib.hid (X4.out.stepD o5 s5)
      clear hp5 p5 s5 o5 P4 X4 x0 x2 x3 x4 x5
      have G5 := Lib.hid P4g.out
      have y2 := X5.out.c2
      have y3 := X5.out.c3
      have y4 := X5.out.c4
      have y5 := X5.out.c5
      go_wp2_with fail
      refine (rremove_to w5 B' r A s nm P5.out.rs G5.out (by have := HB.out; omega) (by have := HB.out; omega) (by have := HNL.out; omega)).mono ?_
      rintro e w6 ⟨rfl, hp6⟩
      obtain ⟨A6, p6⟩ := P5.out.stepR hp6
      have P6 := Lib.hid p6
      have HB6 : Hid ((s.remove nm).2.works ≤ k + 1 ∧ (s.remove nm).2.fuse < 100) := Lib.hid (by have h1 := remove_bd s nm; have h2 := h1.works; have h3 := h1.fuse; have := HB.out; omega)
      clear hp6 p6 P5 X5 y2 y3 y4 y5
      obtain ⟨z, hz⟩ : ∃ z : St, z = (s.remove nm).2 := ⟨_, rfl⟩
      rw [← hz] at P6 HB6
      clear hz
      obtain ⟨cd, hcd⟩ : ∃ z : Int, z = (s.remove nm).1 := ⟨_, rfl⟩
      rw [← hcd]
      clear hcd
      go_wp2_with fail
      refine (ehand w6 cd (HG.out.kb P6.out.bel)).mono ?_
      rintro e w7 ⟨rfl, b7⟩
      have P7 := Lib.hid (P6.out.kb b7)
      clear b7 P6
      go_wp2_with fail
      refine (lsame_to w7 _ d B' r _ _ _ P7.out.ds P7.out.rs (by have := HB6.out; omega)).mono ?_
      rintro e w8 ⟨rfl, b8⟩
      have P8 := Lib.hid (P7.out.kb b8)
      clear b8 P7
      go_wp2_with fail
      exact ⟨⟨k + 1, _, _, _, by omega, by omega, by simp, P8, Lib.hid HB6.out⟩, by simp [intOf]; omega⟩
    · have HPK := Lib.hid (pick_to W4 x.what 12 8 (by decide) (by decide) h12)
      refine HPK.out.mono ?_
      rintro e w' ⟨rfl, rfl⟩
      clear HPK h12
      have P4g := Lib.hid P4.out.ds.good
      go_wp2_with fail
      refine (sync_to W4 w.heap.size d S s P4.out.ds (by have := HB.out; omega) (by have := HB.out; omega)).mono ?_
      rintro e w5 ⟨rfl, hp5⟩
      have ho5 := hp5
      obtain ⟨S5, p5, s5⟩ := P4.out.stepD hp5
      obtain ⟨S5', _, o5, _⟩ := ho5
      have P5 := Lib.hid p5
      have X5 : Hid (Px w5 S5 r xb x) := Lib.hid (X4.out.stepD o5 s5)
      clear hp5 p5 s5 o5 P4 X4 x0 x2 x3 x4 x5
      have G5 := Lib.hid P4g.out
      have y2 := X5.out.c2
      have y3 := X5.out.c3
      have y4 := X5.out.c4
      have y5 := X5.out.c5
      go_wp2_with fail
      refine (rsync_to w5 B' r A s P5.out.rs G5.out (by have := HB.out; omega) (by have := HB.out; omega)).mono ?_
      rintro e w6 ⟨rfl, hp6⟩
      obtain ⟨A6, p6⟩ := P5.out.stepR hp6
      have P6 := Lib.hid p6
      have HB6 : Hid ((s.sync).2.works ≤ k + 1 ∧ (s.sync).2.fuse < 100) := Lib.hid (by have h1 := sync_bd s; have h2 := h1.works; have h3 := h1.fuse; have := HB.out; omega)
      clear hp6 p6 P5 X5 y2 y3 y4 y5
      obtain ⟨z, hz⟩ : ∃ z : St, z = (s.sync).2 := ⟨_, rfl⟩
      rw [← hz] at P6 HB6
      clear hz
      obtain ⟨cd, hcd⟩ : ∃ z : Int, z = (s.sync).1 := ⟨_, rfl⟩
      rw [← hcd]
      clear hcd
      go_wp2_with fail
      refine (ehand w6 cd (HG.out.kb P6.out.bel)).mono ?_
      rintro e w7 ⟨rfl, b7⟩
      have P7 := Lib.hid (P6.out.kb b7)
      clear b7 P6
      go_wp2_with fail
      refine (lsame_to w7 _ d B' r _ _ _ P7.out.ds P7.out.rs (by have := HB6.out; omega)).mono ?_
      rintro e w8 ⟨rfl, b8⟩
      have P8 := Lib.hid (P7.out.kb b8)
      clear b8 P7
      go_wp2_with fail
      exact ⟨⟨k + 1, _, _, _, by omega, by omega, by simp, P8, Lib.hid HB6.out⟩, by simp [intOf]; omega⟩
    · have HPK := Lib.hid (pick_to W4 x.what 12 9 (by decide) (by decide) h12)
      refine HPK.out.mono ?_
      rintro e w' ⟨rfl, rfl⟩
      clear HPK h12
      have P4g := Lib.hid P4.out.ds.good
      go_wp2_with fail
      refine (sync_to W4 w.heap.size d S s P4.out.ds (by have := HB.out; omega) (by have := HB.out; omega)).mono ?_
      rintro e w5 ⟨rfl, hp5⟩
      have ho5 := hp5
      obtain ⟨S5, p5, s5⟩ := P4.out.stepD hp5
      obtain ⟨S5', _, o5, _⟩ := ho5
      have P5 := Lib.hid p5
      have X5 : Hid (Px w5 S5 r xb x) := Lib.hid (X4.out.stepD o5 s5)
      clear hp5 p5 s5 o5 P4 X4 x0 x2 x3 x4 x5
      have G5 := Lib.hid P4g.out
      have y2 := X5.out.c2
      have y3 := X5.out.c3
      have y4 := X5.out.c4
      have y5 := X5.out.c5
      go_wp2_with fail
      refine (rsync_to w5 B' r A s P5.out.rs G5.out (by have := HB.out; omega) (by have := HB.out; omega)).mono ?_
      rintro e w6 ⟨rfl, hp6⟩
      obtain ⟨A6, p6⟩ := P5.out.stepR hp6
      have P6 := Lib.hid p6
      have HB6 : Hid ((s.sync).2.works ≤ k + 1 ∧ (s.sync).2.fuse < 100) := Lib.hid (by have h1 := sync_bd s; have h2 := h1.works; have h3 := h1.fuse; have := HB.out; omega)
      clear hp6 p6 P5 X5 y2 y3 y4 y5
      obtain ⟨z, hz⟩ : ∃ z : St, z = (s.sync).2 := ⟨_, rfl⟩
      rw [← hz] at P6 HB6
      clear hz
      obtain ⟨cd, hcd⟩ : ∃ z : Int, z = (s.sync).1 := ⟨_, rfl⟩
      rw [← hcd]
      clear hcd
      go_wp2_with fail
      refine (ehand w6 cd (HG.out.kb P6.out.bel)).mono ?_
      rintro e w7 ⟨rfl, b7⟩
      have P7 := Lib.hid (P6.out.kb b7)
      clear b7 P6
      go_wp2_with fail
      refine (lsame_to w7 _ d B' r _ _ _ P7.out.ds P7.out.rs (by have := HB6.out; omega)).mono ?_
      rintro e w8 ⟨rfl, b8⟩
      have P8 := Lib.hid (P7.out.kb b8)
      clear b8 P7
      go_wp2_with fail
      exact ⟨⟨k + 1, _, _, _, by omega, by omega, by simp, P8, Lib.hid HB6.out⟩, by simp [intOf]; omega⟩
    · have HPK := Lib.hid (pick_to W4 x.what 12 10 (by decide) (by decide) h12)
      refine HPK.out.mono ?_
      rintro e w' ⟨rfl, rfl⟩
      clear HPK h12
      have P4g := Lib.hid P4.out.ds.good
      go_wp2_with fail
      refine (crash_to W4 w.heap.size d S s x.n x.cut P4.out.ds (by have := HB.out; omega)).mono ?_
      rintro e w5 ⟨rfl, hp5⟩
      have ho5 := hp5
      obtain ⟨S5, p5, s5⟩ := P4.out.stepD hp5
      obtain ⟨S5', _, o5, _⟩ := ho5
      have P5 := Lib.hid p5
      have X5 : Hid (Px w5 S5 r xb x) := Lib.hid (X4.out.stepD o5 s5)
      clear hp5 p5 s5 o5 P4 X4 x0 x2 x3 x4 x5
      have G5 := Lib.hid P4g.out
      have y2 := X5.out.c2
      have y3 := X5.out.c3
      have y4 := X5.out.c4
      have y5 := X5.out.c5
      go_wp2_with fail
      refine (rcrash_to w5 B' r A s x.n x.cut P5.out.rs G5.out (by have := HB.out; omega)).mono ?_
      rintro e w6 ⟨rfl, hp6⟩
      obtain ⟨A6, p6⟩ := P5.out.stepR hp6
      have P6 := Lib.hid p6
      have HB6 : Hid ((s.crash x.n x.cut).works ≤ k + 1 ∧ (s.crash x.n x.cut).fuse < 100) := Lib.hid (by have h1 := crash_bd s x.n x.cut; have h2 := h1.works; have h3 := h1.fuse; have := HB.out; omega)
      clear hp6 p6 P5 X5 y2 y3 y4 y5
      obtain ⟨z, hz⟩ : ∃ z : St, z = (s.crash x.n x.cut) := ⟨_, rfl⟩
      rw [← hz] at P6 HB6
      clear hz
      go_wp2_with fail
      refine (show Calls Tryz.prog 24 #[.nilIface] w6 _ from ehand w6 0 (HG.out.kb P6.out.bel)).mono ?_
      rintro e w7 ⟨rfl, b7⟩
      have P7 := Lib.hid (P6.out.kb b7)
      clear b7 P6
      go_wp2_with fail
      refine (lsame_to w7 _ d B' r _ _ _ P7.out.ds P7.out.rs (by have := HB6.out; omega)).mono ?_
      rintro e w8 ⟨rfl, b8⟩
      have P8 := Lib.hid (P7.out.kb b8)
      clear b8 P7
      go_wp2_with fail
      exact ⟨⟨k + 1, _, _, _, by omega, by omega, by simp, P8, Lib.hid HB6.out⟩, by simp [intOf]; omega⟩
    · have HPK := Lib.hid (pick_to W4 x.what 12 11 (by decide) (by decide) h12)
      refine HPK.out.mono ?_
      rintro e w' ⟨rfl, rfl⟩
      clear HPK h12
      go_wp2_with fail
      refine (pick_any W4 x.n 9 (by decide) (by decide)).mono ?_
      rintro e w' ⟨rfl, rfl⟩
      obtain ⟨q, hq⟩ : ∃ q : Int, q = x.n % 9 - 2 := ⟨_, rfl⟩
      have hqw : IntKind.i64.wrap (x.n % 9 - 2) = q := by rw [hq]; exact IntWalk.i64_in _ (by omega)
      have hqw' : x.n % 9 - 2 = q := hq.symm
      have HQ : Hid (q < 100) := Lib.hid (by omega)
      clear hq
      go_wp2_with fail
      refine (fuse_ds W4 w.heap.size d S s q P4.out.ds).mono ?_
      rintro e w5 ⟨rfl, hp5⟩
      have ho5 := hp5
      obtain ⟨S5, p5, s5⟩ := P4.out.stepD hp5
      obtain ⟨S5', _, o5, _⟩ := ho5
      have P5 := Lib.hid p5
      have X5 : Hid (Px w5 S5 r xb x) := Lib.hid (X4.out.stepD o5 s5)
      clear hp5 p5 s5 o5 P4 X4 x0 x2 x3 x4 x5
      have y2 := X5.out.c2
      have y3 := X5.out.c3
      have y4 := X5.out.c4
      have y5 := X5.out.c5
      go_wp2_with fail
      refine (rfuse_to w5 B' r A s q P5.out.rs (by have := HQ.out; omega)).mono ?_
      rintro e w6 ⟨rfl, hp6⟩
      obtain ⟨A6, p6⟩ := P5.out.stepR hp6
      have P6 := Lib.hid p6
      have HB6 : Hid (({ s with fuse := q }).works ≤ k + 1 ∧ ({ s with fuse := q }).fuse < 100) := Lib.hid (by have h1 := fuse_bd s q HQ.out; have h2 := h1.works; have h3 := h1.fuse; have := HB.out; omega)
      clear hp6 p6 P5 X5 y2 y3 y4 y5
      obtain ⟨z, hz⟩ : ∃ z : St, z = ({ s with fuse := q }) := ⟨_, rfl⟩
      rw [← hz] at P6 HB6
      clear hz
      go_wp2_with fail
      refine (show Calls Tryz.prog 24 #[.nilIface] w6 _ from ehand w6 0 (HG.out.kb P6.out.bel)).mono ?_
      rintro e w7 ⟨rfl, b7⟩
      have P7 := Lib.hid (P6.out.kb b7)
      clear b7 P6
      go_wp2_with fail
      refine (lsame_to w7 _ d B' r _ _ _ P7.out.ds P7.out.rs (by have := HB6.out; omega)).mono ?_
      rintro e w8 ⟨rfl, b8⟩
      have P8 := Lib.hid (P7.out.kb b8)
      clear b8 P7
      go_wp2_with fail
      exact ⟨⟨k + 1, _, _, _, by omega, by omega, by simp, P8, Lib.hid HB6.out⟩, by simp [intOf]; omega⟩
end Go.Proofs.YtageblggakfbdaaGreatDoor
