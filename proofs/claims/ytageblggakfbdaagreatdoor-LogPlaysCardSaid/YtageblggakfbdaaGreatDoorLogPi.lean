/- A log and the reference's side by side; the numbers of both stay small. No condition. · Steps of chapter 7 that came in, all that each says, each with its bytes' length under reach. No condition. · The statements' own hand same for LogPlays. Conditions: no more than 900000 works. -/
import Derived.Test.YtageblggakfbdaaGreatDoorRefL
import Derived.Test.YtageblggakfbdaaGreatDoorLogK
import Derived.Test.YtageblggakfbdaaGreatDoorGenIn
import Derived.Deep.Slices
import Derived.Deep.Fields
import Derived.ChangeSame
import Derived.OpenShut
import Derived.SizedLaws
import Derived.Test.YtageblggakfbdaaGreatDoorDskKn
import Derived.Test.YtageblggakfbdaaGreatDoorOctKnown
namespace Go.Proofs.YtageblggakfbdaaGreatDoor
open Go.RowKit
open Go.Maps

def OkF (F : Fil) : Prop := ∀ n, Okb (fbytes n F)
def OkW (k : Wk) : Prop := k.kind ≤ 1 ∧ Okb k.bs
theorem OkF.put {F : Fil} (h : OkF F) (n : Key) {xs : List Int} (hx : Okb xs) : OkF (aput n xs F) := fun m => by
  by_cases e : m = n
  · subst e; rw [fbytes_put_same]; exact hx
  · rw [fbytes_put_other n m xs e]; exact h m
theorem OkF.turn {F : Fil} (h : OkF F) {k : Wk} (hk : OkW k) : OkF (turn F k) := by
  have h1 := hk.1
  unfold Go.Proofs.YtageblggakfbdaaGreatDoor.turn
  split
  · exact h.put _ ((h _).app hk.2)
  · split
    · exact h.put _ ((h _).take _)
    · omega
theorem OkF.run : ∀ (ks : List Wk) {F : Fil}, OkF F → (∀ k ∈ ks, OkW k) → OkF (run F ks)
  | [], _, h, _ => h
  | k :: ks, F, h, hk => OkF.run ks (F := Go.Proofs.YtageblggakfbdaaGreatDoor.turn F k) (h.turn (hk k List.mem_cons_self)) (fun j hj => hk j (List.mem_cons_of_mem _ hj))
theorem OkF.part {F : Fil} (h : OkF F) {k : Wk} (hk : OkW k) (cut : Int) : OkF (part F k cut) := by
  unfold Go.Proofs.YtageblggakfbdaaGreatDoor.part
  split
  · split
    · exact h
    · exact h.put _ ((h _).app (hk.2.take _))
  · exact h
/-- All that a disk holds are bytes. -/
structure OkS (s : St) : Prop where
  kept : OkF s.kept
  pend : ∀ k ∈ s.pend, OkW k
section
variable {s : St}
theorem OkS.files (h : OkS s) : OkF s.files := h.kept.run _ h.pend
theorem OkS.new (r : Int) : OkS (St.new r) := ⟨fun _ => Okb.nil, fun k hk => by cases hk⟩
theorem OkS.work (h : OkS s) {k : Wk} (hk : OkW k) : OkS (s.work k).2 := by
  unfold St.work
  split
  · exact ⟨h.kept, h.pend⟩
  · refine ⟨h.kept, fun j hj => ?_⟩
    rcases List.mem_append.1 hj with e | e
    · exact h.pend j e
    · rw [List.mem_singleton.1 e]; exact hk
theorem OkS.append (h : OkS s) (n : Key) {l : List Int} (hl : Okb l) : OkS (s.append n l).2 := by
  unfold St.append
  repeat' split
  all_goals first | exact h | exact h.work ⟨Nat.zero_le _, hl⟩
theorem OkS.truncate (h : OkS s) (n : Key) (q : Int) : OkS (s.truncate n q).2 := by
  unfold St.truncate
  repeat' split
  all_goals first | exact h | exact h.work ⟨Nat.le_refl _, Okb.nil⟩
theorem OkS.crash (h : OkS s) (a b : Int) : OkS (s.crash a b) := by
  refine ⟨?_, fun k hk => by cases hk⟩
  show OkF (crashF s.kept s.pend _ b)
  unfold crashF
  split
  · rename_i k hk
    exact (h.kept.run _ (fun j hj => h.pend j (List.mem_of_mem_take hj))).part (h.pend k (List.mem_of_getElem? hk)) b
  · exact h.kept.run _ (fun j hj => h.pend j (List.mem_of_mem_take hj))
theorem OkS.fuse (h : OkS s) (n : Int) : OkS { s with fuse := n } := ⟨h.kept, h.pend⟩
/-- The numbers of a disk stay small. -/
structure Bd (s t : St) : Prop where
  works : t.works ≤ s.works + 1
  fuse : t.fuse ≤ s.fuse ∨ t.fuse < 100
theorem Bd.refl (s : St) : Bd s s := ⟨Nat.le_succ _, .inl (Int.le_refl _)⟩
theorem work_bd (s : St) (k : Wk) : Bd s (s.work k).2 := by
  unfold St.work
  split
  · exact ⟨Nat.le_succ _, .inl (Int.le_refl _)⟩
  · refine ⟨Nat.le_refl _, .inl ?_⟩
    show (if 0 < s.fuse then s.fuse - 1 else s.fuse) ≤ s.fuse
    split <;> omega
theorem append_bd (s : St) (n : Key) (l : List Int) : Bd s (s.append n l).2 := by
  unfold St.append
  repeat' split
  all_goals first | exact Bd.refl s | exact work_bd s _
theorem truncate_bd (s : St) (n : Key) (q : Int) : Bd s (s.truncate n q).2 := by
  unfold St.truncate
  repeat' split
  all_goals first | exact Bd.refl s | exact work_bd s _
end
/-- What holds behind k steps. -/
structure Iv (k : Nat) (s : St) (R : List Rc) : Prop where
  ok : OkS s
  works : s.works ≤ k
  fuse : s.fuse < 100
  ends : ends R ≤ 16777216 + 60 * k
section
variable {k : Nat} {s t : St} {R : List Rc}
theorem Iv.new (r : Int) : Iv 0 (St.new r) [] := ⟨OkS.new r, Nat.le_refl _, (by show (-1 : Int) < 100; decide), (by simp [Go.Proofs.YtageblggakfbdaaGreatDoor.ends])⟩
theorem Iv.wide (h : Iv k s R) : Iv (k + 1) s R := ⟨h.ok, Nat.le_succ_of_le h.works, h.fuse, by have := h.ends; omega⟩
theorem Iv.step (h : Iv k s R) (ho : OkS t) (hb : Bd s t) {Q : List Rc} (hq : Go.Proofs.YtageblggakfbdaaGreatDoor.ends Q ≤ 16777216 + 60 * (k + 1)) : Iv (k + 1) t Q :=
  ⟨ho, by have := hb.works; have := h.works; omega, by have := hb.fuse; have := h.fuse; omega, hq⟩
theorem Iv.add (h : Iv k s R) (nm : Key) (kk : Int) {x : List Int} (hx : Okb x) (hl : x.length ≤ 50) : Iv (k + 1) (addS s nm R kk x).2.1 (addS s nm R kk x).2.2 := by
  have he := h.ends
  unfold addS
  split
  · exact h.wide
  · split
    · refine h.step (h.ok.append _ (frm_ok _ hx)) (append_bd _ _ _) ?_
      show Go.Proofs.YtageblggakfbdaaGreatDoor.ends (R ++ [(kk, x)]) ≤ _
      rw [ends_app]
      have : Go.Proofs.YtageblggakfbdaaGreatDoor.ends [(kk, x)] = 9 + x.length := by simp [Go.Proofs.YtageblggakfbdaaGreatDoor.ends]
      omega
    · exact h.step (h.ok.append _ (frm_ok _ hx)) (append_bd _ _ _) (show Go.Proofs.YtageblggakfbdaaGreatDoor.ends R ≤ _ by omega)
theorem ends_tk (R : List Rc) (j : Nat) : Go.Proofs.YtageblggakfbdaaGreatDoor.ends (R.take j) ≤ Go.Proofs.YtageblggakfbdaaGreatDoor.ends R := by
  conv => rhs; rw [← List.take_append_drop j R]
  rw [ends_app]
  omega
theorem Iv.tr (h : Iv k s R) (nm : Key) (L : Int) {Q : List Rc} (hq : Go.Proofs.YtageblggakfbdaaGreatDoor.ends Q ≤ 16777216 + 60 * (k + 1)) : Iv (k + 1) (trS s nm L).2 Q := by
  unfold trS
  split
  · exact ⟨h.ok, Nat.le_succ_of_le h.works, h.fuse, hq⟩
  · exact h.step (h.ok.truncate _ _) (truncate_bd _ _ _) hq
theorem Iv.cut (h : Iv k s R) (nm : Key) (L : Int) : Iv (k + 1) (cutS s nm R L).2.1 (cutS s nm R L).2.2 := by
  have he := h.ends
  unfold cutS
  split
  · exact h.wide
  · rename_i j _
    have := ends_tk R j
    split
    · exact h.tr _ _ (by show Go.Proofs.YtageblggakfbdaaGreatDoor.ends (R.take j) ≤ _; omega)
    · exact h.tr _ _ (by show Go.Proofs.YtageblggakfbdaaGreatDoor.ends R ≤ _; omega)
theorem Iv.crash (h : Iv k s R) (a b : Int) : Iv k (s.crash a b) R := ⟨h.ok.crash a b, h.works, (by show (-1 : Int) < 100; decide), h.ends⟩
theorem Iv.setFuse (h : Iv k s R) {n : Int} (hn : n < 100) : Iv (k + 1) { s with fuse := n } R := ⟨h.ok.fuse n, Nat.le_succ_of_le h.works, hn, by have := h.ends; omega⟩
theorem Iv.opens (h : Iv k s R) (hg : Good s) (nm : Key) (n : Int) : Iv (k + 1) (openS s nm n).2.1 (openS s nm n).2.2 := by
  have h0 : Go.Proofs.YtageblggakfbdaaGreatDoor.ends [] ≤ 16777216 + 60 * (k + 1) := by simp [Go.Proofs.YtageblggakfbdaaGreatDoor.ends]
  have hd : Go.Proofs.YtageblggakfbdaaGreatDoor.ends (dec ((s.rd nm).take n.toNat)).1 ≤ 16777216 + 60 * (k + 1) := by
    have h1 := (dec_rok _ ((s.rd nm).take n.toNat) (Nat.le_refl _) ((rd_ok (h.ok.files nm)).take _)).2.1
    have h2 : ((s.rd nm).take n.toNat).length ≤ (s.rd nm).length := by rw [List.length_take]; omega
    have h3 : (s.rd nm).length ≤ (fbytes nm s.files).length := by unfold St.rd; split <;> simp
    have h4 := fbytes_le nm s.files
    have h5 := hg.last.tot
    omega
  have hs : ∀ {Q : List Rc}, Go.Proofs.YtageblggakfbdaaGreatDoor.ends Q ≤ 16777216 + 60 * (k + 1) → Iv (k + 1) s Q := fun hq => ⟨h.ok, Nat.le_succ_of_le h.works, h.fuse, hq⟩
  unfold openS
  split
  · exact hs h0
  · split
    · exact hs h0
    · split
      · exact hs h0
      · split
        · split
          · exact h.step (h.ok.truncate _ _) (truncate_bd _ _ _) hd
          · exact h.step (h.ok.truncate _ _) (truncate_bd _ _ _) h0
        · exact hs hd
end
theorem RLS.lts {w : World} {B r l : Nat} {A : Nat → Prop} {s : St} {nm : Key} {R : List Rc} (h : RLS w B r l A s nm R) : (∀ k, A k → k < w.heap.size) ∧ r < w.heap.size ∧ l < w.heap.size := by
  obtain ⟨h1, vl, E, h2, _⟩ := h
  exact ⟨h1.lts.1, h1.lts.2.1, h2.lt⟩
/-- A log of the caller's own and the reference's, apart from each other. -/
structure Pq (w W : World) (B d l B' r lb : Nat) (S A : Nat → Prop) (s t : St) (R Q : List Rc) : Prop where
  cl : CL w W B d l S s [102] R
  rl : RLS W B' r lb A t [102] Q
  dis : ∀ k, S k → ¬ A k ∧ k ≠ r ∧ k ≠ lb
  ger : w.heap.size ≤ r
  gel : w.heap.size ≤ lb
section
variable {w W W' : World} {B d l B' r lb : Nat} {S A : Nat → Prop} {s t s' t' : St} {R Q R' Q' : List Rc}
theorem Pq.kb (h : Pq w W B d l B' r lb S A s t R Q) (hb : Below W.heap.size W W') : Pq w W' B d l B' r lb S A s t R Q := ⟨h.cl.kb hb, h.rl.kb hb, h.dis, h.ger, h.gel⟩
theorem Pq.stepD (h : Pq w W B d l B' r lb S A s t R Q) (hp : LPost W B d l S s' [102] R' W') : ∃ S', Pq w W' B d l B' r lb S' A s' t R' Q ∧ Only S W W' ∧ ∀ k, S' k → S k ∨ W.heap.size ≤ k := by
  obtain ⟨S', h1, h2, h3⟩ := hp
  have hl := h.rl.lts
  refine ⟨S', ⟨h.cl.step h1 h2 h3, h.rl.kept h2 (fun e => (h.dis r e).2.1 rfl) (fun e => (h.dis lb e).2.2 rfl) (fun k hk e => (h.dis k e).1 hk), fun k hk => ?_, h.ger, h.gel⟩, h2, h3⟩
  rcases h3 k hk with e | e
  · exact h.dis k e
  · exact ⟨fun e2 => by have := hl.1 k e2; omega, by have := hl.2.1; omega, by have := hl.2.2; omega⟩
theorem Pq.stepR (h : Pq w W B d l B' r lb S A s t R Q) (hp : RLPost W B' r lb A t' [102] Q' W') : ∃ A', Pq w W' B d l B' r lb S A' s t' R Q' := by
  obtain ⟨A', h1, h2, h3⟩ := hp
  refine ⟨A', ⟨⟨h.cl.dl.kept h2 (fun k hk e => e.elim (h.dis k hk).2.1 (h.dis k hk).2.2), h.cl.bel.trans (h2.below h.cl.bel.size (fun k hk => hk.elim (fun e => e ▸ h.ger) (fun e => e ▸ h.gel))), h.cl.ge⟩, h1, fun k hk => ⟨fun e => ?_, (h.dis k hk).2⟩, h.ger, h.gel⟩⟩
  rcases h3 k e with e | e
  · exact (h.dis k hk).1 e
  · have := h.cl.dl.lt k hk; omega
theorem Pq.openD {l' : Nat} {S0 S' : Nat → Prop} (h : Pq w W B d l B' r lb S A s t R Q) (h0 : ∀ k, S0 k → S k) (hd : DL W' B d l' S' s' [102] R') (ho : Only S0 W W') (hs : ∀ k, S' k → S0 k ∨ W.heap.size ≤ k) : Pq w W' B d l' B' r lb S' A s' t R' Q := by
  have hl := h.rl.lts
  refine ⟨h.cl.opened h0 hd ho hs, h.rl.kept ho (fun e => (h.dis r (h0 r e)).2.1 rfl) (fun e => (h.dis lb (h0 lb e)).2.2 rfl) (fun k hk e => (h.dis k (h0 k e)).1 hk), fun k hk => ?_, h.ger, h.gel⟩
  rcases hs k hk with e | e
  · exact h.dis k (h0 k e)
  · exact ⟨fun e2 => by have := hl.1 k e2; omega, by have := hl.2.1; omega, by have := hl.2.2; omega⟩
theorem Pq.openR {lb' : Nat} {A' : Nat → Prop} (h : Pq w W B d l B' r lb S A s t R Q) (h1 : RLS W' B' r lb' A' t' [102] Q') (h2 : Only (fun k => k = r) W W') (h3 : ∀ k, A' k → A k ∨ W.heap.size ≤ k) (h4 : W.heap.size ≤ lb') : Pq w W' B d l B' r lb' S A' s t' R Q' := by
  refine ⟨⟨h.cl.dl.kept h2 (fun k hk => (h.dis k hk).2.1), h.cl.bel.trans (h2.below h.cl.bel.size (fun k hk => hk ▸ h.ger)), h.cl.ge⟩, h1, fun k hk => ⟨fun e => ?_, (h.dis k hk).2.1, fun e => ?_⟩, h.ger, Nat.le_trans h.cl.bel.size h4⟩
  · rcases h3 k e with e | e
    · exact (h.dis k hk).1 e
    · have := h.cl.dl.lt k hk; omega
  · have := h.cl.dl.lt k hk; omega
theorem Pq.good (h : Pq w W B d l B' r lb S A s t R Q) : Good s := by
  obtain ⟨S0, hd, _⟩ := h.cl.dl.ds
  exact hd.good
end
/-- The step at hand. -/
structure Sg where
  what : Int
  n : Int
  cut : Int
  q : Option Addr
  c : Nat
  b : List Int
instance : Inhabited Sg := ⟨⟨0, 0, 0, none, 0, []⟩⟩
def Sg.row (x : Sg) : List Value := [.int .i64 x.what, .int .i64 x.n, .int .i64 x.cut, .slice x.q x.b.length x.c]
/-- The step at hand, copied. -/
structure Px7 (W : World) (S : Nat → Prop) (xb : Nat) (x : Sg) : Prop where
  obj : W.heap[xb]? = some (.cells #[.int .i64 x.what, .int .i64 x.n, .int .i64 x.cut, .slice x.q x.b.length x.c] 59 (0, 0))
  out : ¬ S xb
section
variable {W W' : World} {S S' : Nat → Prop} {xb : Nat} {x : Sg}
theorem Px7.lt (h : Px7 W S xb x) : xb < W.heap.size := (Array.getElem?_eq_some_iff.1 h.obj).1
theorem Px7.kb (h : Px7 W S xb x) (hb : Below W.heap.size W W') : Px7 W' S xb x := ⟨(hb.block _ h.lt).trans h.obj, h.out⟩
theorem Px7.stepD (h : Px7 W S xb x) (h2 : Only S W W') (h3 : ∀ k, S' k → S k ∨ W.heap.size ≤ k) : Px7 W' S' xb x :=
  ⟨(h2.block _ h.lt h.out).trans h.obj, fun e => (h3 xb e).elim h.out (fun e => by have := h.lt; omega)⟩
theorem Px7.c0 (h : Px7 W S xb x) : W.cell? ⟨xb, 0, none⟩ = some (.int .i64 x.what) := by rw [cell_of_row W _ 0 _ _ _ h.obj]; rfl
theorem Px7.c1 (h : Px7 W S xb x) : W.cell? ⟨xb, 1, none⟩ = some (.int .i64 x.n) := by rw [cell_of_row W _ 1 _ _ _ h.obj]; rfl
theorem Px7.c2 (h : Px7 W S xb x) : W.cell? ⟨xb, 2, none⟩ = some (.int .i64 x.cut) := by rw [cell_of_row W _ 2 _ _ _ h.obj]; rfl
theorem Px7.c3 (h : Px7 W S xb x) : W.cell? ⟨xb, 3, none⟩ = some (.slice x.q x.b.length x.c) := by rw [cell_of_row W _ 3 _ _ _ h.obj]; rfl
end
theorem seen_lt7 {w : World} {v : Value} {l : List Int} (h : Seen w v l) (hn : l ≠ []) {k : Nat} (hk : v.ownBlock = some k) : k < w.heap.size := by
  rcases h with ⟨_, h2⟩ | ⟨a, cap, rfl, hc, hu⟩
  · exact absurd h2 hn
  · cases hk
    obtain ⟨x, r, rfl⟩ := List.exists_cons_of_ne_nil hn
    have h2 := World.block_lt_of_cell? w _ (hu 0 (.int .u8 x) rfl)
    rwa [Addr.add_block] at h2
end Go.Proofs.YtageblggakfbdaaGreatDoor
namespace Go.Proofs.YtageblggakfbdaaGreatDoor
open Go.RowKit Go.ChangeShapes Go.WideShapes Go.Deep

theorem stepCells7 : Tryz.prog.cellsOf 59 = 4 := by kernel_rfl
theorem intCells7 : Tryz.prog.cellsOf 3 = 1 := by kernel_rfl
theorem rowCells7 : Tryz.prog.cellsOf 29 = 1 := by kernel_rfl
theorem rowBytes7 : Tryz.prog.bytesOf 5 = 1 := by kernel_rfl
theorem four_of7 {l : List Value} (h : l.length = 4) : ∃ a b c d, l = [a, b, c, d] := by
  match l, h with
  | [a, b, c, d], _ => exact ⟨a, b, c, d, rfl⟩
theorem weightsAll_mem7 {H : Type} {P : Program} {e : TypeId} : ∀ {l : List (DataW H)} {d : DataW H}, d ∈ l → ∀ n ∈ d.weights P e, n ∈ DataW.weightsAll P e l
  | x :: r, d, h, n, hn => by
    have e : DataW.weightsAll P e (x :: r) = x.weights P e ++ DataW.weightsAll P e r := by rw [DataW.weightsAll]
    rw [e]
    rcases List.mem_cons.1 h with rfl | h
    · exact List.mem_append_left _ hn
    · exact List.mem_append_right _ (weightsAll_mem7 h n hn)
theorem weights_step7 {H : Type} (x0 x1 x2 : DataW H) (es rest : List (DataW H)) : es.length + rest.length ∈ (DataW.agg [x0, x1, x2, .slice es rest]).weights Tryz.prog 59 := by
  rw [DataW.weights, Tryz.underlying59]
  simp only [List.map, DataW.weightsEach]
  refine List.mem_append_right _ (List.mem_append_right _ (List.mem_append_right _ (List.mem_append_left _ ?_)))
  rw [DataW.weights, Tryz.underlying29]
  simp only [rowBytes7, Nat.mul_one]
  exact List.mem_cons_self
theorem weights_steps7 {H : Type} (elems rest : List (DataW H)) : ∀ n ∈ DataW.weightsAll Tryz.prog 59 elems, n ∈ (DataW.slice elems rest).weights Tryz.prog 51 := by
  intro n hn
  rw [DataW.weights, Tryz.underlying51]
  exact List.mem_cons_of_mem _ (List.mem_append_left _ hn)
theorem step_four {H : Type} {enc : TypeId × Value → H} {w : World} {base : Nat} {spare : Nat → Bool} {held : Bool} {cs : List Value} {fuel : Nat} {x : DataW H × List MemPlace}
    (h : DataW.trod enc Tryz.prog w base spare held fuel 59 cs = some x) : ∃ y : Sg, cs = y.row ∧ Seen w (.slice y.q y.b.length y.c) y.b ∧ Okb y.b ∧
      ((∀ k ∈ x.1.weights Tryz.prog 59, k ≤ reachBytes) → y.b.length ≤ 140737488351232) := by
  obtain ⟨xs, n', _, hxx, hl, hxl, hf⟩ := DataW.trod_struct Tryz.underlying59 h
  rw [stepCells7] at hl
  obtain ⟨z0, z1, z2, z3, rfl⟩ := four_of7 hl
  have hx4 : xs.length = 4 := hxl
  obtain ⟨y0, y1, y2, y3, rfl⟩ : ∃ a b c d, xs = [a, b, c, d] := by
    match xs, hx4 with
    | [a, b, c, d], _ => exact ⟨a, b, c, d, rfl⟩
  have f0 : DataW.trod enc Tryz.prog w base spare held n' 3 ((List.drop 0 [z0, z1, z2, z3]).take (Tryz.prog.cellsOf 3)) = some y0 := hf 0 _ rfl
  have f1 : DataW.trod enc Tryz.prog w base spare held n' 3 ((List.drop 1 [z0, z1, z2, z3]).take (Tryz.prog.cellsOf 3)) = some y1 := hf 1 _ rfl
  have f2 : DataW.trod enc Tryz.prog w base spare held n' 3 ((List.drop 2 [z0, z1, z2, z3]).take (Tryz.prog.cellsOf 3)) = some y2 := hf 2 _ rfl
  have f3 : DataW.trod enc Tryz.prog w base spare held n' 29 ((List.drop 3 [z0, z1, z2, z3]).take (Tryz.prog.cellsOf 29)) = some y3 := hf 3 _ rfl
  simp only [intCells7, rowCells7, List.drop_zero, List.drop_succ_cons, List.take_succ_cons, List.take_zero] at f0 f1 f2 f3
  obtain ⟨m0, e0, _, _⟩ := DataW.trod_int Tryz.underlying3 f0
  obtain ⟨m1, e1, _, _⟩ := DataW.trod_int Tryz.underlying3 f1
  obtain ⟨m2, e2, _, _⟩ := DataW.trod_int Tryz.underlying3 f2
  simp at e0 e1 e2
  subst e0 e1 e2
  obtain ⟨q, n0, c0, rfl⟩ : ∃ q n c, z3 = .slice q n c := by
    rcases open_slice Tryz.underlying29 f3 with ⟨h1, _⟩ | ⟨a', l', c', _, _, _, _, h1, _⟩
    · simp at h1; exact ⟨_, _, _, h1⟩
    · simp at h1; exact ⟨_, _, _, h1⟩
  obtain ⟨d5, p5⟩ := y3
  obtain ⟨x5, hx5, hok, hs, hd⟩ := bytes_in f3
  subst hx5
  refine ⟨⟨m0, m1, m2, q, c0, x5⟩, rfl, hs, hok, fun hw => ?_⟩
  rcases hd with h0 | ⟨rest, hd⟩
  · show x5.length ≤ _; omega
  · subst hd
    have b1 : (lits (H := H) .u8 x5).length + rest.length ≤ reachBytes := hw _ (by
      rw [hxx]
      exact weights_step7 _ _ _ _ _)
    rw [show reachBytes = 140737488351232 from rfl] at b1
    simp only [lits, List.length_map] at b1
    show x5.length ≤ _
    omega
/-- The steps of the slice at p. -/
def SgSeen (w : World) (p : Option Addr) (E : List Sg) : Prop := ∀ (j : Nat) (x : Sg), E[j]? = some x → ∃ b o, p = some ⟨b, o, none⟩ ∧ (∀ i u, x.row[i]? = some u → w.cell? ⟨b, o + j * 4 + i, none⟩ = some u) ∧ Seen w (.slice x.q x.b.length x.c) x.b
theorem sg_at {w : World} {p : Option Addr} {E : List Sg} (h : SgSeen w p E) {i : Nat} (hi : i < E.length) : ∃ b o, p = some ⟨b, o, none⟩ ∧ (∀ j u, E[i].row[j]? = some u → w.cell? ⟨b, o + i * 4 + j, none⟩ = some u) ∧ Seen w (.slice E[i].q E[i].b.length E[i].c) E[i].b := h i _ (List.getElem?_eq_getElem hi)
set_option maxRecDepth 20000 in
theorem sgs_full {H : Type} {enc : TypeId × Value → H} {w : World} {base : Nat} {spare : Nat → Bool} {held : Bool} {a0 : Option Addr} {len cap fuel : Nat} {d : DataW H} {p : List MemPlace}
    (h : DataW.trod enc Tryz.prog w base spare held fuel 51 [.slice a0 len cap] = some (d, p)) (hb : ∀ n ∈ d.weights Tryz.prog 51, n ≤ reachBytes) : ∃ E : List Sg, E.length = len ∧ SgSeen w a0 E ∧ ∀ (j : Nat) (x : Sg), E[j]? = some x → Okb x.b ∧ x.b.length ≤ 140737488351232 := by
  rcases open_slice Tryz.underlying51 h with ⟨h1, h2⟩ | ⟨a, len', cap', m, n, D, Pl, hcs, hb0, hl, hm, hmm, hx, hi⟩
  · simp at h1
    obtain ⟨rfl, rfl, rfl⟩ := h1
    exact ⟨[], rfl, (fun j x hj => by simp at hj), fun j x hj => by simp at hj⟩
  · simp at hcs
    obtain ⟨rfl, rfl, rfl⟩ := hcs
    simp at hx
    obtain ⟨f, hf⟩ := choose_lt (n := len) (α := Sg) (p := fun i x => (∃ b o, a = ⟨b, o, none⟩ ∧ (∀ k u, x.row[k]? = some u → w.cell? ⟨b, o + i * 4 + k, none⟩ = some u) ∧ Seen w (.slice x.q x.b.length x.c) x.b) ∧ Okb x.b ∧ x.b.length ≤ 140737488351232) (fun i hil => by
      have him : i < m := by rw [hmm]; split <;> omega
      obtain ⟨cs, h3, h4⟩ := hi i him
      rw [stepCells7] at h3
      obtain ⟨_, hcl, hat⟩ := World.cells?_some h3
      obtain ⟨y, rfl, hs, hok, hlen⟩ := step_four h4
      obtain ⟨b, o, sp⟩ := a
      have hsp : sp = none := by
        obtain ⟨cs0, h30, h40⟩ := hi 0 (by omega)
        rw [stepCells7] at h30
        obtain ⟨_, _, hat0⟩ := World.cells?_some h30
        obtain ⟨y0, rfl, _⟩ := step_four h40
        have g1 := hat0 0 (by omega)
        rw [add_add, Sg.row, List.getElem?_cons_zero] at g1
        have g2 := World.cell?_spot g1
        rw [show (0 : Nat) * 4 + 0 = 0 from rfl] at g2
        simpa [Addr.add] using g2
      subst hsp
      refine ⟨y, ⟨b, o, rfl, fun k u hk => ?_, hs⟩, hok, ?_⟩
      · have hk4 : k < 4 := (List.getElem?_eq_some_iff.1 hk).1
        have g0 := hat k hk4
        rw [add_add, Addr.add_lit, hk] at g0
        rw [Nat.add_assoc]
        exact g0
      · refine hlen (fun k hk => hb k ?_)
        rw [hx.1]
        refine weights_steps7 _ _ _ (weightsAll_mem7 ?_ _ hk)
        exact List.mem_of_getElem? (i := i) (by simp [hil]))
    refine ⟨(List.range len).map f, by simp, (fun j x hj => ?_), fun j x hj => ?_⟩
    · have hjl := (List.getElem?_eq_some_iff.1 hj).1
      simp at hjl
      obtain ⟨⟨b, o, rfl, h1⟩, _⟩ := hf j hjl
      simp [hjl] at hj
      subst hj
      exact ⟨b, o, rfl, h1⟩
    · have hjl := (List.getElem?_eq_some_iff.1 hj).1
      simp at hjl
      have h2 := (hf j hjl).2
      simp [hjl] at hj
      subst hj
      exact h2
end Go.Proofs.YtageblggakfbdaaGreatDoor
namespace Go.Proofs.YtageblggakfbdaaGreatDoor
open Go.RowKit
open Go.Maps

theorem str_ne_self (x : ByteArray) (W : World) : (binOp .neq 9 (.string x) (.string x)).run Tryz.prog W = .ok (.bool false) W := by
  show (Op.stringOp .neq x x).run Tryz.prog W = _
  unfold Op.stringOp
  simp
theorem recR_at {E : List Re} {k : Nat} (hk : k < E.length) : recR (rcs E) k = (E[k].2.1, E[k].2.2, true) := by
  unfold recR
  rw [if_neg (by rw [rcs_len]; omega), Int.toNat_natCast, show (rcs E)[k]? = some E[k].2 from by simp [rcs, hk]]
theorem recR_end {E : List Re} {k : Nat} (hk : k = E.length) : recR (rcs E) k = (0, [], false) := by
  unfold recR
  rw [if_pos (.inr (by rw [rcs_len]; omega))]
set_option maxRecDepth 20000 in
set_option maxHeartbeats 4000000 in
theorem lsame7_to (w : World) (B d l B' r lb : Nat) (S A : Nat → Prop) (s : St) (R : List Rc) (hD : DL w B d l S s [102] R) (hR : RLS w B' r lb A s [102] R) (hw : s.works ≤ 900000) :
    Calls Tryz.prog 37 #[.pointer (some ⟨l,0,none⟩), .pointer (some ⟨lb,0,none⟩), .pointer (some ⟨d,0,none⟩), .pointer (some ⟨r,0,none⟩)] w fun e w' => e = .returned (.bool true) ∧ Below w.heap.size w w' := by
  obtain ⟨S0, hds, _⟩ := hD.ds
  obtain ⟨hrs, vl, E, hrl, hre⟩ := hR
  subst hre
  obtain ⟨p, cap, rfl, hp⟩ := hrl.rows.slice
  obtain ⟨n, hn⟩ : ∃ n, n = E.length := ⟨_, rfl⟩
  have hn6 : n ≤ 111111112 := by have h1 := ends_many (rcs E); have h2 := hrl.small; rw [rcs_len] at h1; omega
  rw [← hn] at hp hrl
  have HN := Lib.hid hn
  have HP := Lib.hid hp
  have HL := Lib.hid hrl
  have HG := Lib.hid hds.good
  have HDS := Lib.hid hds
  have HRS := Lib.hid hrs
  have HD := Lib.hid hD
  have HW := Lib.hid hw
  clear hD hw hds hp hn
  obtain ⟨f, vk, vp, E2, Q, hx⟩ := hrs
  have q4 := hx.c4
  have q5 := hx.c5
  have q2 := hrl.c2
  clear hx hrl
  have BD : Hid (Below w.heap.size w w.drew) := Lib.hid (below_dn (m := 1) (Below.refl _ w))
  have HKB : Hid (∀ W, Below w.heap.size w W → W.cell? ⟨r, 4, none⟩ = some (.bool s.dead) ∧ W.cell? ⟨r, 5, none⟩ = some (.int .i64 s.works) ∧ W.cell? ⟨lb, 2, none⟩ = some (.slice p n cap)) := Lib.hid (fun W hW => ⟨cell_kb q4 hW, cell_kb q5 hW, cell_kb q2 hW⟩)
  have C1 := Lib.hid (count_dl w.drew B d l S s [102] (rcs E) (HD.out.kb BD.out))
  have C2 := Lib.hid (len_dl w.drew B d l S s [102] (rcs E) (HD.out.kb BD.out))
  have C3 := Lib.hid (rlen_to w.drew B' r lb A [102] _ E (HL.out.kb BD.out))
  have C4 := Lib.hid (works_ds w.drew B d S0 s (HDS.out.kb BD.out))
  have C5 := Lib.hid (dead_ds w.drew B d S0 s (HDS.out.kb BD.out))
  obtain ⟨wk, hwk⟩ : ∃ z : Nat, z = s.works := ⟨_, rfl⟩
  obtain ⟨dd, hdd⟩ : ∃ z : Bool, z = s.dead := ⟨_, rfl⟩
  obtain ⟨el, hel⟩ : ∃ z : Nat, z = ends (rcs E) := ⟨_, rfl⟩
  rw [rcs_len, ← HN.out] at C1
  rw [← hel] at C2 C3
  rw [← hwk] at C4 HKB
  rw [← hdd] at C5 HKB
  clear hwk hdd hel q2 q4 q5
  go_enter Tryz.func37, Tryz.ntmps37
  go_wp2_with fail
  try simp only [List.append]
  refine wp_region_noPanic ?_
  refine wp_region_held_drew (S := (fun W => W.cell? ⟨r, 4, none⟩ = some (.bool dd) ∧ W.cell? ⟨r, 5, none⟩ = some (.int .i64 wk) ∧ W.cell? ⟨lb, 2, none⟩ = some (.slice p n cap))) (by kernel_rfl) (HKB.out _ BD.out) (fun hHeld => ?_)
  refine wpAnyH_take (i := 0) (v := ?_) (by simp only [List.getElem?_toArray, List.getElem?_cons_zero]; rfl) (by kernel_rfl) (by kernel_rfl) (by kernel_rfl) (fun _ _ _ h => h) (Or.inl ⟨by rfl, ?_⟩) (by assumption) ?_
  rotate_left
  · intro w hSw
    try dsimp only at hSw
    go_simp
    try with_reducible rfl
  try simp only [Act.put, List.setIfInBounds_toArray, List.set_cons_zero, List.set_cons_succ]
  refine wpAnyH_take (i := 2) (v := ?_) (by simp only [List.getElem?_toArray, List.getElem?_cons_succ, List.getElem?_cons_zero]; rfl) (by kernel_rfl) (by kernel_rfl) (by kernel_rfl) (fun _ _ _ h => h) (Or.inl ⟨by rfl, ?_⟩) (by assumption) ?_
  rotate_left
  · intro w hSw
    try dsimp only at hSw
    go_simp
    try with_reducible rfl
  try simp only [Act.put, List.setIfInBounds_toArray, List.set_cons_zero, List.set_cons_succ]
  refine wpAnyH_take (i := 3) (v := ?_) (by simp only [List.getElem?_toArray, List.getElem?_cons_succ, List.getElem?_cons_zero]; rfl) (by kernel_rfl) (by kernel_rfl) (by kernel_rfl) (fun _ _ _ h => h) (Or.inl ⟨by rfl, ?_⟩) (by assumption) ?_
  rotate_left
  · intro w hSw
    try dsimp only at hSw
    go_simp
    try with_reducible rfl
  try simp only [Act.put, List.setIfInBounds_toArray, List.set_cons_zero, List.set_cons_succ]
  refine wpAnyH_take (i := 4) (v := ?_) (by simp only [List.getElem?_toArray, List.getElem?_cons_succ, List.getElem?_cons_zero]; rfl) (by kernel_rfl) (by kernel_rfl) (by kernel_rfl) (fun _ _ _ h => h) (Or.inl ⟨by rfl, ?_⟩) (by assumption) ?_
  rotate_left
  · intro w hSw
    try dsimp only at hSw
    go_simp
    try with_reducible rfl
  try simp only [Act.put, List.setIfInBounds_toArray, List.set_cons_zero, List.set_cons_succ]
  refine wpAnyH_take (i := 5) (v := ?_) (by simp only [List.getElem?_toArray, List.getElem?_cons_succ, List.getElem?_cons_zero]; rfl) (by kernel_rfl) (by kernel_rfl) (by kernel_rfl) (fun _ _ _ h => h) (Or.inl ⟨by rfl, ?_⟩) (by assumption) ?_
  rotate_left
  · intro w hSw
    try dsimp only at hSw
    go_simp
    try with_reducible rfl
  try simp only [Act.put, List.setIfInBounds_toArray, List.set_cons_zero, List.set_cons_succ]
  refine wpAnyH_take (i := 6) (v := ?_) (by simp only [List.getElem?_toArray, List.getElem?_cons_succ, List.getElem?_cons_zero]; rfl) (by kernel_rfl) (by kernel_rfl) (by kernel_rfl) (fun _ _ _ h => h) (Or.inl ⟨by rfl, ?_⟩) (by assumption) ?_
  rotate_left
  · intro w hSw
    try dsimp only at hSw
    go_simp
    try with_reducible rfl
  try simp only [Act.put, List.setIfInBounds_toArray, List.set_cons_zero, List.set_cons_succ]
  refine wpAnyH_ready (rs := [1]) (by kernel_rfl) (by simp) ?_
  refine AllReadyH.cons (by simp only [List.getElem?_toArray, List.getElem?_cons_succ, List.getElem?_cons_zero]; rfl) (fun K hK => ?_) AllReadyH.nil
  go_simp
  refine C1.out.mono ?_
  rintro e w' ⟨rfl, rfl⟩
  go_wp2_with fail
  refine hK.out _ _ (HKB.out _ BD.out) (fun hHeld => ?_)
  clear hK K
  try simp only [Act.put, List.setIfInBounds_toArray, List.set_cons_zero, List.set_cons_succ]
  refine wpAnyH_take (i := 7) (v := (.bool false)) (by simp only [List.getElem?_toArray, List.getElem?_cons_succ, List.getElem?_cons_zero]; rfl) (by kernel_rfl) (by kernel_rfl) (by kernel_rfl) (fun _ _ _ h => h) (Or.inl ⟨by rfl, ?_⟩) (by assumption) ?_
  · intro w hSw
    try dsimp only at hSw
    go_simp
  try simp only [Act.put, List.setIfInBounds_toArray, List.set_cons_zero, List.set_cons_succ]
  refine wpAnyH_take (i := 8) (v := ?_) (by simp only [List.getElem?_toArray, List.getElem?_cons_succ, List.getElem?_cons_zero]; rfl) (by kernel_rfl) (by kernel_rfl) (by kernel_rfl) (fun _ _ _ h => h) (Or.inl ⟨by rfl, ?_⟩) (by assumption) ?_
  rotate_left
  · intro w hSw
    try dsimp only at hSw
    go_simp
    try with_reducible rfl
  try simp only [Act.put, List.setIfInBounds_toArray, List.set_cons_zero, List.set_cons_succ]
  refine wpAnyH_take (i := 9) (v := ?_) (by simp only [List.getElem?_toArray, List.getElem?_cons_succ, List.getElem?_cons_zero]; rfl) (by kernel_rfl) (by kernel_rfl) (by kernel_rfl) (fun _ _ _ h => h) (Or.inl ⟨by rfl, ?_⟩) (by assumption) ?_
  rotate_left
  · intro w hSw
    try dsimp only at hSw
    go_simp
    try with_reducible rfl
  try simp only [Act.put, List.setIfInBounds_toArray, List.set_cons_zero, List.set_cons_succ]
  refine wpAnyH_take (i := 11) (v := ?_) (by simp only [List.getElem?_toArray, List.getElem?_cons_succ, List.getElem?_cons_zero]; rfl) (by kernel_rfl) (by kernel_rfl) (by kernel_rfl) (fun _ _ _ h => h) (Or.inl ⟨by rfl, ?_⟩) (by assumption) ?_
  rotate_left
  · intro w hSw
    try dsimp only at hSw
    go_simp
    try with_reducible rfl
  try simp only [Act.put, List.setIfInBounds_toArray, List.set_cons_zero, List.set_cons_succ]
  refine wpAnyH_ready (rs := [10]) (by kernel_rfl) (by simp) ?_
  refine AllReadyH.cons (by simp only [List.getElem?_toArray, List.getElem?_cons_succ, List.getElem?_cons_zero]; rfl) (fun K hK => ?_) AllReadyH.nil
  go_simp
  refine C2.out.mono ?_
  rintro e w' ⟨rfl, rfl⟩
  go_wp2_with fail
  refine hK.out _ _ (HKB.out _ BD.out) (fun hHeld => ?_)
  clear hK K
  try simp only [Act.put, List.setIfInBounds_toArray, List.set_cons_zero, List.set_cons_succ]
  refine wpAnyH_ready (rs := [12]) (by kernel_rfl) (by simp) ?_
  refine AllReadyH.cons (by simp only [List.getElem?_toArray, List.getElem?_cons_succ, List.getElem?_cons_zero]; rfl) (fun K hK => ?_) AllReadyH.nil
  go_simp
  refine C3.out.mono ?_
  rintro e w' ⟨rfl, rfl⟩
  go_wp2_with fail
  refine hK.out _ _ (HKB.out _ BD.out) (fun hHeld => ?_)
  clear hK K
  try simp only [Act.put, List.setIfInBounds_toArray, List.set_cons_zero, List.set_cons_succ]
  refine wpAnyH_take (i := 13) (v := (.bool false)) (by simp only [List.getElem?_toArray, List.getElem?_cons_succ, List.getElem?_cons_zero]; rfl) (by kernel_rfl) (by kernel_rfl) (by kernel_rfl) (fun _ _ _ h => h) (Or.inl ⟨by rfl, ?_⟩) (by assumption) ?_
  · intro w hSw
    try dsimp only at hSw
    go_simp
  try simp only [Act.put, List.setIfInBounds_toArray, List.set_cons_zero, List.set_cons_succ]
  refine wpAnyH_take (i := 14) (v := ?_) (by simp only [List.getElem?_toArray, List.getElem?_cons_succ, List.getElem?_cons_zero]; rfl) (by kernel_rfl) (by kernel_rfl) (by kernel_rfl) (fun _ _ _ h => h) (Or.inl ⟨by rfl, ?_⟩) (by assumption) ?_
  rotate_left
  · intro w hSw
    try dsimp only at hSw
    go_simp
    try with_reducible rfl
  try simp only [Act.put, List.setIfInBounds_toArray, List.set_cons_zero, List.set_cons_succ]
  refine wpAnyH_take (i := 15) (v := ?_) (by simp only [List.getElem?_toArray, List.getElem?_cons_succ, List.getElem?_cons_zero]; rfl) (by kernel_rfl) (by kernel_rfl) (by kernel_rfl) (fun _ _ _ h => h) (Or.inl ⟨by rfl, ?_⟩) (by assumption) ?_
  rotate_left
  · intro w hSw
    try dsimp only at hSw
    go_simp
    try with_reducible rfl
  try simp only [Act.put, List.setIfInBounds_toArray, List.set_cons_zero, List.set_cons_succ]
  refine wpAnyH_take (i := 16) (v := ?_) (by simp only [List.getElem?_toArray, List.getElem?_cons_succ, List.getElem?_cons_zero]; rfl) (by kernel_rfl) (by kernel_rfl) (by kernel_rfl) (fun _ _ _ h => h) (Or.inl ⟨by rfl, ?_⟩) (by assumption) ?_
  rotate_left
  · intro w hSw
    try dsimp only at hSw
    go_simp
    try with_reducible rfl
  try simp only [Act.put, List.setIfInBounds_toArray, List.set_cons_zero, List.set_cons_succ]
  refine wpAnyH_take (i := 18) (v := ?_) (by simp only [List.getElem?_toArray, List.getElem?_cons_succ, List.getElem?_cons_zero]; rfl) (by kernel_rfl) (by kernel_rfl) (by kernel_rfl) (fun _ _ _ h => h) (Or.inl ⟨by rfl, ?_⟩) (by assumption) ?_
  rotate_left
  · intro w hSw
    try dsimp only at hSw
    go_simp
    try with_reducible rfl
  try simp only [Act.put, List.setIfInBounds_toArray, List.set_cons_zero, List.set_cons_succ]
  refine wpAnyH_take (i := 19) (v := ?_) (by simp only [List.getElem?_toArray, List.getElem?_cons_succ, List.getElem?_cons_zero]; rfl) (by kernel_rfl) (by kernel_rfl) (by kernel_rfl) (fun _ _ _ h => h) (Or.inl ⟨by rfl, ?_⟩) (by assumption) ?_
  rotate_left
  · intro w hSw
    try dsimp only at hSw
    go_simp
    try with_reducible rfl
  try simp only [Act.put, List.setIfInBounds_toArray, List.set_cons_zero, List.set_cons_succ]
  refine wpAnyH_take (i := 20) (v := ?_) (by simp only [List.getElem?_toArray, List.getElem?_cons_succ, List.getElem?_cons_zero]; rfl) (by kernel_rfl) (by kernel_rfl) (by kernel_rfl) (fun _ _ _ h => h) (Or.inl ⟨by rfl, ?_⟩) (by assumption) ?_
  rotate_left
  · intro w hSw
    try dsimp only at hSw
    go_simp
    try with_reducible rfl
  try simp only [Act.put, List.setIfInBounds_toArray, List.set_cons_zero, List.set_cons_succ]
  refine wpAnyH_take (i := 21) (v := ?_) (by simp only [List.getElem?_toArray, List.getElem?_cons_succ, List.getElem?_cons_zero]; rfl) (by kernel_rfl) (by kernel_rfl) (by kernel_rfl) (fun _ _ _ h => h) (Or.inl ⟨by rfl, ?_⟩) (by assumption) ?_
  rotate_left
  · intro w hSw
    try dsimp only at hSw
    go_simp
    try with_reducible rfl
  try simp only [Act.put, List.setIfInBounds_toArray, List.set_cons_zero, List.set_cons_succ]
  refine wpAnyH_ready (rs := [17]) (by kernel_rfl) (by simp) ?_
  refine AllReadyH.cons (by simp only [List.getElem?_toArray, List.getElem?_cons_succ, List.getElem?_cons_zero]; rfl) (fun K hK => ?_) AllReadyH.nil
  go_simp
  refine C4.out.mono ?_
  rintro e w' ⟨rfl, rfl⟩
  go_wp2_with fail
  refine hK.out _ _ (HKB.out _ BD.out) (fun hHeld => ?_)
  clear hK K
  try simp only [Act.put, List.setIfInBounds_toArray, List.set_cons_zero, List.set_cons_succ]
  refine wpAnyH_take (i := 22) (v := (.bool false)) (by simp only [List.getElem?_toArray, List.getElem?_cons_succ, List.getElem?_cons_zero]; rfl) (by kernel_rfl) (by kernel_rfl) (by kernel_rfl) (fun _ _ _ h => h) (Or.inl ⟨by rfl, ?_⟩) (by assumption) ?_
  · intro w hSw
    try dsimp only at hSw
    go_simp
  try simp only [Act.put, List.setIfInBounds_toArray, List.set_cons_zero, List.set_cons_succ]
  refine wpAnyH_take (i := 23) (v := ?_) (by simp only [List.getElem?_toArray, List.getElem?_cons_succ, List.getElem?_cons_zero]; rfl) (by kernel_rfl) (by kernel_rfl) (by kernel_rfl) (fun _ _ _ h => h) (Or.inl ⟨by rfl, ?_⟩) (by assumption) ?_
  rotate_left
  · intro w hSw
    try dsimp only at hSw
    go_simp
    try with_reducible rfl
  try simp only [Act.put, List.setIfInBounds_toArray, List.set_cons_zero, List.set_cons_succ]
  refine wpAnyH_take (i := 24) (v := ?_) (by simp only [List.getElem?_toArray, List.getElem?_cons_succ, List.getElem?_cons_zero]; rfl) (by kernel_rfl) (by kernel_rfl) (by kernel_rfl) (fun _ _ _ h => h) (Or.inl ⟨by rfl, ?_⟩) (by assumption) ?_
  rotate_left
  · intro w hSw
    try dsimp only at hSw
    go_simp
    try with_reducible rfl
  try simp only [Act.put, List.setIfInBounds_toArray, List.set_cons_zero, List.set_cons_succ]
  refine wpAnyH_take (i := 25) (v := ?_) (by simp only [List.getElem?_toArray, List.getElem?_cons_succ, List.getElem?_cons_zero]; rfl) (by kernel_rfl) (by kernel_rfl) (by kernel_rfl) (fun _ _ _ h => h) (Or.inl ⟨by rfl, ?_⟩) (by assumption) ?_
  rotate_left
  · intro w hSw
    try dsimp only at hSw
    go_simp
    try with_reducible rfl
  try simp only [Act.put, List.setIfInBounds_toArray, List.set_cons_zero, List.set_cons_succ]
  refine wpAnyH_take (i := 27) (v := ?_) (by simp only [List.getElem?_toArray, List.getElem?_cons_succ, List.getElem?_cons_zero]; rfl) (by kernel_rfl) (by kernel_rfl) (by kernel_rfl) (fun _ _ _ h => h) (Or.inl ⟨by rfl, ?_⟩) (by assumption) ?_
  rotate_left
  · intro w hSw
    try dsimp only at hSw
    go_simp
    try with_reducible rfl
  try simp only [Act.put, List.setIfInBounds_toArray, List.set_cons_zero, List.set_cons_succ]
  refine wpAnyH_take (i := 28) (v := ?_) (by simp only [List.getElem?_toArray, List.getElem?_cons_succ, List.getElem?_cons_zero]; rfl) (by kernel_rfl) (by kernel_rfl) (by kernel_rfl) (fun _ _ _ h => h) (Or.inl ⟨by rfl, ?_⟩) (by assumption) ?_
  rotate_left
  · intro w hSw
    try dsimp only at hSw
    go_simp
    try with_reducible rfl
  try simp only [Act.put, List.setIfInBounds_toArray, List.set_cons_zero, List.set_cons_succ]
  refine wpAnyH_take (i := 29) (v := ?_) (by simp only [List.getElem?_toArray, List.getElem?_cons_succ, List.getElem?_cons_zero]; rfl) (by kernel_rfl) (by kernel_rfl) (by kernel_rfl) (fun _ _ _ h => h) (Or.inl ⟨by rfl, ?_⟩) (by assumption) ?_
  rotate_left
  · intro w hSw
    try dsimp only at hSw
    go_simp
    try with_reducible rfl
  try simp only [Act.put, List.setIfInBounds_toArray, List.set_cons_zero, List.set_cons_succ]
  refine wpAnyH_take (i := 30) (v := ?_) (by simp only [List.getElem?_toArray, List.getElem?_cons_succ, List.getElem?_cons_zero]; rfl) (by kernel_rfl) (by kernel_rfl) (by kernel_rfl) (fun _ _ _ h => h) (Or.inl ⟨by rfl, ?_⟩) (by assumption) ?_
  rotate_left
  · intro w hSw
    try dsimp only at hSw
    go_simp
    try with_reducible rfl
  try simp only [Act.put, List.setIfInBounds_toArray, List.set_cons_zero, List.set_cons_succ]
  refine wpAnyH_ready (rs := [26]) (by kernel_rfl) (by simp) ?_
  refine AllReadyH.cons (by simp only [List.getElem?_toArray, List.getElem?_cons_succ, List.getElem?_cons_zero]; rfl) (fun K hK => ?_) AllReadyH.nil
  go_simp
  refine C5.out.mono ?_
  rintro e w' ⟨rfl, rfl⟩
  go_wp2_with fail
  refine hK.out _ _ (HKB.out _ BD.out) (fun hHeld => ?_)
  clear hK K
  try simp only [Act.put, List.setIfInBounds_toArray, List.set_cons_zero, List.set_cons_succ]
  refine wpAnyH_take (i := 31) (v := (.bool false)) (by simp only [List.getElem?_toArray, List.getElem?_cons_succ, List.getElem?_cons_zero]; rfl) (by kernel_rfl) (by kernel_rfl) (by kernel_rfl) (fun _ _ _ h => h) (Or.inl ⟨by rfl, ?_⟩) (by assumption) ?_
  · intro w hSw
    try dsimp only at hSw
    go_simp
  try simp only [Act.put, List.setIfInBounds_toArray, List.set_cons_zero, List.set_cons_succ]
  refine wpAnyH_take (i := 32) (v := ?_) (by simp only [List.getElem?_toArray, List.getElem?_cons_succ, List.getElem?_cons_zero]; rfl) (by kernel_rfl) (by kernel_rfl) (by kernel_rfl) (fun _ _ _ h => h) (Or.inl ⟨by rfl, ?_⟩) (by assumption) ?_
  rotate_left
  · intro w hSw
    try dsimp only at hSw
    go_simp
    try with_reducible rfl
  try simp only [Act.put, List.setIfInBounds_toArray, List.set_cons_zero, List.set_cons_succ]
  refine wpAnyH_done (by kernel_rfl) ?_ _
  refine NoPanic.normal ?_
  clear C1 C2 C3 C4 C5
  go_wp2_with fail
  go_loopw [9] (fun i wr => ∃ k : Nat, k ≤ n ∧ i = .int .i64 k ∧ Hid (Below w.heap.size w wr)) (fun i _ => n - (intOf i).toNat)
  case atStart => exact ⟨0, Nat.zero_le _, rfl, BD⟩
  case round =>
    obtain ⟨k, hk, rfl, HB⟩ := hrel
    have c2 := (HKB.out _ HB.out).2.2
    by_cases hlt : k < n
    · have hkE : k < E.length := by rw [← HN.out]; exact hlt
      obtain ⟨g, o, rfl⟩ := HP.out (by omega)
      have HRR := Lib.hid (recR_at hkE)
      have e0 := XAt.at HL.out.rows hkE (c := 0) (by omega) rfl
      have e1 := XAt.at HL.out.rows hkE (c := 1) (by omega) rfl
      have hbt := HL.out.rows.bod E[k] (List.getElem_mem hkE)
      obtain ⟨pb, cb, hb⟩ := len_val hbt.seen
      rw [hb] at e1 hbt
      obtain ⟨kk, hkk⟩ : ∃ z, z = E[k].2.1 := ⟨_, rfl⟩
      obtain ⟨xs, hxs⟩ : ∃ z, z = E[k].2.2 := ⟨_, rfl⟩
      rw [← hkk] at e0
      rw [← hxs] at e1 hbt
      rw [← hkk, ← hxs] at HRR
      have HBT := Lib.hid hbt
      have E0 := Lib.hid e0
      have E1 := Lib.hid e1
      clear hb hkk hxs hbt e0 e1
      go_wp2_with fail
      refine (record_dl wr B d l S s [102] (rcs E) (k : Int) (HD.out.kb HB.out)).mono ?_
      intro e w1 hp1
      unfold RecPost at hp1
      rw [HRR.out] at hp1
      obtain ⟨v, rfl, ov, b1⟩ := hp1
      obtain ⟨pv, cv, rfl⟩ := own_slice ov
      have B1 : Hid (Below w.heap.size w w1) := Lib.hid (HB.out.trans (b1.mono HB.out.size))
      have e0 : w1.cell? ⟨g, o + k * 2, none⟩ = some (.int .i64 kk) := cell_kb E0.out B1.out
      have e1 := cell_kb E1.out B1.out
      have c21 := (HKB.out _ B1.out).2.2
      have hcv := fun j => conv_own (show BOwn (w1.drewN j) wr.heap.size (.slice pv xs.length cv) xs from ov)
      have hcb := fun j => conv_any (HBT.out.kb (below_dn (m := j) B1.out)).seenr
      have hne := str_ne_self (strOfNums xs)
      obtain ⟨xl, hxl⟩ : ∃ z, z = xs.length := ⟨_, rfl⟩
      rw [← hxl] at e1 ⊢
      simp only [← hxl] at hcv hcb
      clear ov b1 hxl c2
      go_wp2_with fail
      go_quiet (fail)
      have HB9 := Lib.hid (below_dn (m := nq) B1.out)
      clear e0 e1 c21 hcv hcb hne
      generalize w1.drewN nq = W at *
      go_wp2_with fail
      exact ⟨⟨k + 1, by omega, by simp, HB9⟩, by simp [intOf]; omega⟩
    · obtain rfl : k = n := by omega
      go_wp2_with fail
      refine (read_has wr B d S0 s [102] (HDS.out.kb HB.out) (by unfold maxLen; decide)).mono ?_
      obtain ⟨okb, hokb⟩ : ∃ z : Bool, z = s.has [102] := ⟨_, rfl⟩
      obtain ⟨bl, hbl⟩ : ∃ z : List Int, z = s.rd [102] := ⟨_, rfl⟩
      rw [← hokb, ← hbl]
      rintro e w4 ⟨v4, rfl, o4, b4⟩
      obtain ⟨p4, c4, rfl⟩ := own_slice o4
      have O4 : Hid (BOwn w4 wr.heap.size (.slice p4 bl.length c4) bl) := Lib.hid o4
      have B4 : Hid (Below w.heap.size w w4) := Lib.hid (HB.out.trans (b4.mono HB.out.size))
      have HOK := Lib.hid hokb
      have HBL := Lib.hid hbl
      clear o4 b4 hokb hbl c2
      go_wp2_with fail
      refine (rread_has w4 B' r A s [102] (HRS.out.kb B4.out) HG.out HW.out).mono ?_
      rw [← HOK.out, ← HBL.out]
      rintro e w5 ⟨p5, c5, rfl, h5, b5⟩
      have H5 := Lib.hid h5
      have B5 : Hid (Below w.heap.size w w5) := Lib.hid (B4.out.trans (b5.mono B4.out.size))
      have O5 : Hid (BOwn w5 wr.heap.size (.slice p4 bl.length c4) bl) := Lib.hid (own_kept O4.out (S := fun _ => False) (Only.of_below b5) (fun _ _ h => h))
      have c25 := (HKB.out _ B5.out).2.2
      have HRE := Lib.hid (recR_end HN.out)
      clear h5 b5 O4
      obtain ⟨m, hm⟩ : ∃ m, m = bl.length := ⟨_, rfl⟩
      have HMB := Lib.hid hm
      clear hm
      rw [← HMB.out]
      go_wp2_with fail
      refine (record_dl w5 B d l S s [102] (rcs E) (k : Int) (HD.out.kb B5.out)).mono ?_
      intro e w6 hp6
      unfold RecPost at hp6
      rw [HRE.out] at hp6
      obtain ⟨v, rfl, ov, b6⟩ := hp6
      obtain ⟨pv, cv, rfl⟩ := own_slice ov
      have B6 : Hid (Below w.heap.size w w6) := Lib.hid (B5.out.trans (b6.mono B5.out.size))
      have hc1 := conv_own (own_kept O5.out (S := fun _ => False) (Only.of_below b6) (fun _ _ h => h))
      have hc2 := conv_any (H5.out.kb b6).seenr
      have hne := str_eq_self (strOfNums bl)
      have hbb : (okb == okb) = true := by simp
      rw [← HMB.out] at hc1 hc2
      clear ov b6 c25
      go_wp2_with fail
      go_ret
      exact ⟨rfl, B6.out⟩
end Go.Proofs.YtageblggakfbdaaGreatDoor
