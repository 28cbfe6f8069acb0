/- What holds of a disk in memory between calls, and what put and drop keep of it. No condition. -/
import Derived.Test.YtemfblhlkonlpaaDoorDskS
namespace Go.Proofs.YtemfblhlkonlpaaDoor
open Go.RowKit
open Go.Maps

/-- Which blocks the disk's files and lost pieces lie in. -/
def cnt (k : Nat) (L : List (Key × Ent)) (P : List Chg) : Nat := cntL k L + cntP k P
/-- The blocks of a disk. -/
def Foot (b : Nat) (c : Cst) (L : List (Key × Ent)) (P : List Chg) (k : Nat) : Prop := k = b ∨ k = c.mb ∨ c.pv.ownBlock = some k ∨ 0 < cnt k L P
theorem own1_pos {k : Nat} {v : Value} : 0 < own1 k v ↔ v.ownBlock = some k := by
  unfold own1; split <;> simp_all
theorem asum_pos_iff {α : Type} {f : α → Nat} : ∀ {l : List (Key × α)}, 0 < asum f l → ∃ e ∈ l, 0 < f e.2
  | [], h => by simp [asum] at h
  | y :: l, h => by
    simp only [asum, List.map_cons, List.sum_cons] at h
    by_cases hy : 0 < f y.2
    · exact ⟨y, List.mem_cons_self, hy⟩
    · obtain ⟨e, he, hf⟩ := asum_pos_iff (f := f) (l := l) (by unfold asum; omega)
      exact ⟨e, List.mem_cons_of_mem _ he, hf⟩
theorem cntL_pos {k : Nat} {L : List (Key × Ent)} (h : 0 < cntL k L) : ∃ e ∈ L, e.2.1.ownBlock = some k := by
  obtain ⟨e, he, hf⟩ := asum_pos_iff h
  exact ⟨e, he, own1_pos.1 hf⟩
theorem cntP_pos {k : Nat} : ∀ {P : List Chg}, 0 < cntP k P → ∃ c ∈ P, c.lost.ownBlock = some k
  | [], h => by simp [cntP] at h
  | y :: l, h => by
    simp only [cntP, List.map_cons, List.sum_cons] at h
    by_cases hy : 0 < own1 k y.lost
    · exact ⟨y, List.mem_cons_self, own1_pos.1 hy⟩
    · obtain ⟨e, he, hf⟩ := cntP_pos (k := k) (P := l) (by unfold cntP; omega)
      exact ⟨e, List.mem_cons_of_mem _ he, hf⟩
theorem Own.cells {w : World} {B : Nat} {L : List (Key × Ent)} {P : List Chg} (h : Own w B L P) {k : Nat} (hk : 0 < cnt k L P) : B ≤ k ∧ ∃ cs, w.heap[k]? = some (.cells cs 5 (0, 0)) := by
  unfold cnt at hk
  rcases Nat.eq_zero_or_pos (cntL k L) with h0 | h0
  · obtain ⟨c, hc, e⟩ := cntP_pos (P := P) (k := k) (by omega)
    exact ⟨((h.lost c hc).lt k e).1, own_type (h.lost c hc) e⟩
  · obtain ⟨e, he, e1⟩ := cntL_pos h0
    exact ⟨((h.file e he).lt k e1).1, own_type (h.file e he) e1⟩
theorem Own.lt {w : World} {B : Nat} {L : List (Key × Ent)} {P : List Chg} (h : Own w B L P) {k : Nat} (hk : 0 < cnt k L P) : k < w.heap.size := by
  obtain ⟨_, cs, hcs⟩ := h.cells hk
  exact (Array.getElem?_eq_some_iff.1 hcs).1
/-- Kept where no block of the files has turned. -/
theorem Own.kept {w w' : World} {B : Nat} {L : List (Key × Ent)} {P : List Chg} {S : Nat → Prop} (h : Own w B L P) (ho : Only S w w') (hS : ∀ k, 0 < cnt k L P → ¬ S k) : Own w' B L P where
  file e he := own_kept (h.file e he) ho fun k hk => hS k (by
    have := cntL_mem (k := k) he
    rw [own1_self hk] at this
    unfold cnt; omega)
  lost c hc := own_kept (h.lost c hc) ho fun k hk => hS k (by
    have := cntP_mem (k := k) hc
    rw [own1_self hk] at this
    unfold cnt; omega)
theorem Own.kb {w w' : World} {B : Nat} {L : List (Key × Ent)} {P : List Chg} (h : Own w B L P) (hb : Below w.heap.size w w') : Own w' B L P := h.kept (S := fun _ => False) (Only.of_below hb) (fun _ _ h => h)
theorem cnt_new {w : World} {B : Nat} {L : List (Key × Ent)} {P : List Chg} (h : Own w B L P) {k : Nat} (hk : w.heap.size ≤ k) : cnt k L P = 0 := by
  rcases Nat.eq_zero_or_pos (cnt k L P) with h0 | h0
  · exact h0
  · have := h.lt h0; omega
theorem valAt_mem {n : Key} {L : List (Key × Ent)} {k : Nat} (h : (valAt n L).ownBlock = some k) : (n, valAt n L, bytesAt n L) ∈ L := by
  unfold valAt bytesAt at *
  cases hg : aget n L with
  | none => rw [hg] at h; simp [Value.ownBlock] at h
  | some x => exact aget_mem hg
theorem own1_valAt (k : Nat) (n : Key) (L : List (Key × Ent)) : own1 k (valAt n L) ≤ cntL k L := by
  rcases Nat.eq_zero_or_pos (own1 k (valAt n L)) with h0 | h0
  · omega
  · have h1 := own1_pos.1 h0
    exact cntL_mem (valAt_mem h1)

/-- A file laid whose slice lies in no other's block. -/
theorem Own.put {w : World} {B : Nat} {L : List (Key × Ent)} {P : List Chg} (h : Own w B L P) (n : Key) {v : Value} {xs : List Int} (hv : BOwn w B v xs) : Own w B (aput n (v, xs) L) P where
  file e he := by
    rcases (ains_mem _ _ _).1 he with rfl | he
    · exact hv
    · exact h.file e ((adel_mem n L e).1 he).1
  lost := h.lost
theorem Own.del {w : World} {B : Nat} {L : List (Key × Ent)} {P : List Chg} (h : Own w B L P) (n : Key) : Own w B (adel n L) P where
  file e he := h.file e ((adel_mem n L e).1 he).1
  lost := h.lost
theorem cnt_put (k : Nat) (n : Key) (x : Ent) {L : List (Key × Ent)} (P : List Chg) (h : AAsc L) : cnt k (aput n x L) P + own1 k (valAt n L) = own1 k x.1 + cnt k L P := by
  have := cntL_put k n x h
  unfold cnt; omega
theorem cnt_del (k : Nat) (n : Key) {L : List (Key × Ent)} (P : List Chg) (h : AAsc L) : cnt k (adel n L) P + own1 k (valAt n L) = cnt k L P := by
  have := cntL_del k n h
  unfold cnt; omega
theorem cnt_snoc (k : Nat) (L : List (Key × Ent)) (P : List Chg) (g : Chg) : cnt k L (P ++ [g]) = cnt k L P + own1 k g.lost := by
  unfold cnt
  rw [cntP_app]
  simp [cntP]; omega
theorem ains_length {α : Type} (x : Key × α) : ∀ l, (ains x l).length = l.length + 1
  | [] => rfl
  | y :: l => by
    have := ains_length x l
    rw [ains]; split <;> simp_all
theorem aput_length {α : Type} (n : Key) (a : α) (l : List (Key × α)) : (aput n a l).length ≤ l.length + 1 := by
  rw [aput, ains_length]
  have : (adel n l).length ≤ l.length := List.length_filter_le _ _
  omega
theorem adel_length {α : Type} (n : Key) (l : List (Key × α)) : (adel n l).length ≤ l.length := List.length_filter_le _ _

/-- What holds of a disk: Pf lies in its slice of pending changes, P of them still hold what they hold. -/
structure DC (w : World) (B b : Nat) (c : Cst) (L : List (Key × Ent)) (Pf P : List Chg) : Prop where
  d : DAt w b c
  m : MAt w c.mb L
  p : PAt w B c.pv Pf
  own : Own w B L P
  sep : ∀ k, cnt k L P ≤ 1
  asc : AAsc L
  used : c.used = (tot L : Int)
  bb : B ≤ b
  bm : B ≤ c.mb
  many : L.length ≤ 2000000000
theorem MAt.obj {w : World} {mb : Nat} {L : List (Key × Ent)} (h : MAt w mb L) : ∃ es clock, w.heap[mb]? = some (.map es clock) := by
  obtain ⟨es, clock, h1, _⟩ := h
  exact ⟨es, clock, h1⟩
section
variable {w w' : World} {B b : Nat} {c : Cst} {L : List (Key × Ent)} {Pf P : List Chg}
theorem DC.base (h : DC w B b c L Pf P) : B ≤ w.heap.size := Nat.le_trans h.bb (Nat.le_of_lt h.d.lt)
theorem DC.ne (h : DC w B b c L Pf P) : b ≠ c.mb := by
  intro e
  obtain ⟨es, clock, h1⟩ := h.m.obj
  have h2 : w.heap[b]? = some _ := h.d
  rw [← e, h2] at h1
  cases h1
theorem DC.cnt_b (h : DC w B b c L Pf P) : ¬ 0 < cnt b L P := by
  intro e
  obtain ⟨_, cs, hcs⟩ := h.own.cells e
  have h2 : w.heap[b]? = some _ := h.d
  rw [h2] at hcs
  simp at hcs
theorem DC.cnt_m (h : DC w B b c L Pf P) : ¬ 0 < cnt c.mb L P := by
  intro e
  obtain ⟨_, cs, hcs⟩ := h.own.cells e
  obtain ⟨es, clock, h1⟩ := h.m.obj
  rw [h1] at hcs
  cases hcs
theorem DC.pv_b (h : DC w B b c L Pf P) : ¬ c.pv.ownBlock = some b := pv_apart h.d h.p
theorem DC.pv_m (h : DC w B b c L Pf P) : ¬ c.pv.ownBlock = some c.mb := by
  intro e
  obtain ⟨cs, hcs⟩ := own_type h.p e
  obtain ⟨es, clock, h1⟩ := h.m.obj
  rw [h1] at hcs
  cases hcs
theorem DC.pv_cnt (h : DC w B b c L Pf P) {k : Nat} (hk : 0 < cnt k L P) : ¬ c.pv.ownBlock = some k := by
  intro e
  obtain ⟨cs, hcs⟩ := own_type h.p e
  obtain ⟨_, cs', h1⟩ := h.own.cells hk
  rw [h1] at hcs
  simp at hcs
theorem DC.foot_ge (h : DC w B b c L Pf P) {k : Nat} (hk : Foot b c L P k) : B ≤ k := by
  rcases hk with rfl | rfl | hk | hk
  · exact h.bb
  · exact h.bm
  · exact (h.p.lt k hk).1
  · exact (h.own.cells hk).1
theorem DC.foot_lt (h : DC w B b c L Pf P) {k : Nat} (hk : Foot b c L P k) : k < w.heap.size := by
  rcases hk with rfl | rfl | hk | hk
  · exact h.d.lt
  · exact h.m.lt
  · exact (h.p.lt k hk).2
  · exact h.own.lt hk
theorem DC.kept {S : Nat → Prop} (h : DC w B b c L Pf P) (ho : Only S w w') (hS : ∀ k, Foot b c L P k → ¬ S k) : DC w' B b c L Pf P :=
  { h with
    d := h.d.kept ho (hS b (.inl rfl))
    m := h.m.kept ho (hS _ (.inr (.inl rfl)))
    p := own_kept h.p ho fun k hk => hS k (.inr (.inr (.inl hk)))
    own := h.own.kept ho fun k hk => hS k (.inr (.inr (.inr hk))) }
theorem DC.kb (h : DC w B b c L Pf P) (hb : Below w.heap.size w w') : DC w' B b c L Pf P := h.kept (S := fun _ => False) (Only.of_below hb) (fun _ _ h => h)
end
/-- Behind a call on a disk: it is as told, and nothing else that was there has turned. -/
def DTo (w : World) (B b : Nat) (S : Nat → Prop) (c : Cst) (L : List (Key × Ent)) (Pf P : List Chg) (w' : World) : Prop :=
  DC w' B b c L Pf P ∧ Only S w w' ∧ ∀ k, Foot b c L P k → S k ∨ w.heap.size ≤ k
end Go.Proofs.YtemfblhlkonlpaaDoor
