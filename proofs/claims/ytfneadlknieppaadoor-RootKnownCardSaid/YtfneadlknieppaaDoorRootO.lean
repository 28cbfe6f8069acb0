/- All that a disk holds are bytes, through every call; the numbers stay small: plain mathematics. No condition. -/
import Derived.Test.YtfneadlknieppaaDoorRootM
namespace Go.Proofs.YtfneadlknieppaaDoor
open Go.RowKit
open Go.Maps

def OkL (F : Fil) : Prop := ∀ p ∈ F, Okb p.2
section
variable {F : Fil}
theorem OkL.nil : OkL [] := fun _ h => by cases h
theorem OkL.fb (h : OkL F) (n : Key) : Okb (fbytes n F) := by
  unfold fbytes
  cases hg : aget n F with
  | none => exact Okb.nil
  | some a => exact h _ (aget_mem hg)
theorem OkL.del (h : OkL F) (n : Key) : OkL (adel n F) := fun p hp => h p ((adel_mem n F p).1 hp).1
theorem OkL.put (h : OkL F) (n : Key) {xs : List Int} (hx : Okb xs) : OkL (aput n xs F) := fun p hp => by
  rcases (ains_mem _ _ _).1 hp with rfl | hp
  · exact hx
  · exact h.del n p hp
theorem OkL.turn (h : OkL F) {k : Wk} (hk : Okb k.bs) : OkL (turn F k) := by
  unfold Go.Proofs.YtfneadlknieppaaDoor.turn
  split
  · exact h.put _ ((h.fb _).app hk)
  · split
    · exact h.put _ ((h.fb _).take _)
    · split
      · exact (h.del _).put _ (h.fb _)
      · exact h.del _
theorem OkL.run : ∀ (ks : List Wk) {F : Fil}, OkL F → (∀ k ∈ ks, Okb k.bs) → OkL (run F ks)
  | [], _, h, _ => h
  | k :: ks, F, h, hk => OkL.run ks (F := Go.Proofs.YtfneadlknieppaaDoor.turn F k) (h.turn (hk k List.mem_cons_self)) (fun j hj => hk j (List.mem_cons_of_mem _ hj))
theorem OkL.part (h : OkL F) {k : Wk} (hk : Okb k.bs) (cut : Int) : OkL (part F k cut) := by
  unfold Go.Proofs.YtfneadlknieppaaDoor.part
  split
  · split
    · exact h
    · exact h.put _ ((h.fb _).app (hk.take _))
  · exact h
end
/-- All that a disk holds are bytes. -/
structure OkT (s : St) : Prop where
  kept : OkL s.kept
  pend : ∀ k ∈ s.pend, Okb k.bs
section
variable {s : St}
theorem OkT.files (h : OkT s) : OkL s.files := h.kept.run _ h.pend
theorem OkT.rd (h : OkT s) (n : Key) : Okb (rdS s n) := by
  unfold rdS
  split
  · exact Okb.nil
  · exact h.files.fb n
theorem OkT.new (r : Int) : OkT (St.new r) := ⟨OkL.nil, fun k hk => by cases hk⟩
theorem OkT.work (h : OkT s) {k : Wk} (hk : Okb k.bs) : OkT (s.work k).2 := by
  unfold St.work
  split
  · exact ⟨h.kept, h.pend⟩
  · refine ⟨h.kept, fun j hj => ?_⟩
    rcases List.mem_append.1 hj with e | e
    · exact h.pend j e
    · rw [List.mem_singleton.1 e]; exact hk
theorem OkT.append (h : OkT s) (n : Key) {l : List Int} (hl : Okb l) : OkT (s.append n l).2 := by
  unfold St.append
  repeat' split
  all_goals first | exact h | exact h.work hl
theorem OkT.remove (h : OkT s) (n : Key) : OkT (s.remove n).2 := by
  unfold St.remove
  repeat' split
  all_goals first | exact h | exact h.work Okb.nil
theorem OkT.rename (h : OkT s) (n m : Key) : OkT (s.rename n m).2 := by
  unfold St.rename
  repeat' split
  all_goals first | exact h | exact h.work Okb.nil
theorem OkT.sync (h : OkT s) : OkT s.sync.2 := by
  unfold St.sync
  split
  · exact h
  · split
    · exact ⟨h.kept, h.pend⟩
    · exact ⟨h.files, fun k hk => by cases hk⟩
theorem OkT.crash (h : OkT s) (a b : Int) : OkT (s.crash a b) := by
  refine ⟨?_, fun k hk => by cases hk⟩
  show OkL (crashF s.kept s.pend _ b)
  unfold crashF
  split
  · rename_i k hk
    exact (h.kept.run _ (fun j hj => h.pend j (List.mem_of_mem_take hj))).part (h.pend k (List.mem_of_getElem? hk)) b
  · exact h.kept.run _ (fun j hj => h.pend j (List.mem_of_mem_take hj))
theorem OkT.setFuse (h : OkT s) (n : Int) : OkT { s with fuse := n } := ⟨h.kept, h.pend⟩
theorem OkT.seq {q : Int × St} {f : St → Int × St} (h : OkT q.2) (hf : ∀ s : St, OkT s → OkT (f s).2) : OkT (seqS q f).2 := by
  unfold seqS
  split
  · exact hf _ h
  · exact h
theorem OkT.save (h : OkT s) {b : List Int} (hb : Okb b) : OkT (saveS s b).2 := by
  have h0 : OkT (if ex s nwN = true then s.remove nwN else (0, s)).2 := by
    split
    · exact h.remove _
    · exact h
  exact (((h0.seq fun s a => a.append _ hb).seq fun s a => a.sync).seq fun s a => a.rename _ _).seq fun s a => a.sync
/-- At most m works more; the fuse does not grow. -/
structure Wb (m : Nat) (s t : St) : Prop where
  works : t.works ≤ s.works + m
  fuse : t.fuse ≤ s.fuse ∨ t.fuse < 100
theorem wb_same (m : Nat) (s : St) : Wb m s s := ⟨Nat.le_add_right _ _, .inl (Int.le_refl _)⟩
theorem wb_work (s : St) (k : Wk) : Wb 1 s (s.work k).2 := by
  unfold St.work
  split
  · exact ⟨Nat.le_succ _, .inl (Int.le_refl _)⟩
  · refine ⟨Nat.le_refl _, .inl ?_⟩
    show (if 0 < s.fuse then s.fuse - 1 else s.fuse) ≤ s.fuse
    split <;> omega
theorem wb_append (s : St) (n : Key) (l : List Int) : Wb 1 s (s.append n l).2 := by
  unfold St.append
  repeat' split
  all_goals first | exact wb_same _ s | exact wb_work s _
theorem wb_remove (s : St) (n : Key) : Wb 1 s (s.remove n).2 := by
  unfold St.remove
  repeat' split
  all_goals first | exact wb_same _ s | exact wb_work s _
theorem wb_rename (s : St) (n m : Key) : Wb 1 s (s.rename n m).2 := by
  unfold St.rename
  repeat' split
  all_goals first | exact wb_same _ s | exact wb_work s _
theorem wb_sync (s : St) : Wb 1 s s.sync.2 := by
  unfold St.sync
  split
  · exact wb_same _ s
  · split
    · exact ⟨Nat.le_succ _, .inl (Int.le_refl _)⟩
    · refine ⟨Nat.le_refl _, .inl ?_⟩
      show (if 0 < s.fuse then s.fuse - 1 else s.fuse) ≤ s.fuse
      split <;> omega
theorem Wb.trans {m n : Nat} {a b c : St} (h : Wb m a b) (k : Wb n b c) : Wb (m + n) a c := ⟨by have := h.works; have := k.works; omega, by have := h.fuse; have := k.fuse; omega⟩
theorem Wb.more {m n : Nat} {a b : St} (h : Wb m a b) (k : m ≤ n) : Wb n a b := ⟨by have := h.works; omega, h.fuse⟩
theorem Wb.seq {m n : Nat} {q : Int × St} {f : St → Int × St} (h : Wb m s q.2) (hf : ∀ t : St, Wb n t (f t).2) : Wb (m + n) s (seqS q f).2 := by
  unfold seqS
  split
  · exact h.trans (hf _)
  · exact h.more (Nat.le_add_right _ _)
theorem wb_save (s : St) (b : List Int) : Wb 5 s (saveS s b).2 := by
  have h0 : Wb 1 s (if ex s nwN = true then s.remove nwN else (0, s)).2 := by
    split
    · exact wb_remove _ _
    · exact wb_same _ _
  exact (((h0.seq fun t => wb_append t _ _).seq fun t => wb_sync t).seq fun t => wb_rename t _ _).seq fun t => wb_sync t
end
end Go.Proofs.YtfneadlknieppaaDoor
