/- What pend does: one more pending change. Conditions: the numbers are no greater than a program's may be. -/
import Derived.Test.YtfneadlknieppaaGreatDoorDskQ
import Derived.Deep.RegionLaw
import Derived.Test.YtfneadlknieppaaGreatDoorGenOps
import Derived.Deep.AppendLies
namespace Go.Proofs.YtfneadlknieppaaGreatDoor
open Go.RowKit
open Go.Maps

theorem chinfo : (Tryz.prog.info? 74).map (fun i => (i.zero, i.size, i.bytes)) = some (some (.agg #[.int .i64 0, .string ⟨#[]⟩, .string ⟨#[]⟩, .int .i64 0, .bool false, .slice none 0 0]), 6, 80) := by kernel_rfl
/-- A change as a value. -/
def Chg.val (g : Chg) : Value := .agg #[.int .i64 g.kind, stv g.name, stv g.to, .int .i64 g.size, .bool g.was, g.lost]
/-- A change of its own in memory. -/
def CAt (w : World) (k : Nat) (g : Chg) : Prop := w.heap[k]? = some (.cells #[.int .i64 g.kind, stv g.name, stv g.to, .int .i64 g.size, .bool g.was, g.lost] 74 (0, 0))
section
variable {w w' : World} {k : Nat} {g : Chg}
theorem CAt.lt (h : CAt w k g) : k < w.heap.size := lt_of_block h
theorem CAt.c0 (h : CAt w k g) : w.cell? ⟨k, 0, none⟩ = some (.int .i64 g.kind) := by rw [cell_of_row w k 0 _ _ _ h]; rfl
theorem CAt.c1 (h : CAt w k g) : w.cell? ⟨k, 1, none⟩ = some (stv g.name) := by rw [cell_of_row w k 1 _ _ _ h]; rfl
theorem CAt.c2 (h : CAt w k g) : w.cell? ⟨k, 2, none⟩ = some (stv g.to) := by rw [cell_of_row w k 2 _ _ _ h]; rfl
theorem CAt.c3 (h : CAt w k g) : w.cell? ⟨k, 3, none⟩ = some (.int .i64 g.size) := by rw [cell_of_row w k 3 _ _ _ h]; rfl
theorem CAt.c4 (h : CAt w k g) : w.cell? ⟨k, 4, none⟩ = some (.bool g.was) := by rw [cell_of_row w k 4 _ _ _ h]; rfl
theorem CAt.c5 (h : CAt w k g) : w.cell? ⟨k, 5, none⟩ = some g.lost := by rw [cell_of_row w k 5 _ _ _ h]; rfl
theorem CAt.fz (h : CAt w k g) (i : Nat) : w.frozen? ⟨k, i, none⟩ = false := by
  have h' : w.heap[k]? = some _ := h
  simp [World.frozen?, h']
theorem CAt.set1 (h : CAt w k g) : CAt (w.setCell ⟨k, 1, none⟩ (stv g.name)) k g := Lib.heap_setCell_same h _
theorem CAt.set2 (h : CAt w k g) : CAt (w.setCell ⟨k, 2, none⟩ (stv g.to)) k g := Lib.heap_setCell_same h _
theorem CAt.kept {S : Nat → Prop} (h : CAt w k g) (ho : Only S w w') (hb : ¬ S k) : CAt w' k g := (ho.block k h.lt hb).trans h
theorem CAt.kb (h : CAt w k g) (hb : Below w.heap.size w w') : CAt w' k g := h.kept (S := fun _ => False) (Only.of_below hb) (fun h => h)
end

theorem row_one {g : Chg} (h : g.lost.oneCell' = true) : ∀ u ∈ g.row, u.oneCell' = true := by
  intro u hu
  simp only [Chg.row, List.mem_cons, List.not_mem_nil, or_false] at hu
  rcases hu with rfl | rfl | rfl | rfl | rfl | rfl
  all_goals first | rfl | exact h
theorem pend_fits {n : Nat} (h : n ≤ 1000000000) : n + 1 ≤ maxLen ∧ (n + 1) * 80 ≤ 140737488355328 := by unfold maxLen; omega
theorem pv_apart {w : World} {B b : Nat} {c : Cst} {P : List Chg} (h : DAt w b c) (hp : PAt w B c.pv P) : ¬ c.pv.ownBlock = some b := by
  intro e
  obtain ⟨cs, hcs⟩ := own_type hp e
  have h' : w.heap[b]? = some _ := h
  rw [hcs] at h'
  simp at h'
theorem pv_apart' {w : World} {B b : Nat} {c : Cst} {v : Value} {P : List Chg} (h : DAt w b c) (hp : PAt w B v P) : ∀ k, v.ownBlock = some k → ¬ k = b := by
  rintro k hk rfl
  obtain ⟨cs, hcs⟩ := own_type hp hk
  have h' : w.heap[k]? = some _ := h
  rw [hcs] at h'
  simp at h'
/-- One more change is pending. -/
def PendPost (w : World) (B b : Nat) (c : Cst) (P : List Chg) (g : Chg) (e : Ending) (w' : World) : Prop :=
  e = .returned (.tuple #[]) ∧ ∃ pv', DAt w' b { c with pv := pv' } ∧ PAt w' B pv' (P ++ [g]) ∧ Only (fun k => k = b ∨ c.pv.ownBlock = some k) w w' ∧ (∀ k, pv'.ownBlock = some k → c.pv.ownBlock = some k ∨ w.heap.size ≤ k)
set_option maxRecDepth 20000 in
set_option maxHeartbeats 2000000 in
theorem pend_to (w : World) (B b : Nat) (c : Cst) (P : List Chg) (g : Chg) (h : DAt w b c) (hp : PAt w B c.pv P) (hB : B ≤ w.heap.size) (hl : P.length ≤ 1000000000) (hn : g.name.length ≤ 281474976710656) (ht : g.to.length ≤ 281474976710656) (hlo : g.lost.oneCell' = true) :
    Calls Tryz.prog 38 #[.pointer (some ⟨b,0,none⟩), g.val] w (PendPost w B b c P g) := by
  obtain ⟨i0, hi0, hz0, hz1, hz2⟩ := info_parts chinfo
  have HN := Lib.hid (And.intro hn ht)
  have HD1 : Hid (DAt (w.alloc (.cells #[.int .i64 g.kind, stv g.name, stv g.to, .int .i64 g.size, .bool g.was, g.lost] 74)) b c) := Lib.hid (h.kb ((Below.refl _ w).alloc (Nat.le_refl _) _))
  have HP1 : Hid (PAt (w.alloc (.cells #[.int .i64 g.kind, stv g.name, stv g.to, .int .i64 g.size, .bool g.was, g.lost] 74)) B c.pv P) := Lib.hid (hp.alloc _)
  have HC1 : Hid (CAt (w.alloc (.cells #[.int .i64 g.kind, stv g.name, stv g.to, .int .i64 g.size, .bool g.was, g.lost] 74)) w.heap.size g) := Lib.hid (heap_alloc_new w _)
  have HB1 : Hid (Below w.heap.size w (w.alloc (.cells #[.int .i64 g.kind, stv g.name, stv g.to, .int .i64 g.size, .bool g.was, g.lost] 74))) := Lib.hid ((Below.refl _ w).alloc (Nat.le_refl _) _)
  have HPK := Lib.hid (fun k (hk : c.pv.ownBlock = some k) => (hp.lt k hk).2)
  have HLT := Lib.hid h.lt
  have HBB := Lib.hid hB
  have HLO := Lib.hid hlo
  have HLP := Lib.hid (pend_fits hl)
  clear h hp hn ht hB hlo hl
  unfold Chg.val
  go_enter Tryz.func38, Tryz.ntmps38
  go_wp2_with fail
  generalize w.alloc (.cells #[.int .i64 g.kind, stv g.name, stv g.to, .int .i64 g.size, .bool g.was, g.lost] 74) = w1 at *
  have q1 : (w1.drew).cell? ⟨w.heap.size, 1, none⟩ = some (stv g.name) ∧ (w1.drew).cell? ⟨w.heap.size, 2, none⟩ = some (stv g.to) := ⟨HC1.out.c1, HC1.out.c2⟩
  have PK : Hid (∀ k, c.pv.ownBlock = some k → ¬ k = w.heap.size) := Lib.hid (by
    intro k hk e
    have := HPK.out k hk
    omega)
  try simp only [List.append]
  refine wp_region_noPanic ?_
  refine wp_region_held_drew (S := (fun W => W.cell? ⟨w.heap.size, 1, none⟩ = some (stv g.name) ∧ W.cell? ⟨w.heap.size, 2, none⟩ = some (stv g.to))) (by kernel_rfl) q1 (fun hHeld => ?_)
  refine wpAnyH_take (i := 0) (v := ?_) (by simp only [List.getElem?_toArray, List.getElem?_cons_zero]; rfl) (by kernel_rfl) (by kernel_rfl) (by kernel_rfl) (fun _ _ _ h => h) (Or.inl ⟨by rfl, ?_⟩) (by assumption) ?_
  rotate_left
  · intro w hSw
    try dsimp only at hSw
    go_simp
    try with_reducible rfl
  try simp only [Act.put, List.setIfInBounds_toArray, List.set_cons_zero, List.set_cons_succ]
  refine wpAnyH_take (i := 1) (v := ?_) (by simp only [List.getElem?_toArray, List.getElem?_cons_succ, List.getElem?_cons_zero]; rfl) (by kernel_rfl) (by kernel_rfl) (by kernel_rfl) (fun _ _ _ h => h) (Or.inl ⟨by rfl, ?_⟩) (by assumption) ?_
  rotate_left
  · intro w hSw
    try dsimp only at hSw
    go_simp
    try with_reducible rfl
  try simp only [Act.put, List.setIfInBounds_toArray, List.set_cons_zero, List.set_cons_succ]
  refine wpAnyH_take (i := 3) (v := ?_) (by simp only [List.getElem?_toArray, List.getElem?_cons_succ, List.getElem?_cons_zero]; rfl) (by kernel_rfl) (by kernel_rfl) (by kernel_rfl) (fun _ _ _ h => h) (Or.inl ⟨by rfl, ?_⟩) (by assumption) ?_
  rotate_left
  · intro w hSw
    try dsimp only at hSw
    go_simp
    try with_reducible rfl
  try simp only [Act.put, List.setIfInBounds_toArray, List.set_cons_zero, List.set_cons_succ]
  refine wpAnyH_take (i := 4) (v := ?_) (by simp only [List.getElem?_toArray, List.getElem?_cons_succ, List.getElem?_cons_zero]; rfl) (by kernel_rfl) (by kernel_rfl) (by kernel_rfl) (fun _ _ _ h => h) (Or.inl ⟨by rfl, ?_⟩) (by assumption) ?_
  rotate_left
  · intro w hSw
    try dsimp only at hSw
    go_simp
    try with_reducible rfl
  try simp only [Act.put, List.setIfInBounds_toArray, List.set_cons_zero, List.set_cons_succ]
  refine wpAnyH_ready (rs := [2]) (by kernel_rfl) (by simp) ?_
  refine AllReadyH.cons (by simp only [List.getElem?_toArray, List.getElem?_cons_succ, List.getElem?_cons_zero]; rfl) (fun K hK => ?_) AllReadyH.nil
  go_simp
  refine (sclone_to _ ⟨g.name.toArray⟩ HN.out.1).mono ?_
  rintro e W2 ⟨rfl, b2⟩
  have HD2 := Lib.hid (DAt.kb (w := w1.drew) HD1.out b2)
  have HP2 : Hid (PAt W2 B c.pv P) := Lib.hid (own_kept (w := w1.drew) HP1.out (S := fun _ => False) (Only.of_below b2) (fun _ _ h => h))
  have HC2 := Lib.hid (CAt.kb (w := w1.drew) HC1.out b2)
  have HB2 := Lib.hid (Below.trans (b := w1.drew) HB1.out.drew (b2.mono HB1.out.size))
  have q2 : W2.cell? ⟨w.heap.size, 1, none⟩ = some (stv g.name) ∧ W2.cell? ⟨w.heap.size, 2, none⟩ = some (stv g.to) := ⟨HC2.out.c1, HC2.out.c2⟩
  clear b2
  go_wp2_with fail
  refine hK.out _ _ q2 (fun hHeld => ?_)
  clear hK K
  try simp only [Act.put, List.setIfInBounds_toArray, List.set_cons_zero, List.set_cons_succ]
  refine wpAnyH_take (i := 6) (v := ?_) (by simp only [List.getElem?_toArray, List.getElem?_cons_succ, List.getElem?_cons_zero]; rfl) (by kernel_rfl) (by kernel_rfl) (by kernel_rfl) (fun _ _ _ h => h) (Or.inl ⟨by rfl, ?_⟩) (by assumption) ?_
  rotate_left
  · intro w hSw
    try dsimp only at hSw
    go_simp
    try with_reducible rfl
  try simp only [Act.put, List.setIfInBounds_toArray, List.set_cons_zero, List.set_cons_succ]
  refine wpAnyH_ready (rs := [5]) (by kernel_rfl) (by simp) ?_
  refine AllReadyH.cons (by simp only [List.getElem?_toArray, List.getElem?_cons_succ, List.getElem?_cons_zero]; rfl) (fun K hK => ?_) AllReadyH.nil
  go_simp
  refine (sclone_to _ ⟨g.to.toArray⟩ HN.out.2).mono ?_
  rintro e W3 ⟨rfl, b3⟩
  have HD3 := Lib.hid (DAt.kb (w := W2) HD2.out b3)
  have HP3 : Hid (PAt W3 B c.pv P) := Lib.hid (own_kept (w := W2) HP2.out (S := fun _ => False) (Only.of_below b3) (fun _ _ h => h))
  have HC3 := Lib.hid (CAt.kb (w := W2) HC2.out b3)
  have HB3 := Lib.hid (Below.trans (b := W2) HB2.out (b3.mono HB2.out.size))
  have q3 : W3.cell? ⟨w.heap.size, 1, none⟩ = some (stv g.name) ∧ W3.cell? ⟨w.heap.size, 2, none⟩ = some (stv g.to) := ⟨HC3.out.c1, HC3.out.c2⟩
  clear b3
  go_wp2_with fail
  refine hK.out _ _ q3 (fun hHeld => ?_)
  clear hK K
  try simp only [Act.put, List.setIfInBounds_toArray, List.set_cons_zero, List.set_cons_succ]
  have f3 := HC3.out.fz 1
  have c3 := HC3.out.c1
  refine wpAnyH_ready (rs := [7]) (by kernel_rfl) (by simp) ?_
  refine AllReadyH.cons (by simp only [List.getElem?_toArray, List.getElem?_cons_succ, List.getElem?_cons_zero]; rfl) (fun K hK => ?_) AllReadyH.nil
  go_simp
  refine hK.out _ _ ⟨(HC3.out.set1).c1, (HC3.out.set1).c2⟩ (fun hHeld => ?_)
  clear hK K
  try simp only [Act.put, List.setIfInBounds_toArray, List.set_cons_zero, List.set_cons_succ]
  have HD4 := Lib.hid (HD3.out.kept ((Only.refl _ _).one (S := fun k => k = w.heap.size) (b := w.heap.size) (i := 1) rfl (stv g.name)) (by have := HLT.out; omega))
  have HP4 : Hid (PAt (W3.setCell ⟨w.heap.size, 1, none⟩ (stv g.name)) B c.pv P) := Lib.hid (own_kept HP3.out ((Only.refl _ _).one (S := fun k => k = w.heap.size) (b := w.heap.size) (i := 1) rfl (stv g.name)) PK.out)
  have HC4 := Lib.hid HC3.out.set1
  have HB4 := Lib.hid (HB3.out.setCell (p := ⟨w.heap.size, 1, none⟩) (Nat.le_refl _) (stv g.name))
  clear f3 c3
  generalize W3.setCell ⟨w.heap.size, 1, none⟩ (stv g.name) = W4 at *
  refine wpAnyH_take (i := 8) (v := ?_) (by simp only [List.getElem?_toArray, List.getElem?_cons_succ, List.getElem?_cons_zero]; rfl) (by kernel_rfl) (by kernel_rfl) (by kernel_rfl) (fun _ _ _ h => h) (Or.inl ⟨by rfl, ?_⟩) (by assumption) ?_
  rotate_left
  · intro w hSw
    try dsimp only at hSw
    go_simp
    try with_reducible rfl
  try simp only [Act.put, List.setIfInBounds_toArray, List.set_cons_zero, List.set_cons_succ]
  have f4 := HC4.out.fz 2
  have c4 := HC4.out.c2
  refine wpAnyH_ready (rs := [9]) (by kernel_rfl) (by simp) ?_
  refine AllReadyH.cons (by simp only [List.getElem?_toArray, List.getElem?_cons_succ, List.getElem?_cons_zero]; rfl) (fun K hK => ?_) AllReadyH.nil
  go_simp
  refine hK.out _ _ ⟨(HC4.out.set2).c1, (HC4.out.set2).c2⟩ (fun hHeld => ?_)
  clear hK K
  try simp only [Act.put, List.setIfInBounds_toArray, List.set_cons_zero, List.set_cons_succ]
  have HD5 := Lib.hid (HD4.out.kept ((Only.refl _ _).one (S := fun k => k = w.heap.size) (b := w.heap.size) (i := 2) rfl (stv g.to)) (by have := HLT.out; omega))
  have HP5 : Hid (PAt (W4.setCell ⟨w.heap.size, 2, none⟩ (stv g.to)) B c.pv P) := Lib.hid (own_kept HP4.out ((Only.refl _ _).one (S := fun k => k = w.heap.size) (b := w.heap.size) (i := 2) rfl (stv g.to)) PK.out)
  have HC5 := Lib.hid HC4.out.set2
  have HB5 := Lib.hid (HB4.out.setCell (p := ⟨w.heap.size, 2, none⟩) (Nat.le_refl _) (stv g.to))
  clear f4 c4
  generalize W4.setCell ⟨w.heap.size, 2, none⟩ (stv g.to) = W5 at *
  refine wpAnyH_done (by kernel_rfl) ?_ _
  refine NoPanic.normal ?_
  have c3 := HD5.out.c3
  have hf3 := HD5.out.fz 3
  have hbl := HD5.out.lt
  have e0 := HC5.out.c0
  have e1 := HC5.out.c1
  have e2 := HC5.out.c2
  have e3 := HC5.out.c3
  have e4 := HC5.out.c4
  have e5 := HC5.out.c5
  clear q1 q2 q3
  go_wp2_with fail
  have hcl := HC5.out.lt
  have WF := Lib.hid HB5.out.size
  have HN6 : Hid (∀ j u, g.row[j]? = some u → (W5.alloc (.cells #[.int .i64 g.kind, stv g.name, stv g.to, .int .i64 g.size, .bool g.was, g.lost] 74)).cell? ((⟨W5.heap.size, 0, none⟩ : Addr).add j) = some u) := Lib.hid (World.news_of_block (cs := #[.int .i64 g.kind, stv g.name, stv g.to, .int .i64 g.size, .bool g.was, g.lost]) (t := 74) (fr := (0, 0)) (heap_alloc_new W5 _))
  have HP7 : Hid (PAt (W5.alloc (.cells #[.int .i64 g.kind, stv g.name, stv g.to, .int .i64 g.size, .bool g.was, g.lost] 74)) B c.pv P) := Lib.hid (HP5.out.alloc _)
  have HD7 : Hid (DAt (W5.alloc (.cells #[.int .i64 g.kind, stv g.name, stv g.to, .int .i64 g.size, .bool g.was, g.lost] 74)) b c) := Lib.hid (HD5.out.kb ((Below.refl _ W5).alloc (Nat.le_refl _) _))
  have HB7 : Hid (Below w.heap.size w (W5.alloc (.cells #[.int .i64 g.kind, stv g.name, stv g.to, .int .i64 g.size, .bool g.was, g.lost] 74))) := Lib.hid (HB5.out.alloc HB5.out.size _)
  have HZ : Hid (((W5.alloc (.cells #[.int .i64 g.kind, stv g.name, stv g.to, .int .i64 g.size, .bool g.was, g.lost] 74)).drew).heap.size = W5.heap.size + 1) := Lib.hid (by show (W5.alloc (.cells #[.int .i64 g.kind, stv g.name, stv g.to, .int .i64 g.size, .bool g.was, g.lost] 74)).heap.size = _; simp)
  generalize hwb : W5.heap.size = wb at *
  go_region_law
    ((refine step_append_lies _ (by rfl) _ _ _ (by rfl) B 74 i0 _ 6 80 Tryz.underlying69 hi0 hz0 hz1 hz2 rfl (by omega) c.pv P.length (crows P) (by rfl) (HP7.out.drew) ⟨wb, 0, none⟩ 1 1 g.row (by rfl) (by rfl) (fun j u hj => HN6.out j u hj) (row_one HLO.out) (by decide) HLP.out.1 HLP.out.2 (Nat.le_trans HBB.out HB7.out.size) _ HZ.out ?_; intro gg cap w8 own8 grow8 hat8 hlt8; have O8 := Lib.hid own8; have HO8 : Hid (Only (fun k => c.pv.ownBlock = some k) (W5.alloc (.cells #[.int .i64 g.kind, stv g.name, stv g.to, .int .i64 g.size, .bool g.was, g.lost] 74)) w8) := Lib.hid ((Only.refl _ _).drew.grown grow8 (fun k _ e => e)); have HD8 : Hid (DAt w8 b c) := Lib.hid (HD7.out.kept HO8.out (pv_apart HD7.out HP7.out)); have HAT := Lib.hid hat8; have f8 := HD8.out.fz 3; have c8 := HD8.out.c3; clear own8 grow8 hat8 hlt8))
  all_goals
    go_end0
    refine ⟨rfl, .slice (some ⟨gg, 0, none⟩) (P.length + 1) cap, HD8.out.set3 _, ?_, ?_, ?_⟩
    · have h9 : PAt w8 B (.slice (some ⟨gg, 0, none⟩) (P.length + 1) cap) (P ++ [g]) := ⟨by rw [crows_length], by
        have := O8.out.2
        rw [show (P ++ [g]).length = P.length + 1 from by simp, show crows (P ++ [g]) = crows P ++ g.row from by simp [crows]]
        exact this⟩
      exact own_kept h9 ((Only.refl _ w8).one (S := fun k => k = b) (b := b) (i := 3) rfl _) (pv_apart' HD8.out h9)
    · have o1 : Only (fun k => k = b ∨ c.pv.ownBlock = some k) w (W5.alloc (.cells #[.int .i64 g.kind, stv g.name, stv g.to, .int .i64 g.size, .bool g.was, g.lost] 74)) := Only.of_below HB7.out
      have o2 := o1.trans HO8.out (fun _ h => h) (fun _ _ h => .inr h)
      exact o2.one (.inl rfl) _
    · intro k hk
      simp only [Value.ownBlock, Option.some.injEq] at hk
      subst hk
      rcases HAT.out with h | h
      · exact .inl h
      · exact .inr (by have := WF.out; omega)
end Go.Proofs.YtfneadlknieppaaGreatDoor
