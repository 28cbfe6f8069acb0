/- OopsLayers returns true and makes new memory alone. Condition: errors.errorType holds what its text lays. -/
import Derived.Test.YtageblggakfbdaaDoorOopsKn
import Derived.Deep.RegionHeld3
namespace Go.Proofs.YtageblggakfbdaaDoor
open Go.RowKit
attribute [local go_sem ↓] ld_open eq_open

theorem ly_row {W W' : World} {H : Nat} {o : Obj} (h : W.heap[H]? = some o) (hb : Below W.heap.size W W') : W'.heap[H]? = some o := (hb.block _ (Array.getElem?_eq_some_iff.1 h).1).trans h
theorem ly_cell {w w' : World} {a : Addr} {u : Value} (h : w.cell? a = some u) (hb : Below w.heap.size w w') : w'.cell? a = some u := by
  rw [World.cell?_of_block (w := w) (hb.block _ (World.block_lt_of_cell? w _ h))]; exact h
theorem ly_byt (n : Int) : Byt (hsh n) := by
  intro j hj
  unfold hsh hshk
  match j, hj with
  | 0, _ => exact ⟨_, rfl⟩
  | 1, _ => exact ⟨_, rfl⟩
  | 2, _ => exact ⟨_, rfl⟩
  | 3, _ => exact ⟨_, rfl⟩
  | 4, _ => exact ⟨_, rfl⟩
  | 5, _ => exact ⟨_, rfl⟩
  | 6, _ => exact ⟨_, rfl⟩
  | 7, _ => exact ⟨_, rfl⟩
  | 8, _ => exact ⟨_, rfl⟩
  | 9, _ => exact ⟨_, rfl⟩
  | 10, _ => exact ⟨_, rfl⟩
  | 11, _ => exact ⟨_, rfl⟩
  | 12, _ => exact ⟨_, rfl⟩
  | 13, _ => exact ⟨_, rfl⟩
  | 14, _ => exact ⟨_, rfl⟩
  | 15, _ => exact ⟨_, rfl⟩
  | 16, _ => exact ⟨_, rfl⟩
  | 17, _ => exact ⟨_, rfl⟩
  | 18, _ => exact ⟨_, rfl⟩
  | 19, _ => exact ⟨_, rfl⟩
  | 20, _ => exact ⟨_, rfl⟩
  | 21, _ => exact ⟨_, rfl⟩
  | 22, _ => exact ⟨_, rfl⟩
  | 23, _ => exact ⟨_, rfl⟩
  | 24, _ => exact ⟨_, rfl⟩
  | 25, _ => exact ⟨_, rfl⟩
  | 26, _ => exact ⟨_, rfl⟩
  | 27, _ => exact ⟨_, rfl⟩
  | 28, _ => exact ⟨_, rfl⟩
  | 29, _ => exact ⟨_, rfl⟩
  | 30, _ => exact ⟨_, rfl⟩
  | 31, _ => exact ⟨_, rfl⟩
  | j + 32, h => omega
theorem ptr_S (a : Addr) (w : World) : (binOp .eql 54 (.pointer (some a)) (.pointer none)).run Tryd.prog w = .ok (.bool false) w := by kernel_rfl
theorem ptr_P (a : Addr) (w : World) : (binOp .eql 55 (.pointer (some a)) (.pointer none)).run Tryd.prog w = .ok (.bool false) w := by kernel_rfl
theorem ptr_W (a : Addr) (w : World) : (binOp .eql 37 (.pointer (some a)) (.pointer none)).run Tryd.prog w = .ok (.bool false) w := by kernel_rfl

/-- The three layers in memory. -/
structure Three (w : World) (pa pb pc : Nat) (s : ByteArray) (n : Int) (q : Array Value) (k : Value) (W : World) : Prop where
  bel : Below w.heap.size w W
  glob : Glob W
  a : Ch W [.step pa s] k
  b : Ch W [.place pb n] k
  c : Ch W [.which pc q] k
theorem Three.kb {w : World} {pa pb pc : Nat} {s : ByteArray} {n : Int} {q : Array Value} {k : Value} {W W' : World} (h : Three w pa pb pc s n q k W) (hb : Below W.heap.size W W') : Three w pa pb pc s n q k W' :=
  ⟨h.bel.trans (hb.mono h.bel.size), h.glob.kb hb, h.a.kb hb, h.b.kb hb, h.c.kb hb⟩

theorem keep_row {W W' : World} {H t : Nat} {o : Obj} (h : W.heap[H]? = some o) (ho : Only (fun k => k = t) W W') (hne : H ≠ t) : W'.heap[H]? = some o := (ho.block H (Array.getElem?_eq_some_iff.1 h).1 hne).trans h
theorem six_rows (w : World) (o0 o1 o2 o3 o4 o5 : Obj) : Below w.heap.size w ((((((w.alloc o0).alloc o1).alloc o2).alloc o3).alloc o4).alloc o5) ∧
    ((((((w.alloc o0).alloc o1).alloc o2).alloc o3).alloc o4).alloc o5).heap[w.heap.size]? = some o0 ∧ ((((((w.alloc o0).alloc o1).alloc o2).alloc o3).alloc o4).alloc o5).heap[w.heap.size + 1]? = some o1 ∧
    ((((((w.alloc o0).alloc o1).alloc o2).alloc o3).alloc o4).alloc o5).heap[w.heap.size + 1 + 1]? = some o2 ∧ ((((((w.alloc o0).alloc o1).alloc o2).alloc o3).alloc o4).alloc o5).heap[w.heap.size + 1 + 1 + 1]? = some o3 ∧
    ((((((w.alloc o0).alloc o1).alloc o2).alloc o3).alloc o4).alloc o5).heap[w.heap.size + 1 + 1 + 1 + 1]? = some o4 ∧ ((((((w.alloc o0).alloc o1).alloc o2).alloc o3).alloc o4).alloc o5).heap[w.heap.size + 1 + 1 + 1 + 1 + 1]? = some o5 := by
  refine ⟨((((((Below.refl _ _).alloc (Nat.le_refl _) _).alloc (by simp) _).alloc (by simp; omega) _).alloc (by simp; omega) _).alloc (by simp; omega) _).alloc (by simp; omega) _, ?_⟩
  refine ⟨?_, ?_, ?_, ?_, ?_, ?_⟩
  · rw [Below.heap_alloc _ _ _ (by simp only [World.alloc, Array.size_push]; omega), Below.heap_alloc _ _ _ (by simp only [World.alloc, Array.size_push]; omega), Below.heap_alloc _ _ _ (by simp only [World.alloc, Array.size_push]; omega), Below.heap_alloc _ _ _ (by simp only [World.alloc, Array.size_push]; omega), Below.heap_alloc _ _ _ (by simp only [World.alloc, Array.size_push]; omega)]
    exact heap_alloc_last w _
  · rw [Below.heap_alloc _ _ _ (by simp only [World.alloc, Array.size_push]; omega), Below.heap_alloc _ _ _ (by simp only [World.alloc, Array.size_push]; omega), Below.heap_alloc _ _ _ (by simp only [World.alloc, Array.size_push]; omega), Below.heap_alloc _ _ _ (by simp only [World.alloc, Array.size_push]; omega)]
    exact (show w.heap.size + 1 = (w.alloc o0).heap.size from by simp only [World.alloc, Array.size_push]) ▸ heap_alloc_last (w.alloc o0) _
  · rw [Below.heap_alloc _ _ _ (by simp only [World.alloc, Array.size_push]; omega), Below.heap_alloc _ _ _ (by simp only [World.alloc, Array.size_push]; omega), Below.heap_alloc _ _ _ (by simp only [World.alloc, Array.size_push]; omega)]
    exact (show w.heap.size + 1 + 1 = ((w.alloc o0).alloc o1).heap.size from by simp only [World.alloc, Array.size_push]) ▸ heap_alloc_last ((w.alloc o0).alloc o1) _
  · rw [Below.heap_alloc _ _ _ (by simp only [World.alloc, Array.size_push]; omega), Below.heap_alloc _ _ _ (by simp only [World.alloc, Array.size_push]; omega)]
    exact (show w.heap.size + 1 + 1 + 1 = (((w.alloc o0).alloc o1).alloc o2).heap.size from by simp only [World.alloc, Array.size_push]) ▸ heap_alloc_last (((w.alloc o0).alloc o1).alloc o2) _
  · rw [Below.heap_alloc _ _ _ (by simp only [World.alloc, Array.size_push]; omega)]
    exact (show w.heap.size + 1 + 1 + 1 + 1 = ((((w.alloc o0).alloc o1).alloc o2).alloc o3).heap.size from by simp only [World.alloc, Array.size_push]) ▸ heap_alloc_last ((((w.alloc o0).alloc o1).alloc o2).alloc o3) _
  · exact (show w.heap.size + 1 + 1 + 1 + 1 + 1 = (((((w.alloc o0).alloc o1).alloc o2).alloc o3).alloc o4).heap.size from by simp only [World.alloc, Array.size_push]) ▸ heap_alloc_last (((((w.alloc o0).alloc o1).alloc o2).alloc o3).alloc o4) _

set_option maxRecDepth 20000 in
set_option maxHeartbeats 4000000 in
theorem layers_walk (C : Ctr) (w : World) (kn : Int) (s : ByteArray) (at_ n : Int) (hg : Glob w) : Calls Tryd.prog 5 #[.int .i64 kn, .string s, .int .i64 at_, .int .i64 n] w fun e w' => e = .returned (.bool true) ∧ Below w.heap.size w w' := by
  have HG := Lib.hid hg
  have hP := Lib.hid (pick_any w kn 19 (by decide) (by decide))
  have hr0 : 0 ≤ kn % 19 := Int.emod_nonneg _ (by decide)
  have hr1 : kn % 19 < 19 := Int.emod_lt_of_pos _ (by decide)
  generalize kn % 19 = r at *
  have hnn := nil_iface
  clear hg
  go_enter Tryd.func5, Tryd.ntmps5
  go_wp2_with fail
  refine hP.out.mono ?_
  rintro e _ ⟨rfl, rfl⟩
  have hA := Lib.hid (wrap_ch w s [] (kind (1 + r)) (base_kind _) (meas_kind _ _) trivial)
  clear hP
  go_wp2_with fail
  refine hA.out.mono ?_
  rintro e w1 ⟨rfl, R1, R2, _⟩
  have C1 := Lib.hid R1
  have B1 := Lib.hid R2
  have hA2 := Lib.hid (at_ch w1 at_ [] (kind (1 + r)) (base_kind _) (meas_kind _ _) trivial)
  clear R1 R2 hA
  go_wp2_with fail
  refine hA2.out.mono ?_
  rintro e w2 ⟨rfl, R1, R2, _⟩
  have C2 := Lib.hid (C1.out.kb R2)
  have D2 := Lib.hid R1
  have B2 := Lib.hid (B1.out.trans (R2.mono B1.out.size))
  have hH := Lib.hid (hash_any w2 n)
  clear R1 R2 hA2 C1 B1
  go_wp2_with fail
  refine hH.out.mono ?_
  rintro e w3 ⟨rfl, R2⟩
  have C3 := Lib.hid (C2.out.kb R2)
  have D3 := Lib.hid (D2.out.kb R2)
  have B3 := Lib.hid (B2.out.trans (R2.mono B2.out.size))
  have hO := Lib.hid (of_ch w3 (hsh n) (hsh_size n) [] (kind (1 + r)) (base_kind _) (meas_kind _ _) trivial)
  clear R2 hH C2 D2 B2
  go_wp2_with fail
  refine hO.out.mono ?_
  rintro e w4 ⟨pc, rfl, R1, R2, _⟩
  have F4 : Hid (Three w w.heap.size w1.heap.size pc s at_ (hsh n) (kind (1 + r)) w4) := Lib.hid ⟨B3.out.trans (R2.mono B3.out.size), HG.out.kb (B3.out.trans (R2.mono B3.out.size)), C3.out.kb R2, D3.out.kb R2, R1⟩
  have hK := Lib.hid (known_any C w4 F4.out.glob)
  clear R1 R2 hO C3 D3 B3
  go_wp2_with fail
  refine hK.out.mono ?_
  rintro e w5 ⟨rfl, R2⟩
  have F5 := Lib.hid (F4.out.kb R2)
  clear R2 hK F4
  have h6 := six_rows w5 (.cells #[.pointer none] 54) (.cells #[.pointer none] 55) (.cells #[.pointer none] 37) (.cells #[.pointer none] 54) (.cells #[.pointer none] 55) (.cells #[.pointer none] 37)
  have H6 := Lib.hid h6
  clear h6
  go_wp2_with fail
  generalize (((((w5.alloc (.cells #[.pointer none] 54)).alloc (.cells #[.pointer none] 55)).alloc (.cells #[.pointer none] 37)).alloc (.cells #[.pointer none] 54)).alloc (.cells #[.pointer none] 55)).alloc (.cells #[.pointer none] 37) = x0 at *
  obtain ⟨b0, r0, r1, r2, r3, r4, r5⟩ := H6.out
  have N5 := Lib.hid b0.size
  clear H6
  have hA : Calls Tryd.prog 14 #[.iface 54 (.pointer (some ⟨w.heap.size, 0, none⟩)), .iface 56 (.pointer (some ⟨w5.heap.size, 0, none⟩))] x0 fun e w' =>
      e = .returned (.bool true) ∧ Only (fun k => k = w5.heap.size) x0 w' ∧ w'.heap[w5.heap.size]? = some (.cells #[.pointer (some ⟨w.heap.size, 0, none⟩)] 54 (0, 0)) :=
    as_any tgtS x0 [.step w.heap.size s] (kind (1 + r)) (base_kind _) ((F5.out.kb b0).glob) ((F5.out.kb b0).a) (w5.heap.size) (.pointer none) r0 (ok_ptr _ (by decide) (by decide) _ _ (base_kind _))
  have HA := Lib.hid hA
  have B0 := Lib.hid b0
  have Q0 := Lib.hid r0
  have Q1 := Lib.hid r1
  have Q2 := Lib.hid r2
  have Q3 := Lib.hid r3
  have Q4 := Lib.hid r4
  have Q5 := Lib.hid r5
  clear hA b0 r0 r1 r2 r3 r4 r5
  refine HA.out.mono ?_
  rintro e x1 ⟨rfl, R1, R2⟩
  have b0 := B0.out.trans (R1.below B0.out.size (fun k hk => by omega))
  have r0 := R2
  have r1 := keep_row Q1.out R1 (by omega)
  have r2 := keep_row Q2.out R1 (by omega)
  have r3 := keep_row Q3.out R1 (by omega)
  have r4 := keep_row Q4.out R1 (by omega)
  have r5 := keep_row Q5.out R1 (by omega)
  clear R1 R2 HA B0 Q0 Q1 Q2 Q3 Q4 Q5
  have hA : Calls Tryd.prog 14 #[.iface 55 (.pointer (some ⟨w1.heap.size, 0, none⟩)), .iface 57 (.pointer (some ⟨w5.heap.size + 1, 0, none⟩))] x1 fun e w' =>
      e = .returned (.bool true) ∧ Only (fun k => k = w5.heap.size + 1) x1 w' ∧ w'.heap[w5.heap.size + 1]? = some (.cells #[.pointer (some ⟨w1.heap.size, 0, none⟩)] 55 (0, 0)) :=
    as_any tgtP x1 [.place w1.heap.size at_] (kind (1 + r)) (base_kind _) ((F5.out.kb b0).glob) ((F5.out.kb b0).b) (w5.heap.size + 1) (.pointer none) r1 (ok_ptr _ (by decide) (by decide) _ _ (base_kind _))
  have HA := Lib.hid hA
  have B0 := Lib.hid b0
  have Q0 := Lib.hid r0
  have Q1 := Lib.hid r1
  have Q2 := Lib.hid r2
  have Q3 := Lib.hid r3
  have Q4 := Lib.hid r4
  have Q5 := Lib.hid r5
  clear hA b0 r0 r1 r2 r3 r4 r5
  go_wp2_with fail
  refine HA.out.mono ?_
  rintro e x2 ⟨rfl, R1, R2⟩
  have b0 := B0.out.trans (R1.below B0.out.size (fun k hk => by omega))
  have r0 := keep_row Q0.out R1 (by omega)
  have r1 := R2
  have r2 := keep_row Q2.out R1 (by omega)
  have r3 := keep_row Q3.out R1 (by omega)
  have r4 := keep_row Q4.out R1 (by omega)
  have r5 := keep_row Q5.out R1 (by omega)
  clear R1 R2 HA B0 Q0 Q1 Q2 Q3 Q4 Q5
  have hA : Calls Tryd.prog 14 #[.iface 37 (.pointer (some ⟨pc, 0, none⟩)), .iface 39 (.pointer (some ⟨w5.heap.size + 1 + 1, 0, none⟩))] x2 fun e w' =>
      e = .returned (.bool true) ∧ Only (fun k => k = w5.heap.size + 1 + 1) x2 w' ∧ w'.heap[w5.heap.size + 1 + 1]? = some (.cells #[.pointer (some ⟨pc, 0, none⟩)] 37 (0, 0)) :=
    as_any tgtW x2 [.which pc (hsh n)] (kind (1 + r)) (base_kind _) ((F5.out.kb b0).glob) ((F5.out.kb b0).c) (w5.heap.size + 1 + 1) (.pointer none) r2 (ok_ptr _ (by decide) (by decide) _ _ (base_kind _))
  have HA := Lib.hid hA
  have B0 := Lib.hid b0
  have Q0 := Lib.hid r0
  have Q1 := Lib.hid r1
  have Q2 := Lib.hid r2
  have Q3 := Lib.hid r3
  have Q4 := Lib.hid r4
  have Q5 := Lib.hid r5
  clear hA b0 r0 r1 r2 r3 r4 r5
  go_wp2_with fail
  refine HA.out.mono ?_
  rintro e x3 ⟨rfl, R1, R2⟩
  have b0 := B0.out.trans (R1.below B0.out.size (fun k hk => by omega))
  have r0 := keep_row Q0.out R1 (by omega)
  have r1 := keep_row Q1.out R1 (by omega)
  have r2 := R2
  have r3 := keep_row Q3.out R1 (by omega)
  have r4 := keep_row Q4.out R1 (by omega)
  have r5 := keep_row Q5.out R1 (by omega)
  clear R1 R2 HA B0 Q0 Q1 Q2 Q3 Q4 Q5
  have hA : Calls Tryd.prog 14 #[.iface 54 (.pointer (some ⟨w.heap.size, 0, none⟩)), .iface 57 (.pointer (some ⟨w5.heap.size + 1 + 1 + 1 + 1, 0, none⟩))] x3 fun e w' =>
      e = .returned (.bool false) ∧ Only (fun k => k = w5.heap.size + 1 + 1 + 1 + 1) x3 w' ∧ w'.heap[w5.heap.size + 1 + 1 + 1 + 1]? = some (.cells #[.pointer none] 55 (0, 0)) :=
    as_any tgtP x3 [.step w.heap.size s] (kind (1 + r)) (base_kind _) ((F5.out.kb b0).glob) ((F5.out.kb b0).a) (w5.heap.size + 1 + 1 + 1 + 1) (.pointer none) r4 (ok_ptr _ (by decide) (by decide) _ _ (base_kind _))
  have HA := Lib.hid hA
  have B0 := Lib.hid b0
  have Q0 := Lib.hid r0
  have Q1 := Lib.hid r1
  have Q2 := Lib.hid r2
  have Q3 := Lib.hid r3
  have Q4 := Lib.hid r4
  have Q5 := Lib.hid r5
  clear hA b0 r0 r1 r2 r3 r4 r5
  go_wp2_with fail
  refine HA.out.mono ?_
  rintro e x4 ⟨rfl, R1, R2⟩
  have b0 := B0.out.trans (R1.below B0.out.size (fun k hk => by omega))
  have r0 := keep_row Q0.out R1 (by omega)
  have r1 := keep_row Q1.out R1 (by omega)
  have r2 := keep_row Q2.out R1 (by omega)
  have r3 := keep_row Q3.out R1 (by omega)
  have r4 := R2
  have r5 := keep_row Q5.out R1 (by omega)
  clear R1 R2 HA B0 Q0 Q1 Q2 Q3 Q4 Q5
  have hA : Calls Tryd.prog 14 #[.iface 55 (.pointer (some ⟨w1.heap.size, 0, none⟩)), .iface 39 (.pointer (some ⟨w5.heap.size + 1 + 1 + 1 + 1 + 1, 0, none⟩))] x4 fun e w' =>
      e = .returned (.bool false) ∧ Only (fun k => k = w5.heap.size + 1 + 1 + 1 + 1 + 1) x4 w' ∧ w'.heap[w5.heap.size + 1 + 1 + 1 + 1 + 1]? = some (.cells #[.pointer none] 37 (0, 0)) :=
    as_any tgtW x4 [.place w1.heap.size at_] (kind (1 + r)) (base_kind _) ((F5.out.kb b0).glob) ((F5.out.kb b0).b) (w5.heap.size + 1 + 1 + 1 + 1 + 1) (.pointer none) r5 (ok_ptr _ (by decide) (by decide) _ _ (base_kind _))
  have HA := Lib.hid hA
  have B0 := Lib.hid b0
  have Q0 := Lib.hid r0
  have Q1 := Lib.hid r1
  have Q2 := Lib.hid r2
  have Q3 := Lib.hid r3
  have Q4 := Lib.hid r4
  have Q5 := Lib.hid r5
  clear hA b0 r0 r1 r2 r3 r4 r5
  go_wp2_with fail
  refine HA.out.mono ?_
  rintro e x5 ⟨rfl, R1, R2⟩
  have b0 := B0.out.trans (R1.below B0.out.size (fun k hk => by omega))
  have r0 := keep_row Q0.out R1 (by omega)
  have r1 := keep_row Q1.out R1 (by omega)
  have r2 := keep_row Q2.out R1 (by omega)
  have r3 := keep_row Q3.out R1 (by omega)
  have r4 := keep_row Q4.out R1 (by omega)
  have r5 := R2
  clear R1 R2 HA B0 Q0 Q1 Q2 Q3 Q4 Q5
  have hA : Calls Tryd.prog 14 #[.iface 37 (.pointer (some ⟨pc, 0, none⟩)), .iface 56 (.pointer (some ⟨w5.heap.size + 1 + 1 + 1, 0, none⟩))] x5 fun e w' =>
      e = .returned (.bool false) ∧ Only (fun k => k = w5.heap.size + 1 + 1 + 1) x5 w' ∧ w'.heap[w5.heap.size + 1 + 1 + 1]? = some (.cells #[.pointer none] 54 (0, 0)) :=
    as_any tgtS x5 [.which pc (hsh n)] (kind (1 + r)) (base_kind _) ((F5.out.kb b0).glob) ((F5.out.kb b0).c) (w5.heap.size + 1 + 1 + 1) (.pointer none) r3 (ok_ptr _ (by decide) (by decide) _ _ (base_kind _))
  have HA := Lib.hid hA
  have B0 := Lib.hid b0
  have Q0 := Lib.hid r0
  have Q1 := Lib.hid r1
  have Q2 := Lib.hid r2
  have Q3 := Lib.hid r3
  have Q4 := Lib.hid r4
  have Q5 := Lib.hid r5
  clear hA b0 r0 r1 r2 r3 r4 r5
  go_wp2_with fail
  refine HA.out.mono ?_
  rintro e x6 ⟨rfl, R1, R2⟩
  have b0 := B0.out.trans (R1.below B0.out.size (fun k hk => by omega))
  have r0 := keep_row Q0.out R1 (by omega)
  have r1 := keep_row Q1.out R1 (by omega)
  have r2 := keep_row Q2.out R1 (by omega)
  have r3 := R2
  have r4 := keep_row Q4.out R1 (by omega)
  have r5 := keep_row Q5.out R1 (by omega)
  clear R1 R2 HA B0 Q0 Q1 Q2 Q3 Q4 Q5
  have F6 := Lib.hid (F5.out.kb b0)
  clear F5 N5 r3 r4 r5
  have hp0 := cell_obj r0 0 (u := .pointer (some ⟨w.heap.size, 0, none⟩)) rfl
  have hp1 := cell_obj r1 0 (u := .pointer (some ⟨w1.heap.size, 0, none⟩)) rfl
  have hp2 := cell_obj r2 0 (u := .pointer (some ⟨pc, 0, none⟩)) rfl
  have es := ptr_S
  have ep := ptr_P
  have ew := ptr_W
  clear r0 r1 r2
  have D6 := Lib.hid (F6.out.kb (⟨rfl, rfl, rfl, Nat.le_refl _, fun _ _ => rfl⟩ : Below x6.heap.size x6 x6.drew))
  have k0 : x6.drew.cell? ⟨w5.heap.size, 0, none⟩ = _ := hp0
  have k1 : x6.drew.cell? ⟨w5.heap.size + 1, 0, none⟩ = _ := hp1
  have k2 : x6.drew.cell? ⟨w5.heap.size + 1 + 1, 0, none⟩ = _ := hp2
  have k3 := cell_obj D6.out.a.1 0 (u := .string s) rfl
  have k4 := cell_obj D6.out.a.1 1 (u := kind (1 + r)) rfl
  have k5 := cell_obj D6.out.b.1 0 (u := .int .i64 at_) rfl
  have k6 := range_push D6.out.c.1
  simp only [Lnk.blk] at k3 k4 k5 k6
  have hhm : ∀ W : World, W.heap = x6.drew.heap → True := fun _ _ => trivial
  have HH := Lib.hid (fun W => hash_any W n)
  have heq := eq_self (hsh n) (ly_byt n)
  have hgd := guard_hash
  have hu := Tryd.underlying23
  have hi := size_hash' (hsh n) (hsh_size n)
  have ek := eq_kind (1 + r) (1 + r)
  rw [show ((1 + r) == (1 + r)) = true from by simp] at ek
  clear hhm
  go_wp2_with fail
  go_region_held3 (fun W => W.cell? ⟨w5.heap.size, 0, none⟩ = some (.pointer (some ⟨w.heap.size, 0, none⟩)) ∧ W.cell? ⟨w5.heap.size + 1, 0, none⟩ = some (.pointer (some ⟨w1.heap.size, 0, none⟩)) ∧ W.cell? ⟨w5.heap.size + 1 + 1, 0, none⟩ = some (.pointer (some ⟨pc, 0, none⟩)) ∧
      W.cell? ⟨w.heap.size, 0, none⟩ = some (.string s) ∧ W.cell? ⟨w.heap.size, 1, none⟩ = some (kind (1 + r)) ∧ W.cell? ⟨w1.heap.size, 0, none⟩ = some (.int .i64 at_) ∧ W.rangeAt pc 0 (hsh n).toList)
    (exact ⟨by assumption, by assumption, by assumption, by assumption, by assumption, by assumption, by assumption⟩)
    ((first
    | (go_at_call 23; refine (unwrapS x6.drew _ _ (.iface 29 (.int .i64 (1 + r))) D6.out.a.1).mono ?_; rintro e q1 ⟨rfl, rfl⟩)
    | (go_at_call 24; refine (unwrapP x6.drew _ _ (.iface 29 (.int .i64 (1 + r))) D6.out.b.1).mono ?_; rintro e q1 ⟨rfl, rfl⟩)
    | (go_at_call 20; refine (HH.out x6.drew).mono ?_; rintro e q2 ⟨rfl, R⟩; have D7 := Lib.hid (D6.out.kb R); (have m0 := ly_cell k0 R); (have m1 := ly_cell k1 R); (have m2 := ly_cell k2 R); (have m3 := ly_cell k3 R); (have m4 := ly_cell k4 R); (have m5 := ly_cell k5 R); have m6 := range_push D7.out.c.1; simp only [Lnk.blk] at m6; clear R)
    | (go_at_call 25; refine (unwrapW q2 _ _ (.iface 29 (.int .i64 (1 + r))) D7.out.c.2.1 D7.out.c.1).mono ?_; rintro e q3 ⟨rfl, rfl⟩)
    | (go_at_call 18; (have hk := unwrap_step q2 _ _ _ _ D7.out.a); refine hk.mono ?_; rintro e q3 ⟨he, rfl⟩; obtain rfl : e = .returned (.iface 29 (.int .i64 (1 + r))) := he; clear hk)))
  all_goals
    go_wp2
    go_ret
    exact ⟨rfl, D7.out.bel⟩
end Go.Proofs.YtageblggakfbdaaDoor
