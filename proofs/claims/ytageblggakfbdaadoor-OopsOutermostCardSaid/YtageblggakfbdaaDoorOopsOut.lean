/- OopsOutermost returns true and makes new memory alone. Condition: errors.errorType holds what its text lays. -/
import Derived.Test.YtageblggakfbdaaDoorOopsKn
import Derived.Deep.RegionWith
import Derived.Deep.RegionHeld3
namespace Go.Proofs.YtageblggakfbdaaDoor
open Go.RowKit
attribute [local go_sem ↓] ld_open eq_open

theorem own_one {w : World} {B : Nat} {v : Value} {s : ByteArray} (h : w.ownsRow B 9 1 v 1 (strs [s])) : ∃ g cap, v = .slice (some ⟨g, 0, none⟩) 1 cap ∧ w.cell? ⟨g, 0, none⟩ = some (.string s) := by
  rcases h.2 with ⟨_, h0⟩ | ⟨g, cap, cur, rfl, _⟩
  · cases h0
  · have := h.cells (g := g) rfl 0 (.string s) rfl
    rw [Addr.add_lit] at this
    exact ⟨g, cap, rfl, by simpa using this⟩

theorem cell_kb {w w' : World} {a : Addr} {u : Value} (h : w.cell? a = some u) (hb : Below w.heap.size w w') : w'.cell? a = some u := by
  rw [World.cell?_of_block (w := w) (hb.block _ (World.block_lt_of_cell? w _ h))]; exact h
theorem hsh_byt (n : Int) : Byt (hsh n) := by
  intro j hj
  unfold hsh hshk
  match j, hj with
  | 0, _ => exact ⟨_, rfl⟩
  | 1, _ => exact ⟨_, rfl⟩
  | 2, _ => exact ⟨_, rfl⟩
  | 3, _ => exact ⟨_, rfl⟩
  | 4, _ => exact ⟨_, rfl⟩
  | 5, _ => exact ⟨_, rfl⟩
  | 6, _ => exact ⟨_, rfl⟩
  | 7, _ => exact ⟨_, rfl⟩
  | 8, _ => exact ⟨_, rfl⟩
  | 9, _ => exact ⟨_, rfl⟩
  | 10, _ => exact ⟨_, rfl⟩
  | 11, _ => exact ⟨_, rfl⟩
  | 12, _ => exact ⟨_, rfl⟩
  | 13, _ => exact ⟨_, rfl⟩
  | 14, _ => exact ⟨_, rfl⟩
  | 15, _ => exact ⟨_, rfl⟩
  | 16, _ => exact ⟨_, rfl⟩
  | 17, _ => exact ⟨_, rfl⟩
  | 18, _ => exact ⟨_, rfl⟩
  | 19, _ => exact ⟨_, rfl⟩
  | 20, _ => exact ⟨_, rfl⟩
  | 21, _ => exact ⟨_, rfl⟩
  | 22, _ => exact ⟨_, rfl⟩
  | 23, _ => exact ⟨_, rfl⟩
  | 24, _ => exact ⟨_, rfl⟩
  | 25, _ => exact ⟨_, rfl⟩
  | 26, _ => exact ⟨_, rfl⟩
  | 27, _ => exact ⟨_, rfl⟩
  | 28, _ => exact ⟨_, rfl⟩
  | 29, _ => exact ⟨_, rfl⟩
  | 30, _ => exact ⟨_, rfl⟩
  | 31, _ => exact ⟨_, rfl⟩
  | j + 32, h => omega

/-- What the last statement reads: the chain, the one name, the stored hash. -/
structure Fx (w : World) (L : List Lnk) (b : Value) (g : Nat) (s : ByteArray) (H : Nat) (q : Array Value) (W : World) : Prop where
  bel : Below w.heap.size w W
  glob : Glob W
  ch : Ch W L b
  str : W.cell? ⟨g, 0, none⟩ = some (.string s)
  row : W.heap[H]? = some (.cells q 23 (0, 0))
theorem Fx.kb {w : World} {L : List Lnk} {b : Value} {g : Nat} {s : ByteArray} {H : Nat} {q : Array Value} {W W' : World} (h : Fx w L b g s H q W) (hb : Below W.heap.size W W') : Fx w L b g s H q W' :=
  ⟨h.bel.trans (hb.mono h.bel.size), h.glob.kb hb, h.ch.kb hb, cell_kb h.str hb, (hb.block _ (Array.getElem?_eq_some_iff.1 h.row).1).trans h.row⟩
theorem Fx.drew {w : World} {L : List Lnk} {b : Value} {g : Nat} {s : ByteArray} {H : Nat} {q : Array Value} {W : World} (h : Fx w L b g s H q W) : Fx w L b g s H q W.drew :=
  h.kb ⟨rfl, rfl, rfl, Nat.le_refl _, fun _ _ => rfl⟩
theorem base_strange : Base (.iface 65 (.agg #[])) := .inr (.inl rfl)

set_option maxRecDepth 20000 in
set_option maxHeartbeats 4000000 in
theorem out_walk (C : Ctr) (w : World) (a b x y kn : Int) (s : ByteArray) (hg : Glob w) : Calls Tryd.prog 6 #[.int .i64 a, .int .i64 b, .int .i64 x, .int .i64 y, .int .i64 kn, .string s] w fun e w' => e = .returned (.bool true) ∧ Below w.heap.size w w' := by
  have HG := Lib.hid hg
  have hr0 : 0 ≤ kn % 19 := Int.emod_nonneg _ (by decide)
  have hr1 : kn % 19 < 19 := Int.emod_lt_of_pos _ (by decide)
  have hP := Lib.hid (pick_any w kn 19 (by decide) (by decide))
  generalize kn % 19 = r at *
  have hX := Lib.hid (hash_any w x)
  clear hg
  go_enter Tryd.func6, Tryd.ntmps6
  go_wp2_with fail
  refine hP.out.mono ?_
  rintro e _ ⟨rfl, rfl⟩
  go_wp2_with fail
  refine hX.out.mono ?_
  rintro e w1 ⟨rfl, R⟩
  have B1 := Lib.hid R
  have hY := Lib.hid (hash_any w1 y)
  clear R hX hP
  go_wp2_with fail
  refine hY.out.mono ?_
  rintro e w2 ⟨rfl, R⟩
  have B2 := Lib.hid (B1.out.trans (R.mono B1.out.size))
  have hO := Lib.hid (of_ch w2 (hsh y) (hsh_size y) [] (kind (1 + r)) (base_kind _) (meas_kind _ _) trivial)
  clear R hY B1
  go_wp2_with fail
  refine hO.out.mono ?_
  rintro e w3 ⟨p1, rfl, R1, R2, R3⟩
  have B3 := Lib.hid (B2.out.trans (R2.mono B2.out.size))
  have hA := Lib.hid (at_ch w3 b _ (kind (1 + r)) (base_kind _) R3 R1)
  clear R1 R2 R3 hO B2
  go_wp2_with fail
  refine hA.out.mono ?_
  rintro e w4 ⟨rfl, R1, R2, R3⟩
  have B4 := Lib.hid (B3.out.trans (R2.mono B3.out.size))
  have hW := Lib.hid (wrap_ch w4 s _ (kind (1 + r)) (base_kind _) R3 R1)
  clear R1 R2 R3 hA B3
  go_wp2_with fail
  refine hW.out.mono ?_
  rintro e w5 ⟨rfl, R1, R2, R3⟩
  have B5 := Lib.hid (B4.out.trans (R2.mono B4.out.size))
  have hO := Lib.hid (of_ch w5 (hsh x) (hsh_size x) _ (kind (1 + r)) (base_kind _) R3 R1)
  clear R1 R2 R3 hW B4
  go_wp2_with fail
  refine hO.out.mono ?_
  rintro e w6 ⟨p4, rfl, R1, R2, R3⟩
  have B6 := Lib.hid (B5.out.trans (R2.mono B5.out.size))
  have hA := Lib.hid (at_ch w6 a _ (kind (1 + r)) (base_kind _) R3 R1)
  clear R1 R2 R3 hO B5
  go_wp2_with fail
  refine hA.out.mono ?_
  rintro e w7 ⟨rfl, R1, R2, R3⟩
  have B7 := Lib.hid (B6.out.trans (R2.mono B6.out.size))
  have hWh := C.where_any w7 _ _ (base_kind _) (HG.out.kb B7.out) R1 (by simp)
  rw [show ∀ L n p, (fplace (.place p n :: L)).getD 0 = n from fun _ _ _ => rfl, show ∀ L n p, (fplace (.place p n :: L)).isSome = true from fun _ _ _ => rfl] at hWh
  have HWh := Lib.hid hWh
  have C7 := Lib.hid R1
  clear R1 R2 R3 hA B6 hWh
  go_wp2_with fail
  refine HWh.out.mono ?_
  rintro e w8 ⟨rfl, R⟩
  have B8 := Lib.hid (B7.out.trans (R.mono B7.out.size))
  have C8 := Lib.hid (C7.out.kb R)
  have hWs := C.whose_any w8 _ _ (base_kind _) (HG.out.kb B8.out) C8.out (by simp) (by intro h hh; cases hh; exact hsh_one x)
  rw [show ∀ L q p n m, (fwhich (.place m n :: .which p q :: L)).getD zeros = q from fun _ _ _ _ _ => rfl, show ∀ L q p n m, (fwhich (.place m n :: .which p q :: L)).isSome = true from fun _ _ _ _ _ => rfl] at hWs
  have HWs := Lib.hid hWs
  clear R HWh B7 C7 hWs
  have hst := st_cells (hsh x) (hsh_size x) (hsh_one x)
  go_wp2_with fail
  refine HWs.out.mono ?_
  rintro e w9 ⟨rfl, R⟩
  have B9 := Lib.hid (B8.out.trans (R.mono B8.out.size))
  have C9 := Lib.hid (C8.out.kb R)
  have RW := Lib.hid (heap_alloc_last w9 (.cells (hsh x) 23))
  have BA := Lib.hid ((Below.refl w9.heap.size w9).alloc (Nat.le_refl _) (.cells (hsh x) 23))
  have hS := Lib.hid (C.steps_any (w9.alloc (.cells (hsh x) 23)) _ _ (base_kind _) (HG.out.kb (B9.out.trans (BA.out.mono B9.out.size))) (C9.out.kb BA.out) (by simp))
  clear R HWs B8 C8
  go_wp2_with fail
  refine hS.out.mono ?_
  rintro e wa ⟨v, rfl, R1, R2⟩
  obtain ⟨g, cap, rfl, hcs⟩ := own_one R1
  have Ba := Lib.hid (B9.out.trans ((BA.out.trans (R2.mono BA.out.size)).mono B9.out.size))
  have Ca := Lib.hid ((C9.out.kb BA.out).kb R2)
  have HCS := Lib.hid hcs
  have RWa := Lib.hid ((R2.block w9.heap.size (by simp)).trans RW.out)
  have FX := Lib.hid (Fx.drew (⟨Ba.out, HG.out.kb Ba.out, Ca.out, HCS.out, RWa.out⟩ : Fx w _ _ g s w9.heap.size (hsh x) wa))
  have heq := eq_self (hsh x) (hsh_byt x)
  have hgd := guard_hash
  have hc0 := FX.out.str
  have hr0 := range_row FX.out.row
  have hu := Tryd.underlying23
  have hi := size_hash' (hsh x) (hsh_size x)
  clear R1 R2 hS B9 C9 BA RW hst hcs HCS RWa Ca Ba
  go_wp2_with fail
  go_region_held3 (fun W => W.cell? ⟨g, 0, none⟩ = some (.string s) ∧ W.rangeAt w9.heap.size 0 (hsh x).toList) (exact ⟨by assumption, by assumption⟩)
    ((first
    | (go_at_call 10; (have hk := known_any C _ FX.out.glob); refine hk.mono ?_; rintro e wb ⟨rfl, R⟩; have F1 := Lib.hid (FX.out.kb R); clear R hk; have hc1 := F1.out.str; have hr1 := range_row F1.out.row)
    | (go_at_call 20; (have hk := hash_any wb x); refine hk.mono ?_; rintro e wc ⟨rfl, R⟩; have F2 := Lib.hid (F1.out.kb R); clear R hk; have hc2 := F2.out.str; have hr2 := range_row F2.out.row)
    | (go_at_call 15; (have hk := C.kind_any _ _ _ base_strange F4.out.glob CE.out (by simp)); refine hk.mono ?_; rintro e wf ⟨rfl, R⟩; have F5 := Lib.hid (F4.out.kb R); clear R hk; have hc5 := F5.out.str; have hr5 := range_row F5.out.row; rw [show kindOf (.iface 65 (.agg #[])) = 1 from rfl])
    | (go_at_call 15; (have hk := C.kind_any _ _ _ (base_kind _) F2.out.glob F2.out.ch (by simp)); refine hk.mono ?_; rintro e wd ⟨rfl, R⟩; have F3 := Lib.hid (F2.out.kb R); clear R hk; have hc3 := F3.out.str; have hr3 := range_row F3.out.row; rw [show ∀ k, kindOf (kind k) = k from fun _ => rfl])
    | (go_at_call 7; (have hk := wrap_ch wd s [] _ base_strange (Nat.zero_le _) trivial); refine hk.mono ?_; rintro e we ⟨rfl, R1, R2, R3⟩; have F4 := Lib.hid (F3.out.kb R2); have CE := Lib.hid R1; clear R1 R2 R3 hk; have hc4 := F4.out.str; have hr4 := range_row F4.out.row)))
  all_goals
    go_wp2
    go_ret
    exact ⟨rfl, F5.out.bel⟩
end Go.Proofs.YtageblggakfbdaaDoor
