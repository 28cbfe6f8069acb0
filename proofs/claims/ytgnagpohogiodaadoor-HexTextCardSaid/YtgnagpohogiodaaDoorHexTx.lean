/- HexText returns true and makes new memory alone. Condition: errors.errorType holds what its text lays. -/
import Derived.Test.YtgnagpohogiodaaDoorHexDg
import Derived.Deep.RegionHeld3
namespace Go.Proofs.YtgnagpohogiodaaDoor
open Go.RowKit
attribute [local go_sem ↓] hld_open heq_open

theorem cell_kb {w w' : World} {a : Addr} {u : Value} (h : w.cell? a = some u) (hb : Below w.heap.size w w') : w'.cell? a = some u := by
  rw [World.cell?_of_block (w := w) (hb.block _ (World.block_lt_of_cell? w _ h))]; exact h
theorem range_kb {w w' : World} {b o : Nat} {cs : List Value} (h : w.rangeAt b o cs) (hb : Below w.heap.size w w') : w'.rangeAt b o cs := fun j v hv => cell_kb (h j v hv) hb
/-- Four arrays in memory. -/
def Four (p q r s : Nat) (x y z u : List Value) (W : World) : Prop := W.rangeAt p 0 x ∧ W.rangeAt q 0 y ∧ W.rangeAt r 0 z ∧ W.rangeAt s 0 u
theorem beq_self_bool (x : Bool) : (x == x) = true := by cases x <;> rfl
theorem four_kb {w w' : World} {p q r s : Nat} {x y z u : List Value} (h : w.rangeAt p 0 x ∧ w.rangeAt q 0 y ∧ w.rangeAt r 0 z ∧ w.rangeAt s 0 u) (hb : Below w.heap.size w w') : w'.rangeAt p 0 x ∧ w'.rangeAt q 0 y ∧ w'.rangeAt r 0 z ∧ w'.rangeAt s 0 u :=
  ⟨range_kb h.1 hb, range_kb h.2.1 hb, range_kb h.2.2.1 hb, range_kb h.2.2.2 hb⟩
theorem hi_hv {a : List UInt8} (ha : a.length = 32) : (Tryd.prog.info? 23).map (·.size) = some (us (nmb a)).length := by rw [← hv_list]; exact hinfo' (hv a) (by rw [hv_size, ha])
theorem row_kb {W W' : World} {H : Nat} {o : Obj} (h : W.heap[H]? = some o) (hb : Below W.heap.size W W') : W'.heap[H]? = some o := (hb.block _ (Array.getElem?_eq_some_iff.1 h).1).trans h
set_option maxRecDepth 20000 in
set_option maxHeartbeats 8000000 in
theorem hexText_walk (a b : List UInt8) (ha : a.length = 32) (hb : b.length = 32) (s : List UInt8) (hsl : s.length ≤ 9223372036854775807) (n cut : Int) (near : Bool) (w : World) (hg : Glob w) :
    Calls Tryd.prog 8 #[.agg (hv a), .agg (hv b), .string ⟨s.toArray⟩, .int .i64 n, .int .i64 cut, .bool near] w fun e w' => e = .returned (.bool true) ∧ Below w.heap.size w w' := by
  have HG := Lib.hid hg
  have BA := Lib.hid (((Below.refl w.heap.size w).alloc (Nat.le_refl _) (.cells (hv a) 23)).alloc (by simp) (.cells (hv b) 23))
  have h1 : ((w.alloc (.cells (hv a) 23)).alloc (.cells (hv b) 23)).heap[w.heap.size]? = some (.cells (hv a) 23 (0, 0)) := (Below.heap_alloc _ _ _ (by simp)).trans (heap_alloc_last w _)
  have h2 := heap_alloc_last (w.alloc (.cells (hv a) 23)) (.cells (hv b) 23)
  rw [show (w.alloc (.cells (hv a) 23)).heap.size = w.heap.size + 1 from by simp] at h2
  have H1 := Lib.hid h1
  have H2 := Lib.hid h2
  have HA := Lib.hid ha
  have HB := Lib.hid hb
  have HSL := Lib.hid hsl
  clear ha hb hsl h1 h2 hg
  cases near
  case' false =>
    go_enter Tryd.func8, Tryd.ntmps8
    go_wp2_with fail
    generalize (w.alloc (.cells (hv a) 23)).alloc (.cells (hv b) 23) = w3 at *
    have B3 := BA
    have R6 : Hid (w3.rangeAt w.heap.size 0 (us (nmb a))) := Lib.hid (by have := range_row H1.out; rwa [hv_list] at this)
    have R7 : Hid (w3.rangeAt (w.heap.size + 1) 0 (us (nmb b))) := Lib.hid (by have := range_row H2.out; rwa [hv_list] at this)
    clear BA H1 H2
    obtain ⟨y, rfl⟩ : ∃ y, y = a := ⟨_, rfl⟩
    obtain ⟨z, rfl⟩ : ∃ z, z = b := ⟨_, rfl⟩
    obtain ⟨u, rfl⟩ : ∃ u, u = s := ⟨_, rfl⟩
    have HY := HA
    have HZ := HB
    have HSU := HSL
    clear HA HB HSL
  case' true =>
    go_enter Tryd.func8, Tryd.ntmps8
    go_wp2_with fail
    generalize (w.alloc (.cells (hv a) 23)).alloc (.cells (hv b) 23) = w0 at *
    refine (hash_to w0 n).mono ?_
    rintro e w1 ⟨rfl, b1⟩
    have B1 := Lib.hid (BA.out.trans (b1.mono BA.out.size))
    have G1 := Lib.hid (row_kb H1.out b1)
    have G2 := Lib.hid (row_kb H2.out b1)
    have HT := Lib.hid (rtext_to w1 (hh n) (hh_length n))
    have htl : (tx (hh n)).length = 64 := by rw [tx_length, hh_length]
    have HTL := Lib.hid htl
    clear b1 htl BA H1 H2
    go_wp2_with fail
    refine HT.out.mono ?_
    rintro e w2 ⟨rfl, b2⟩
    have B2 := Lib.hid (B1.out.trans (b2.mono B1.out.size))
    have G3 := Lib.hid (row_kb G1.out b2)
    have G4 := Lib.hid (row_kb G2.out b2)
    generalize tx (hh n) = t at *
    obtain ⟨k, hk⟩ : ∃ k, k = cut % 65 := ⟨_, rfl⟩
    have hk0 : 0 ≤ k := by omega
    have hk1 : k < 65 := by omega
    have HK := Lib.hid hk.symm
    clear b2 hk HT G1 G2 B1
    go_wp2_with fail
    refine (pick_to _ cut 65 k (by decide) (by decide) HK.out).mono ?_
    rintro e w' ⟨rfl, rfl⟩
    have hs1 := slice_to t k hk0 (by rw [HTL.out]; omega)
    go_wp2_with fail
    refine (hash_to _ _).mono ?_
    rintro e w4 ⟨rfl, b4⟩
    have B4 := Lib.hid (B2.out.trans (b4.mono B2.out.size))
    have G5 := Lib.hid (row_kb G3.out b4)
    have G6 := Lib.hid (row_kb G4.out b4)
    generalize hy : hh _ = y at *
    have HY : Hid (y.length = 32) := Lib.hid (by rw [← hy]; rfl)
    have HT1 : Hid (w4.there w.heap.size 0 (hv y).size) := Lib.hid (by have := there_row G5.out; rwa [hv_size, HA.out, ← HY.out, ← hv_size] at this)
    have B5 : Hid (Below w.heap.size w (w4.setCells w.heap.size 0 (hv y).toList)) := Lib.hid (((Only.of_below (S := fun k => w.heap.size ≤ k) B4.out).setCells (b := w.heap.size) (Nat.le_refl _) _ 0).below (Nat.le_refl _) (fun _ h => h))
    have G7 : Hid ((w4.setCells w.heap.size 0 (hv y).toList).rangeAt w.heap.size 0 (us (nmb y))) := Lib.hid (by rw [← hv_list]; exact World.rangeAt_setCells_same _ _ _ _ (by simpa using HT1.out))
    have G8 : Hid ((w4.setCells w.heap.size 0 (hv y).toList).heap[w.heap.size + 1]? = some (.cells (hv b) 23 (0, 0))) := Lib.hid (((Only.setCells (S := fun k => k = w.heap.size) (b := w.heap.size) rfl (hv y).toList 0 (Only.refl _ w4)).block _ (Array.getElem?_eq_some_iff.1 G6.out).1 (by omega)).trans G6.out)
    clear hy b4 hs1 G3 G4 B2
    go_wp2_with (refine store_to HT1.out (hinfo (hv y) (by rw [hv_size, HY.out])) (hv_one _) ?hx ?hy ?_; (case hx => rfl); (case hy => simp [Act.eval]))
    generalize w4.setCells w.heap.size 0 (hv y).toList = w5 at *
    clear HT1 B4 G5 G6
    refine (hash_to w5 _).mono ?_
    rintro e w6 ⟨rfl, b6⟩
    have B6 := Lib.hid (B5.out.trans (b6.mono B5.out.size))
    have G9 := Lib.hid (row_kb G8.out b6)
    have RY := Lib.hid (range_kb G7.out b6)
    generalize hz : hh n = z at *
    have HZ : Hid (z.length = 32) := Lib.hid (by rw [← hz]; rfl)
    have HT2 : Hid (w6.there (w.heap.size + 1) 0 (hv z).size) := Lib.hid (by have := there_row G9.out; rwa [hv_size, HB.out, ← HZ.out, ← hv_size] at this)
    have B3 : Hid (Below w.heap.size w (w6.setCells (w.heap.size + 1) 0 (hv z).toList)) := Lib.hid (((Only.of_below (S := fun k => w.heap.size ≤ k) B6.out).setCells (b := w.heap.size + 1) (Nat.le_succ _) _ 0).below (Nat.le_refl _) (fun _ h => h))
    have R7 : Hid ((w6.setCells (w.heap.size + 1) 0 (hv z).toList).rangeAt (w.heap.size + 1) 0 (us (nmb z))) := Lib.hid (by rw [← hv_list]; exact World.rangeAt_setCells_same _ _ _ _ (by simpa using HT2.out))
    have R6 : Hid ((w6.setCells (w.heap.size + 1) 0 (hv z).toList).rangeAt w.heap.size 0 (us (nmb y))) := Lib.hid (World.rangeAt_setCells_apart RY.out _ _ _ (.inl (by omega)))
    clear hz b6 G7 G8 G9 RY B5
    go_wp2_with (refine store_to HT2.out (hinfo (hv z) (by rw [hv_size, HZ.out])) (hv_one _) ?hx ?hy ?_; (case hx => rfl); (case hy => simp [Act.eval]))
    generalize w6.setCells (w.heap.size + 1) 0 (hv z).toList = w3 at *
    have HSU : Hid ((t.take k.toNat).length ≤ 9223372036854775807) := Lib.hid (by rw [List.length_take, HTL.out]; omega)
    generalize t.take k.toNat = u at *
    clear HT2 B6 HA HB HSL HTL HK hk0 hk1
  all_goals
    have hp := parse_to w3 u
    have hrp := fun W => rparse_to W u HSU.out
    have hpl := prs_length u
    generalize (prs u).1 = x at *
    generalize (prs u).2 = f at *
    have HP := Lib.hid hp
    have HRP := Lib.hid hrp
    have HX := Lib.hid hpl
    clear hp hrp
    have hst := fun w => hst_cells x HX.out w
    have hsz : (hv x).size = 32 := by rw [hv_size, HX.out]
    refine HP.out.mono ?_
    rintro e w7 ⟨rfl, b7⟩
    have b7' := b7.trans (((Below.refl w7.heap.size w7).alloc (Nat.le_refl _) (.cells (hv x) 23)).mono b7.size)
    have B7 := Lib.hid (B3.out.trans (b7'.mono B3.out.size))
    have X1 : Hid ((w7.alloc (.cells (hv x) 23)).rangeAt w7.heap.size 0 (us (nmb x))) := Lib.hid (range_new' w7 x 23)
    have Y1 := Lib.hid (range_kb R6.out b7')
    have Z1 := Lib.hid (range_kb R7.out b7')
    clear hpl b7 b7' HP R6 R7 B3
    go_wp2_with fail
    generalize w7.alloc (.cells (hv x) 23) = w8 at *
    refine (HRP.out _).mono ?_
    rintro e w9 ⟨rfl, b9⟩
    have b9' := b9.trans (((Below.refl w9.heap.size w9).alloc (Nat.le_refl _) (.cells (hv x) 23)).mono b9.size)
    have B9 := Lib.hid (B7.out.trans (b9'.mono B7.out.size))
    have X2 := Lib.hid (range_kb X1.out b9')
    have Y2 := Lib.hid (range_kb Y1.out b9')
    have Z2 := Lib.hid (range_kb Z1.out b9')
    have U2 : Hid ((w9.alloc (.cells (hv x) 23)).rangeAt w9.heap.size 0 (us (nmb x))) := Lib.hid (range_new' w9 x 23)
    have hs5 := hst w9
    clear b9 b9' hst HRP X1 Y1 Z1 B7
    go_wp2_with fail
    generalize w9.alloc (.cells (hv x) 23) = wa at *
    have heq := heq_hv HX.out HX.out
    have hgd2 := heq_guard
    have hbb := fun (x : Bool) => beq_self_bool x
    have hu := Tryd.underlying23
    have hiy := hi_hv HY.out
    have hiz := hi_hv HZ.out
    have hix := hi_hv HX.out
    have HPR := Lib.hid (fun w => pre_any w ⟨u.toArray⟩)
    have HRPR := Lib.hid (fun w => rpre_any w ⟨u.toArray⟩ HSU.out)
    generalize pre (⟨u.toArray⟩ : ByteArray).data.toList = p at *
    have HKN := Lib.hid (known_to wa.drew)
    have HBD := Lib.hid (below_dr B9.out)
    have HT1 := Lib.hid (text_to wa.drew y HY.out)
    have r1 := Y2.out
    have r2 := Z2.out
    have r3 := X2.out
    have r4 := U2.out
    clear hs5 hsz
    try simp only [List.append]
    refine wp_region_noPanic ?_
    refine wp_region_held_drew (S := (fun W => W.rangeAt w.heap.size 0 (us (nmb y)) ∧ W.rangeAt (w.heap.size + 1) 0 (us (nmb z)) ∧ W.rangeAt w7.heap.size 0 (us (nmb x)) ∧ W.rangeAt w9.heap.size 0 (us (nmb x)))) (by kernel_rfl) ⟨r1, r2, r3, r4⟩ (fun hHeld => ?_)
    refine wpAnyH_ready (rs := [0]) (by kernel_rfl) (by simp) ?_
    refine AllReadyH.cons (by simp only [List.getElem?_toArray, List.getElem?_cons_zero]; rfl) (fun K hK => ?_) AllReadyH.nil
    go_simp
    refine HKN.out.mono ?_
    rintro e w' ⟨rfl, rfl⟩
    go_wp2_with fail
    refine hK.out _ _ ⟨r1, r2, r3, r4⟩ (fun hHeld => ?_)
    clear hK K
    try simp only [Act.put, List.setIfInBounds_toArray, List.set_cons_zero, List.set_cons_succ]
    refine wpAnyH_take (i := 1) (v := ?_) (by simp only [List.getElem?_toArray, List.getElem?_cons_succ, List.getElem?_cons_zero]; rfl) (by kernel_rfl) (by kernel_rfl) (by kernel_rfl) (fun _ _ _ h => h) (Or.inl ⟨by rfl, ?_⟩) (by assumption) ?_
    rotate_left
    · intro w hSw
      try dsimp only at hSw
      go_simp
      try with_reducible rfl
    try simp only [Act.put, List.setIfInBounds_toArray, List.set_cons_zero, List.set_cons_succ]
    refine wpAnyH_take (i := 2) (v := (.agg (hv y))) (by simp only [List.getElem?_toArray, List.getElem?_cons_succ, List.getElem?_cons_zero]; rfl) (by kernel_rfl) (by kernel_rfl) (by kernel_rfl) (fun _ _ _ h => h) (yieldsIf_load_mid (by rfl) _ _ rfl _ _ rfl _ _ (fun _ h => h.1) hu rfl hiy) (by assumption) ?_
    try simp only [Act.put, List.setIfInBounds_toArray, List.set_cons_zero, List.set_cons_succ]
    refine wpAnyH_take (i := 4) (v := (.agg (hv y))) (by simp only [List.getElem?_toArray, List.getElem?_cons_succ, List.getElem?_cons_zero]; rfl) (by kernel_rfl) (by kernel_rfl) (by kernel_rfl) (fun _ _ _ h => h) (yieldsIf_load_mid (by rfl) _ _ rfl _ _ rfl _ _ (fun _ h => h.1) hu rfl hiy) (by assumption) ?_
    try simp only [Act.put, List.setIfInBounds_toArray, List.set_cons_zero, List.set_cons_succ]
    refine wpAnyH_ready (rs := [3]) (by kernel_rfl) (by simp) ?_
    refine AllReadyH.cons (by simp only [List.getElem?_toArray, List.getElem?_cons_succ, List.getElem?_cons_zero]; rfl) (fun K hK => ?_) AllReadyH.nil
    go_simp
    refine HT1.out.mono ?_
    rintro e q1 ⟨rfl, b⟩
    obtain ⟨r1_1, r2_1, r3_1, r4_1⟩ := four_kb (w := wa.drew) ⟨r1, r2, r3, r4⟩ b
    have D1 := Lib.hid (HBD.out.trans (b.mono HBD.out.size))
    have HT2 := Lib.hid (rtext_to q1 y HY.out)
    clear b
    go_wp2_with fail
    refine hK.out _ _ ⟨r1_1, r2_1, r3_1, r4_1⟩ (fun hHeld => ?_)
    clear hK K
    try simp only [Act.put, List.setIfInBounds_toArray, List.set_cons_zero, List.set_cons_succ]
    refine wpAnyH_ready (rs := [5]) (by kernel_rfl) (by simp) ?_
    refine AllReadyH.cons (by simp only [List.getElem?_toArray, List.getElem?_cons_succ, List.getElem?_cons_zero]; rfl) (fun K hK => ?_) AllReadyH.nil
    go_simp
    refine HT2.out.mono ?_
    rintro e q2 ⟨rfl, b⟩
    obtain ⟨r1_2, r2_2, r3_2, r4_2⟩ := four_kb (w := q1) ⟨r1_1, r2_1, r3_1, r4_1⟩ b
    have D2 := Lib.hid (D1.out.trans (b.mono D1.out.size))
    clear b
    go_wp2_with fail
    refine hK.out _ _ ⟨r1_2, r2_2, r3_2, r4_2⟩ (fun hHeld => ?_)
    clear hK K
    try simp only [Act.put, List.setIfInBounds_toArray, List.set_cons_zero, List.set_cons_succ]
    refine wpAnyH_take (i := 6) (v := ?_) (by simp only [List.getElem?_toArray, List.getElem?_cons_succ, List.getElem?_cons_zero]; rfl) (by kernel_rfl) (by kernel_rfl) (by kernel_rfl) (fun _ _ _ h => h) (Or.inl ⟨by rfl, ?_⟩) (by assumption) ?_
    rotate_left
    · intro w hSw
      try dsimp only at hSw
      go_simp
      try with_reducible rfl
    try simp only [Act.put, List.setIfInBounds_toArray, List.set_cons_zero, List.set_cons_succ]
    refine wpAnyH_take (i := 7) (v := .bool true) (by simp only [List.getElem?_toArray, List.getElem?_cons_succ, List.getElem?_cons_zero]; rfl) (by kernel_rfl) (by kernel_rfl) (by kernel_rfl) (fun _ _ _ h => h) (Or.inl ⟨by rfl, ?_⟩) (by assumption) ?_
    · intro w hSw
      try dsimp only at hSw
      go_simp
    try simp only [Act.put, List.setIfInBounds_toArray, List.set_cons_zero, List.set_cons_succ]
    refine wpAnyH_take (i := 8) (v := ?_) (by simp only [List.getElem?_toArray, List.getElem?_cons_succ, List.getElem?_cons_zero]; rfl) (by kernel_rfl) (by kernel_rfl) (by kernel_rfl) (fun _ _ _ h => h) (Or.inl ⟨by rfl, ?_⟩) (by assumption) ?_
    rotate_left
    · intro w hSw
      try dsimp only at hSw
      go_simp
      try with_reducible rfl
    try simp only [Act.put, List.setIfInBounds_toArray, List.set_cons_zero, List.set_cons_succ]
    refine wpAnyH_take (i := 9) (v := (.agg (hv x))) (by simp only [List.getElem?_toArray, List.getElem?_cons_succ, List.getElem?_cons_zero]; rfl) (by kernel_rfl) (by kernel_rfl) (by kernel_rfl) (fun _ _ _ h => h) (yieldsIf_load_mid (by rfl) _ _ rfl _ _ rfl _ _ (fun _ h => h.2.2.1) hu rfl hix) (by assumption) ?_
    try simp only [Act.put, List.setIfInBounds_toArray, List.set_cons_zero, List.set_cons_succ]
    refine wpAnyH_take (i := 10) (v := (.agg (hv x))) (by simp only [List.getElem?_toArray, List.getElem?_cons_succ, List.getElem?_cons_zero]; rfl) (by kernel_rfl) (by kernel_rfl) (by kernel_rfl) (fun _ _ _ h => h) (yieldsIf_load_mid (by rfl) _ _ rfl _ _ rfl _ _ (fun _ h => h.2.2.2) hu rfl hix) (by assumption) ?_
    try simp only [Act.put, List.setIfInBounds_toArray, List.set_cons_zero, List.set_cons_succ]
    refine wpAnyH_take (i := 11) (v := ?_) (by simp only [List.getElem?_toArray, List.getElem?_cons_succ, List.getElem?_cons_zero]; rfl) (by kernel_rfl) (by kernel_rfl) (by kernel_rfl) (fun _ _ _ h => h) (Or.inl ⟨by rfl, ?_⟩) (by assumption) ?_
    rotate_left
    · intro w hSw
      try dsimp only at hSw
      go_simp
      try with_reducible rfl
    try simp only [Act.put, List.setIfInBounds_toArray, List.set_cons_zero, List.set_cons_succ]
    refine wpAnyH_take (i := 12) (v := .bool true) (by simp only [List.getElem?_toArray, List.getElem?_cons_succ, List.getElem?_cons_zero]; rfl) (by kernel_rfl) (by kernel_rfl) (by kernel_rfl) (fun _ _ _ h => h) (Or.inl ⟨by rfl, ?_⟩) (by assumption) ?_
    · intro w hSw
      try dsimp only at hSw
      go_simp
    try simp only [Act.put, List.setIfInBounds_toArray, List.set_cons_zero, List.set_cons_succ]
    refine wpAnyH_take (i := 13) (v := ?_) (by simp only [List.getElem?_toArray, List.getElem?_cons_succ, List.getElem?_cons_zero]; rfl) (by kernel_rfl) (by kernel_rfl) (by kernel_rfl) (fun _ _ _ h => h) (Or.inl ⟨by rfl, ?_⟩) (by assumption) ?_
    rotate_left
    · intro w hSw
      try dsimp only at hSw
      go_simp
      try with_reducible rfl
    try simp only [Act.put, List.setIfInBounds_toArray, List.set_cons_zero, List.set_cons_succ]
    refine wpAnyH_take (i := 14) (v := ?_) (by simp only [List.getElem?_toArray, List.getElem?_cons_succ, List.getElem?_cons_zero]; rfl) (by kernel_rfl) (by kernel_rfl) (by kernel_rfl) (fun _ _ _ h => h) (Or.inl ⟨by rfl, ?_⟩) (by assumption) ?_
    rotate_left
    · intro w hSw
      try dsimp only at hSw
      go_simp
      try with_reducible rfl
    try simp only [Act.put, List.setIfInBounds_toArray, List.set_cons_zero, List.set_cons_succ]
    refine wpAnyH_take (i := 16) (v := ?_) (by simp only [List.getElem?_toArray, List.getElem?_cons_succ, List.getElem?_cons_zero]; rfl) (by kernel_rfl) (by kernel_rfl) (by kernel_rfl) (fun _ _ _ h => h) (Or.inl ⟨by rfl, ?_⟩) (by assumption) ?_
    rotate_left
    · intro w hSw
      try dsimp only at hSw
      go_simp
      try with_reducible rfl
    try simp only [Act.put, List.setIfInBounds_toArray, List.set_cons_zero, List.set_cons_succ]
    refine wpAnyH_ready (rs := [15]) (by kernel_rfl) (by simp) ?_
    refine AllReadyH.cons (by simp only [List.getElem?_toArray, List.getElem?_cons_succ, List.getElem?_cons_zero]; rfl) (fun K hK => ?_) AllReadyH.nil
    go_simp
    refine (khand_any q2 f (HG.out.kb D2.out)).mono ?_
    rintro e q3 ⟨rfl, b⟩
    obtain ⟨r1_3, r2_3, r3_3, r4_3⟩ := four_kb (w := q2) ⟨r1_2, r2_2, r3_2, r4_2⟩ b
    have D3 := Lib.hid (D2.out.trans (b.mono D2.out.size))
    clear b
    go_wp2_with fail
    refine hK.out _ _ ⟨r1_3, r2_3, r3_3, r4_3⟩ (fun hHeld => ?_)
    clear hK K
    try simp only [Act.put, List.setIfInBounds_toArray, List.set_cons_zero, List.set_cons_succ]
    refine wpAnyH_take (i := 17) (v := ?_) (by simp only [List.getElem?_toArray, List.getElem?_cons_succ, List.getElem?_cons_zero]; rfl) (by kernel_rfl) (by kernel_rfl) (by kernel_rfl) (fun _ _ _ h => h) (Or.inl ⟨by rfl, ?_⟩) (by assumption) ?_
    rotate_left
    · intro w hSw
      try dsimp only at hSw
      go_simp
      try with_reducible rfl
    try simp only [Act.put, List.setIfInBounds_toArray, List.set_cons_zero, List.set_cons_succ]
    refine wpAnyH_take (i := 18) (v := .bool true) (by simp only [List.getElem?_toArray, List.getElem?_cons_succ, List.getElem?_cons_zero]; rfl) (by kernel_rfl) (by kernel_rfl) (by kernel_rfl) (fun _ _ _ h => h) (Or.inl ⟨by rfl, ?_⟩) (by assumption) ?_
    · intro w hSw
      try dsimp only at hSw
      go_simp
    try simp only [Act.put, List.setIfInBounds_toArray, List.set_cons_zero, List.set_cons_succ]
    refine wpAnyH_take (i := 19) (v := ?_) (by simp only [List.getElem?_toArray, List.getElem?_cons_succ, List.getElem?_cons_zero]; rfl) (by kernel_rfl) (by kernel_rfl) (by kernel_rfl) (fun _ _ _ h => h) (Or.inl ⟨by rfl, ?_⟩) (by assumption) ?_
    rotate_left
    · intro w hSw
      try dsimp only at hSw
      go_simp
      try with_reducible rfl
    try simp only [Act.put, List.setIfInBounds_toArray, List.set_cons_zero, List.set_cons_succ]
    refine wpAnyH_take (i := 20) (v := ?_) (by simp only [List.getElem?_toArray, List.getElem?_cons_succ, List.getElem?_cons_zero]; rfl) (by kernel_rfl) (by kernel_rfl) (by kernel_rfl) (fun _ _ _ h => h) (Or.inl ⟨by rfl, ?_⟩) (by assumption) ?_
    rotate_left
    · intro w hSw
      try dsimp only at hSw
      go_simp
      try with_reducible rfl
    try simp only [Act.put, List.setIfInBounds_toArray, List.set_cons_zero, List.set_cons_succ]
    refine wpAnyH_take (i := 22) (v := ?_) (by simp only [List.getElem?_toArray, List.getElem?_cons_succ, List.getElem?_cons_zero]; rfl) (by kernel_rfl) (by kernel_rfl) (by kernel_rfl) (fun _ _ _ h => h) (Or.inl ⟨by rfl, ?_⟩) (by assumption) ?_
    rotate_left
    · intro w hSw
      try dsimp only at hSw
      go_simp
      try with_reducible rfl
    try simp only [Act.put, List.setIfInBounds_toArray, List.set_cons_zero, List.set_cons_succ]
    refine wpAnyH_ready (rs := [21]) (by kernel_rfl) (by simp) ?_
    refine AllReadyH.cons (by simp only [List.getElem?_toArray, List.getElem?_cons_succ, List.getElem?_cons_zero]; rfl) (fun K hK => ?_) AllReadyH.nil
    go_simp
    refine (HPR.out _).mono ?_
    rintro e w' ⟨rfl, rfl⟩
    go_wp2_with fail
    refine hK.out _ _ ⟨r1_3, r2_3, r3_3, r4_3⟩ (fun hHeld => ?_)
    clear hK K
    try simp only [Act.put, List.setIfInBounds_toArray, List.set_cons_zero, List.set_cons_succ]
    refine wpAnyH_ready (rs := [23]) (by kernel_rfl) (by simp) ?_
    refine AllReadyH.cons (by simp only [List.getElem?_toArray, List.getElem?_cons_succ, List.getElem?_cons_zero]; rfl) (fun K hK => ?_) AllReadyH.nil
    go_simp
    refine (HRPR.out _).mono ?_
    rintro e w' ⟨rfl, rfl⟩
    go_wp2_with fail
    refine hK.out _ _ ⟨r1_3, r2_3, r3_3, r4_3⟩ (fun hHeld => ?_)
    clear hK K
    try simp only [Act.put, List.setIfInBounds_toArray, List.set_cons_zero, List.set_cons_succ]
    refine wpAnyH_take (i := 24) (v := ?_) (by simp only [List.getElem?_toArray, List.getElem?_cons_succ, List.getElem?_cons_zero]; rfl) (by kernel_rfl) (by kernel_rfl) (by kernel_rfl) (fun _ _ _ h => h) (Or.inl ⟨by rfl, ?_⟩) (by assumption) ?_
    rotate_left
    · intro w hSw
      try dsimp only at hSw
      go_simp
      try with_reducible rfl
    try simp only [Act.put, List.setIfInBounds_toArray, List.set_cons_zero, List.set_cons_succ]
    refine wpAnyH_take (i := 25) (v := .bool true) (by simp only [List.getElem?_toArray, List.getElem?_cons_succ, List.getElem?_cons_zero]; rfl) (by kernel_rfl) (by kernel_rfl) (by kernel_rfl) (fun _ _ _ h => h) (Or.inl ⟨by rfl, ?_⟩) (by assumption) ?_
    · intro w hSw
      try dsimp only at hSw
      go_simp
    try simp only [Act.put, List.setIfInBounds_toArray, List.set_cons_zero, List.set_cons_succ]
    refine wpAnyH_take (i := 26) (v := ?_) (by simp only [List.getElem?_toArray, List.getElem?_cons_succ, List.getElem?_cons_zero]; rfl) (by kernel_rfl) (by kernel_rfl) (by kernel_rfl) (fun _ _ _ h => h) (Or.inl ⟨by rfl, ?_⟩) (by assumption) ?_
    rotate_left
    · intro w hSw
      try dsimp only at hSw
      go_simp
      try with_reducible rfl
    try simp only [Act.put, List.setIfInBounds_toArray, List.set_cons_zero, List.set_cons_succ]
    refine wpAnyH_take (i := 27) (v := (.agg (hv y))) (by simp only [List.getElem?_toArray, List.getElem?_cons_succ, List.getElem?_cons_zero]; rfl) (by kernel_rfl) (by kernel_rfl) (by kernel_rfl) (fun _ _ _ h => h) (yieldsIf_load_mid (by rfl) _ _ rfl _ _ rfl _ _ (fun _ h => h.1) hu rfl hiy) (by assumption) ?_
    try simp only [Act.put, List.setIfInBounds_toArray, List.set_cons_zero, List.set_cons_succ]
    refine wpAnyH_take (i := 28) (v := ?_) (by simp only [List.getElem?_toArray, List.getElem?_cons_succ, List.getElem?_cons_zero]; rfl) (by kernel_rfl) (by kernel_rfl) (by kernel_rfl) (fun _ _ _ h => h) (Or.inl ⟨by rfl, ?_⟩) (by assumption) ?_
    rotate_left
    · intro w hSw
      try dsimp only at hSw
      go_simp
      try with_reducible rfl
    try simp only [Act.put, List.setIfInBounds_toArray, List.set_cons_zero, List.set_cons_succ]
    refine wpAnyH_take (i := 30) (v := (.agg (hv y))) (by simp only [List.getElem?_toArray, List.getElem?_cons_succ, List.getElem?_cons_zero]; rfl) (by kernel_rfl) (by kernel_rfl) (by kernel_rfl) (fun _ _ _ h => h) (yieldsIf_load_mid (by rfl) _ _ rfl _ _ rfl _ _ (fun _ h => h.1) hu rfl hiy) (by assumption) ?_
    try simp only [Act.put, List.setIfInBounds_toArray, List.set_cons_zero, List.set_cons_succ]
    refine wpAnyH_take (i := 31) (v := ?_) (by simp only [List.getElem?_toArray, List.getElem?_cons_succ, List.getElem?_cons_zero]; rfl) (by kernel_rfl) (by kernel_rfl) (by kernel_rfl) (fun _ _ _ h => h) (Or.inl ⟨by rfl, ?_⟩) (by assumption) ?_
    rotate_left
    · intro w hSw
      try dsimp only at hSw
      go_simp
      try with_reducible rfl
    try simp only [Act.put, List.setIfInBounds_toArray, List.set_cons_zero, List.set_cons_succ]
    refine wpAnyH_ready (rs := [29]) (by kernel_rfl) (by simp) ?_
    refine AllReadyH.cons (by simp only [List.getElem?_toArray, List.getElem?_cons_succ, List.getElem?_cons_zero]; rfl) (fun K hK => ?_) AllReadyH.nil
    go_simp
    refine (begins_to q3 y u HY.out).mono ?_
    rintro e q4 ⟨rfl, b⟩
    obtain ⟨r1_4, r2_4, r3_4, r4_4⟩ := four_kb (w := q3) ⟨r1_3, r2_3, r3_3, r4_3⟩ b
    have D4 := Lib.hid (D3.out.trans (b.mono D3.out.size))
    clear b
    go_wp2_with fail
    refine hK.out _ _ ⟨r1_4, r2_4, r3_4, r4_4⟩ (fun hHeld => ?_)
    clear hK K
    try simp only [Act.put, List.setIfInBounds_toArray, List.set_cons_zero, List.set_cons_succ]
    refine wpAnyH_ready (rs := [32]) (by kernel_rfl) (by simp) ?_
    refine AllReadyH.cons (by simp only [List.getElem?_toArray, List.getElem?_cons_succ, List.getElem?_cons_zero]; rfl) (fun K hK => ?_) AllReadyH.nil
    go_simp
    refine (rbegins_to q4 y u HY.out).mono ?_
    rintro e q5 ⟨rfl, b⟩
    obtain ⟨r1_5, r2_5, r3_5, r4_5⟩ := four_kb (w := q4) ⟨r1_4, r2_4, r3_4, r4_4⟩ b
    have D5 := Lib.hid (D4.out.trans (b.mono D4.out.size))
    clear b
    go_wp2_with fail
    refine hK.out _ _ ⟨r1_5, r2_5, r3_5, r4_5⟩ (fun hHeld => ?_)
    clear hK K
    try simp only [Act.put, List.setIfInBounds_toArray, List.set_cons_zero, List.set_cons_succ]
    refine wpAnyH_take (i := 33) (v := ?_) (by simp only [List.getElem?_toArray, List.getElem?_cons_succ, List.getElem?_cons_zero]; rfl) (by kernel_rfl) (by kernel_rfl) (by kernel_rfl) (fun _ _ _ h => h) (Or.inl ⟨by rfl, ?_⟩) (by assumption) ?_
    rotate_left
    · intro w hSw
      try dsimp only at hSw
      go_simp
      try with_reducible rfl
    try simp only [Act.put, List.setIfInBounds_toArray, List.set_cons_zero, List.set_cons_succ]
    refine wpAnyH_take (i := 34) (v := .bool true) (by simp only [List.getElem?_toArray, List.getElem?_cons_succ, List.getElem?_cons_zero]; rfl) (by kernel_rfl) (by kernel_rfl) (by kernel_rfl) (fun _ _ _ h => h) (Or.inl ⟨by rfl, ?_⟩) (by assumption) ?_
    · intro w hSw
      try dsimp only at hSw
      go_simp
    try simp only [Act.put, List.setIfInBounds_toArray, List.set_cons_zero, List.set_cons_succ]
    refine wpAnyH_take (i := 35) (v := ?_) (by simp only [List.getElem?_toArray, List.getElem?_cons_succ, List.getElem?_cons_zero]; rfl) (by kernel_rfl) (by kernel_rfl) (by kernel_rfl) (fun _ _ _ h => h) (Or.inl ⟨by rfl, ?_⟩) (by assumption) ?_
    rotate_left
    · intro w hSw
      try dsimp only at hSw
      go_simp
      try with_reducible rfl
    try simp only [Act.put, List.setIfInBounds_toArray, List.set_cons_zero, List.set_cons_succ]
    refine wpAnyH_take (i := 36) (v := (.agg (hv y))) (by simp only [List.getElem?_toArray, List.getElem?_cons_succ, List.getElem?_cons_zero]; rfl) (by kernel_rfl) (by kernel_rfl) (by kernel_rfl) (fun _ _ _ h => h) (yieldsIf_load_mid (by rfl) _ _ rfl _ _ rfl _ _ (fun _ h => h.1) hu rfl hiy) (by assumption) ?_
    try simp only [Act.put, List.setIfInBounds_toArray, List.set_cons_zero, List.set_cons_succ]
    refine wpAnyH_take (i := 37) (v := (.agg (hv z))) (by simp only [List.getElem?_toArray, List.getElem?_cons_succ, List.getElem?_cons_zero]; rfl) (by kernel_rfl) (by kernel_rfl) (by kernel_rfl) (fun _ _ _ h => h) (yieldsIf_load_mid (by rfl) _ _ rfl _ _ rfl _ _ (fun _ h => h.2.1) hu rfl hiz) (by assumption) ?_
    try simp only [Act.put, List.setIfInBounds_toArray, List.set_cons_zero, List.set_cons_succ]
    refine wpAnyH_take (i := 39) (v := (.agg (hv y))) (by simp only [List.getElem?_toArray, List.getElem?_cons_succ, List.getElem?_cons_zero]; rfl) (by kernel_rfl) (by kernel_rfl) (by kernel_rfl) (fun _ _ _ h => h) (yieldsIf_load_mid (by rfl) _ _ rfl _ _ rfl _ _ (fun _ h => h.1) hu rfl hiy) (by assumption) ?_
    try simp only [Act.put, List.setIfInBounds_toArray, List.set_cons_zero, List.set_cons_succ]
    refine wpAnyH_take (i := 40) (v := (.agg (hv z))) (by simp only [List.getElem?_toArray, List.getElem?_cons_succ, List.getElem?_cons_zero]; rfl) (by kernel_rfl) (by kernel_rfl) (by kernel_rfl) (fun _ _ _ h => h) (yieldsIf_load_mid (by rfl) _ _ rfl _ _ rfl _ _ (fun _ h => h.2.1) hu rfl hiz) (by assumption) ?_
    try simp only [Act.put, List.setIfInBounds_toArray, List.set_cons_zero, List.set_cons_succ]
    refine wpAnyH_ready (rs := [38]) (by kernel_rfl) (by simp) ?_
    refine AllReadyH.cons (by simp only [List.getElem?_toArray, List.getElem?_cons_succ, List.getElem?_cons_zero]; rfl) (fun K hK => ?_) AllReadyH.nil
    go_simp
    refine (less_to q5 y z HY.out HZ.out).mono ?_
    rintro e q6 ⟨rfl, b⟩
    obtain ⟨r1_6, r2_6, r3_6, r4_6⟩ := four_kb (w := q5) ⟨r1_5, r2_5, r3_5, r4_5⟩ b
    have D6 := Lib.hid (D5.out.trans (b.mono D5.out.size))
    clear b
    go_wp2_with fail
    refine hK.out _ _ ⟨r1_6, r2_6, r3_6, r4_6⟩ (fun hHeld => ?_)
    clear hK K
    try simp only [Act.put, List.setIfInBounds_toArray, List.set_cons_zero, List.set_cons_succ]
    refine wpAnyH_ready (rs := [41]) (by kernel_rfl) (by simp) ?_
    refine AllReadyH.cons (by simp only [List.getElem?_toArray, List.getElem?_cons_succ, List.getElem?_cons_zero]; rfl) (fun K hK => ?_) AllReadyH.nil
    go_simp
    refine (rless_to q6 y z HY.out HZ.out).mono ?_
    rintro e q7 ⟨rfl, b⟩
    obtain ⟨r1_7, r2_7, r3_7, r4_7⟩ := four_kb (w := q6) ⟨r1_6, r2_6, r3_6, r4_6⟩ b
    have D7 := Lib.hid (D6.out.trans (b.mono D6.out.size))
    clear b
    go_wp2_with fail
    refine hK.out _ _ ⟨r1_7, r2_7, r3_7, r4_7⟩ (fun hHeld => ?_)
    clear hK K
    try simp only [Act.put, List.setIfInBounds_toArray, List.set_cons_zero, List.set_cons_succ]
    refine wpAnyH_take (i := 42) (v := ?_) (by simp only [List.getElem?_toArray, List.getElem?_cons_succ, List.getElem?_cons_zero]; rfl) (by kernel_rfl) (by kernel_rfl) (by kernel_rfl) (fun _ _ _ h => h) (Or.inl ⟨by rfl, ?_⟩) (by assumption) ?_
    rotate_left
    · intro w hSw
      try dsimp only at hSw
      go_simp
      try with_reducible rfl
    try simp only [Act.put, List.setIfInBounds_toArray, List.set_cons_zero, List.set_cons_succ]
    refine wpAnyH_take (i := 43) (v := .bool true) (by simp only [List.getElem?_toArray, List.getElem?_cons_succ, List.getElem?_cons_zero]; rfl) (by kernel_rfl) (by kernel_rfl) (by kernel_rfl) (fun _ _ _ h => h) (Or.inl ⟨by rfl, ?_⟩) (by assumption) ?_
    · intro w hSw
      try dsimp only at hSw
      go_simp
    try simp only [Act.put, List.setIfInBounds_toArray, List.set_cons_zero, List.set_cons_succ]
    refine wpAnyH_take (i := 44) (v := ?_) (by simp only [List.getElem?_toArray, List.getElem?_cons_succ, List.getElem?_cons_zero]; rfl) (by kernel_rfl) (by kernel_rfl) (by kernel_rfl) (fun _ _ _ h => h) (Or.inl ⟨by rfl, ?_⟩) (by assumption) ?_
    rotate_left
    · intro w hSw
      try dsimp only at hSw
      go_simp
      try with_reducible rfl
    try simp only [Act.put, List.setIfInBounds_toArray, List.set_cons_zero, List.set_cons_succ]
    refine wpAnyH_done (by kernel_rfl) ?_ _
    refine NoPanic.normal ?_
    go_wp2
    go_ret
    exact ⟨rfl, D7.out⟩
end Go.Proofs.YtgnagpohogiodaaDoor
