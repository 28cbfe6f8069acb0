/- HexBack returns true and makes new memory alone. No condition. -/
import Derived.Test.YtgnagpohogiodaaHexC
import Derived.Test.YtgnagpohogiodaaHexP
import Derived.Test.YtgnagpohogiodaaHexE
import Derived.Deep.RegionHeld3
namespace Go.Proofs.Ytgnagpohogiodaa
open Go.RowKit
attribute [local go_sem ↓] hld_open heq_open hne_open

theorem slice_str (s : List UInt8) (j : Int) (h0 : 0 ≤ j) (h1 : j ≤ s.length) (w : World) : (Instr.slice 9 (.string ⟨s.toArray⟩) none (some (.int .i64 j)) none).run Try.prog w = .ok (.string ⟨(s.take j.toNat).toArray⟩) w := by
  have hs : (⟨s.toArray⟩ : ByteArray).size = s.length := rfl
  have e : (⟨s.toArray⟩ : ByteArray).extract 0 j.toNat = ⟨(s.take j.toNat).toArray⟩ := by
    apply ByteArray.ext
    rw [ByteArray.data_extract]
    simp
  simp [Instr.slice, run_underlying Try.underlying9, go_sem, h0, h1, hs, e]

/-- What the last statement's loads read. -/
def TwoR (p q : Nat) (a b : List UInt8) (W : World) : Prop := W.rangeAt p 0 (us (nm a)) ∧ W.rangeAt q 0 (us (nm b))
theorem cell_kb {w w' : World} {a : Addr} {u : Value} (h : w.cell? a = some u) (hb : Below w.heap.size w w') : w'.cell? a = some u := by
  rw [World.cell?_of_block (w := w) (hb.block _ (World.block_lt_of_cell? w _ h))]; exact h
theorem range_kb {w w' : World} {b o : Nat} {cs : List Value} (h : w.rangeAt b o cs) (hb : Below w.heap.size w w') : w'.rangeAt b o cs := fun j v hv => cell_kb (h j v hv) hb
theorem two_kb {w w' : World} {p q : Nat} {x y : List Value} (h : w.rangeAt p 0 x ∧ w.rangeAt q 0 y) (hb : Below w.heap.size w w') : w'.rangeAt p 0 x ∧ w'.rangeAt q 0 y := ⟨range_kb h.1 hb, range_kb h.2 hb⟩
theorem hi_hv {a : List UInt8} (ha : a.length = 32) : (Try.prog.info? 23).map (·.size) = some (us (nm a)).length := by rw [← hv_list]; exact hinfo' (hv a) (by rw [hv_size, ha])
theorem two_tx {a b : List UInt8} (ha : a.length = 32) (hb : b.length = 32) : (tx a).isPrefixOf (tx b) = decide (a = b) := by
  rw [pre_full (by rw [tx_length, tx_length, ha, hb]), Bool.eq_iff_iff, decide_eq_true_eq, decide_eq_true_eq]
  exact ⟨fun h => tx_inj h, fun h => by rw [h]⟩
theorem below_dr {n : Nat} {w w' : World} (h : Below n w w') : Below n w w'.drew := ⟨h.os, h.tape, h.output, h.size, h.block⟩
theorem beq_self_bool (x : Bool) : (x == x) = true := by cases x <;> rfl

set_option maxRecDepth 20000 in
set_option maxHeartbeats 4000000 in
theorem hexBack_walk (a b : List UInt8) (ha : a.length = 32) (hb : b.length = 32) (cut : Int) (w : World) : Calls Try.prog 3 #[.agg (hv a), .agg (hv b), .int .i64 cut] w fun e w' => e = .returned (.bool true) ∧ Below w.heap.size w w' := by
  have BA := Lib.hid (((Below.refl w.heap.size w).alloc (Nat.le_refl _) (.cells (hv a) 23)).alloc (by simp) (.cells (hv b) 23))
  have h1 : ((w.alloc (.cells (hv a) 23)).alloc (.cells (hv b) 23)).rangeAt w.heap.size 0 (us (nm a)) := range_keep (range_new' w a 23) (Below.heap_alloc _ _ _ (by simp))
  have h2 := range_new' (w.alloc (.cells (hv a) 23)) b 23
  rw [show (w.alloc (.cells (hv a) 23)).heap.size = w.heap.size + 1 from by simp] at h2
  have H12 := Lib.hid (And.intro h1 h2)
  have hl1 := hld_range ha h1
  have HA := Lib.hid ha
  have HB := Lib.hid hb
  have hst := fun w => hst_cells a ha w
  have hld2 := fun w => hld_row ha (heap_alloc_last w (.cells (hv a) 23))
  have hne := hne_hv ha ha
  have hgd := hne_guard
  have hsz : (hv a).size = 32 := by rw [hv_size, ha]
  have hk64 : (⟨(tx a).toArray⟩ : ByteArray).size = 64 := by show (tx a).length = 64; rw [tx_length, ha]
  clear ha hb h1 h2
  go_enter Try.func3, Try.ntmps3
  go_wp2_with fail
  generalize (w.alloc (.cells (hv a) 23)).alloc (.cells (hv b) 23) = w0 at *
  refine (text_to w0 a HA.out).mono ?_
  rintro e w1 ⟨rfl, b1⟩
  have HP := parse_good w1 (tx a) (by rw [tx_length, HA.out]) (tx_pre a HA.out)
  rw [unh_tx] at HP
  have HPP := Lib.hid HP
  have B1 := Lib.hid b1
  clear HP b1 hl1
  go_wp2_with fail
  refine HPP.out.mono ?_
  rintro e w2 ⟨rfl, b2⟩
  have b2' := b2.trans (((Below.refl w2.heap.size w2).alloc (Nat.le_refl _) (.cells (hv a) 23)).mono b2.size)
  have B2 := Lib.hid (B1.out.trans (b2'.mono B1.out.size))
  have H2 := Lib.hid (two_kb H12.out B2.out)
  have B2W := Lib.hid (BA.out.trans (B2.out.mono BA.out.size))
  have hl2 := hld_row HA.out (heap_alloc_last w2 (.cells (hv a) 23))
  have hl3 := hld_range HA.out H2.out.1
  have hs2 := hst w2
  have HK := Lib.hid (known_to (w2.alloc (.cells (hv a) 23)))
  have HI := pre_any (w2.alloc (.cells (hv a) 23)) ⟨(tx a).toArray⟩
  rw [show pre (⟨(tx a).toArray⟩ : ByteArray).data.toList = true from tx_pre a HA.out] at HI
  have HII := Lib.hid HI
  clear b2 b2' HI hst hld2 HPP
  go_wp2_with (first
    | (go_at_call 8; refine HK.out.mono ?_; rintro e w' ⟨rfl, rfl⟩)
    | (go_at_call 9; refine HII.out.mono ?_; rintro e w' ⟨rfl, rfl⟩))
  have hkk : ∃ k, k = cut % 65 := ⟨_, rfl⟩
  obtain ⟨k, hk⟩ := hkk
  have hk0 : 0 ≤ k := by omega
  have hk1 : k ≤ (tx a).length := by rw [tx_length, HA.out]; omega
  have HKK := Lib.hid hk.symm
  clear hk
  have hsl := slice_str (tx a) k hk0 hk1
  generalize hw3 : w2.alloc (.cells (hv a) 23) = w3 at *
  have HW3 := Lib.hid hw3
  have heq := heq_hv HA.out HB.out
  have hgd2 := heq_guard
  have hbb := fun (x : Bool) => beq_self_bool x
  have hu := Try.underlying23
  have hia := hi_hv HA.out
  have hib := hi_hv HB.out
  have B2D := Lib.hid (below_dr B2W.out)
  have HBG := begins_to w3.drew a ((tx a).take k.toNat) HA.out
  rw [pre_take] at HBG
  have HG1 := Lib.hid HBG
  obtain ⟨r1, r2⟩ := H2.out
  clear hw3 hl2 hl3 hs2 hne hgd hsz hk64 HBG
  try simp only [List.append]
  refine wp_region_noPanic ?_
  refine wp_region_held_drew (S := (fun W => W.rangeAt w.heap.size 0 (us (nm a)) ∧ W.rangeAt (w.heap.size + 1) 0 (us (nm b)))) (by kernel_rfl) ⟨r1, r2⟩ (fun hHeld => ?_)
  refine wpAnyH_take (i := 0) (v := (.agg (hv a))) (by simp only [List.getElem?_toArray, List.getElem?_cons_zero]; rfl) (by kernel_rfl) (by kernel_rfl) (by kernel_rfl) (fun _ _ _ h => h) (yieldsIf_load_mid (by rfl) _ _ rfl _ _ rfl _ _ (fun _ h => h.1) hu rfl hia) (by assumption) ?_
  try simp only [Act.put, List.setIfInBounds_toArray, List.set_cons_zero, List.set_cons_succ]
  refine wpAnyH_take (i := 1) (v := ?_) (by simp only [List.getElem?_toArray, List.getElem?_cons_succ, List.getElem?_cons_zero]; rfl) (by kernel_rfl) (by kernel_rfl) (by kernel_rfl) (fun _ _ _ h => h) (Or.inl ⟨by rfl, ?_⟩) (by assumption) ?_
  rotate_left
  · intro w hSw
    try dsimp only at hSw
    go_simp
    try with_reducible rfl
  try simp only [Act.put, List.setIfInBounds_toArray, List.set_cons_zero, List.set_cons_succ]
  refine wpAnyH_take (i := 2) (v := ?_) (by simp only [List.getElem?_toArray, List.getElem?_cons_succ, List.getElem?_cons_zero]; rfl) (by kernel_rfl) (by kernel_rfl) (by kernel_rfl) (fun _ _ _ h => h) (Or.inl ⟨by rfl, ?_⟩) (by assumption) ?_
  rotate_left
  · intro w hSw
    try dsimp only at hSw
    go_simp
    try with_reducible rfl
  try simp only [Act.put, List.setIfInBounds_toArray, List.set_cons_zero, List.set_cons_succ]
  refine wpAnyH_ready (rs := [3]) (by kernel_rfl) (by simp) ?_
  refine AllReadyH.cons (by simp only [List.getElem?_toArray, List.getElem?_cons_succ, List.getElem?_cons_zero]; rfl) (fun K hK => ?_) AllReadyH.nil
  go_simp
  refine (pick_to _ cut 65 k (by decide) (by decide) HKK.out).mono ?_
  rintro e w' ⟨rfl, rfl⟩
  go_wp2_with fail
  refine hK.out _ _ ⟨r1, r2⟩ (fun hHeld => ?_)
  clear hK K
  try simp only [Act.put, List.setIfInBounds_toArray, List.set_cons_zero, List.set_cons_succ]
  refine wpAnyH_take (i := 4) (v := ?_) (by simp only [List.getElem?_toArray, List.getElem?_cons_succ, List.getElem?_cons_zero]; rfl) (by kernel_rfl) (by kernel_rfl) (by kernel_rfl) (fun _ _ _ h => h) (Or.inl ⟨by rfl, ?_⟩) (by assumption) ?_
  rotate_left
  · intro w hSw
    try dsimp only at hSw
    go_simp
    try with_reducible rfl
  try simp only [Act.put, List.setIfInBounds_toArray, List.set_cons_zero, List.set_cons_succ]
  refine wpAnyH_ready (rs := [5]) (by kernel_rfl) (by simp) ?_
  refine AllReadyH.cons (by simp only [List.getElem?_toArray, List.getElem?_cons_succ, List.getElem?_cons_zero]; rfl) (fun K hK => ?_) AllReadyH.nil
  go_simp
  refine HG1.out.mono ?_
  rintro e w4 ⟨rfl, b4⟩
  obtain ⟨r3, r4⟩ := two_kb (w := w3.drew) ⟨r1, r2⟩ b4
  have B4 := Lib.hid (B2D.out.trans (b4.mono B2D.out.size))
  have hbg2 := begins_to w4 b (tx a) HB.out
  rw [two_tx HA.out HB.out] at hbg2
  have HG2 := Lib.hid hbg2
  clear b4 hbg2
  go_wp2_with fail
  refine hK.out _ _ ⟨r3, r4⟩ (fun hHeld => ?_)
  clear hK K
  try simp only [Act.put, List.setIfInBounds_toArray, List.set_cons_zero, List.set_cons_succ]
  refine wpAnyH_take (i := 6) (v := ?_) (by simp only [List.getElem?_toArray, List.getElem?_cons_succ, List.getElem?_cons_zero]; rfl) (by kernel_rfl) (by kernel_rfl) (by kernel_rfl) (fun _ _ _ h => h) (Or.inl ⟨by rfl, ?_⟩) (by assumption) ?_
  rotate_left
  · intro w hSw
    try dsimp only at hSw
    go_simp
    try with_reducible rfl
  try simp only [Act.put, List.setIfInBounds_toArray, List.set_cons_zero, List.set_cons_succ]
  refine wpAnyH_take (i := 7) (v := (.agg (hv b))) (by simp only [List.getElem?_toArray, List.getElem?_cons_succ, List.getElem?_cons_zero]; rfl) (by kernel_rfl) (by kernel_rfl) (by kernel_rfl) (fun _ _ _ h => h) (yieldsIf_load_mid (by rfl) _ _ rfl _ _ rfl _ _ (fun _ h => h.2) hu rfl hib) (by assumption) ?_
  try simp only [Act.put, List.setIfInBounds_toArray, List.set_cons_zero, List.set_cons_succ]
  refine wpAnyH_take (i := 8) (v := ?_) (by simp only [List.getElem?_toArray, List.getElem?_cons_succ, List.getElem?_cons_zero]; rfl) (by kernel_rfl) (by kernel_rfl) (by kernel_rfl) (fun _ _ _ h => h) (Or.inl ⟨by rfl, ?_⟩) (by assumption) ?_
  rotate_left
  · intro w hSw
    try dsimp only at hSw
    go_simp
    try with_reducible rfl
  try simp only [Act.put, List.setIfInBounds_toArray, List.set_cons_zero, List.set_cons_succ]
  refine wpAnyH_take (i := 10) (v := (.agg (hv a))) (by simp only [List.getElem?_toArray, List.getElem?_cons_succ, List.getElem?_cons_zero]; rfl) (by kernel_rfl) (by kernel_rfl) (by kernel_rfl) (fun _ _ _ h => h) (yieldsIf_load_mid (by rfl) _ _ rfl _ _ rfl _ _ (fun _ h => h.1) hu rfl hia) (by assumption) ?_
  try simp only [Act.put, List.setIfInBounds_toArray, List.set_cons_zero, List.set_cons_succ]
  refine wpAnyH_take (i := 11) (v := (.agg (hv b))) (by simp only [List.getElem?_toArray, List.getElem?_cons_succ, List.getElem?_cons_zero]; rfl) (by kernel_rfl) (by kernel_rfl) (by kernel_rfl) (fun _ _ _ h => h) (yieldsIf_load_mid (by rfl) _ _ rfl _ _ rfl _ _ (fun _ h => h.2) hu rfl hib) (by assumption) ?_
  try simp only [Act.put, List.setIfInBounds_toArray, List.set_cons_zero, List.set_cons_succ]
  refine wpAnyH_take (i := 12) (v := ?_) (by simp only [List.getElem?_toArray, List.getElem?_cons_succ, List.getElem?_cons_zero]; rfl) (by kernel_rfl) (by kernel_rfl) (by kernel_rfl) (fun _ _ _ h => h) (Or.inl ⟨by rfl, ?_⟩) (by assumption) ?_
  rotate_left
  · intro w hSw
    try dsimp only at hSw
    go_simp
    try with_reducible rfl
  try simp only [Act.put, List.setIfInBounds_toArray, List.set_cons_zero, List.set_cons_succ]
  refine wpAnyH_ready (rs := [9]) (by kernel_rfl) (by simp) ?_
  refine AllReadyH.cons (by simp only [List.getElem?_toArray, List.getElem?_cons_succ, List.getElem?_cons_zero]; rfl) (fun K hK => ?_) AllReadyH.nil
  go_simp
  refine HG2.out.mono ?_
  rintro e w5 ⟨rfl, b5⟩
  obtain ⟨r5, r6⟩ := two_kb ⟨r3, r4⟩ b5
  have B5 := Lib.hid (B4.out.trans (b5.mono B4.out.size))
  have HG3 := Lib.hid (text_to w5 b HB.out)
  clear b5
  go_wp2_with fail
  refine hK.out _ _ ⟨r5, r6⟩ (fun hHeld => ?_)
  clear hK K
  try simp only [Act.put, List.setIfInBounds_toArray, List.set_cons_zero, List.set_cons_succ]
  refine wpAnyH_take (i := 13) (v := ?_) (by simp only [List.getElem?_toArray, List.getElem?_cons_succ, List.getElem?_cons_zero]; rfl) (by kernel_rfl) (by kernel_rfl) (by kernel_rfl) (fun _ _ _ h => h) (Or.inl ⟨by rfl, ?_⟩) (by assumption) ?_
  rotate_left
  · intro w hSw
    try dsimp only at hSw
    go_simp
    try with_reducible rfl
  try simp only [Act.put, List.setIfInBounds_toArray, List.set_cons_zero, List.set_cons_succ]
  refine wpAnyH_take (i := 14) (v := .bool true) (by simp only [List.getElem?_toArray, List.getElem?_cons_succ, List.getElem?_cons_zero]; rfl) (by kernel_rfl) (by kernel_rfl) (by kernel_rfl) (fun _ _ _ h => h) (Or.inl ⟨by rfl, ?_⟩) (by assumption) ?_
  · intro w hSw
    try dsimp only at hSw
    go_simp
  try simp only [Act.put, List.setIfInBounds_toArray, List.set_cons_zero, List.set_cons_succ]
  refine wpAnyH_take (i := 15) (v := ?_) (by simp only [List.getElem?_toArray, List.getElem?_cons_succ, List.getElem?_cons_zero]; rfl) (by kernel_rfl) (by kernel_rfl) (by kernel_rfl) (fun _ _ _ h => h) (Or.inl ⟨by rfl, ?_⟩) (by assumption) ?_
  rotate_left
  · intro w hSw
    try dsimp only at hSw
    go_simp
    try with_reducible rfl
  try simp only [Act.put, List.setIfInBounds_toArray, List.set_cons_zero, List.set_cons_succ]
  refine wpAnyH_take (i := 16) (v := (.agg (hv b))) (by simp only [List.getElem?_toArray, List.getElem?_cons_succ, List.getElem?_cons_zero]; rfl) (by kernel_rfl) (by kernel_rfl) (by kernel_rfl) (fun _ _ _ h => h) (yieldsIf_load_mid (by rfl) _ _ rfl _ _ rfl _ _ (fun _ h => h.2) hu rfl hib) (by assumption) ?_
  try simp only [Act.put, List.setIfInBounds_toArray, List.set_cons_zero, List.set_cons_succ]
  refine wpAnyH_take (i := 18) (v := ?_) (by simp only [List.getElem?_toArray, List.getElem?_cons_succ, List.getElem?_cons_zero]; rfl) (by kernel_rfl) (by kernel_rfl) (by kernel_rfl) (fun _ _ _ h => h) (Or.inl ⟨by rfl, ?_⟩) (by assumption) ?_
  rotate_left
  · intro w hSw
    try dsimp only at hSw
    go_simp
    try with_reducible rfl
  try simp only [Act.put, List.setIfInBounds_toArray, List.set_cons_zero, List.set_cons_succ]
  refine wpAnyH_take (i := 20) (v := (.agg (hv b))) (by simp only [List.getElem?_toArray, List.getElem?_cons_succ, List.getElem?_cons_zero]; rfl) (by kernel_rfl) (by kernel_rfl) (by kernel_rfl) (fun _ _ _ h => h) (yieldsIf_load_mid (by rfl) _ _ rfl _ _ rfl _ _ (fun _ h => h.2) hu rfl hib) (by assumption) ?_
  try simp only [Act.put, List.setIfInBounds_toArray, List.set_cons_zero, List.set_cons_succ]
  refine wpAnyH_take (i := 21) (v := (.agg (hv a))) (by simp only [List.getElem?_toArray, List.getElem?_cons_succ, List.getElem?_cons_zero]; rfl) (by kernel_rfl) (by kernel_rfl) (by kernel_rfl) (fun _ _ _ h => h) (yieldsIf_load_mid (by rfl) _ _ rfl _ _ rfl _ _ (fun _ h => h.1) hu rfl hia) (by assumption) ?_
  try simp only [Act.put, List.setIfInBounds_toArray, List.set_cons_zero, List.set_cons_succ]
  refine wpAnyH_ready (rs := [17]) (by kernel_rfl) (by simp) ?_
  refine AllReadyH.cons (by simp only [List.getElem?_toArray, List.getElem?_cons_succ, List.getElem?_cons_zero]; rfl) (fun K hK => ?_) AllReadyH.nil
  go_simp
  refine HG3.out.mono ?_
  rintro e w6 ⟨rfl, b6⟩
  obtain ⟨r7, r8⟩ := two_kb ⟨r5, r6⟩ b6
  have B6 := Lib.hid (B5.out.trans (b6.mono B5.out.size))
  have hls := less_to w6 b a HB.out HA.out
  rw [← tx_less b a (by rw [HA.out, HB.out])] at hls
  have HG4 := Lib.hid hls
  clear b6 hls
  go_wp2_with fail
  refine hK.out _ _ ⟨r7, r8⟩ (fun hHeld => ?_)
  clear hK K
  try simp only [Act.put, List.setIfInBounds_toArray, List.set_cons_zero, List.set_cons_succ]
  refine wpAnyH_take (i := 19) (v := ?_) (by simp only [List.getElem?_toArray, List.getElem?_cons_succ, List.getElem?_cons_zero]; rfl) (by kernel_rfl) (by kernel_rfl) (by kernel_rfl) (fun _ _ _ h => h) (Or.inl ⟨by rfl, ?_⟩) (by assumption) ?_
  rotate_left
  · intro w hSw
    try dsimp only at hSw
    go_simp
    try with_reducible rfl
  try simp only [Act.put, List.setIfInBounds_toArray, List.set_cons_zero, List.set_cons_succ]
  refine wpAnyH_ready (rs := [22]) (by kernel_rfl) (by simp) ?_
  refine AllReadyH.cons (by simp only [List.getElem?_toArray, List.getElem?_cons_succ, List.getElem?_cons_zero]; rfl) (fun K hK => ?_) AllReadyH.nil
  go_simp
  refine HG4.out.mono ?_
  rintro e w7 ⟨rfl, b7⟩
  obtain ⟨r9, r10⟩ := two_kb ⟨r7, r8⟩ b7
  have B7 := Lib.hid (B6.out.trans (b7.mono B6.out.size))
  clear b7
  go_wp2_with fail
  refine hK.out _ _ ⟨r9, r10⟩ (fun hHeld => ?_)
  clear hK K
  try simp only [Act.put, List.setIfInBounds_toArray, List.set_cons_zero, List.set_cons_succ]
  refine wpAnyH_take (i := 23) (v := ?_) (by simp only [List.getElem?_toArray, List.getElem?_cons_succ, List.getElem?_cons_zero]; rfl) (by kernel_rfl) (by kernel_rfl) (by kernel_rfl) (fun _ _ _ h => h) (Or.inl ⟨by rfl, ?_⟩) (by assumption) ?_
  rotate_left
  · intro w hSw
    try dsimp only at hSw
    go_simp
    try with_reducible rfl
  try simp only [Act.put, List.setIfInBounds_toArray, List.set_cons_zero, List.set_cons_succ]
  refine wpAnyH_take (i := 24) (v := .bool true) (by simp only [List.getElem?_toArray, List.getElem?_cons_succ, List.getElem?_cons_zero]; rfl) (by kernel_rfl) (by kernel_rfl) (by kernel_rfl) (fun _ _ _ h => h) (Or.inl ⟨by rfl, ?_⟩) (by assumption) ?_
  · intro w hSw
    try dsimp only at hSw
    go_simp
  try simp only [Act.put, List.setIfInBounds_toArray, List.set_cons_zero, List.set_cons_succ]
  refine wpAnyH_take (i := 25) (v := ?_) (by simp only [List.getElem?_toArray, List.getElem?_cons_succ, List.getElem?_cons_zero]; rfl) (by kernel_rfl) (by kernel_rfl) (by kernel_rfl) (fun _ _ _ h => h) (Or.inl ⟨by rfl, ?_⟩) (by assumption) ?_
  rotate_left
  · intro w hSw
    try dsimp only at hSw
    go_simp
    try with_reducible rfl
  try simp only [Act.put, List.setIfInBounds_toArray, List.set_cons_zero, List.set_cons_succ]
  refine wpAnyH_done (by kernel_rfl) ?_ _
  refine NoPanic.normal ?_
  go_wp2
  go_ret
  exact ⟨rfl, B7.out⟩
end Go.Proofs.Ytgnagpohogiodaa
