/- forked: a fork made of a single hash. No condition. -/
import Derived.Test.YtbpccbhlggcmfaaDoorRadF
import Derived.Great.FillDense
namespace Go.Proofs.YtbpccbhlggcmfaaDoor
open Go.RowKit
attribute [local go_sem ↓] hld_open heq_open hne_open

def nplaces : List (Nat × Nat) := [(0, 1), (1, 32), (33, 1), (34, 1)]
theorem built_fill {P : Program} {t : TypeId} {it : TypeInfo} {z : Value} {fs : Array Field} {places : List (Nat × Nat)} (hi : P.info? t = some it) (hz : it.zero = some z) (hu : P.underlying t = some (.struct fs)) (hp : fs.toList.mapM (fun f => (P.info? f.type).map fun i => (f.offset, i.size)) = some places) (parts : List (Nat × Value)) :
    P.built t parts = Instr.fill (places.toArray[·]?) z.cells parts := by
  unfold Program.built
  rw [hi, hu]
  simp only [hz, hp]
theorem ninfo : (Tryd.prog.info? 56).map (fun i => i.zero) = some (some (.agg (nv 0 hz 0 none))) := by kernel_rfl
theorem nfill (parts : List (Nat × Value)) : Tryd.prog.built 56 parts = Instr.fill (nplaces.toArray[·]?) (nv 0 hz 0 none) parts := by
  obtain ⟨it, hi, hz'⟩ := Option.map_eq_some_iff.1 ninfo
  exact built_fill hi hz' Tryd.underlying56 (by kernel_rfl) parts
set_option maxRecDepth 100000 in
theorem nb0 (a : Nat) : Tryd.prog.built 56 [(3, .pointer (some ⟨a, 0, none⟩))] = some (nv 0 hz 0 (some a)) := by rw [nfill]; rfl
def setc (off : Nat) (v : Value) (cs : Array Value) : Array Value := (v.cells.toList.zipIdx 0).foldl (fun cs (x : Value × Nat) => cs.setIfInBounds (off + x.2) x.1) cs
theorem fill_step {place : Nat → Option (Nat × Nat)} {cells : Array Value} {i off size : Nat} {v : Value} {rest : List (Nat × Value)} (hp : place i = some (off, size)) (hs : v.cells.size = size) (hle : off + size ≤ cells.size) :
    Instr.fill place cells ((i, v) :: rest) = Instr.fill place (setc off v cells) rest := by
  rw [Instr.fill]
  simp only [hp]
  rw [if_neg (by rw [hs]; simp; omega)]
  congr 1
  unfold setc
  rw [← Array.foldl_toList, Array.toList_zipIdx]
theorem nb1 (h : List UInt8) (hh : h.length = 32) (m : Int) : Tryd.prog.built 56 [(1, .agg (hv h)), (2, .int .i64 m)] = some (nv 0 h m none) := by
  have hz35 : (nv 0 hz 0 none).size = 35 := rfl
  have h1 := Great.foldl_set 1 (hv h).toList 0 (nv 0 hz 0 none)
  have hs1 : (setc 1 (.agg (hv h)) (nv 0 hz 0 none)).size = 35 := h1.1
  rw [nfill, fill_step (off := 1) (size := 32) rfl (by show (hv h).size = 32; rw [hv_size, hh]) (by rw [hz35]; omega), fill_step (off := 33) (size := 1) rfl rfl (by rw [hs1]; omega)]
  show some (setc 33 (.int .i64 m) (setc 1 (.agg (hv h)) (nv 0 hz 0 none))) = _
  have h2 := Great.foldl_set 33 [.int .i64 m] 0 (setc 1 (.agg (hv h)) (nv 0 hz 0 none))
  congr 1
  apply Array.ext_getElem?
  intro k
  refine (h2.2 k).trans ?_
  rw [hs1]
  have hlen : (nl 0 h m none).length = 35 := nl_length hh
  have hL : (hv h).toList.length = 32 := by rw [Array.length_toList, hv_size, hh]
  have hg : (nv 0 h m none)[k]? = (nl 0 h m none)[k]? := by rw [nv, List.getElem?_toArray]
  rw [hg]
  by_cases e : k = 33
  · subst e
    rw [if_pos (by simp), nl_33 hh]; rfl
  · rw [if_neg (by simp; omega)]
    refine (h1.2 k).trans ?_
    rw [hz35, hL]
    by_cases e1 : 1 ≤ k ∧ k < 33
    · rw [if_pos (by omega)]
      obtain ⟨j, rfl⟩ : ∃ j, k = 1 + j := ⟨k - 1, by omega⟩
      rw [nl_h hh (by omega), hv_list, show 1 + j - (1 + 0) = j from by omega]
    · rw [if_neg (by omega)]
      by_cases e2 : k = 0
      · subst e2; rfl
      · by_cases e3 : k = 34
        · subst e3; rw [nl_34 hh]; rfl
        · rw [List.getElem?_eq_none (by rw [hlen]; omega), Array.getElem?_eq_none (by rw [hz35]; omega)]
theorem pl_set (ws : Fin 16 → Nd) (i : Fin 16) (c : Nd) : (pl ws).set i.val (ptr c) = pl (upw ws i c) := by
  apply List.ext_getElem?
  intro k
  by_cases hk : k < 16
  · have h1 : (pl (upw ws i c))[k]? = some (ptr (upw ws i c ⟨k, hk⟩)) := pl_at _ ⟨k, hk⟩
    rw [h1]
    by_cases e : i.val = k
    · have e2 : (⟨k, hk⟩ : Fin 16) = i := Fin.ext e.symm
      rw [e, List.getElem?_set_self (by rw [pl_length]; exact hk), e2, upw_same]
    · have e2 : (⟨k, hk⟩ : Fin 16) ≠ i := fun h => e (by rw [← h])
      rw [List.getElem?_set_ne e, upw_other _ _ e2]
      exact pl_at ws ⟨k, hk⟩
  · rw [List.getElem?_eq_none (by rw [List.length_set, pl_length]; omega), List.getElem?_eq_none (by rw [pl_length]; omega)]
theorem set_way {W : World} {g : Nat} {ws : Fin 16 → Nd} {t : TypeId} (hg : W.heap[g]? = some (.cells (pvs ws) t (0, 0))) (i : Fin 16) (c : Nd) : (W.setCell ⟨g, i.val, none⟩ (ptr c)).heap[g]? = some (.cells (pvs (upw ws i c)) t (0, 0)) := by
  rw [cells_set hg, pl_set]; rfl
theorem pl_nil : pl (fun _ => .none) = [.pointer none, .pointer none, .pointer none, .pointer none, .pointer none, .pointer none, .pointer none, .pointer none, .pointer none, .pointer none, .pointer none, .pointer none, .pointer none, .pointer none, .pointer none, .pointer none] := rfl
theorem pvs_nil : pvs (fun _ => .none) = #[.pointer none, .pointer none, .pointer none, .pointer none, .pointer none, .pointer none, .pointer none, .pointer none, .pointer none, .pointer none, .pointer none, .pointer none, .pointer none, .pointer none, .pointer none, .pointer none] := rfl
theorem forked_fork (w : World) (b r g : Nat) (k : Int) (hb : w.heap[b]? = some (.cells (nv r hz 0 (some g)) 56 (0, 0))) :
    Calls Tryd.prog 28 #[.pointer (some ⟨b, 0, none⟩), .int .i64 k] w fun e w' => e = .returned (.pointer (some ⟨b, 0, none⟩)) ∧ w = w' := by
  have c34 := nd_34 hz_len hb
  simp only [gptr] at c34
  clear hb
  go_enter Tryd.func28, Tryd.ntmps28
  go_wp2_with fail
  go_ret
  exact ⟨rfl, rfl⟩
/-- A fork of the caller's, made of one hash. -/
def FkPost (w : World) (t : Nd) (d : Fin 16) (e : Ending) (w' : World) : Prop := ∃ b g, e = .returned (.pointer (some ⟨b, 0, none⟩)) ∧ w'.heap[b]? = some (.cells (nv 0 hz 0 (some g)) 56 (0, 0)) ∧ w'.heap[g]? = some (.cells (pvs (lone t d)) 90 (0, 0)) ∧ w.heap.size ≤ b ∧ w.heap.size ≤ g ∧ b ≠ g ∧ Below w.heap.size w w'
set_option maxRecDepth 20000 in
set_option maxHeartbeats 2000000 in
theorem forked_leaf (w : World) (b r k : Nat) (h : List UInt8) (m : Int) (hh : h.length = 32) (hk : k < 64) (hb : w.heap[b]? = some (.cells (nv r h m none) 56 (0, 0))) :
    Calls Tryd.prog 28 #[.pointer (some ⟨b, 0, none⟩), .int .i64 k] w (FkPost w (.leaf b h m) (dig h k)) := by
  have c34 := nd_34 hh hb
  simp only [gptr] at c34
  have hbl := (Array.getElem?_eq_some_iff.1 hb).1
  have bel := ((Below.refl w.heap.size w).alloc (Nat.le_refl _) (.cells (pvs fun _ => .none) 90)).alloc (by simp) (.cells (nv 0 hz 0 (some w.heap.size)) 56)
  have HB := Lib.hid bel
  have hg1 : ((w.alloc (.cells (pvs fun _ => .none) 90)).alloc (.cells (nv 0 hz 0 (some w.heap.size)) 56)).heap[w.heap.size]? = some (.cells (pvs fun _ => .none) 90 (0, 0)) := (Below.heap_alloc _ _ _ (by simp)).trans (heap_alloc_last w _)
  have hb1 : ((w.alloc (.cells (pvs fun _ => .none) 90)).alloc (.cells (nv 0 hz 0 (some w.heap.size)) 56)).heap[w.heap.size + 1]? = some (.cells (nv 0 hz 0 (some w.heap.size)) 56 (0, 0)) := by
    have := heap_alloc_last (w.alloc (.cells (pvs fun _ => .none) 90)) (.cells (nv 0 hz 0 (some w.heap.size)) 56)
    rwa [show (w.alloc (.cells (pvs fun _ => .none) 90)).heap.size = w.heap.size + 1 from by simp] at this
  have HG1 := Lib.hid hg1
  have HB1 := Lib.hid hb1
  have HBB : Hid (((w.alloc (.cells (pvs fun _ => .none) 90)).alloc (.cells (nv 0 hz 0 (some w.heap.size)) 56)).heap[b]? = _) := Lib.hid ((bel.block b hbl).trans hb)
  have HH := Lib.hid hh
  clear hg1 hb1 bel hb hh
  go_enter Tryd.func28, Tryd.ntmps28
  go_wp2_with (refine build_to (vals := #[(3, .pointer (some ⟨w.heap.size, 0, none⟩))]) (nb0 w.heap.size) ?hv ?_; (case hv => simp [Act.eval]))
  rw [← pvs_nil]
  generalize (w.alloc (.cells (pvs fun _ => .none) 90)).alloc (.cells (nv 0 hz 0 (some w.heap.size)) 56) = w0 at *
  have HD := Lib.hid (digit_to w0.drew h k HH.out hk)
  generalize dig h k = i at *
  have hi16 : ((i.val : Nat) : Int) < 16 := by have := i.isLt; omega
  have hs1 := nd_34 (W := w0) hz_len HB1.out
  have hs2 := nd_load (W := w0.drew) HH.out HBB.out
  simp only [gptr] at hs1
  clear hk
  try simp only [List.append]
  refine wp_region_noPanic ?_
  refine wp_region_held_drew (S := (fun W => W.cell? ⟨w.heap.size + 1, 34, none⟩ = some (.pointer (some ⟨w.heap.size, 0, none⟩)) ∧ (hld ⟨b, 1, none⟩).run Tryd.prog W = .ok (.agg (hv h)) W)) (by kernel_rfl) ⟨hs1, hs2⟩ (fun hHeld => ?_)
  refine wpAnyH_take (i := 0) (v := ?_) (by simp only [List.getElem?_toArray, List.getElem?_cons_zero]; rfl) (by kernel_rfl) (by kernel_rfl) (by kernel_rfl) (fun _ _ _ h => h) (Or.inl ⟨by rfl, ?_⟩) (by assumption) ?_
  rotate_left
  · intro w hSw
    try dsimp only at hSw
    go_simp
    try with_reducible rfl
  try simp only [Act.put, List.setIfInBounds_toArray, List.set_cons_zero, List.set_cons_succ]
  refine wpAnyH_take (i := 1) (v := ?_) (by simp only [List.getElem?_toArray, List.getElem?_cons_succ, List.getElem?_cons_zero]; rfl) (by kernel_rfl) (by kernel_rfl) (by kernel_rfl) (fun _ _ _ h => h) (Or.inl ⟨by rfl, ?_⟩) (by assumption) ?_
  rotate_left
  · intro w hSw
    try dsimp only at hSw
    go_simp
    try with_reducible rfl
  try simp only [Act.put, List.setIfInBounds_toArray, List.set_cons_zero, List.set_cons_succ]
  refine wpAnyH_take (i := 2) (v := ?_) (by simp only [List.getElem?_toArray, List.getElem?_cons_succ, List.getElem?_cons_zero]; rfl) (by kernel_rfl) (by kernel_rfl) (by kernel_rfl) (fun _ _ _ h => h) (Or.inl ⟨by rfl, ?_⟩) (by assumption) ?_
  rotate_left
  · intro w hSw
    try dsimp only at hSw
    go_simp
    try with_reducible rfl
  try simp only [Act.put, List.setIfInBounds_toArray, List.set_cons_zero, List.set_cons_succ]
  refine wpAnyH_take (i := 3) (v := ?_) (by simp only [List.getElem?_toArray, List.getElem?_cons_succ, List.getElem?_cons_zero]; rfl) (by kernel_rfl) (by kernel_rfl) (by kernel_rfl) (fun _ _ _ h => h) (Or.inl ⟨by rfl, ?_⟩) (by assumption) ?_
  rotate_left
  · intro w hSw
    try dsimp only at hSw
    go_simp
    try with_reducible rfl
  try simp only [Act.put, List.setIfInBounds_toArray, List.set_cons_zero, List.set_cons_succ]
  refine wpAnyH_take (i := 4) (v := ?_) (by simp only [List.getElem?_toArray, List.getElem?_cons_succ, List.getElem?_cons_zero]; rfl) (by kernel_rfl) (by kernel_rfl) (by kernel_rfl) (fun _ _ _ h => h) (Or.inl ⟨by rfl, ?_⟩) (by assumption) ?_
  rotate_left
  · intro w hSw
    try dsimp only at hSw
    go_simp
    try with_reducible rfl
  try simp only [Act.put, List.setIfInBounds_toArray, List.set_cons_zero, List.set_cons_succ]
  refine wpAnyH_take (i := 5) (v := ?_) (by simp only [List.getElem?_toArray, List.getElem?_cons_succ, List.getElem?_cons_zero]; rfl) (by kernel_rfl) (by kernel_rfl) (by kernel_rfl) (fun _ _ _ h => h) (Or.inl ⟨by rfl, ?_⟩) (by assumption) ?_
  rotate_left
  · intro w hSw
    try dsimp only at hSw
    go_simp
    try with_reducible rfl
  try simp only [Act.put, List.setIfInBounds_toArray, List.set_cons_zero, List.set_cons_succ]
  refine wpAnyH_take (i := 6) (v := ?_) (by simp only [List.getElem?_toArray, List.getElem?_cons_succ, List.getElem?_cons_zero]; rfl) (by kernel_rfl) (by kernel_rfl) (by kernel_rfl) (fun _ _ _ h => h) (Or.inl ⟨by rfl, ?_⟩) (by assumption) ?_
  rotate_left
  · intro w hSw
    try dsimp only at hSw
    go_simp
    try with_reducible rfl
  try simp only [Act.put, List.setIfInBounds_toArray, List.set_cons_zero, List.set_cons_succ]
  refine wpAnyH_take (i := 7) (v := ?_) (by simp only [List.getElem?_toArray, List.getElem?_cons_succ, List.getElem?_cons_zero]; rfl) (by kernel_rfl) (by kernel_rfl) (by kernel_rfl) (fun _ _ _ h => h) (Or.inl ⟨by rfl, ?_⟩) (by assumption) ?_
  rotate_left
  · intro w hSw
    try dsimp only at hSw
    go_simp
    try with_reducible rfl
  try simp only [Act.put, List.setIfInBounds_toArray, List.set_cons_zero, List.set_cons_succ]
  refine wpAnyH_take (i := 8) (v := ?_) (by simp only [List.getElem?_toArray, List.getElem?_cons_succ, List.getElem?_cons_zero]; rfl) (by kernel_rfl) (by kernel_rfl) (by kernel_rfl) (fun _ _ _ h => h) (Or.inl ⟨by rfl, ?_⟩) (by assumption) ?_
  rotate_left
  · intro w hSw
    try dsimp only at hSw
    go_simp
    try with_reducible rfl
  try simp only [Act.put, List.setIfInBounds_toArray, List.set_cons_zero, List.set_cons_succ]
  refine wpAnyH_take (i := 10) (v := ?_) (by simp only [List.getElem?_toArray, List.getElem?_cons_succ, List.getElem?_cons_zero]; rfl) (by kernel_rfl) (by kernel_rfl) (by kernel_rfl) (fun _ _ _ h => h) (Or.inl ⟨by rfl, ?_⟩) (by assumption) ?_
  rotate_left
  · intro w hSw
    try dsimp only at hSw
    go_simp
    try with_reducible rfl
  try simp only [Act.put, List.setIfInBounds_toArray, List.set_cons_zero, List.set_cons_succ]
  refine wpAnyH_take (i := 11) (v := ?_) (by simp only [List.getElem?_toArray, List.getElem?_cons_succ, List.getElem?_cons_zero]; rfl) (by kernel_rfl) (by kernel_rfl) (by kernel_rfl) (fun _ _ _ h => h) (Or.inl ⟨by rfl, ?_⟩) (by assumption) ?_
  rotate_left
  · intro w hSw
    try dsimp only at hSw
    go_simp
    try with_reducible rfl
  try simp only [Act.put, List.setIfInBounds_toArray, List.set_cons_zero, List.set_cons_succ]
  refine wpAnyH_ready (rs := [9]) (by kernel_rfl) (by simp) ?_
  refine AllReadyH.cons (by simp only [List.getElem?_toArray, List.getElem?_cons_succ, List.getElem?_cons_zero]; rfl) (fun K hK => ?_) AllReadyH.nil
  go_simp
  refine HD.out.mono ?_
  rintro e w1 ⟨rfl, b1⟩
  have HG2 := Lib.hid ((b1.block w.heap.size (Array.getElem?_eq_some_iff.1 HG1.out).1).trans HG1.out)
  have HB2 := Lib.hid ((b1.block (w.heap.size + 1) (Array.getElem?_eq_some_iff.1 HB1.out).1).trans HB1.out)
  have HC2 := Lib.hid ((b1.block b (Array.getElem?_eq_some_iff.1 HBB.out).1).trans HBB.out)
  have HX1 : Hid (Below w.heap.size w w1) := Lib.hid (HB.out.trans ((below_drn0 (m := 1) b1).mono HB.out.size))
  have t1 := nd_34 (W := w1) hz_len HB2.out
  have t2 := nd_load (W := w1) HH.out HC2.out
  have t3 := way_at HG2.out i
  have t4 : w1.frozen? ⟨w.heap.size, i.val, none⟩ = false := by simp [World.frozen?, HG2.out]
  rw [ptr_pad, pad_none] at t3
  simp only [gptr] at t1
  clear b1
  go_wp2_with fail
  refine hK.out _ _ ⟨t1, t2⟩ (fun hHeld => ?_)
  clear hK K
  try simp only [Act.put, List.setIfInBounds_toArray, List.set_cons_zero, List.set_cons_succ]
  refine wpAnyH_take (i := 12) (v := ?_) (by simp only [List.getElem?_toArray, List.getElem?_cons_succ, List.getElem?_cons_zero]; rfl) (by kernel_rfl) (by kernel_rfl) (by kernel_rfl) (fun _ _ _ h => h) (Or.inl ⟨by rfl, ?_⟩) (by assumption) ?_
  rotate_left
  · intro w hSw
    try dsimp only at hSw
    go_simp
    try with_reducible rfl
  try simp only [Act.put, List.setIfInBounds_toArray, List.set_cons_zero, List.set_cons_succ]
  refine wpAnyH_ready (rs := [13]) (by kernel_rfl) (by simp) ?_
  refine AllReadyH.cons (by simp only [List.getElem?_toArray, List.getElem?_cons_succ, List.getElem?_cons_zero]; rfl) (fun K hK => ?_) AllReadyH.nil
  go_simp
  refine hK.out _ _ ⟨(World.cell?_setCell_far w1 ⟨w.heap.size, i.val, none⟩ ⟨w.heap.size + 1, 34, none⟩ _ (by simp)).trans t1, nd_load HH.out ((Below.heap_setCell w1 ⟨w.heap.size, i.val, none⟩ _ b (by simp; omega)).trans HC2.out)⟩ (fun hHeld => ?_)
  clear hK K
  try simp only [Act.put, List.setIfInBounds_toArray, List.set_cons_zero, List.set_cons_succ]
  refine wpAnyH_done (by kernel_rfl) ?_ _
  refine NoPanic.normal ?_
  go_wp2_with fail
  go_ret
  refine ⟨w.heap.size + 1, w.heap.size, rfl, (Below.heap_setCell _ _ _ _ (by simp)).trans HB2.out, set_way HG2.out i (.leaf b h m), by omega, by omega, by omega, ?_⟩
  exact ((Only.of_below (S := fun k => w.heap.size ≤ k) HX1.out).setCell (p := ⟨w.heap.size, i.val, none⟩) (Nat.le_refl _) _).below (Nat.le_refl _) (fun _ h => h)
end Go.Proofs.YtbpccbhlggcmfaaDoor
