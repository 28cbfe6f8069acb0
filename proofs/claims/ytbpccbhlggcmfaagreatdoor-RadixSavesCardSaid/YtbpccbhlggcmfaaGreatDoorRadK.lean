/- forked: a fork made of a single hash. No condition. · What place holds to on its way down a tree of digits. No condition. · place and Put of a tree of digits. Condition: the number is at most a million. · New, Put of a tree of digits. Condition: the number is at most a million. -/
import Derived.Test.YtbpccbhlggcmfaaGreatDoorRadF
import Derived.Great.FillDense
namespace Go.Proofs.YtbpccbhlggcmfaaGreatDoor
open Go.RowKit
attribute [local go_sem ↓] hld_open heq_open hne_open

def nplaces : List (Nat × Nat) := [(0, 1), (1, 32), (33, 1), (34, 1)]
theorem built_fill {P : Program} {t : TypeId} {it : TypeInfo} {z : Value} {fs : Array Field} {places : List (Nat × Nat)} (hi : P.info? t = some it) (hz : it.zero = some z) (hu : P.underlying t = some (.struct fs)) (hp : fs.toList.mapM (fun f => (P.info? f.type).map fun i => (f.offset, i.size)) = some places) (parts : List (Nat × Value)) :
    P.built t parts = Instr.fill (places.toArray[·]?) z.cells parts := by
  unfold Program.built
  rw [hi, hu]
  simp only [hz, hp]
theorem ninfo : (Tryz.prog.info? 91).map (fun i => i.zero) = some (some (.agg (nv 0 hz 0 none))) := by kernel_rfl
theorem nfill (parts : List (Nat × Value)) : Tryz.prog.built 91 parts = Instr.fill (nplaces.toArray[·]?) (nv 0 hz 0 none) parts := by
  obtain ⟨it, hi, hz'⟩ := Option.map_eq_some_iff.1 ninfo
  exact built_fill hi hz' Tryz.underlying91 (by kernel_rfl) parts
set_option maxRecDepth 100000 in
theorem nb0 (a : Nat) : Tryz.prog.built 91 [(3, .pointer (some ⟨a, 0, none⟩))] = some (nv 0 hz 0 (some a)) := by rw [nfill]; rfl
def setc (off : Nat) (v : Value) (cs : Array Value) : Array Value := (v.cells.toList.zipIdx 0).foldl (fun cs (x : Value × Nat) => cs.setIfInBounds (off + x.2) x.1) cs
theorem fill_step {place : Nat → Option (Nat × Nat)} {cells : Array Value} {i off size : Nat} {v : Value} {rest : List (Nat × Value)} (hp : place i = some (off, size)) (hs : v.cells.size = size) (hle : off + size ≤ cells.size) :
    Instr.fill place cells ((i, v) :: rest) = Instr.fill place (setc off v cells) rest := by
  rw [Instr.fill]
  simp only [hp]
  rw [if_neg (by rw [hs]; simp; omega)]
  congr 1
  unfold setc
  rw [← Array.foldl_toList, Array.toList_zipIdx]
theorem nb1 (h : List UInt8) (hh : h.length = 32) (m : Int) : Tryz.prog.built 91 [(1, .agg (hv h)), (2, .int .i64 m)] = some (nv 0 h m none) := by
  have hz35 : (nv 0 hz 0 none).size = 35 := rfl
  have h1 := Great.foldl_set 1 (hv h).toList 0 (nv 0 hz 0 none)
  have hs1 : (setc 1 (.agg (hv h)) (nv 0 hz 0 none)).size = 35 := h1.1
  rw [nfill, fill_step (off := 1) (size := 32) rfl (by show (hv h).size = 32; rw [hv_size, hh]) (by rw [hz35]; omega), fill_step (off := 33) (size := 1) rfl rfl (by rw [hs1]; omega)]
  show some (setc 33 (.int .i64 m) (setc 1 (.agg (hv h)) (nv 0 hz 0 none))) = _
  have h2 := Great.foldl_set 33 [.int .i64 m] 0 (setc 1 (.agg (hv h)) (nv 0 hz 0 none))
  congr 1
  apply Array.ext_getElem?
  intro k
  refine (h2.2 k).trans ?_
  rw [hs1]
  have hlen : (nl 0 h m none).length = 35 := nl_length hh
  have hL : (hv h).toList.length = 32 := by rw [Array.length_toList, hv_size, hh]
  have hg : (nv 0 h m none)[k]? = (nl 0 h m none)[k]? := by rw [nv, List.getElem?_toArray]
  rw [hg]
  by_cases e : k = 33
  · subst e
    rw [if_pos (by simp), nl_33 hh]; rfl
  · rw [if_neg (by simp; omega)]
    refine (h1.2 k).trans ?_
    rw [hz35, hL]
    by_cases e1 : 1 ≤ k ∧ k < 33
    · rw [if_pos (by omega)]
      obtain ⟨j, rfl⟩ : ∃ j, k = 1 + j := ⟨k - 1, by omega⟩
      rw [nl_h hh (by omega), hv_list, show 1 + j - (1 + 0) = j from by omega]
    · rw [if_neg (by omega)]
      by_cases e2 : k = 0
      · subst e2; rfl
      · by_cases e3 : k = 34
        · subst e3; rw [nl_34 hh]; rfl
        · rw [List.getElem?_eq_none (by rw [hlen]; omega), Array.getElem?_eq_none (by rw [hz35]; omega)]
theorem pl_set (ws : Fin 16 → Nd) (i : Fin 16) (c : Nd) : (pl ws).set i.val (ptr c) = pl (upw ws i c) := by
  apply List.ext_getElem?
  intro k
  by_cases hk : k < 16
  · have h1 : (pl (upw ws i c))[k]? = some (ptr (upw ws i c ⟨k, hk⟩)) := pl_at _ ⟨k, hk⟩
    rw [h1]
    by_cases e : i.val = k
    · have e2 : (⟨k, hk⟩ : Fin 16) = i := Fin.ext e.symm
      rw [e, List.getElem?_set_self (by rw [pl_length]; exact hk), e2, upw_same]
    · have e2 : (⟨k, hk⟩ : Fin 16) ≠ i := fun h => e (by rw [← h])
      rw [List.getElem?_set_ne e, upw_other _ _ e2]
      exact pl_at ws ⟨k, hk⟩
  · rw [List.getElem?_eq_none (by rw [List.length_set, pl_length]; omega), List.getElem?_eq_none (by rw [pl_length]; omega)]
theorem set_way {W : World} {g : Nat} {ws : Fin 16 → Nd} {t : TypeId} (hg : W.heap[g]? = some (.cells (pvs ws) t (0, 0))) (i : Fin 16) (c : Nd) : (W.setCell ⟨g, i.val, none⟩ (ptr c)).heap[g]? = some (.cells (pvs (upw ws i c)) t (0, 0)) := by
  rw [cells_set hg, pl_set]; rfl
theorem pl_nil : pl (fun _ => .none) = [.pointer none, .pointer none, .pointer none, .pointer none, .pointer none, .pointer none, .pointer none, .pointer none, .pointer none, .pointer none, .pointer none, .pointer none, .pointer none, .pointer none, .pointer none, .pointer none] := rfl
theorem pvs_nil : pvs (fun _ => .none) = #[.pointer none, .pointer none, .pointer none, .pointer none, .pointer none, .pointer none, .pointer none, .pointer none, .pointer none, .pointer none, .pointer none, .pointer none, .pointer none, .pointer none, .pointer none, .pointer none] := rfl
theorem forked_fork (w : World) (b r g : Nat) (k : Int) (hb : w.heap[b]? = some (.cells (nv r hz 0 (some g)) 91 (0, 0))) :
    Calls Tryz.prog 67 #[.pointer (some ⟨b, 0, none⟩), .int .i64 k] w fun e w' => e = .returned (.pointer (some ⟨b, 0, none⟩)) ∧ w = w' := by
  have c34 := nd_34 hz_len hb
  simp only [gptr] at c34
  clear hb
  go_enter Tryz.func67, Tryz.ntmps67
  go_wp2_with fail
  go_ret
  exact ⟨rfl, rfl⟩
/-- A fork of the caller's, made of one hash. -/
def FkPost (w : World) (t : Nd) (d : Fin 16) (e : Ending) (w' : World) : Prop := ∃ b g, e = .returned (.pointer (some ⟨b, 0, none⟩)) ∧ w'.heap[b]? = some (.cells (nv 0 hz 0 (some g)) 91 (0, 0)) ∧ w'.heap[g]? = some (.cells (pvs (lone t d)) 168 (0, 0)) ∧ w.heap.size ≤ b ∧ w.heap.size ≤ g ∧ b ≠ g ∧ Below w.heap.size w w'
set_option maxRecDepth 20000 in
set_option maxHeartbeats 2000000 in
theorem forked_leaf (w : World) (b r k : Nat) (h : List UInt8) (m : Int) (hh : h.length = 32) (hk : k < 64) (hb : w.heap[b]? = some (.cells (nv r h m none) 91 (0, 0))) :
    Calls Tryz.prog 67 #[.pointer (some ⟨b, 0, none⟩), .int .i64 k] w (FkPost w (.leaf b h m) (dig h k)) := by
  have c34 := nd_34 hh hb
  simp only [gptr] at c34
  have hbl := (Array.getElem?_eq_some_iff.1 hb).1
  have bel := ((Below.refl w.heap.size w).alloc (Nat.le_refl _) (.cells (pvs fun _ => .none) 168)).alloc (by simp) (.cells (nv 0 hz 0 (some w.heap.size)) 91)
  have HB := Lib.hid bel
  have hg1 : ((w.alloc (.cells (pvs fun _ => .none) 168)).alloc (.cells (nv 0 hz 0 (some w.heap.size)) 91)).heap[w.heap.size]? = some (.cells (pvs fun _ => .none) 168 (0, 0)) := (Below.heap_alloc _ _ _ (by simp)).trans (heap_alloc_last w _)
  have hb1 : ((w.alloc (.cells (pvs fun _ => .none) 168)).alloc (.cells (nv 0 hz 0 (some w.heap.size)) 91)).heap[w.heap.size + 1]? = some (.cells (nv 0 hz 0 (some w.heap.size)) 91 (0, 0)) := by
    have := heap_alloc_last (w.alloc (.cells (pvs fun _ => .none) 168)) (.cells (nv 0 hz 0 (some w.heap.size)) 91)
    rwa [show (w.alloc (.cells (pvs fun _ => .none) 168)).heap.size = w.heap.size + 1 from by simp] at this
  have HG1 := Lib.hid hg1
  have HB1 := Lib.hid hb1
  have HBB : Hid (((w.alloc (.cells (pvs fun _ => .none) 168)).alloc (.cells (nv 0 hz 0 (some w.heap.size)) 91)).heap[b]? = _) := Lib.hid ((bel.block b hbl).trans hb)
  have HH := Lib.hid hh
  clear hg1 hb1 bel hb hh
  go_enter Tryz.func67, Tryz.ntmps67
  go_wp2_with (refine build_to (vals := #[(3, .pointer (some ⟨w.heap.size, 0, none⟩))]) (nb0 w.heap.size) ?hv ?_; (case hv => simp [Act.eval]))
  rw [← pvs_nil]
  generalize (w.alloc (.cells (pvs fun _ => .none) 168)).alloc (.cells (nv 0 hz 0 (some w.heap.size)) 91) = w0 at *
  have HD := Lib.hid (digit_to w0.drew h k HH.out hk)
  generalize dig h k = i at *
  have hi16 : ((i.val : Nat) : Int) < 16 := by have := i.isLt; omega
  have hs1 := nd_34 (W := w0) hz_len HB1.out
  have hs2 := nd_load (W := w0.drew) HH.out HBB.out
  simp only [gptr] at hs1
  clear hk
  try simp only [List.append]
  refine wp_region_noPanic ?_
  refine wp_region_held_drew (S := (fun W => W.cell? ⟨w.heap.size + 1, 34, none⟩ = some (.pointer (some ⟨w.heap.size, 0, none⟩)) ∧ (hld ⟨b, 1, none⟩).run Tryz.prog W = .ok (.agg (hv h)) W)) (by kernel_rfl) ⟨hs1, hs2⟩ (fun hHeld => ?_)
  refine wpAnyH_take (i := 0) (v := ?_) (by simp only [List.getElem?_toArray, List.getElem?_cons_zero]; rfl) (by kernel_rfl) (by kernel_rfl) (by kernel_rfl) (fun _ _ _ h => h) (Or.inl ⟨by rfl, ?_⟩) (by assumption) ?_
  rotate_left
  · intro w hSw
    try dsimp only at hSw
    go_simp
    try with_reducible rfl
  try simp only [Act.put, List.setIfInBounds_toArray, List.set_cons_zero, List.set_cons_succ]
  refine wpAnyH_take (i := 1) (v := ?_) (by simp only [List.getElem?_toArray, List.getElem?_cons_succ, List.getElem?_cons_zero]; rfl) (by kernel_rfl) (by kernel_rfl) (by kernel_rfl) (fun _ _ _ h => h) (Or.inl ⟨by rfl, ?_⟩) (by assumption) ?_
  rotate_left
  · intro w hSw
    try dsimp only at hSw
    go_simp
    try with_reducible rfl
  try simp only [Act.put, List.setIfInBounds_toArray, List.set_cons_zero, List.set_cons_succ]
  refine wpAnyH_take (i := 2) (v := ?_) (by simp only [List.getElem?_toArray, List.getElem?_cons_succ, List.getElem?_cons_zero]; rfl) (by kernel_rfl) (by kernel_rfl) (by kernel_rfl) (fun _ _ _ h => h) (Or.inl ⟨by rfl, ?_⟩) (by assumption) ?_
  rotate_left
  · intro w hSw
    try dsimp only at hSw
    go_simp
    try with_reducible rfl
  try simp only [Act.put, List.setIfInBounds_toArray, List.set_cons_zero, List.set_cons_succ]
  refine wpAnyH_take (i := 3) (v := ?_) (by simp only [List.getElem?_toArray, List.getElem?_cons_succ, List.getElem?_cons_zero]; rfl) (by kernel_rfl) (by kernel_rfl) (by kernel_rfl) (fun _ _ _ h => h) (Or.inl ⟨by rfl, ?_⟩) (by assumption) ?_
  rotate_left
  · intro w hSw
    try dsimp only at hSw
    go_simp
    try with_reducible rfl
  try simp only [Act.put, List.setIfInBounds_toArray, List.set_cons_zero, List.set_cons_succ]
  refine wpAnyH_take (i := 4) (v := ?_) (by simp only [List.getElem?_toArray, List.getElem?_cons_succ, List.getElem?_cons_zero]; rfl) (by kernel_rfl) (by kernel_rfl) (by kernel_rfl) (fun _ _ _ h => h) (Or.inl ⟨by rfl, ?_⟩) (by assumption) ?_
  rotate_left
  · intro w hSw
    try dsimp only at hSw
    go_simp
    try with_reducible rfl
  try simp only [Act.put, List.setIfInBounds_toArray, List.set_cons_zero, List.set_cons_succ]
  refine wpAnyH_take (i := 5) (v := ?_) (by simp only [List.getElem?_toArray, List.getElem?_cons_succ, List.getElem?_cons_zero]; rfl) (by kernel_rfl) (by kernel_rfl) (by kernel_rfl) (fun _ _ _ h => h) (Or.inl ⟨by rfl, ?_⟩) (by assumption) ?_
  rotate_left
  · intro w hSw
    try dsimp only at hSw
    go_simp
    try with_reducible rfl
  try simp only [Act.put, List.setIfInBounds_toArray, List.set_cons_zero, List.set_cons_succ]
  refine wpAnyH_take (i := 6) (v := ?_) (by simp only [List.getElem?_toArray, List.getElem?_cons_succ, List.getElem?_cons_zero]; rfl) (by kernel_rfl) (by kernel_rfl) (by kernel_rfl) (fun _ _ _ h => h) (Or.inl ⟨by rfl, ?_⟩) (by assumption) ?_
  rotate_left
  · intro w hSw
    try dsimp only at hSw
    go_simp
    try with_reducible rfl
  try simp only [Act.put, List.setIfInBounds_toArray, List.set_cons_zero, List.set_cons_succ]
  refine wpAnyH_take (i := 7) (v := ?_) (by simp only [List.getElem?_toArray, List.getElem?_cons_succ, List.getElem?_cons_zero]; rfl) (by kernel_rfl) (by kernel_rfl) (by kernel_rfl) (fun _ _ _ h => h) (Or.inl ⟨by rfl, ?_⟩) (by assumption) ?_
  rotate_left
  · intro w hSw
    try dsimp only at hSw
    go_simp
    try with_reducible rfl
  try simp only [Act.put, List.setIfInBounds_toArray, List.set_cons_zero, List.set_cons_succ]
  refine wpAnyH_take (i := 8) (v := ?_) (by simp only [List.getElem?_toArray, List.getElem?_cons_succ, List.getElem?_cons_zero]; rfl) (by kernel_rfl) (by kernel_rfl) (by kernel_rfl) (fun _ _ _ h => h) (Or.inl ⟨by rfl, ?_⟩) (by assumption) ?_
  rotate_left
  · intro w hSw
    try dsimp only at hSw
    go_simp
    try with_reducible rfl
  try simp only [Act.put, List.setIfInBounds_toArray, List.set_cons_zero, List.set_cons_succ]
  refine wpAnyH_take (i := 10) (v := ?_) (by simp only [List.getElem?_toArray, List.getElem?_cons_succ, List.getElem?_cons_zero]; rfl) (by kernel_rfl) (by kernel_rfl) (by kernel_rfl) (fun _ _ _ h => h) (Or.inl ⟨by rfl, ?_⟩) (by assumption) ?_
  rotate_left
  · intro w hSw
    try dsimp only at hSw
    go_simp
    try with_reducible rfl
  try simp only [Act.put, List.setIfInBounds_toArray, List.set_cons_zero, List.set_cons_succ]
  refine wpAnyH_take (i := 11) (v := ?_) (by simp only [List.getElem?_toArray, List.getElem?_cons_succ, List.getElem?_cons_zero]; rfl) (by kernel_rfl) (by kernel_rfl) (by kernel_rfl) (fun _ _ _ h => h) (Or.inl ⟨by rfl, ?_⟩) (by assumption) ?_
  rotate_left
  · intro w hSw
    try dsimp only at hSw
    go_simp
    try with_reducible rfl
  try simp only [Act.put, List.setIfInBounds_toArray, List.set_cons_zero, List.set_cons_succ]
  refine wpAnyH_ready (rs := [9]) (by kernel_rfl) (by simp) ?_
  refine AllReadyH.cons (by simp only [List.getElem?_toArray, List.getElem?_cons_succ, List.getElem?_cons_zero]; rfl) (fun K hK => ?_) AllReadyH.nil
  go_simp
  refine HD.out.mono ?_
  rintro e w1 ⟨rfl, b1⟩
  have HG2 := Lib.hid ((b1.block w.heap.size (Array.getElem?_eq_some_iff.1 HG1.out).1).trans HG1.out)
  have HB2 := Lib.hid ((b1.block (w.heap.size + 1) (Array.getElem?_eq_some_iff.1 HB1.out).1).trans HB1.out)
  have HC2 := Lib.hid ((b1.block b (Array.getElem?_eq_some_iff.1 HBB.out).1).trans HBB.out)
  have HX1 : Hid (Below w.heap.size w w1) := Lib.hid (HB.out.trans ((below_drn0 (m := 1) b1).mono HB.out.size))
  have t1 := nd_34 (W := w1) hz_len HB2.out
  have t2 := nd_load (W := w1) HH.out HC2.out
  have t3 := way_at HG2.out i
  have t4 : w1.frozen? ⟨w.heap.size, i.val, none⟩ = false := by simp [World.frozen?, HG2.out]
  rw [ptr_pad, pad_none] at t3
  simp only [gptr] at t1
  clear b1
  go_wp2_with fail
  refine hK.out _ _ ⟨t1, t2⟩ (fun hHeld => ?_)
  clear hK K
  try simp only [Act.put, List.setIfInBounds_toArray, List.set_cons_zero, List.set_cons_succ]
  refine wpAnyH_take (i := 12) (v := ?_) (by simp only [List.getElem?_toArray, List.getElem?_cons_succ, List.getElem?_cons_zero]; rfl) (by kernel_rfl) (by kernel_rfl) (by kernel_rfl) (fun _ _ _ h => h) (Or.inl ⟨by rfl, ?_⟩) (by assumption) ?_
  rotate_left
  · intro w hSw
    try dsimp only at hSw
    go_simp
    try with_reducible rfl
  try simp only [Act.put, List.setIfInBounds_toArray, List.set_cons_zero, List.set_cons_succ]
  refine wpAnyH_ready (rs := [13]) (by kernel_rfl) (by simp) ?_
  refine AllReadyH.cons (by simp only [List.getElem?_toArray, List.getElem?_cons_succ, List.getElem?_cons_zero]; rfl) (fun K hK => ?_) AllReadyH.nil
  go_simp
  refine hK.out _ _ ⟨(World.cell?_setCell_far w1 ⟨w.heap.size, i.val, none⟩ ⟨w.heap.size + 1, 34, none⟩ _ (by simp)).trans t1, nd_load HH.out ((Below.heap_setCell w1 ⟨w.heap.size, i.val, none⟩ _ b (by simp; omega)).trans HC2.out)⟩ (fun hHeld => ?_)
  clear hK K
  try simp only [Act.put, List.setIfInBounds_toArray, List.set_cons_zero, List.set_cons_succ]
  refine wpAnyH_done (by kernel_rfl) ?_ _
  refine NoPanic.normal ?_
  go_wp2_with fail
  go_ret
  refine ⟨w.heap.size + 1, w.heap.size, rfl, (Below.heap_setCell _ _ _ _ (by simp)).trans HB2.out, set_way HG2.out i (.leaf b h m), by omega, by omega, by omega, ?_⟩
  exact ((Only.of_below (S := fun k => w.heap.size ≤ k) HX1.out).setCell (p := ⟨w.heap.size, i.val, none⟩) (Nat.le_refl _) _).below (Nat.le_refl _) (fun _ h => h)
end Go.Proofs.YtbpccbhlggcmfaaGreatDoor
namespace Go.Proofs.YtbpccbhlggcmfaaGreatDoor
open Go.RowKit

/-- The tree behind a put. -/
def PFin (w : World) (tb : Nat) (T : Nd) (ρ : Nat → Nat) (x : Nat) (h : List UInt8) (m : Int) (W : World) (σ : Nat → Nat) : Prop :=
  ∃ T' : Nd, W.heap[tb]? = some (.cells #[ptr T', .int .i64 T.ents.length] 66 (0, 0)) ∧ TA W σ T' ∧ T'.Sep ∧ ¬ T'.Bl tb ∧ PutS [] h m ρ σ T T' ∧ (∀ k, T'.Bl k → T.Bl k ∨ k = x ∨ w.heap.size ≤ k) ∧ Only (fun k => k = tb ∨ T.Bl k) w W
structure PI (w : World) (tb : Nat) (T : Nd) (ρ : Nat → Nat) (x : Nat) (h : List UInt8) (m : Int) (wr : World) (sb so : Nat) (p : List UInt8) (u : Nd) (σ : Nat → Nat) (row : List Value) (ty : TypeId) : Prop where
  ta : TA wr σ u
  wf : u.Wf p
  pre : p <+: tx h
  sep : u.Sep
  single : wr.heap[x]? = some (.cells (nv 0 h m none) 91 (0, 0))
  slot : wr.heap[sb]? = some (.cells row.toArray ty (0, 0))
  slv : row[so]? = some (ptr u)
  nsb : ¬ u.Bl sb
  nx : ¬ u.Bl x
  xsb : x ≠ sb
  sx : σ x = 0
  top : ∃ v, wr.heap[tb]? = some (.cells #[v, .int .i64 T.ents.length] 66 (0, 0))
  ntb : ¬ u.Bl tb
  xtb : x ≠ tb
  lk : u.lk p.length h = T.lk 0 h
  only : Only (fun k => k = tb ∨ T.Bl k) w wr
  bl : ∀ k, u.Bl k → T.Bl k ∨ w.heap.size ≤ k
  sbl : sb = tb ∨ T.Bl sb ∨ w.heap.size ≤ sb
  wand : ∀ (W : World) (τ : Nat → Nat) (c : Nd), W.heap[sb]? = some (.cells (row.set so (ptr c)).toArray ty (0, 0)) → TA W τ c → PutS p h m σ τ u c → c.Sep → (∀ k, c.Bl k → u.Bl k ∨ k = x ∨ wr.heap.size ≤ k) → (∀ k, ¬ u.Bl k → k ≠ x → k < wr.heap.size → τ k = σ k) → Only (fun k => u.Bl k ∨ k = sb) wr W → PFin w tb T ρ x h m W τ
section
variable {w : World} {tb : Nat} {T : Nd} {ρ : Nat → Nat} {x : Nat} {h : List UInt8} {m : Int} {wr : World} {sb so : Nat} {p : List UInt8} {u : Nd} {σ : Nat → Nat} {row : List Value} {ty : TypeId}
theorem PI.start (ht : TT w tb T ρ) (hx : w.heap[x]? = some (.cells (nv 0 h m none) 91 (0, 0))) (hnx : ¬ T.Bl x) (hρ : ρ x = 0) : PI w tb T ρ x h m w tb 0 [] T ρ [ptr T, .int .i64 T.ents.length] 66 where
  ta := ht.ta
  wf := ht.wf
  pre := List.nil_prefix
  sep := ht.sep
  single := hx
  slot := ht.top
  slv := rfl
  nsb := ht.ne
  nx := hnx
  xsb e := by rw [e, ht.top] at hx; simp at hx
  sx := hρ
  top := ⟨_, ht.top⟩
  ntb := ht.ne
  xtb e := by rw [e, ht.top] at hx; simp at hx
  lk := rfl
  only := Only.refl _ _
  bl k hk := .inl hk
  sbl := .inl rfl
  wand W τ c h1 h2 h3 h4 h5 h6 h7 := ⟨c, h1, h2, h4, fun hc => by
    rcases h5 tb hc with h | h | h
    · exact ht.ne h
    · have h8 := ht.top; rw [h, hx] at h8; simp at h8
    · exact absurd ht.lt (by omega), h3, h5, h7.mono (fun k _ e => e.elim .inr .inl)⟩
theorem PI.kb (H : PI w tb T ρ x h m wr sb so p u σ row ty) {W : World} (hb : Below wr.heap.size wr W) : PI w tb T ρ x h m W sb so p u σ row ty :=
  { H with
    ta := H.ta.kb hb
    single := (hb.block x (Array.getElem?_eq_some_iff.1 H.single).1).trans H.single
    slot := (hb.block sb (Array.getElem?_eq_some_iff.1 H.slot).1).trans H.slot
    top := by obtain ⟨v, hv⟩ := H.top; exact ⟨v, (hb.block tb (Array.getElem?_eq_some_iff.1 hv).1).trans hv⟩
    only := H.only.trans (Only.of_below (S := fun _ => False) hb) (fun _ e => e) (fun _ _ e => e.elim)
    wand := fun W' τ c h1 h2 h3 h4 h5 h6 h7 => H.wand W' τ c h1 h2 h3 h4 (fun k hk => by
      rcases h5 k hk with h | h | h
      · exact .inl h
      · exact .inr (.inl h)
      · exact .inr (.inr (Nat.le_trans hb.size h))) (fun k g1 g2 g3 => h6 k g1 g2 (Nat.lt_of_lt_of_le g3 hb.size)) ((Only.of_below (S := fun _ => False) hb).trans h7 (fun _ e => e.elim) (fun _ _ e => e)) }
/-- One step down. -/
theorem PI.step (H : PI w tb T ρ x h m wr sb so p u σ row ty) {w2 w4 W : World} {b g r : Nat} {ws : Fin 16 → Nd} {i : Fin 16} (hh : h.length = 32)
    (hb2 : Below wr.heap.size wr w2) (hfk : w2.heap[b]? = some (.cells (nv r hz 0 (some g)) 91 (0, 0))) (hg : w2.heap[g]? = some (.cells (pvs ws) 168 (0, 0))) (hta : ∀ j, TA w2 σ (ws j)) (hM : Mid p h σ u ws)
    (hsep : (Nd.fork b g ws).Sep) (hbl : ∀ k, (Nd.fork b g ws).Bl k → u.Bl k ∨ wr.heap.size ≤ k) (hi : i = dig h p.length)
    (h4 : w4 = (w2.setCell ⟨b, 0, none⟩ (.int .i64 0)).setCell ⟨sb, so, none⟩ (.pointer (some ⟨b, 0, none⟩))) (hb4 : Below w4.heap.size w4 W) :
    PI w tb T ρ x h m W g i.val (p ++ [dg i]) (ws i) (upn σ b 0) (pl ws) 168 := by
  refine PI.kb (wr := w4) ?_ hb4
  have hsbl := (Array.getElem?_eq_some_iff.1 H.slot).1
  have hxl := (Array.getElem?_eq_some_iff.1 H.single).1
  obtain ⟨tv, htv⟩ := H.top
  have htl := (Array.getElem?_eq_some_iff.1 htv).1
  have nofork : ∀ k, ¬ u.Bl k → k < wr.heap.size → ¬ (Nd.fork b g ws).Bl k := fun k h1 h2 h3 => by
    rcases hbl k h3 with e | e
    · exact h1 e
    · omega
  have hsbF := nofork sb H.nsb hsbl
  have hxF := nofork x H.nx hxl
  have htF := nofork tb H.ntb htl
  have hbsb : b ≠ sb := fun e => hsbF (.inl e.symm)
  have hgsb : g ≠ sb := fun e => hsbF (.inr (.inl e.symm))
  have hsz4 : w4.heap.size = w2.heap.size := by rw [h4]; simp
  have blk : ∀ k, k ≠ b → k ≠ sb → w4.heap[k]? = w2.heap[k]? := fun k e1 e2 => by
    rw [h4, Below.heap_setCell _ _ _ _ e2, Below.heap_setCell _ _ _ _ e1]
  have hfk4 : w4.heap[b]? = some (.cells (nv 0 hz 0 (some g)) 91 (0, 0)) := by
    rw [h4, Below.heap_setCell _ _ _ _ hbsb, cells_set hfk]; rfl
  have hg4 : w4.heap[g]? = some (.cells (pvs ws) 168 (0, 0)) := by rw [blk g hsep.1.symm hgsb]; exact hg
  have hsl4 : w4.heap[sb]? = some (.cells (row.set so (.pointer (some ⟨b, 0, none⟩))).toArray ty (0, 0)) := by
    rw [h4]
    refine cells_set ?_ _
    rw [Below.heap_setCell _ _ _ _ hbsb.symm]
    exact (hb2.block sb hsbl).trans H.slot
  have hta4 : ∀ j, TA w4 (upn σ b 0) (ws j) := fun j => (hta j).agree (fun k hk => blk k (fun e => (hsep.2.1 j).1 (e ▸ hk)) (fun e => hsbF (Bl_way (e ▸ hk)))) (fun k hk => upn_other _ _ (fun e => (hsep.2.1 j).1 (e ▸ hk)))
  have o2 : Only (fun k => u.Bl k ∨ k = sb) wr w4 := by
    have o1 : Only (fun k => k = b ∨ k = sb) w2 w4 := by
      rw [h4]
      exact ((Only.refl (fun k => k = b ∨ k = sb) w2).setCell (p := ⟨b, 0, none⟩) (.inl rfl) _).setCell (p := ⟨sb, so, none⟩) (.inr rfl) _
    refine (Only.of_below (S := fun _ => False) hb2).trans o1 (fun _ e => e.elim) (fun k hk e => ?_)
    rcases e with rfl | rfl
    · rcases hbl _ (.inl rfl) with e | e
      · exact .inl e
      · omega
    · exact .inr rfl
  have hlen : (p ++ [dg i]).length = p.length + 1 := by simp
  exact {
    ta := hta4 i
    wf := hM.wf i
    pre := hi ▸ dig_pre hh H.pre hM.len
    sep := (hsep.2.1 i).2.2
    single := by rw [blk x (fun e => hxF (.inl e)) H.xsb]; exact (hb2.block x hxl).trans H.single
    slot := hg4
    slv := pl_at ws i
    nsb := (hsep.2.1 i).2.1
    nx := fun e => hxF (Bl_way e)
    xsb := fun e => hxF (.inr (.inl e))
    sx := by rw [upn_other _ _ (fun e => hxF (.inl e))]; exact H.sx
    top := by
      by_cases e : tb = sb
      · subst e
        rw [hsl4]
        have h1 := H.slot
        rw [htv] at h1
        have h2 : #[tv, .int .i64 T.ents.length] = row.toArray := by injection h1 with h1; injection h1
        have h3 : row = [tv, .int .i64 T.ents.length] := (congrArg Array.toList h2).symm
        have h4' : ty = 66 := by injection h1 with h1; injection h1 with _ e; exact e.symm
        have h5 := H.slv
        rw [h3] at h5 ⊢
        rw [h4']
        match so, h5 with
        | 0, _ => exact ⟨_, rfl⟩
        | 1, h5 => simp [ptr] at h5
        | n + 2, h5 => simp at h5
      · rw [blk tb (fun e2 => htF (.inl e2)) e]
        exact ⟨tv, (hb2.block tb htl).trans htv⟩
    ntb := fun e => htF (Bl_way e)
    xtb := H.xtb
    lk := by
      rw [hlen, ← H.lk, ← hM.lk h hh H.pre, hi]
    only := H.only.trans o2 (fun _ e => e) (fun k hk e => by
      rcases e with e | rfl
      · rcases H.bl k e with e | e
        · exact .inr e
        · omega
      · rcases H.sbl with e | e | e
        · exact .inl e
        · exact .inr e
        · omega)
    bl := fun k hk => by
      rcases hbl k (Bl_way hk) with e | e
      · exact H.bl k e
      · exact .inr (Nat.le_trans H.only.size e)
    sbl := by
      rcases hbl g (.inr (.inl rfl)) with e | e
      · exact .inr (H.bl g e)
      · exact .inr (.inr (Nat.le_trans H.only.size e))
    wand := fun W' τ c h1 h2 h3 h4' h5 h6 h7 => by
      have out : ∀ k, ¬ (ws i).Bl k → k ≠ g → k < w4.heap.size → W'.heap[k]? = w4.heap[k]? := fun k e1 e2 e3 => h7.block k e3 (fun e => e.elim e1 e2)
      have hbl4 : b < w4.heap.size := (Array.getElem?_eq_some_iff.1 hfk4).1
      have hgl4 : g < w4.heap.size := (Array.getElem?_eq_some_iff.1 hg4).1
      have hle : wr.heap.size ≤ w4.heap.size := by rw [hsz4]; exact hb2.size
      have hbx : b ≠ x := fun e => hxF (.inl e.symm)
      have hgx : g ≠ x := fun e => hxF (.inr (.inl e.symm))
      have hτb : τ b = 0 := by rw [h6 b (hsep.2.1 i).1 hbx hbl4, upn_same]
      have hτj : ∀ j k, j ≠ i → (ws j).Bl k → τ k = σ k := fun j k hj hk => by
        have e1 : ¬ (ws i).Bl k := hsep.2.2 j i k hj hk
        have e2 : k ≠ x := fun e => hxF (Bl_way (e ▸ hk))
        have e3 : k ≠ b := fun e => (hsep.2.1 j).1 (e ▸ hk)
        rw [h6 k e1 e2 ((hta4 j).lt k hk), upn_other _ _ e3]
      refine H.wand W' τ (.fork b g (upw ws i c)) ?_ ⟨?_, ?_, fun j => ?_⟩ ?_ ⟨hsep.1, fun j => ?_, fun j l k hjl hk => ?_⟩ (fun k hk => ?_) (fun k e1 e2 e3 => ?_) ?_
      · rw [out sb (fun e => hsbF (Bl_way e)) hgsb.symm (by omega)]; exact hsl4
      · rw [hτb, out b (hsep.2.1 i).1 hsep.1 hbl4]; exact hfk4
      · rw [h1, pl_set]; rfl
      · by_cases e : j = i
        · subst e; rw [upw_same]; exact h2
        · rw [upw_other _ _ e]
          exact (hta4 j).agree (fun k hk => out k (hsep.2.2 j i k e hk) (fun e2 => (hsep.2.1 j).2.1 (e2 ▸ hk)) ((hta4 j).lt k hk)) (fun k hk => (hτj j k e hk).trans (upn_other σ 0 (fun e3 : k = b => (hsep.2.1 j).1 (e3 ▸ hk))).symm)
      · refine hM.put hh H.pre hi (ρ1 := upn σ b 0) (fun j k hk => upn_other _ _ (fun e => (hsep.2.1 j).1 (e ▸ hk))) h3 hτb hτj
      · by_cases e : j = i
        · subst e
          rw [upw_same]
          refine ⟨fun e => ?_, fun e => ?_, h4'⟩
          · rcases h5 b e with e | e | e
            · exact (hsep.2.1 j).1 e
            · exact hbx e
            · omega
          · rcases h5 g e with e | e | e
            · exact (hsep.2.1 j).2.1 e
            · exact hgx e
            · omega
        · rw [upw_other _ _ e]; exact hsep.2.1 j
      · have key : ∀ l, l ≠ i → (ws l).Bl k → ¬ c.Bl k := fun l hl hk hc => by
          rcases h5 k hc with e | e | e
          · exact hsep.2.2 l i k hl hk e
          · exact hxF (Bl_way (e ▸ hk))
          · exact absurd ((hta4 l).lt k hk) (by omega)
        by_cases e : j = i
        · subst e
          rw [upw_same] at hk
          rw [upw_other _ _ hjl.symm]
          exact fun h => key l hjl.symm h hk
        · rw [upw_other _ _ e] at hk
          by_cases e2 : l = i
          · subst e2; rw [upw_same]; exact key j e hk
          · rw [upw_other _ _ e2]; exact hsep.2.2 j l k hjl hk
      · have key : ∀ k, (Nd.fork b g ws).Bl k → u.Bl k ∨ k = x ∨ wr.heap.size ≤ k := fun k hk => (hbl k hk).elim .inl (fun e => .inr (.inr e))
        rcases hk with rfl | rfl | ⟨j, hk⟩
        · exact key _ (.inl rfl)
        · exact key _ (.inr (.inl rfl))
        · by_cases e : j = i
          · subst e
            rw [upw_same] at hk
            rcases h5 k hk with e | e | e
            · exact key k (Bl_way e)
            · exact .inr (.inl e)
            · exact .inr (.inr (Nat.le_trans hle e))
          · rw [upw_other _ _ e] at hk
            exact key k (Bl_way hk)
      · have hkF := nofork k e1 e3
        rw [h6 k (fun e => hkF (Bl_way e)) e2 (by omega), upn_other _ _ (fun e => hkF (.inl e))]
      · refine o2.trans h7 (fun _ e => e) (fun k hk e => ?_)
        have : (Nd.fork b g ws).Bl k := e.elim Bl_way (fun e => .inr (.inl e))
        rcases hbl k this with e | e
        · exact .inl e
        · omega }
end
end Go.Proofs.YtbpccbhlggcmfaaGreatDoor
namespace Go.Proofs.YtbpccbhlggcmfaaGreatDoor
open Go.RowKit
attribute [local go_sem ↓] hld_open heq_open hne_open

/-- Behind a put. -/
def PPost (w : World) (tb : Nat) (T : Nd) (ρ : Nat → Nat) (x : Nat) (h : List UInt8) (m : Int) (W : World) : Prop :=
  ∃ (T' : Nd) (σ : Nat → Nat), TT W tb T' σ ∧ PutS [] h m ρ σ T T' ∧ (∀ k, T'.Bl k → T.Bl k ∨ k = x ∨ w.heap.size ≤ k) ∧ Only (fun k => k = tb ∨ T.Bl k) w W
section
variable {w : World} {tb : Nat} {T : Nd} {ρ : Nat → Nat} {x : Nat} {h : List UInt8} {m : Int} {wr : World} {sb so : Nat} {p : List UInt8} {u : Nd} {σ : Nat → Nat} {row : List Value} {ty : TypeId}
theorem PI.cell (H : PI w tb T ρ x h m wr sb so p u σ row ty) : wr.cell? ⟨sb, so, none⟩ = some (ptr u) := by
  rw [cell_of_row wr sb so _ _ _ H.slot, List.getElem?_toArray]; exact H.slv
theorem PI.ne_top (H : PI w tb T ρ x h m wr sb so p u σ row ty) : (⟨tb, 1, none⟩ : Addr) ≠ ⟨sb, so, none⟩ := fun e => by
  obtain ⟨tv, htv⟩ := H.top
  have h1 := H.cell
  rw [← e, cell_of_row wr tb 1 _ _ _ htv] at h1
  simp [ptr] at h1
/-- The slot's store. -/
theorem PI.last (H : PI w tb T ρ x h m wr sb so p u σ row ty) (hh : h.length = 32) (hP : PutS p h m σ σ u (.leaf x h m)) : PFin w tb T ρ x h m (wr.setCell ⟨sb, so, none⟩ (.pointer (some ⟨x, 0, none⟩))) σ := by
  have hsl : (wr.setCell ⟨sb, so, none⟩ (.pointer (some ⟨x, 0, none⟩))).heap[sb]? = some (.cells (row.set so (ptr (.leaf x h m))).toArray ty (0, 0)) := cells_set H.slot _
  refine H.wand _ σ (.leaf x h m) hsl ⟨?_, hh⟩ hP trivial (fun k hk => .inr (.inl hk)) (fun _ _ _ _ => rfl) (((Only.refl _ wr).setCell (p := ⟨sb, so, none⟩) (.inr rfl) _))
  rw [Below.heap_setCell _ _ _ _ H.xsb, H.sx]
  exact H.single
theorem PI.endLeaf {b' : Nat} {m' : Int} (H : PI w tb T ρ x h m wr sb so p (.leaf b' h m') σ row ty) (hh : h.length = 32) (hm : 0 ≤ m ∧ m ≤ 1000000) : PPost w tb T ρ x h m (wr.setCell ⟨sb, so, none⟩ (.pointer (some ⟨x, 0, none⟩))) := by
  obtain ⟨T', h1, h2, h3, h4, h5, h6, h7⟩ := H.last hh (puts_leaf hh H.pre H.sx hm)
  have hlk : T.lk 0 h = some m' := by rw [← H.lk]; exact if_pos rfl
  have hc := h5.cnt
  rw [show ([] : List UInt8).length = 0 from rfl, hlk] at hc
  exact ⟨T', σ, ⟨by rw [hc]; exact h1, h2, h5.wf, h3, h4⟩, h5, h6, h7⟩
theorem PI.endNone (H : PI w tb T ρ x h m wr sb so p .none σ row ty) (hh : h.length = 32) (hm : 0 ≤ m ∧ m ≤ 1000000) :
    PPost w tb T ρ x h m ((wr.setCell ⟨tb, 1, none⟩ (.int .i64 ((T.ents.length : Int) + 1))).setCell ⟨sb, so, none⟩ (.pointer (some ⟨x, 0, none⟩))) := by
  obtain ⟨T', h1, h2, h3, h4, h5, h6, h7⟩ := H.last hh (puts_none hh H.pre H.sx hm)
  have hlk : T.lk 0 h = none := by rw [← H.lk]; rfl
  have hc := h5.cnt
  rw [show ([] : List UInt8).length = 0 from rfl, hlk, if_pos rfl] at hc
  obtain ⟨tv, htv⟩ := H.top
  have blk : ∀ k, k ≠ tb → ((wr.setCell ⟨tb, 1, none⟩ (.int .i64 ((T.ents.length : Int) + 1))).setCell ⟨sb, so, none⟩ (.pointer (some ⟨x, 0, none⟩))).heap[k]? = (wr.setCell ⟨sb, so, none⟩ (.pointer (some ⟨x, 0, none⟩))).heap[k]? := fun k e => by
    by_cases e2 : k = sb
    · subst e2
      rw [cells_set H.slot, cells_set (row := row) (t := ty)]
      rw [Below.heap_setCell _ _ _ _ e]; exact H.slot
    · rw [Below.heap_setCell _ _ _ _ e2, Below.heap_setCell _ _ _ _ e, Below.heap_setCell _ _ _ _ e2]
  have htop : ((wr.setCell ⟨tb, 1, none⟩ (.int .i64 ((T.ents.length : Int) + 1))).setCell ⟨sb, so, none⟩ (.pointer (some ⟨x, 0, none⟩))).heap[tb]? = some (.cells #[ptr T', .int .i64 T'.ents.length] 66 (0, 0)) := by
    have hcc : ((T'.ents.length : Nat) : Int) = (T.ents.length : Int) + 1 := by rw [hc]; omega
    rw [hcc]
    have s1 : (wr.setCell ⟨tb, 1, none⟩ (.int .i64 ((T.ents.length : Int) + 1))).heap[tb]? = some (.cells [tv, .int .i64 ((T.ents.length : Int) + 1)].toArray 66 (0, 0)) := cells_set (row := [tv, .int .i64 T.ents.length]) htv _
    by_cases e : sb = tb
    · subst e
      have q1 := H.slot
      rw [htv] at q1
      have q2 : #[tv, .int .i64 T.ents.length] = row.toArray := by injection q1 with q1; injection q1
      have q3 : row = [tv, .int .i64 T.ents.length] := (congrArg Array.toList q2).symm
      have q4 := H.slv
      rw [q3] at q4
      have hso : so = 0 := by
        match so, q4 with
        | 0, _ => rfl
        | 1, q4 => simp [ptr] at q4
        | n + 2, q4 => simp at q4
      subst hso
      have q5 := cells_set (row := [tv, .int .i64 T.ents.length]) (j := 0) htv (.pointer (some ⟨x, 0, none⟩))
      rw [h1] at q5
      have q6 : #[ptr T', .int .i64 T.ents.length] = ([tv, .int .i64 T.ents.length].set 0 (.pointer (some ⟨x, 0, none⟩))).toArray := by injection q5 with q5; injection q5
      have q7 : ptr T' = .pointer (some ⟨x, 0, none⟩) := by
        have := congrArg (fun a : Array Value => a[0]?) q6
        simpa using this
      rw [cells_set s1, q7]; rfl
    · rw [Below.heap_setCell _ _ _ _ (Ne.symm e)] at h1 ⊢
      rw [htv] at h1
      have q6 : #[tv, .int .i64 T.ents.length] = #[ptr T', .int .i64 T.ents.length] := by injection h1 with h1; injection h1
      have q7 : tv = ptr T' := by
        have := congrArg (fun a : Array Value => a[0]?) q6
        simpa using this
      rw [s1, q7]
  refine ⟨T', σ, ⟨htop, h2.agree (fun k hk => blk k (fun e => h4 (e ▸ hk))) (fun _ _ => rfl), h5.wf, h3, h4⟩, h5, h6, ?_⟩
  have o1 : Only (fun k => k = tb ∨ T.Bl k) w (wr.setCell ⟨tb, 1, none⟩ (.int .i64 ((T.ents.length : Int) + 1))) := H.only.setCell (p := ⟨tb, 1, none⟩) (.inl rfl) _
  by_cases e : sb < w.heap.size
  · refine o1.setCell (p := ⟨sb, so, none⟩) ?_ _
    rcases H.sbl with e2 | e2 | e2
    · exact .inl e2
    · exact .inr e2
    · omega
  · exact o1.trans (T := fun k => k = sb) (Only.setCell (S := fun k => k = sb) (Only.refl (fun k => k = sb) _) (p := ⟨sb, so, none⟩) rfl _) (fun _ e => e) (fun k hk e2 => absurd hk (by omega))
/-- A fork at hand, whether it was there or is made of a hash. -/
structure FK (wr w2 : World) (p h : List UInt8) (σ : Nat → Nat) (u : Nd) (b g r : Nat) (ws : Fin 16 → Nd) : Prop where
  bel : Below wr.heap.size wr w2
  fk : w2.heap[b]? = some (.cells (nv r hz 0 (some g)) 91 (0, 0))
  gg : w2.heap[g]? = some (.cells (pvs ws) 168 (0, 0))
  ta : ∀ j, TA w2 σ (ws j)
  mid : Mid p h σ u ws
  sep : (Nd.fork b g ws).Sep
  bl : ∀ k, (Nd.fork b g ws).Bl k → u.Bl k ∨ wr.heap.size ≤ k
theorem PI.isFork {b g : Nat} {ws : Fin 16 → Nd} (H : PI w tb T ρ x h m wr sb so p (.fork b g ws) σ row ty) : FK wr wr p h σ (.fork b g ws) b g (σ b) ws :=
  ⟨Below.refl _ _, H.ta.1, H.ta.2.1, H.ta.2.2, mid_fork H.wf, H.sep, fun _ hk => .inl hk⟩
theorem lone_bl {t : Nd} {d i : Fin 16} {k : Nat} (h : (lone t d i).Bl k) : i = d ∧ t.Bl k := by
  by_cases e : i = d
  · subst e; rw [lone, upw_same] at h; exact ⟨rfl, h⟩
  · rw [lone, upw_other _ _ e] at h; exact h.elim
theorem PI.madeFork {b' b g : Nat} {h' : List UInt8} {m' : Int} {w2 : World} {k : Nat} (H : PI w tb T ρ x h m wr sb so p (.leaf b' h' m') σ row ty) (hh : h.length = 32) (hne : h' ≠ h) (hk : k = p.length)
    (h1 : w2.heap[b]? = some (.cells (nv 0 hz 0 (some g)) 91 (0, 0))) (h2 : w2.heap[g]? = some (.cells (pvs (lone (.leaf b' h' m') (dig h' k))) 168 (0, 0))) (h3 : wr.heap.size ≤ b) (h4 : wr.heap.size ≤ g) (h5 : b ≠ g) (h6 : Below wr.heap.size wr w2) :
    FK wr w2 p h σ (.leaf b' h' m') b g 0 (lone (.leaf b' h' m') (dig h' k)) := by
  subst hk
  have hb' : b' < wr.heap.size := H.ta.lt b' rfl
  refine ⟨h6, h1, h2, fun j => ?_, mid_leaf H.wf hh H.pre hne, ⟨h5, fun j => ⟨fun e => ?_, fun e => ?_, ?_⟩, fun i j k hij hi hj => hij ((lone_bl hi).1.trans (lone_bl hj).1.symm)⟩, fun k hk => ?_⟩
  · by_cases e : j = dig h' p.length
    · subst e; rw [lone, upw_same]; exact H.ta.kb h6
    · rw [lone, upw_other _ _ e]; trivial
  · have : b = b' := (lone_bl e).2
    omega
  · have : g = b' := (lone_bl e).2
    omega
  · by_cases e : j = dig h' p.length
    · subst e; rw [lone, upw_same]; trivial
    · rw [lone, upw_other _ _ e]; trivial
  · rcases hk with rfl | rfl | ⟨j, hk⟩
    · exact .inr h3
    · exact .inr h4
    · exact .inl (lone_bl hk).2
theorem FK.nsb {w2 : World} {b g r : Nat} {ws : Fin 16 → Nd} (F : FK wr w2 p h σ u b g r ws) (H : PI w tb T ρ x h m wr sb so p u σ row ty) : sb ≠ b ∧ x ≠ b := by
  refine ⟨fun e => ?_, fun e => ?_⟩
  · rcases F.bl b (.inl rfl) with e2 | e2
    · exact H.nsb (e ▸ e2)
    · have := (Array.getElem?_eq_some_iff.1 H.slot).1; omega
  · rcases F.bl b (.inl rfl) with e2 | e2
    · exact H.nx (e ▸ e2)
    · have := (Array.getElem?_eq_some_iff.1 H.single).1; omega
end
set_option maxRecDepth 20000 in
set_option maxHeartbeats 4000000 in
theorem place_to (w : World) (tb : Nat) (T : Nd) (ρ : Nat → Nat) (x : Nat) (h : List UInt8) (m : Int) (hh : h.length = 32) (hm : 0 ≤ m ∧ m ≤ 1000000) (ht : TT w tb T ρ) (hx : w.heap[x]? = some (.cells (nv 0 h m none) 91 (0, 0))) (hnx : ¬ T.Bl x) (hρ : ρ x = 0) (hbig : T.ents.length ≤ 1000000) :
    Calls Tryz.prog 35 #[.pointer (some ⟨tb, 0, none⟩), .pointer (some ⟨x, 0, none⟩)] w fun e w' => e = .returned (.tuple #[]) ∧ PPost w tb T ρ x h m w' := by
  have H0 := Lib.hid (PI.start (h := h) (m := m) ht hx hnx hρ)
  have HH := Lib.hid hh
  have HM := Lib.hid hm
  clear ht hx hnx hρ hh hm
  go_enter Tryz.func35, Tryz.ntmps35
  go_wp2
  go_loopw [4, 5] (fun v i wr => ∃ (k sb so : Nat) (p : List UInt8) (u : Nd) (σ : Nat → Nat) (row : List Value) (ty : TypeId), Hid (k = p.length) ∧ k ≤ 64 ∧ i = .int .i64 k ∧ v = .pointer (some ⟨sb, so, none⟩) ∧ Hid (PI w tb T ρ x h m wr sb so p u σ row ty)) (fun _ i _ => 64 - (intOf i).toNat)
  case atStart => exact ⟨0, tb, 0, [], T, ρ, _, _, Lib.hid rfl, by omega, rfl, rfl, H0⟩
  case round =>
    obtain ⟨k, sb, so, p, u, σ, row, ty, HKP, hk, rfl, rfl, HP⟩ := hrel
    cases u with
    | none =>
      have cs : wr.cell? ⟨sb, so, none⟩ = some (.pointer none) := HP.out.cell
      go_wp2_with fail
      go_quiet (fail)
      have HPq := Lib.hid (HP.out.kb (below_drn (m := nq) (Below.refl wr.heap.size wr)))
      clear cs HP
      generalize wr.drewN nq = W at *
      have cs : W.cell? ⟨sb, so, none⟩ = some (.pointer none) := HPq.out.cell
      obtain ⟨tv, htv⟩ := HPq.out.top
      have ct : W.cell? ⟨tb, 1, none⟩ = some (.int .i64 T.ents.length) := by rw [cell_of_row W tb 1 _ _ _ htv]; rfl
      have ft : W.frozen? ⟨tb, 1, none⟩ = false := by simp [World.frozen?, htv]
      have fs : W.frozen? ⟨sb, so, none⟩ = false := by simp [World.frozen?, HPq.out.slot]
      have cs2 : (W.setCell ⟨tb, 1, none⟩ (.int .i64 ((T.ents.length : Int) + 1))).cell? ⟨sb, so, none⟩ = some (.pointer none) := (World.cell?_setCell_other W _ _ _ HPq.out.ne_top).trans cs
      have HE := Lib.hid (HPq.out.endNone HH.out HM.out)
      have hw : wrap64 ((T.ents.length : Int) + 1) = (T.ents.length : Int) + 1 := IntWalk.wrap64_in _ (by omega)
      clear htv
      generalize (T.ents.length : Int) = n at *
      go_wp2_with fail
      go_end0
      exact ⟨rfl, HE.out⟩
    | leaf b' h' m' =>
      have cs : wr.cell? ⟨sb, so, none⟩ = some (.pointer (some ⟨b', 0, none⟩)) := HP.out.cell
      have hl32 := HP.out.ta.2
      have hlb := HP.out.ta.1
      have HHO := Lib.hid (holds_leaf wr.drew b' (σ b') h' h m' hl32 HH.out hlb)
      by_cases hsame : h' = h
      case' pos =>
        rw [decide_eq_true hsame] at HHO
      case' neg =>
        rw [decide_eq_false hsame] at HHO
      case pos =>
        obtain rfl : h = h' := hsame.symm
        clear hl32 hlb
        go_wp2_with fail
        try simp only [List.append]
        refine wp_region_noPanic ?_
        refine wp_region_held_drew (S := (fun W => W.cell? ⟨sb, so, none⟩ = some (.pointer (some ⟨b', 0, none⟩)) ∧ (hld ⟨x, 1, none⟩).run Tryz.prog W = .ok (.agg (hv h)) W)) (by kernel_rfl) ⟨cs, nd_load (W := wr.drew) HH.out HP.out.single⟩ (fun hHeld => ?_)
        refine wpAnyH_take (i := 0) (v := ?_) (by simp only [List.getElem?_toArray, List.getElem?_cons_zero]; rfl) (by kernel_rfl) (by kernel_rfl) (by kernel_rfl) (fun _ _ _ h => h) (Or.inl ⟨by rfl, ?_⟩) (by assumption) ?_
        rotate_left
        · intro w hSw
          try dsimp only at hSw
          go_simp
          try with_reducible rfl
        try simp only [Act.put, List.setIfInBounds_toArray, List.set_cons_zero, List.set_cons_succ]
        refine wpAnyH_take (i := 1) (v := ?_) (by simp only [List.getElem?_toArray, List.getElem?_cons_succ, List.getElem?_cons_zero]; rfl) (by kernel_rfl) (by kernel_rfl) (by kernel_rfl) (fun _ _ _ h => h) (Or.inl ⟨by rfl, ?_⟩) (by assumption) ?_
        rotate_left
        · intro w hSw
          try dsimp only at hSw
          go_simp
          try with_reducible rfl
        try simp only [Act.put, List.setIfInBounds_toArray, List.set_cons_zero, List.set_cons_succ]
        refine wpAnyH_take (i := 2) (v := ?_) (by simp only [List.getElem?_toArray, List.getElem?_cons_succ, List.getElem?_cons_zero]; rfl) (by kernel_rfl) (by kernel_rfl) (by kernel_rfl) (fun _ _ _ h => h) (Or.inl ⟨by rfl, ?_⟩) (by assumption) ?_
        rotate_left
        · intro w hSw
          try dsimp only at hSw
          go_simp
          try with_reducible rfl
        try simp only [Act.put, List.setIfInBounds_toArray, List.set_cons_zero, List.set_cons_succ]
        refine wpAnyH_take (i := 3) (v := ?_) (by simp only [List.getElem?_toArray, List.getElem?_cons_succ, List.getElem?_cons_zero]; rfl) (by kernel_rfl) (by kernel_rfl) (by kernel_rfl) (fun _ _ _ h => h) (Or.inl ⟨by rfl, ?_⟩) (by assumption) ?_
        rotate_left
        · intro w hSw
          try dsimp only at hSw
          go_simp
          try with_reducible rfl
        try simp only [Act.put, List.setIfInBounds_toArray, List.set_cons_zero, List.set_cons_succ]
        refine wpAnyH_take (i := 4) (v := ?_) (by simp only [List.getElem?_toArray, List.getElem?_cons_succ, List.getElem?_cons_zero]; rfl) (by kernel_rfl) (by kernel_rfl) (by kernel_rfl) (fun _ _ _ h => h) (Or.inl ⟨by rfl, ?_⟩) (by assumption) ?_
        rotate_left
        · intro w hSw
          try dsimp only at hSw
          go_simp
          try with_reducible rfl
        try simp only [Act.put, List.setIfInBounds_toArray, List.set_cons_zero, List.set_cons_succ]
        refine wpAnyH_take (i := 5) (v := ?_) (by simp only [List.getElem?_toArray, List.getElem?_cons_succ, List.getElem?_cons_zero]; rfl) (by kernel_rfl) (by kernel_rfl) (by kernel_rfl) (fun _ _ _ h => h) (Or.inl ⟨by rfl, ?_⟩) (by assumption) ?_
        rotate_left
        · intro w hSw
          try dsimp only at hSw
          go_simp
          try with_reducible rfl
        try simp only [Act.put, List.setIfInBounds_toArray, List.set_cons_zero, List.set_cons_succ]
        refine wpAnyH_take (i := 6) (v := ?_) (by simp only [List.getElem?_toArray, List.getElem?_cons_succ, List.getElem?_cons_zero]; rfl) (by kernel_rfl) (by kernel_rfl) (by kernel_rfl) (fun _ _ _ h => h) (Or.inl ⟨by rfl, ?_⟩) (by assumption) ?_
        rotate_left
        · intro w hSw
          try dsimp only at hSw
          go_simp
          try with_reducible rfl
        try simp only [Act.put, List.setIfInBounds_toArray, List.set_cons_zero, List.set_cons_succ]
        refine wpAnyH_take (i := 7) (v := ?_) (by simp only [List.getElem?_toArray, List.getElem?_cons_succ, List.getElem?_cons_zero]; rfl) (by kernel_rfl) (by kernel_rfl) (by kernel_rfl) (fun _ _ _ h => h) (Or.inl ⟨by rfl, ?_⟩) (by assumption) ?_
        rotate_left
        · intro w hSw
          try dsimp only at hSw
          go_simp
          try with_reducible rfl
        try simp only [Act.put, List.setIfInBounds_toArray, List.set_cons_zero, List.set_cons_succ]
        refine wpAnyH_take (i := 8) (v := ?_) (by simp only [List.getElem?_toArray, List.getElem?_cons_succ, List.getElem?_cons_zero]; rfl) (by kernel_rfl) (by kernel_rfl) (by kernel_rfl) (fun _ _ _ h => h) (Or.inl ⟨by rfl, ?_⟩) (by assumption) ?_
        rotate_left
        · intro w hSw
          try dsimp only at hSw
          go_simp
          try with_reducible rfl
        try simp only [Act.put, List.setIfInBounds_toArray, List.set_cons_zero, List.set_cons_succ]
        refine wpAnyH_take (i := 9) (v := ?_) (by simp only [List.getElem?_toArray, List.getElem?_cons_succ, List.getElem?_cons_zero]; rfl) (by kernel_rfl) (by kernel_rfl) (by kernel_rfl) (fun _ _ _ h => h) (Or.inl ⟨by rfl, ?_⟩) (by assumption) ?_
        rotate_left
        · intro w hSw
          try dsimp only at hSw
          go_simp
          try with_reducible rfl
        try simp only [Act.put, List.setIfInBounds_toArray, List.set_cons_zero, List.set_cons_succ]
        refine wpAnyH_take (i := 10) (v := ?_) (by simp only [List.getElem?_toArray, List.getElem?_cons_succ, List.getElem?_cons_zero]; rfl) (by kernel_rfl) (by kernel_rfl) (by kernel_rfl) (fun _ _ _ h => h) (Or.inl ⟨by rfl, ?_⟩) (by assumption) ?_
        rotate_left
        · intro w hSw
          try dsimp only at hSw
          go_simp
          try with_reducible rfl
        try simp only [Act.put, List.setIfInBounds_toArray, List.set_cons_zero, List.set_cons_succ]
        refine wpAnyH_take (i := 11) (v := ?_) (by simp only [List.getElem?_toArray, List.getElem?_cons_succ, List.getElem?_cons_zero]; rfl) (by kernel_rfl) (by kernel_rfl) (by kernel_rfl) (fun _ _ _ h => h) (Or.inl ⟨by rfl, ?_⟩) (by assumption) ?_
        rotate_left
        · intro w hSw
          try dsimp only at hSw
          go_simp
          try with_reducible rfl
        try simp only [Act.put, List.setIfInBounds_toArray, List.set_cons_zero, List.set_cons_succ]
        refine wpAnyH_ready (rs := [12]) (by kernel_rfl) (by simp) ?_
        refine AllReadyH.cons (by simp only [List.getElem?_toArray, List.getElem?_cons_succ, List.getElem?_cons_zero]; rfl) (fun K hK => ?_) AllReadyH.nil
        go_simp
        refine HHO.out.mono ?_
        rintro e w1 ⟨rfl, b1⟩
        have HP1 := Lib.hid (HP.out.kb (below_drn0 (m := 1) b1))
        have cs1 := HP1.out.cell
        rw [ptr_pad, pad_leaf] at cs1
        have t2 := nd_load (W := w1) HH.out HP1.out.single
        clear b1
        go_wp2_with fail
        refine hK.out _ _ ⟨cs1, t2⟩ (fun hHeld => ?_)
        clear hK K
        try simp only [Act.put, List.setIfInBounds_toArray, List.set_cons_zero, List.set_cons_succ]
        refine wpAnyH_take (i := 13) (v := ?_) (by simp only [List.getElem?_toArray, List.getElem?_cons_succ, List.getElem?_cons_zero]; rfl) (by kernel_rfl) (by kernel_rfl) (by kernel_rfl) (fun _ _ _ h => h) (Or.inl ⟨by rfl, ?_⟩) (by assumption) ?_
        rotate_left
        · intro w hSw
          try dsimp only at hSw
          go_simp
          try with_reducible rfl
        try simp only [Act.put, List.setIfInBounds_toArray, List.set_cons_zero, List.set_cons_succ]
        refine wpAnyH_take (i := 14) (v := ?_) (by simp only [List.getElem?_toArray, List.getElem?_cons_succ, List.getElem?_cons_zero]; rfl) (by kernel_rfl) (by kernel_rfl) (by kernel_rfl) (fun _ _ _ h => h) (Or.inl ⟨by rfl, ?_⟩) (by assumption) ?_
        rotate_left
        · intro w hSw
          try dsimp only at hSw
          go_simp
          try with_reducible rfl
        try simp only [Act.put, List.setIfInBounds_toArray, List.set_cons_zero, List.set_cons_succ]
        refine wpAnyH_done (by kernel_rfl) ?_ _
        refine NoPanic.normal ?_
        have fs1 : w1.frozen? ⟨sb, so, none⟩ = false := by simp [World.frozen?, HP1.out.slot]
        have HE := Lib.hid (HP1.out.endLeaf HH.out HM.out)
        clear cs t2
        go_wp2_with fail
        go_end0
        exact ⟨rfl, HE.out⟩
      case neg =>
        have HLB := Lib.hid hlb
        have HNE := Lib.hid hsame
        clear hl32 hlb hsame
        go_wp2_with fail
        try simp only [List.append]
        refine wp_region_noPanic ?_
        refine wp_region_held_drew (S := (fun W => W.cell? ⟨sb, so, none⟩ = some (.pointer (some ⟨b', 0, none⟩)) ∧ (hld ⟨x, 1, none⟩).run Tryz.prog W = .ok (.agg (hv h)) W)) (by kernel_rfl) ⟨cs, nd_load (W := wr.drew) HH.out HP.out.single⟩ (fun hHeld => ?_)
        refine wpAnyH_take (i := 0) (v := ?_) (by simp only [List.getElem?_toArray, List.getElem?_cons_zero]; rfl) (by kernel_rfl) (by kernel_rfl) (by kernel_rfl) (fun _ _ _ h => h) (Or.inl ⟨by rfl, ?_⟩) (by assumption) ?_
        rotate_left
        · intro w hSw
          try dsimp only at hSw
          go_simp
          try with_reducible rfl
        try simp only [Act.put, List.setIfInBounds_toArray, List.set_cons_zero, List.set_cons_succ]
        refine wpAnyH_take (i := 1) (v := ?_) (by simp only [List.getElem?_toArray, List.getElem?_cons_succ, List.getElem?_cons_zero]; rfl) (by kernel_rfl) (by kernel_rfl) (by kernel_rfl) (fun _ _ _ h => h) (Or.inl ⟨by rfl, ?_⟩) (by assumption) ?_
        rotate_left
        · intro w hSw
          try dsimp only at hSw
          go_simp
          try with_reducible rfl
        try simp only [Act.put, List.setIfInBounds_toArray, List.set_cons_zero, List.set_cons_succ]
        refine wpAnyH_take (i := 2) (v := ?_) (by simp only [List.getElem?_toArray, List.getElem?_cons_succ, List.getElem?_cons_zero]; rfl) (by kernel_rfl) (by kernel_rfl) (by kernel_rfl) (fun _ _ _ h => h) (Or.inl ⟨by rfl, ?_⟩) (by assumption) ?_
        rotate_left
        · intro w hSw
          try dsimp only at hSw
          go_simp
          try with_reducible rfl
        try simp only [Act.put, List.setIfInBounds_toArray, List.set_cons_zero, List.set_cons_succ]
        refine wpAnyH_take (i := 3) (v := ?_) (by simp only [List.getElem?_toArray, List.getElem?_cons_succ, List.getElem?_cons_zero]; rfl) (by kernel_rfl) (by kernel_rfl) (by kernel_rfl) (fun _ _ _ h => h) (Or.inl ⟨by rfl, ?_⟩) (by assumption) ?_
        rotate_left
        · intro w hSw
          try dsimp only at hSw
          go_simp
          try with_reducible rfl
        try simp only [Act.put, List.setIfInBounds_toArray, List.set_cons_zero, List.set_cons_succ]
        refine wpAnyH_take (i := 4) (v := ?_) (by simp only [List.getElem?_toArray, List.getElem?_cons_succ, List.getElem?_cons_zero]; rfl) (by kernel_rfl) (by kernel_rfl) (by kernel_rfl) (fun _ _ _ h => h) (Or.inl ⟨by rfl, ?_⟩) (by assumption) ?_
        rotate_left
        · intro w hSw
          try dsimp only at hSw
          go_simp
          try with_reducible rfl
        try simp only [Act.put, List.setIfInBounds_toArray, List.set_cons_zero, List.set_cons_succ]
        refine wpAnyH_take (i := 5) (v := ?_) (by simp only [List.getElem?_toArray, List.getElem?_cons_succ, List.getElem?_cons_zero]; rfl) (by kernel_rfl) (by kernel_rfl) (by kernel_rfl) (fun _ _ _ h => h) (Or.inl ⟨by rfl, ?_⟩) (by assumption) ?_
        rotate_left
        · intro w hSw
          try dsimp only at hSw
          go_simp
          try with_reducible rfl
        try simp only [Act.put, List.setIfInBounds_toArray, List.set_cons_zero, List.set_cons_succ]
        refine wpAnyH_take (i := 6) (v := ?_) (by simp only [List.getElem?_toArray, List.getElem?_cons_succ, List.getElem?_cons_zero]; rfl) (by kernel_rfl) (by kernel_rfl) (by kernel_rfl) (fun _ _ _ h => h) (Or.inl ⟨by rfl, ?_⟩) (by assumption) ?_
        rotate_left
        · intro w hSw
          try dsimp only at hSw
          go_simp
          try with_reducible rfl
        try simp only [Act.put, List.setIfInBounds_toArray, List.set_cons_zero, List.set_cons_succ]
        refine wpAnyH_take (i := 7) (v := ?_) (by simp only [List.getElem?_toArray, List.getElem?_cons_succ, List.getElem?_cons_zero]; rfl) (by kernel_rfl) (by kernel_rfl) (by kernel_rfl) (fun _ _ _ h => h) (Or.inl ⟨by rfl, ?_⟩) (by assumption) ?_
        rotate_left
        · intro w hSw
          try dsimp only at hSw
          go_simp
          try with_reducible rfl
        try simp only [Act.put, List.setIfInBounds_toArray, List.set_cons_zero, List.set_cons_succ]
        refine wpAnyH_take (i := 8) (v := ?_) (by simp only [List.getElem?_toArray, List.getElem?_cons_succ, List.getElem?_cons_zero]; rfl) (by kernel_rfl) (by kernel_rfl) (by kernel_rfl) (fun _ _ _ h => h) (Or.inl ⟨by rfl, ?_⟩) (by assumption) ?_
        rotate_left
        · intro w hSw
          try dsimp only at hSw
          go_simp
          try with_reducible rfl
        try simp only [Act.put, List.setIfInBounds_toArray, List.set_cons_zero, List.set_cons_succ]
        refine wpAnyH_take (i := 9) (v := ?_) (by simp only [List.getElem?_toArray, List.getElem?_cons_succ, List.getElem?_cons_zero]; rfl) (by kernel_rfl) (by kernel_rfl) (by kernel_rfl) (fun _ _ _ h => h) (Or.inl ⟨by rfl, ?_⟩) (by assumption) ?_
        rotate_left
        · intro w hSw
          try dsimp only at hSw
          go_simp
          try with_reducible rfl
        try simp only [Act.put, List.setIfInBounds_toArray, List.set_cons_zero, List.set_cons_succ]
        refine wpAnyH_take (i := 10) (v := ?_) (by simp only [List.getElem?_toArray, List.getElem?_cons_succ, List.getElem?_cons_zero]; rfl) (by kernel_rfl) (by kernel_rfl) (by kernel_rfl) (fun _ _ _ h => h) (Or.inl ⟨by rfl, ?_⟩) (by assumption) ?_
        rotate_left
        · intro w hSw
          try dsimp only at hSw
          go_simp
          try with_reducible rfl
        try simp only [Act.put, List.setIfInBounds_toArray, List.set_cons_zero, List.set_cons_succ]
        refine wpAnyH_take (i := 11) (v := ?_) (by simp only [List.getElem?_toArray, List.getElem?_cons_succ, List.getElem?_cons_zero]; rfl) (by kernel_rfl) (by kernel_rfl) (by kernel_rfl) (fun _ _ _ h => h) (Or.inl ⟨by rfl, ?_⟩) (by assumption) ?_
        rotate_left
        · intro w hSw
          try dsimp only at hSw
          go_simp
          try with_reducible rfl
        try simp only [Act.put, List.setIfInBounds_toArray, List.set_cons_zero, List.set_cons_succ]
        refine wpAnyH_ready (rs := [12]) (by kernel_rfl) (by simp) ?_
        refine AllReadyH.cons (by simp only [List.getElem?_toArray, List.getElem?_cons_succ, List.getElem?_cons_zero]; rfl) (fun K hK => ?_) AllReadyH.nil
        go_simp
        refine HHO.out.mono ?_
        rintro e w1 ⟨rfl, b1⟩
        have HP1 := Lib.hid (HP.out.kb (below_drn0 (m := 1) b1))
        have cs1 := HP1.out.cell
        rw [ptr_pad, pad_leaf] at cs1
        have t2 := nd_load (W := w1) HH.out HP1.out.single
        clear b1
        go_wp2_with fail
        refine hK.out _ _ ⟨cs1, t2⟩ (fun hHeld => ?_)
        clear hK K
        try simp only [Act.put, List.setIfInBounds_toArray, List.set_cons_zero, List.set_cons_succ]
        refine wpAnyH_take (i := 13) (v := ?_) (by simp only [List.getElem?_toArray, List.getElem?_cons_succ, List.getElem?_cons_zero]; rfl) (by kernel_rfl) (by kernel_rfl) (by kernel_rfl) (fun _ _ _ h => h) (Or.inl ⟨by rfl, ?_⟩) (by assumption) ?_
        rotate_left
        · intro w hSw
          try dsimp only at hSw
          go_simp
          try with_reducible rfl
        try simp only [Act.put, List.setIfInBounds_toArray, List.set_cons_zero, List.set_cons_succ]
        refine wpAnyH_take (i := 14) (v := ?_) (by simp only [List.getElem?_toArray, List.getElem?_cons_succ, List.getElem?_cons_zero]; rfl) (by kernel_rfl) (by kernel_rfl) (by kernel_rfl) (fun _ _ _ h => h) (Or.inl ⟨by rfl, ?_⟩) (by assumption) ?_
        rotate_left
        · intro w hSw
          try dsimp only at hSw
          go_simp
          try with_reducible rfl
        try simp only [Act.put, List.setIfInBounds_toArray, List.set_cons_zero, List.set_cons_succ]
        refine wpAnyH_done (by kernel_rfl) ?_ _
        refine NoPanic.normal ?_
        have hlt := (mid_leaf (ρ := σ) HP1.out.wf HH.out HP1.out.pre HNE.out).len
        have HFL := Lib.hid (forked_leaf w1 b' (σ b') k h' m' HP1.out.ta.2 (by have := HKP.out; omega) HP1.out.ta.1)
        clear cs t2 hlt
        go_wp2_with fail
        refine HFL.out.mono ?_
        rintro e w2 ⟨b2, g2, rfl, k1, k2, k3, k4, k5, k6⟩
        have FKS0 := Lib.hid (HP1.out.madeFork HH.out HNE.out HKP.out k1 k2 k3 k4 k5 k6)
        clear k1 k2 k3 k4 k5 k6
        obtain ⟨ws2, hws2⟩ : ∃ ws2, ws2 = lone (.leaf b' h' m') (dig h' k) := ⟨_, rfl⟩
        rw [← hws2] at FKS0
        obtain ⟨r2, hr2⟩ : ∃ r2 : Nat, r2 = 0 := ⟨_, rfl⟩
        have FKS : Hid (FK w1 w2 p h σ (.leaf b' h' m') b2 g2 0 ws2) := FKS0
        clear hws2 hr2 FKS0
        obtain ⟨hns, hnx⟩ := FKS.out.nsb HP1.out
        have a0 := nd_0 (W := w2) FKS.out.fk
        have f0 : w2.frozen? ⟨b2, 0, none⟩ = false := by simp [World.frozen?, FKS.out.fk]
        have hps := (HP1.out.kb FKS.out.bel)
        have a1 : (w2.setCell ⟨b2, 0, none⟩ (.int .i64 0)).cell? ⟨sb, so, none⟩ = some (.pointer (some ⟨b', 0, none⟩)) := (World.cell?_setCell_far w2 ⟨b2, 0, none⟩ ⟨sb, so, none⟩ _ (fun e => hns e.symm)).trans hps.cell
        have a2 : w2.cell? ⟨sb, so, none⟩ = some (.pointer (some ⟨b', 0, none⟩)) := hps.cell
        have f1 : w2.frozen? ⟨sb, so, none⟩ = false := by simp [World.frozen?, hps.slot]
        obtain ⟨w4, h4⟩ : ∃ w4, w4 = (w2.setCell ⟨b2, 0, none⟩ (.int .i64 0)).setCell ⟨sb, so, none⟩ (.pointer (some ⟨b2, 0, none⟩)) := ⟨_, rfl⟩
        have H4 := Lib.hid h4
        have hfk4 : w4.heap[b2]? = some (.cells (nv 0 hz 0 (some g2)) 91 (0, 0)) := by
          rw [h4, Below.heap_setCell _ _ _ _ (fun e => hns e.symm), cells_set FKS.out.fk]; rfl
        have hx4 : w4.heap[x]? = some (.cells (nv 0 h m none) 91 (0, 0)) := by
          rw [h4, Below.heap_setCell _ _ _ _ HP1.out.xsb, Below.heap_setCell _ _ _ _ hnx]
          exact hps.single
        have HX4 := Lib.hid hx4
        have HFK4 := Lib.hid hfk4
        have HDG := Lib.hid (digit_to w4.drew h k HH.out (by have := FKS.out.mid.len; have := HKP.out; omega))
        clear h4 hfk4 hx4 hps hns hnx
        go_wp2_with fail
        rw [← H4.out]
        clear a0 f0 a1 f1 a2
        obtain ⟨i, hi⟩ : ∃ i, i = dig h k := ⟨_, rfl⟩
        rw [← hi] at HDG
        have HI := Lib.hid hi
        clear hi
        have hi16 : ((i.val : Nat) : Int) < 16 := by have := i.isLt; omega
        have c34 := nd_34 (W := w4) hz_len HFK4.out
        have l4 := nd_load (W := w4.drew) HH.out HX4.out
        simp only [gptr] at c34
        try simp only [List.append]
        refine wp_region_noPanic ?_
        refine wp_region_held_drew (S := (fun W => W.cell? ⟨b2, 34, none⟩ = some (.pointer (some ⟨g2, 0, none⟩)) ∧ (hld ⟨x, 1, none⟩).run Tryz.prog W = .ok (.agg (hv h)) W)) (by kernel_rfl) ⟨c34, l4⟩ (fun hHeld => ?_)
        refine wpAnyH_take (i := 0) (v := ?_) (by simp only [List.getElem?_toArray, List.getElem?_cons_zero]; rfl) (by kernel_rfl) (by kernel_rfl) (by kernel_rfl) (fun _ _ _ h => h) (Or.inl ⟨by rfl, ?_⟩) (by assumption) ?_
        rotate_left
        · intro w hSw
          try dsimp only at hSw
          go_simp
          try with_reducible rfl
        try simp only [Act.put, List.setIfInBounds_toArray, List.set_cons_zero, List.set_cons_succ]
        refine wpAnyH_take (i := 1) (v := ?_) (by simp only [List.getElem?_toArray, List.getElem?_cons_succ, List.getElem?_cons_zero]; rfl) (by kernel_rfl) (by kernel_rfl) (by kernel_rfl) (fun _ _ _ h => h) (Or.inl ⟨by rfl, ?_⟩) (by assumption) ?_
        rotate_left
        · intro w hSw
          try dsimp only at hSw
          go_simp
          try with_reducible rfl
        try simp only [Act.put, List.setIfInBounds_toArray, List.set_cons_zero, List.set_cons_succ]
        refine wpAnyH_take (i := 2) (v := ?_) (by simp only [List.getElem?_toArray, List.getElem?_cons_succ, List.getElem?_cons_zero]; rfl) (by kernel_rfl) (by kernel_rfl) (by kernel_rfl) (fun _ _ _ h => h) (Or.inl ⟨by rfl, ?_⟩) (by assumption) ?_
        rotate_left
        · intro w hSw
          try dsimp only at hSw
          go_simp
          try with_reducible rfl
        try simp only [Act.put, List.setIfInBounds_toArray, List.set_cons_zero, List.set_cons_succ]
        refine wpAnyH_take (i := 3) (v := ?_) (by simp only [List.getElem?_toArray, List.getElem?_cons_succ, List.getElem?_cons_zero]; rfl) (by kernel_rfl) (by kernel_rfl) (by kernel_rfl) (fun _ _ _ h => h) (Or.inl ⟨by rfl, ?_⟩) (by assumption) ?_
        rotate_left
        · intro w hSw
          try dsimp only at hSw
          go_simp
          try with_reducible rfl
        try simp only [Act.put, List.setIfInBounds_toArray, List.set_cons_zero, List.set_cons_succ]
        refine wpAnyH_take (i := 4) (v := ?_) (by simp only [List.getElem?_toArray, List.getElem?_cons_succ, List.getElem?_cons_zero]; rfl) (by kernel_rfl) (by kernel_rfl) (by kernel_rfl) (fun _ _ _ h => h) (Or.inl ⟨by rfl, ?_⟩) (by assumption) ?_
        rotate_left
        · intro w hSw
          try dsimp only at hSw
          go_simp
          try with_reducible rfl
        try simp only [Act.put, List.setIfInBounds_toArray, List.set_cons_zero, List.set_cons_succ]
        refine wpAnyH_take (i := 5) (v := ?_) (by simp only [List.getElem?_toArray, List.getElem?_cons_succ, List.getElem?_cons_zero]; rfl) (by kernel_rfl) (by kernel_rfl) (by kernel_rfl) (fun _ _ _ h => h) (Or.inl ⟨by rfl, ?_⟩) (by assumption) ?_
        rotate_left
        · intro w hSw
          try dsimp only at hSw
          go_simp
          try with_reducible rfl
        try simp only [Act.put, List.setIfInBounds_toArray, List.set_cons_zero, List.set_cons_succ]
        refine wpAnyH_take (i := 6) (v := ?_) (by simp only [List.getElem?_toArray, List.getElem?_cons_succ, List.getElem?_cons_zero]; rfl) (by kernel_rfl) (by kernel_rfl) (by kernel_rfl) (fun _ _ _ h => h) (Or.inl ⟨by rfl, ?_⟩) (by assumption) ?_
        rotate_left
        · intro w hSw
          try dsimp only at hSw
          go_simp
          try with_reducible rfl
        try simp only [Act.put, List.setIfInBounds_toArray, List.set_cons_zero, List.set_cons_succ]
        refine wpAnyH_take (i := 7) (v := ?_) (by simp only [List.getElem?_toArray, List.getElem?_cons_succ, List.getElem?_cons_zero]; rfl) (by kernel_rfl) (by kernel_rfl) (by kernel_rfl) (fun _ _ _ h => h) (Or.inl ⟨by rfl, ?_⟩) (by assumption) ?_
        rotate_left
        · intro w hSw
          try dsimp only at hSw
          go_simp
          try with_reducible rfl
        try simp only [Act.put, List.setIfInBounds_toArray, List.set_cons_zero, List.set_cons_succ]
        refine wpAnyH_take (i := 8) (v := ?_) (by simp only [List.getElem?_toArray, List.getElem?_cons_succ, List.getElem?_cons_zero]; rfl) (by kernel_rfl) (by kernel_rfl) (by kernel_rfl) (fun _ _ _ h => h) (Or.inl ⟨by rfl, ?_⟩) (by assumption) ?_
        rotate_left
        · intro w hSw
          try dsimp only at hSw
          go_simp
          try with_reducible rfl
        try simp only [Act.put, List.setIfInBounds_toArray, List.set_cons_zero, List.set_cons_succ]
        refine wpAnyH_take (i := 10) (v := ?_) (by simp only [List.getElem?_toArray, List.getElem?_cons_succ, List.getElem?_cons_zero]; rfl) (by kernel_rfl) (by kernel_rfl) (by kernel_rfl) (fun _ _ _ h => h) (Or.inl ⟨by rfl, ?_⟩) (by assumption) ?_
        rotate_left
        · intro w hSw
          try dsimp only at hSw
          go_simp
          try with_reducible rfl
        try simp only [Act.put, List.setIfInBounds_toArray, List.set_cons_zero, List.set_cons_succ]
        refine wpAnyH_ready (rs := [9]) (by kernel_rfl) (by simp) ?_
        refine AllReadyH.cons (by simp only [List.getElem?_toArray, List.getElem?_cons_succ, List.getElem?_cons_zero]; rfl) (fun K hK => ?_) AllReadyH.nil
        go_simp
        refine HDG.out.mono ?_
        rintro e w5 ⟨rfl, b5⟩
        have B5 : Hid (Below w4.heap.size w4 w5) := Lib.hid (below_drn0 (m := 1) b5)
        have r1 := nd_34 (W := w5) hz_len ((b5.block b2 (Array.getElem?_eq_some_iff.1 HFK4.out).1).trans HFK4.out)
        have r2 := nd_load (W := w5) HH.out ((b5.block x (Array.getElem?_eq_some_iff.1 HX4.out).1).trans HX4.out)
        simp only [gptr] at r1
        clear b5
        go_wp2_with fail
        refine hK.out _ _ ⟨r1, r2⟩ (fun hHeld => ?_)
        clear hK K
        try simp only [Act.put, List.setIfInBounds_toArray, List.set_cons_zero, List.set_cons_succ]
        refine wpAnyH_take (i := 11) (v := ?_) (by simp only [List.getElem?_toArray, List.getElem?_cons_succ, List.getElem?_cons_zero]; rfl) (by kernel_rfl) (by kernel_rfl) (by kernel_rfl) (fun _ _ _ h => h) (Or.inl ⟨by rfl, ?_⟩) (by assumption) ?_
        rotate_left
        · intro w hSw
          try dsimp only at hSw
          go_simp
          try with_reducible rfl
        try simp only [Act.put, List.setIfInBounds_toArray, List.set_cons_zero, List.set_cons_succ]
        refine wpAnyH_take (i := 12) (v := ?_) (by simp only [List.getElem?_toArray, List.getElem?_cons_succ, List.getElem?_cons_zero]; rfl) (by kernel_rfl) (by kernel_rfl) (by kernel_rfl) (fun _ _ _ h => h) (Or.inl ⟨by rfl, ?_⟩) (by assumption) ?_
        rotate_left
        · intro w hSw
          try dsimp only at hSw
          go_simp
          try with_reducible rfl
        try simp only [Act.put, List.setIfInBounds_toArray, List.set_cons_zero, List.set_cons_succ]
        refine wpAnyH_done (by kernel_rfl) ?_ _
        refine NoPanic.normal ?_
        go_wp2_with fail
        go_round
        case rel => exact ⟨k + 1, g2, i.val, p ++ [dg i], ws2 i, upn σ b2 0, _, _, Lib.hid (by rw [HKP.out]; simp), by have := FKS.out.mid.len; have := HKP.out; omega, by go_num, rfl, Lib.hid (HP1.out.step HH.out FKS.out.bel FKS.out.fk FKS.out.gg FKS.out.ta FKS.out.mid FKS.out.sep FKS.out.bl (by rw [HI.out, HKP.out]) H4.out B5.out)⟩
        case measure => have := FKS.out.mid.len; have := HKP.out; simp [intOf]; omega
    | fork b g ws =>
      have cs : wr.cell? ⟨sb, so, none⟩ = some (.pointer (some ⟨b, 0, none⟩)) := HP.out.cell
      have HHO := Lib.hid (holds_fork wr.drew b (σ b) g hz h 0 hz_len HP.out.ta.1)
      go_wp2_with fail
      try simp only [List.append]
      refine wp_region_noPanic ?_
      refine wp_region_held_drew (S := (fun W => W.cell? ⟨sb, so, none⟩ = some (.pointer (some ⟨b, 0, none⟩)) ∧ (hld ⟨x, 1, none⟩).run Tryz.prog W = .ok (.agg (hv h)) W)) (by kernel_rfl) ⟨cs, nd_load (W := wr.drew) HH.out HP.out.single⟩ (fun hHeld => ?_)
      refine wpAnyH_take (i := 0) (v := ?_) (by simp only [List.getElem?_toArray, List.getElem?_cons_zero]; rfl) (by kernel_rfl) (by kernel_rfl) (by kernel_rfl) (fun _ _ _ h => h) (Or.inl ⟨by rfl, ?_⟩) (by assumption) ?_
      rotate_left
      · intro w hSw
        try dsimp only at hSw
        go_simp
        try with_reducible rfl
      try simp only [Act.put, List.setIfInBounds_toArray, List.set_cons_zero, List.set_cons_succ]
      refine wpAnyH_take (i := 1) (v := ?_) (by simp only [List.getElem?_toArray, List.getElem?_cons_succ, List.getElem?_cons_zero]; rfl) (by kernel_rfl) (by kernel_rfl) (by kernel_rfl) (fun _ _ _ h => h) (Or.inl ⟨by rfl, ?_⟩) (by assumption) ?_
      rotate_left
      · intro w hSw
        try dsimp only at hSw
        go_simp
        try with_reducible rfl
      try simp only [Act.put, List.setIfInBounds_toArray, List.set_cons_zero, List.set_cons_succ]
      refine wpAnyH_take (i := 2) (v := ?_) (by simp only [List.getElem?_toArray, List.getElem?_cons_succ, List.getElem?_cons_zero]; rfl) (by kernel_rfl) (by kernel_rfl) (by kernel_rfl) (fun _ _ _ h => h) (Or.inl ⟨by rfl, ?_⟩) (by assumption) ?_
      rotate_left
      · intro w hSw
        try dsimp only at hSw
        go_simp
        try with_reducible rfl
      try simp only [Act.put, List.setIfInBounds_toArray, List.set_cons_zero, List.set_cons_succ]
      refine wpAnyH_take (i := 3) (v := ?_) (by simp only [List.getElem?_toArray, List.getElem?_cons_succ, List.getElem?_cons_zero]; rfl) (by kernel_rfl) (by kernel_rfl) (by kernel_rfl) (fun _ _ _ h => h) (Or.inl ⟨by rfl, ?_⟩) (by assumption) ?_
      rotate_left
      · intro w hSw
        try dsimp only at hSw
        go_simp
        try with_reducible rfl
      try simp only [Act.put, List.setIfInBounds_toArray, List.set_cons_zero, List.set_cons_succ]
      refine wpAnyH_take (i := 4) (v := ?_) (by simp only [List.getElem?_toArray, List.getElem?_cons_succ, List.getElem?_cons_zero]; rfl) (by kernel_rfl) (by kernel_rfl) (by kernel_rfl) (fun _ _ _ h => h) (Or.inl ⟨by rfl, ?_⟩) (by assumption) ?_
      rotate_left
      · intro w hSw
        try dsimp only at hSw
        go_simp
        try with_reducible rfl
      try simp only [Act.put, List.setIfInBounds_toArray, List.set_cons_zero, List.set_cons_succ]
      refine wpAnyH_take (i := 5) (v := ?_) (by simp only [List.getElem?_toArray, List.getElem?_cons_succ, List.getElem?_cons_zero]; rfl) (by kernel_rfl) (by kernel_rfl) (by kernel_rfl) (fun _ _ _ h => h) (Or.inl ⟨by rfl, ?_⟩) (by assumption) ?_
      rotate_left
      · intro w hSw
        try dsimp only at hSw
        go_simp
        try with_reducible rfl
      try simp only [Act.put, List.setIfInBounds_toArray, List.set_cons_zero, List.set_cons_succ]
      refine wpAnyH_take (i := 6) (v := ?_) (by simp only [List.getElem?_toArray, List.getElem?_cons_succ, List.getElem?_cons_zero]; rfl) (by kernel_rfl) (by kernel_rfl) (by kernel_rfl) (fun _ _ _ h => h) (Or.inl ⟨by rfl, ?_⟩) (by assumption) ?_
      rotate_left
      · intro w hSw
        try dsimp only at hSw
        go_simp
        try with_reducible rfl
      try simp only [Act.put, List.setIfInBounds_toArray, List.set_cons_zero, List.set_cons_succ]
      refine wpAnyH_take (i := 7) (v := ?_) (by simp only [List.getElem?_toArray, List.getElem?_cons_succ, List.getElem?_cons_zero]; rfl) (by kernel_rfl) (by kernel_rfl) (by kernel_rfl) (fun _ _ _ h => h) (Or.inl ⟨by rfl, ?_⟩) (by assumption) ?_
      rotate_left
      · intro w hSw
        try dsimp only at hSw
        go_simp
        try with_reducible rfl
      try simp only [Act.put, List.setIfInBounds_toArray, List.set_cons_zero, List.set_cons_succ]
      refine wpAnyH_take (i := 8) (v := ?_) (by simp only [List.getElem?_toArray, List.getElem?_cons_succ, List.getElem?_cons_zero]; rfl) (by kernel_rfl) (by kernel_rfl) (by kernel_rfl) (fun _ _ _ h => h) (Or.inl ⟨by rfl, ?_⟩) (by assumption) ?_
      rotate_left
      · intro w hSw
        try dsimp only at hSw
        go_simp
        try with_reducible rfl
      try simp only [Act.put, List.setIfInBounds_toArray, List.set_cons_zero, List.set_cons_succ]
      refine wpAnyH_take (i := 9) (v := ?_) (by simp only [List.getElem?_toArray, List.getElem?_cons_succ, List.getElem?_cons_zero]; rfl) (by kernel_rfl) (by kernel_rfl) (by kernel_rfl) (fun _ _ _ h => h) (Or.inl ⟨by rfl, ?_⟩) (by assumption) ?_
      rotate_left
      · intro w hSw
        try dsimp only at hSw
        go_simp
        try with_reducible rfl
      try simp only [Act.put, List.setIfInBounds_toArray, List.set_cons_zero, List.set_cons_succ]
      refine wpAnyH_take (i := 10) (v := ?_) (by simp only [List.getElem?_toArray, List.getElem?_cons_succ, List.getElem?_cons_zero]; rfl) (by kernel_rfl) (by kernel_rfl) (by kernel_rfl) (fun _ _ _ h => h) (Or.inl ⟨by rfl, ?_⟩) (by assumption) ?_
      rotate_left
      · intro w hSw
        try dsimp only at hSw
        go_simp
        try with_reducible rfl
      try simp only [Act.put, List.setIfInBounds_toArray, List.set_cons_zero, List.set_cons_succ]
      refine wpAnyH_take (i := 11) (v := ?_) (by simp only [List.getElem?_toArray, List.getElem?_cons_succ, List.getElem?_cons_zero]; rfl) (by kernel_rfl) (by kernel_rfl) (by kernel_rfl) (fun _ _ _ h => h) (Or.inl ⟨by rfl, ?_⟩) (by assumption) ?_
      rotate_left
      · intro w hSw
        try dsimp only at hSw
        go_simp
        try with_reducible rfl
      try simp only [Act.put, List.setIfInBounds_toArray, List.set_cons_zero, List.set_cons_succ]
      refine wpAnyH_ready (rs := [12]) (by kernel_rfl) (by simp) ?_
      refine AllReadyH.cons (by simp only [List.getElem?_toArray, List.getElem?_cons_succ, List.getElem?_cons_zero]; rfl) (fun K hK => ?_) AllReadyH.nil
      go_simp
      refine HHO.out.mono ?_
      rintro e w1 ⟨rfl, b1⟩
      have HP1 := Lib.hid (HP.out.kb (below_drn0 (m := 1) b1))
      have cs1 := HP1.out.cell
      rw [ptr_pad, pad_fork] at cs1
      have t2 := nd_load (W := w1) HH.out HP1.out.single
      clear b1
      go_wp2_with fail
      refine hK.out _ _ ⟨cs1, t2⟩ (fun hHeld => ?_)
      clear hK K
      try simp only [Act.put, List.setIfInBounds_toArray, List.set_cons_zero, List.set_cons_succ]
      refine wpAnyH_take (i := 13) (v := ?_) (by simp only [List.getElem?_toArray, List.getElem?_cons_succ, List.getElem?_cons_zero]; rfl) (by kernel_rfl) (by kernel_rfl) (by kernel_rfl) (fun _ _ _ h => h) (Or.inl ⟨by rfl, ?_⟩) (by assumption) ?_
      rotate_left
      · intro w hSw
        try dsimp only at hSw
        go_simp
        try with_reducible rfl
      try simp only [Act.put, List.setIfInBounds_toArray, List.set_cons_zero, List.set_cons_succ]
      refine wpAnyH_take (i := 14) (v := ?_) (by simp only [List.getElem?_toArray, List.getElem?_cons_succ, List.getElem?_cons_zero]; rfl) (by kernel_rfl) (by kernel_rfl) (by kernel_rfl) (fun _ _ _ h => h) (Or.inl ⟨by rfl, ?_⟩) (by assumption) ?_
      rotate_left
      · intro w hSw
        try dsimp only at hSw
        go_simp
        try with_reducible rfl
      try simp only [Act.put, List.setIfInBounds_toArray, List.set_cons_zero, List.set_cons_succ]
      refine wpAnyH_done (by kernel_rfl) ?_ _
      refine NoPanic.normal ?_
      have HFL := Lib.hid (forked_fork w1 b (σ b) g k HP1.out.ta.1)
      clear cs t2
      go_wp2_with fail
      refine HFL.out.mono ?_
      rintro e w2 ⟨rfl, rfl⟩
      have FKS := Lib.hid HP1.out.isFork
      obtain ⟨hns, hnx⟩ := FKS.out.nsb HP1.out
      have a0 := nd_0 (W := w1) FKS.out.fk
      have f0 : w1.frozen? ⟨b, 0, none⟩ = false := by simp [World.frozen?, FKS.out.fk]
      have hps := (HP1.out.kb FKS.out.bel)
      have a1 : (w1.setCell ⟨b, 0, none⟩ (.int .i64 0)).cell? ⟨sb, so, none⟩ = some (.pointer (some ⟨b, 0, none⟩)) := (World.cell?_setCell_far w1 ⟨b, 0, none⟩ ⟨sb, so, none⟩ _ (fun e => hns e.symm)).trans hps.cell
      have a2 : w1.cell? ⟨sb, so, none⟩ = some (.pointer (some ⟨b, 0, none⟩)) := hps.cell
      have f1 : w1.frozen? ⟨sb, so, none⟩ = false := by simp [World.frozen?, hps.slot]
      obtain ⟨w4, h4⟩ : ∃ w4, w4 = (w1.setCell ⟨b, 0, none⟩ (.int .i64 0)).setCell ⟨sb, so, none⟩ (.pointer (some ⟨b, 0, none⟩)) := ⟨_, rfl⟩
      have H4 := Lib.hid h4
      have hfk4 : w4.heap[b]? = some (.cells (nv 0 hz 0 (some g)) 91 (0, 0)) := by
        rw [h4, Below.heap_setCell _ _ _ _ (fun e => hns e.symm), cells_set FKS.out.fk]; rfl
      have hx4 : w4.heap[x]? = some (.cells (nv 0 h m none) 91 (0, 0)) := by
        rw [h4, Below.heap_setCell _ _ _ _ HP1.out.xsb, Below.heap_setCell _ _ _ _ hnx]
        exact hps.single
      have HX4 := Lib.hid hx4
      have HFK4 := Lib.hid hfk4
      have HDG := Lib.hid (digit_to w4.drew h k HH.out (by have := FKS.out.mid.len; have := HKP.out; omega))
      clear h4 hfk4 hx4 hps hns hnx
      go_wp2_with fail
      rw [← H4.out]
      clear a0 f0 a1 f1 a2
      obtain ⟨i, hi⟩ : ∃ i, i = dig h k := ⟨_, rfl⟩
      rw [← hi] at HDG
      have HI := Lib.hid hi
      clear hi
      have hi16 : ((i.val : Nat) : Int) < 16 := by have := i.isLt; omega
      have c34 := nd_34 (W := w4) hz_len HFK4.out
      have l4 := nd_load (W := w4.drew) HH.out HX4.out
      simp only [gptr] at c34
      try simp only [List.append]
      refine wp_region_noPanic ?_
      refine wp_region_held_drew (S := (fun W => W.cell? ⟨b, 34, none⟩ = some (.pointer (some ⟨g, 0, none⟩)) ∧ (hld ⟨x, 1, none⟩).run Tryz.prog W = .ok (.agg (hv h)) W)) (by kernel_rfl) ⟨c34, l4⟩ (fun hHeld => ?_)
      refine wpAnyH_take (i := 0) (v := ?_) (by simp only [List.getElem?_toArray, List.getElem?_cons_zero]; rfl) (by kernel_rfl) (by kernel_rfl) (by kernel_rfl) (fun _ _ _ h => h) (Or.inl ⟨by rfl, ?_⟩) (by assumption) ?_
      rotate_left
      · intro w hSw
        try dsimp only at hSw
        go_simp
        try with_reducible rfl
      try simp only [Act.put, List.setIfInBounds_toArray, List.set_cons_zero, List.set_cons_succ]
      refine wpAnyH_take (i := 1) (v := ?_) (by simp only [List.getElem?_toArray, List.getElem?_cons_succ, List.getElem?_cons_zero]; rfl) (by kernel_rfl) (by kernel_rfl) (by kernel_rfl) (fun _ _ _ h => h) (Or.inl ⟨by rfl, ?_⟩) (by assumption) ?_
      rotate_left
      · intro w hSw
        try dsimp only at hSw
        go_simp
        try with_reducible rfl
      try simp only [Act.put, List.setIfInBounds_toArray, List.set_cons_zero, List.set_cons_succ]
      refine wpAnyH_take (i := 2) (v := ?_) (by simp only [List.getElem?_toArray, List.getElem?_cons_succ, List.getElem?_cons_zero]; rfl) (by kernel_rfl) (by kernel_rfl) (by kernel_rfl) (fun _ _ _ h => h) (Or.inl ⟨by rfl, ?_⟩) (by assumption) ?_
      rotate_left
      · intro w hSw
        try dsimp only at hSw
        go_simp
        try with_reducible rfl
      try simp only [Act.put, List.setIfInBounds_toArray, List.set_cons_zero, List.set_cons_succ]
      refine wpAnyH_take (i := 3) (v := ?_) (by simp only [List.getElem?_toArray, List.getElem?_cons_succ, List.getElem?_cons_zero]; rfl) (by kernel_rfl) (by kernel_rfl) (by kernel_rfl) (fun _ _ _ h => h) (Or.inl ⟨by rfl, ?_⟩) (by assumption) ?_
      rotate_left
      · intro w hSw
        try dsimp only at hSw
        go_simp
        try with_reducible rfl
      try simp only [Act.put, List.setIfInBounds_toArray, List.set_cons_zero, List.set_cons_succ]
      refine wpAnyH_take (i := 4) (v := ?_) (by simp only [List.getElem?_toArray, List.getElem?_cons_succ, List.getElem?_cons_zero]; rfl) (by kernel_rfl) (by kernel_rfl) (by kernel_rfl) (fun _ _ _ h => h) (Or.inl ⟨by rfl, ?_⟩) (by assumption) ?_
      rotate_left
      · intro w hSw
        try dsimp only at hSw
        go_simp
        try with_reducible rfl
      try simp only [Act.put, List.setIfInBounds_toArray, List.set_cons_zero, List.set_cons_succ]
      refine wpAnyH_take (i := 5) (v := ?_) (by simp only [List.getElem?_toArray, List.getElem?_cons_succ, List.getElem?_cons_zero]; rfl) (by kernel_rfl) (by kernel_rfl) (by kernel_rfl) (fun _ _ _ h => h) (Or.inl ⟨by rfl, ?_⟩) (by assumption) ?_
      rotate_left
      · intro w hSw
        try dsimp only at hSw
        go_simp
        try with_reducible rfl
      try simp only [Act.put, List.setIfInBounds_toArray, List.set_cons_zero, List.set_cons_succ]
      refine wpAnyH_take (i := 6) (v := ?_) (by simp only [List.getElem?_toArray, List.getElem?_cons_succ, List.getElem?_cons_zero]; rfl) (by kernel_rfl) (by kernel_rfl) (by kernel_rfl) (fun _ _ _ h => h) (Or.inl ⟨by rfl, ?_⟩) (by assumption) ?_
      rotate_left
      · intro w hSw
        try dsimp only at hSw
        go_simp
        try with_reducible rfl
      try simp only [Act.put, List.setIfInBounds_toArray, List.set_cons_zero, List.set_cons_succ]
      refine wpAnyH_take (i := 7) (v := ?_) (by simp only [List.getElem?_toArray, List.getElem?_cons_succ, List.getElem?_cons_zero]; rfl) (by kernel_rfl) (by kernel_rfl) (by kernel_rfl) (fun _ _ _ h => h) (Or.inl ⟨by rfl, ?_⟩) (by assumption) ?_
      rotate_left
      · intro w hSw
        try dsimp only at hSw
        go_simp
        try with_reducible rfl
      try simp only [Act.put, List.setIfInBounds_toArray, List.set_cons_zero, List.set_cons_succ]
      refine wpAnyH_take (i := 8) (v := ?_) (by simp only [List.getElem?_toArray, List.getElem?_cons_succ, List.getElem?_cons_zero]; rfl) (by kernel_rfl) (by kernel_rfl) (by kernel_rfl) (fun _ _ _ h => h) (Or.inl ⟨by rfl, ?_⟩) (by assumption) ?_
      rotate_left
      · intro w hSw
        try dsimp only at hSw
        go_simp
        try with_reducible rfl
      try simp only [Act.put, List.setIfInBounds_toArray, List.set_cons_zero, List.set_cons_succ]
      refine wpAnyH_take (i := 10) (v := ?_) (by simp only [List.getElem?_toArray, List.getElem?_cons_succ, List.getElem?_cons_zero]; rfl) (by kernel_rfl) (by kernel_rfl) (by kernel_rfl) (fun _ _ _ h => h) (Or.inl ⟨by rfl, ?_⟩) (by assumption) ?_
      rotate_left
      · intro w hSw
        try dsimp only at hSw
        go_simp
        try with_reducible rfl
      try simp only [Act.put, List.setIfInBounds_toArray, List.set_cons_zero, List.set_cons_succ]
      refine wpAnyH_ready (rs := [9]) (by kernel_rfl) (by simp) ?_
      refine AllReadyH.cons (by simp only [List.getElem?_toArray, List.getElem?_cons_succ, List.getElem?_cons_zero]; rfl) (fun K hK => ?_) AllReadyH.nil
      go_simp
      refine HDG.out.mono ?_
      rintro e w5 ⟨rfl, b5⟩
      have B5 : Hid (Below w4.heap.size w4 w5) := Lib.hid (below_drn0 (m := 1) b5)
      have r1 := nd_34 (W := w5) hz_len ((b5.block b (Array.getElem?_eq_some_iff.1 HFK4.out).1).trans HFK4.out)
      have r2 := nd_load (W := w5) HH.out ((b5.block x (Array.getElem?_eq_some_iff.1 HX4.out).1).trans HX4.out)
      simp only [gptr] at r1
      clear b5
      go_wp2_with fail
      refine hK.out _ _ ⟨r1, r2⟩ (fun hHeld => ?_)
      clear hK K
      try simp only [Act.put, List.setIfInBounds_toArray, List.set_cons_zero, List.set_cons_succ]
      refine wpAnyH_take (i := 11) (v := ?_) (by simp only [List.getElem?_toArray, List.getElem?_cons_succ, List.getElem?_cons_zero]; rfl) (by kernel_rfl) (by kernel_rfl) (by kernel_rfl) (fun _ _ _ h => h) (Or.inl ⟨by rfl, ?_⟩) (by assumption) ?_
      rotate_left
      · intro w hSw
        try dsimp only at hSw
        go_simp
        try with_reducible rfl
      try simp only [Act.put, List.setIfInBounds_toArray, List.set_cons_zero, List.set_cons_succ]
      refine wpAnyH_take (i := 12) (v := ?_) (by simp only [List.getElem?_toArray, List.getElem?_cons_succ, List.getElem?_cons_zero]; rfl) (by kernel_rfl) (by kernel_rfl) (by kernel_rfl) (fun _ _ _ h => h) (Or.inl ⟨by rfl, ?_⟩) (by assumption) ?_
      rotate_left
      · intro w hSw
        try dsimp only at hSw
        go_simp
        try with_reducible rfl
      try simp only [Act.put, List.setIfInBounds_toArray, List.set_cons_zero, List.set_cons_succ]
      refine wpAnyH_done (by kernel_rfl) ?_ _
      refine NoPanic.normal ?_
      go_wp2_with fail
      go_round
      case rel => exact ⟨k + 1, g, i.val, p ++ [dg i], ws i, upn σ b 0, _, _, Lib.hid (by rw [HKP.out]; simp), by have := FKS.out.mid.len; have := HKP.out; omega, by go_num, rfl, Lib.hid (HP1.out.step HH.out FKS.out.bel FKS.out.fk FKS.out.gg FKS.out.ta FKS.out.mid FKS.out.sep FKS.out.bl (by rw [HI.out, HKP.out]) H4.out B5.out)⟩
      case measure => have := FKS.out.mid.len; have := HKP.out; simp [intOf]; omega
end Go.Proofs.YtbpccbhlggcmfaaGreatDoor
namespace Go.Proofs.YtbpccbhlggcmfaaGreatDoor
open Go.RowKit
attribute [local go_sem ↓] hld_open heq_open hne_open

/-- Behind Put. -/
def TPut (w : World) (tb : Nat) (T : Nd) (ρ : Nat → Nat) (h : List UInt8) (m : Int) (W : World) : Prop :=
  ∃ (T' : Nd) (σ : Nat → Nat), TT W tb T' σ ∧ PutS [] h m ρ σ T T' ∧ (∀ k, T'.Bl k → T.Bl k ∨ w.heap.size ≤ k) ∧ Only (fun k => k = tb ∨ T.Bl k) w W
theorem puts_same {T : Nd} {ρ : Nat → Nat} {h : List UInt8} {m : Int} (hw : T.Wf []) (hl : T.lk 0 h = some m) : PutS [] h m ρ ρ T T where
  wf := hw
  lk x _ _ := by
    show T.lk 0 x = if x = h then some m else T.lk 0 x
    by_cases e : x = h
    · rw [if_pos e, e, hl]
    · rw [if_neg e]
  cnt := by show _ = _ + if T.lk 0 h = none then 1 else 0; rw [hl]; rfl
  nun := Nat.le_add_right _ _
  sv _ hs := hs
  num hn := hn
theorem PutS.from {p h : List UInt8} {m : Int} {ρ ρ' σ : Nat → Nat} {t t' : Nd} (H : PutS p h m ρ' σ t t') (ha : ∀ k, t.Bl k → ρ' k = ρ k) : PutS p h m ρ σ t t' :=
  { H with nun := by rw [← nun_agree ha]; exact H.nun, sv := fun R hs => H.sv R (sv_agree ha hs) }
theorem TT.agree {w : World} {tb : Nat} {T : Nd} {ρ ρ' : Nat → Nat} (h : TT w tb T ρ) (ha : ∀ k, T.Bl k → ρ' k = ρ k) : TT w tb T ρ' := ⟨h.top, h.ta.agree (fun _ _ => rfl) ha, h.wf, h.sep, h.ne⟩
set_option maxHeartbeats 1000000 in
theorem new_to9 (w : World) : Calls Tryz.prog 6 #[] w fun e w' => e = .returned (.pointer (some ⟨w.heap.size, 0, none⟩)) ∧ Below w.heap.size w w' ∧ TT w' w.heap.size .none (fun _ => 0) := by
  have b1 := (Below.refl w.heap.size w).alloc (Nat.le_refl _) (.cells #[.pointer none, .int .i64 0] 66)
  have h1 := heap_alloc_last w (.cells #[.pointer none, .int .i64 0] 66)
  have B1 := Lib.hid b1
  have H1 : Hid (TT (w.alloc (.cells #[.pointer none, .int .i64 0] 66)) w.heap.size .none (fun _ => 0)) := Lib.hid ⟨h1, trivial, trivial, trivial, fun h => h⟩
  clear b1 h1
  go_enter Tryz.func6, Tryz.ntmps6
  go_wp2_with fail
  go_ret
  exact ⟨rfl, B1.out, H1.out⟩
theorem put_neg (w : World) (tb : Nat) (h : List UInt8) (m : Int) (hm : m < 0) : Calls Tryz.prog 11 #[.pointer (some ⟨tb, 0, none⟩), .agg (hv h), .int .i64 m] w fun e w' => e = .returned (.bool false) ∧ Below w.heap.size w w' := by
  have B1 := Lib.hid ((Below.refl w.heap.size w).alloc (Nat.le_refl _) (.cells (hv h) 36))
  have hd : decide (m < 0) = true := decide_eq_true hm
  go_enter Tryz.func11, Tryz.ntmps11
  go_wp2_with fail
  go_ret
  exact ⟨rfl, B1.out⟩
set_option maxRecDepth 20000 in
set_option maxHeartbeats 2000000 in
theorem tput_to (w : World) (tb : Nat) (T : Nd) (ρ : Nat → Nat) (h : List UInt8) (m : Int) (hh : h.length = 32) (hm : 0 ≤ m ∧ m ≤ 1000000) (ht : TT w tb T ρ) (hbig : T.ents.length ≤ 1000000) :
    Calls Tryz.prog 11 #[.pointer (some ⟨tb, 0, none⟩), .agg (hv h), .int .i64 m] w fun e w' => e = .returned (.bool true) ∧ TPut w tb T ρ h m w' := by
  have b1 := (Below.refl w.heap.size w).alloc (Nat.le_refl _) (.cells (hv h) 36)
  have hh1 := heap_alloc_last w (.cells (hv h) 36)
  have B1 := Lib.hid b1
  have HT1 := Lib.hid (ht.kb b1)
  have HH1 := Lib.hid hh1
  have HH := Lib.hid hh
  have HM := Lib.hid hm
  have HBIG := Lib.hid hbig
  have hl := hld_row hh hh1
  have HG := Lib.hid (fun W (hW : TT W tb T ρ) => get_to W tb T ρ h hh hW)
  have hd : decide (m < 0) = false := decide_eq_false (by omega)
  have HTB : Hid (tb < w.heap.size) := Lib.hid ht.lt
  have HTL : Hid (∀ k, T.Bl k → k < w.heap.size) := Lib.hid ht.ta.lt
  have HFIN : Hid (∀ W1 W, Below w.heap.size w W1 → PPost (W1.alloc (.cells (nv 0 h m none) 91)) tb T (upn ρ W1.heap.size 0) W1.heap.size h m W → TPut w tb T ρ h m W) := Lib.hid fun W1 W hb hp => by
    obtain ⟨T', σ, h1, h2, h3, h4⟩ := hp
    refine ⟨T', σ, h1, h2.from (fun k hk => upn_other _ _ (fun e => ?_)), fun k hk => ?_, ?_⟩
    · have := HTL.out k hk; have := hb.size; omega
    · rcases h3 k hk with e | e | e
      · exact .inl e
      · exact .inr (by rw [e]; exact hb.size)
      · exact .inr (by simp at e; have := hb.size; omega)
    · exact (Only.of_below (S := fun k => k = tb ∨ T.Bl k) (hb.alloc hb.size _)).trans h4 (fun _ e => e) (fun _ _ e => e)
  have HPL : Hid (∀ W1, TT W1 tb T ρ → Below w.heap.size w W1 → Calls Tryz.prog 35 #[.pointer (some ⟨tb, 0, none⟩), .pointer (some ⟨W1.heap.size, 0, none⟩)] (W1.alloc (.cells (nv 0 h m none) 91)) fun e w' => e = .returned (.tuple #[]) ∧ TPut w tb T ρ h m w') := Lib.hid fun W1 hW hb => by
    have hx := heap_alloc_last W1 (.cells (nv 0 h m none) 91)
    have b2 := (Below.refl W1.heap.size W1).alloc (Nat.le_refl _) (.cells (nv 0 h m none) 91)
    have hnx : ¬ T.Bl W1.heap.size := fun e => absurd (hW.ta.lt _ e) (Nat.lt_irrefl _)
    refine (place_to _ tb T (upn ρ W1.heap.size 0) W1.heap.size h m HH.out HM.out ((hW.kb b2).agree (fun k hk => upn_other _ _ (fun e => hnx (e ▸ hk)))) hx hnx (upn_same _ _ _) HBIG.out).mono ?_
    rintro e w' ⟨rfl, hp⟩
    exact ⟨rfl, HFIN.out W1 w' hb hp⟩
  have hsame : ∀ n, T.lk 0 h = some n → n = m → ∀ W, Below w.heap.size w W → TPut w tb T ρ h m W := fun n e1 e2 W hb => ⟨T, ρ, (HT1.out.kb (Below.refl _ _)).1 |> fun _ => ht.kb hb, puts_same ht.wf (by rw [e1, e2]), fun k hk => .inl hk, Only.of_below hb⟩
  have HSAME := Lib.hid hsame
  clear b1 hh1 hh hm ht hbig hsame HFIN
  generalize hlk : T.lk 0 h = o at *
  cases o with
  | none =>
    clear HSAME
    simp only [gnum, Option.getD_none, Option.isSome_none] at HG
    go_enter Tryz.func11, Tryz.ntmps11
    go_wp2_with (first
      | (go_at_call 12; refine (HG.out _ HT1.out).mono ?_; rintro e w1 ⟨rfl, b2⟩; have B2 := Lib.hid (B1.out.trans (b2.mono B1.out.size)); have HT2 := Lib.hid (HT1.out.kb b2); have l5 := hld_row HH.out ((b2.block w.heap.size (Array.getElem?_eq_some_iff.1 HH1.out).1).trans HH1.out); clear b2)
      | (refine build_to (vals := #[(1, .agg (hv h)), (2, .int .i64 m)]) (nb1 h HH.out m) ?hv ?_; (case hv => simp [Act.eval]))
      | (go_at_call 35; refine (HPL.out _ HT2.out B2.out).mono ?_; rintro e w2 ⟨rfl, r2⟩; have R2 := Lib.hid r2; clear r2))
    go_ret
    exact ⟨rfl, R2.out⟩
  | some n =>
    simp only [gnum, Option.getD_some, Option.isSome_some] at HG
    by_cases hnm : n = m
    · have HS := Lib.hid (HSAME.out n rfl hnm)
      subst hnm
      clear HSAME
      go_enter Tryz.func11, Tryz.ntmps11
      go_wp2_with (go_at_call 12; refine (HG.out _ HT1.out).mono ?_; rintro e w1 ⟨rfl, b2⟩; have B2 := Lib.hid (B1.out.trans (b2.mono B1.out.size)); have HT2 := Lib.hid (HT1.out.kb b2); have l5 := hld_row HH.out ((b2.block w.heap.size (Array.getElem?_eq_some_iff.1 HH1.out).1).trans HH1.out); clear b2)
      go_ret
      exact ⟨rfl, HS.out _ B2.out⟩
    · have hne : (n == m) = false := by simpa using hnm
      clear HSAME
      go_enter Tryz.func11, Tryz.ntmps11
      go_wp2_with (first
        | (go_at_call 12; refine (HG.out _ HT1.out).mono ?_; rintro e w1 ⟨rfl, b2⟩; have B2 := Lib.hid (B1.out.trans (b2.mono B1.out.size)); have HT2 := Lib.hid (HT1.out.kb b2); have l5 := hld_row HH.out ((b2.block w.heap.size (Array.getElem?_eq_some_iff.1 HH1.out).1).trans HH1.out); clear b2)
        | (refine build_to (vals := #[(1, .agg (hv h)), (2, .int .i64 m)]) (nb1 h HH.out m) ?hv ?_; (case hv => simp [Act.eval]))
        | (go_at_call 35; refine (HPL.out _ HT2.out B2.out).mono ?_; rintro e w2 ⟨rfl, r2⟩; have R2 := Lib.hid r2; clear r2))
      go_ret
      exact ⟨rfl, R2.out⟩
end Go.Proofs.YtbpccbhlggcmfaaGreatDoor
