/- What turn of the reference's files does with each work. Conditions: no more than a million files; the bytes within 2^24. -/
import Derived.Test.YtageblggakfbdaaGreatDoorRefP
import Derived.Test.YtageblggakfbdaaGreatDoorDskH
namespace Go.Proofs.YtageblggakfbdaaGreatDoor
open Go.RowKit
open Go.Maps

theorem find_bat {w : World} {A : Nat → Prop} {v : Value} {E : List Fe} (h : FAt w A v E) (nm : Key) : ∃ p cap, findR (aget nm E) = .tuple #[.slice p (fbytes nm (fb E)).length cap, .bool (aget nm E).isSome] ∧ BAt w A (.slice p (fbytes nm (fb E)).length cap) (fbytes nm (fb E)) := by
  cases hg : aget nm E with
  | none =>
    have e : fbytes nm (fb E) = [] := by unfold fbytes; rw [fb_get, hg]; rfl
    rw [e]
    exact ⟨none, 0, rfl, .inl ⟨rfl, rfl⟩, fun hn => absurd rfl hn⟩
  | some x =>
    have e : fbytes nm (fb E) = x.2 := by unfold fbytes; rw [fb_get, hg]; rfl
    have hb := h.bod (nm, x) (aget_mem hg)
    obtain ⟨p, c, hv⟩ := len_val hb.seen
    have hv' : x.1 = .slice p x.2.length c := hv
    rw [e]
    exact ⟨p, c, by rw [← hv']; rfl, by rw [← hv']; exact hb⟩
theorem cell_kb {W W' : World} {a : Addr} {v : Value} (h : W.cell? a = some v) (hb : Below W.heap.size W W') : W'.cell? a = some v := by
  have h2 := World.block_lt_of_cell? W _ h
  rw [World.cell?_of_block (w := W) (hb.block _ h2)]; exact h
theorem below_da (W : World) (o : Obj) : Below W.heap.size W (W.drew.alloc o) := ⟨rfl, rfl, rfl, by simp, fun k hk => Below.heap_alloc W.drew _ _ hk⟩
theorem bslice_run (p : Option Addr) (n cap m : Nat) (hm : m ≤ cap) (h0 : p = none → m = 0 ∧ n = 0 ∧ cap = 0) (W : World) : (Instr.slice 29 (.slice p n cap) none (some (.int .i64 m)) none).run Tryz.prog W = .ok (.slice p m cap) W := by
  have h1 : (m : Int) ≤ (cap : Int) := by omega
  have h2 : (0 : Int) ≤ (m : Int) := by omega
  cases p with
  | none => obtain ⟨rfl, rfl, rfl⟩ := h0 rfl; simp [Instr.slice, run_underlying Tryz.underlying29, go_sem]
  | some a => simp [Instr.slice, run_underlying Tryz.underlying29, go_sem, h1, h2]
theorem BAt.form {w : World} {A : Nat → Prop} {p : Option Addr} {cap : Nat} {l : List Int} (h : BAt w A (.slice p l.length cap) l) : l.length ≤ cap ∧ (p = none → l.length = 0 ∧ cap = 0) := by
  rcases h.seenr with ⟨h1, h2⟩ | ⟨g, o, cap', h1, hc, _⟩
  · simp at h1; obtain ⟨rfl, _, rfl⟩ := h1; subst h2; exact ⟨Nat.le_refl _, fun _ => ⟨rfl, rfl⟩⟩
  · simp at h1; obtain ⟨rfl, rfl⟩ := h1; exact ⟨hc, fun e => by cases e⟩
/-- What turn leaves. -/
def TPost (w : World) (A : Nat → Prop) (F : Fil) (e : Ending) (w' : World) : Prop := ∃ v' E', e = .returned v' ∧ FAt w' (fun k => A k ∨ w.heap.size ≤ k) v' E' ∧ fb E' = F ∧ Below w.heap.size w w'
set_option maxRecDepth 20000 in
set_option maxHeartbeats 2000000 in
theorem rturn0_to (w : World) (A : Nat → Prop) (v : Value) (E : List Fe) (nm to : Key) (u : Value) (bs : List Int) (n : Int) (h : FAt w A v E) (hl : E.length ≤ 1000000) (hu : BAt w A u bs) (ht : (fbytes nm (fb E)).length ≤ 16777216) (hbs : bs.length ≤ 16777216) :
    Calls Tryz.prog 57 #[v, .agg #[.int .i64 1, stv nm, stv to, u, .int .i64 n]] w (TPost w A (aput nm (fbytes nm (fb E) ++ bs) (fb E))) := by
  obtain ⟨pu, cu, rfl⟩ := len_val hu.seen
  obtain ⟨p0, cap0, rfl, _⟩ := h.slice
  have H := Lib.hid h
  have HU := Lib.hid hu
  clear h hu
  go_enter Tryz.func57, Tryz.ntmps57
  go_wp2_with fail
  have B0 : Hid (Below w.heap.size w (w.alloc (.cells #[.int .i64 1, stv nm, stv to, .slice pu bs.length cu, .int .i64 n] 95))) := Lib.hid ((Below.refl _ w).alloc (Nat.le_refl _) _)
  have X0 : Hid ((w.alloc (.cells #[.int .i64 1, stv nm, stv to, .slice pu bs.length cu, .int .i64 n] 95)).heap[w.heap.size]? = some (.cells #[.int .i64 1, stv nm, stv to, .slice pu bs.length cu, .int .i64 n] 95 (0, 0))) := Lib.hid (heap_alloc_last w _)
  generalize w.alloc (.cells #[.int .i64 1, stv nm, stv to, .slice pu bs.length cu, .int .i64 n] 95) = W0 at *
  have H0 := Lib.hid (H.out.kb B0.out)
  have HU0 := Lib.hid (HU.out.kb B0.out)
  refine (find_to W0 A _ E nm H0.out hl).mono ?_
  rintro e w' ⟨rfl, rfl⟩
  obtain ⟨pb, cb, hfr, hbb⟩ := find_bat H0.out nm
  rw [hfr]
  have HBB := Lib.hid hbb
  obtain ⟨bl, hbl⟩ : ∃ bl, bl = fbytes nm (fb E) := ⟨_, rfl⟩
  rw [← hbl] at HBB ⊢
  have HBL := Lib.hid hbl
  clear hfr hbb hbl
  have c0 : W0.cell? ⟨w.heap.size, 0, none⟩ = some (.int .i64 1) := by rw [cell_of_row W0 _ 0 _ _ _ X0.out]; rfl
  have c1 : W0.cell? ⟨w.heap.size, 1, none⟩ = some (stv nm) := by rw [cell_of_row W0 _ 1 _ _ _ X0.out]; rfl
  have c2 : W0.cell? ⟨w.heap.size, 2, none⟩ = some (stv to) := by rw [cell_of_row W0 _ 2 _ _ _ X0.out]; rfl
  have c3 : W0.cell? ⟨w.heap.size, 3, none⟩ = some (.slice pu bs.length cu) := by rw [cell_of_row W0 _ 3 _ _ _ X0.out]; rfl
  have c4 : W0.cell? ⟨w.heap.size, 4, none⟩ = some (.int .i64 n) := by rw [cell_of_row W0 _ 4 _ _ _ X0.out]; rfl
  have HBZ : Hid (bl.length ≤ 16777216) := Lib.hid (by rw [HBL.out]; exact ht)
  have HC : Hid (∀ W, Below W0.heap.size W0 W → W.cell? ⟨w.heap.size, 1, none⟩ = some (stv nm) ∧ W.cell? ⟨w.heap.size, 3, none⟩ = some (.slice pu bs.length cu)) := Lib.hid (fun W hW => ⟨cell_kb c1 hW, cell_kb c3 hW⟩)
  have hown : Hid (BOwn (W0.drew.alloc (.cells #[] 5)) W0.heap.size (.slice (some ⟨W0.heap.size, 0, none⟩) 0 0) []) := Lib.hid (World.ownsRow_made (base := W0.heap.size) (e := 5) (size := 1) W0.drew #[] 0 (Nat.le_refl _) (by decide) rfl)
  have HB3 : Hid (Below W0.heap.size W0 (W0.drew.alloc (.cells #[] 5))) := Lib.hid (below_da W0 _)
  have HL1 : Hid (([] : List Int).length + bl.length ≤ 140737488351232) := Lib.hid (by have := HBZ.out; simp; omega)
  have HL2 : Hid (bl.length + bs.length ≤ 140737488351232) := Lib.hid (by have := HBZ.out; omega)
  clear ht hbs c2 c4
  go_wp2_with fail
  try simp only [List.append]
  refine wp_region_noPanic ?_
  refine wp_region_held_drew (S := (fun W => W.cell? ⟨w.heap.size, 1, none⟩ = some (stv nm) ∧ W.cell? ⟨w.heap.size, 3, none⟩ = some (.slice pu bs.length cu))) (by kernel_rfl) ⟨c1, c3⟩ (fun hHeld => ?_)
  refine wpAnyH_take (i := 0) (v := ?_) (by simp only [List.getElem?_toArray, List.getElem?_cons_zero]; rfl) (by kernel_rfl) (by kernel_rfl) (by kernel_rfl) (fun _ _ _ h => h) (Or.inl ⟨by rfl, ?_⟩) (by assumption) ?_
  rotate_left
  · intro w hSw
    try dsimp only at hSw
    go_simp
    try with_reducible rfl
  try simp only [Act.put, List.setIfInBounds_toArray, List.set_cons_zero, List.set_cons_succ]
  refine wpAnyH_take (i := 1) (v := ?_) (by simp only [List.getElem?_toArray, List.getElem?_cons_succ, List.getElem?_cons_zero]; rfl) (by kernel_rfl) (by kernel_rfl) (by kernel_rfl) (fun _ _ _ h => h) (Or.inl ⟨by rfl, ?_⟩) (by assumption) ?_
  rotate_left
  · intro w hSw
    try dsimp only at hSw
    go_simp
    try with_reducible rfl
  try simp only [Act.put, List.setIfInBounds_toArray, List.set_cons_zero, List.set_cons_succ]
  refine wpAnyH_take (i := 2) (v := ?_) (by simp only [List.getElem?_toArray, List.getElem?_cons_succ, List.getElem?_cons_zero]; rfl) (by kernel_rfl) (by kernel_rfl) (by kernel_rfl) (fun _ _ _ h => h) (Or.inl ⟨by rfl, ?_⟩) (by assumption) ?_
  rotate_left
  · intro w hSw
    try dsimp only at hSw
    go_simp
    try with_reducible rfl
  try simp only [Act.put, List.setIfInBounds_toArray, List.set_cons_zero, List.set_cons_succ]
  refine wpAnyH_take (i := 4) (v := ?_) (by simp only [List.getElem?_toArray, List.getElem?_cons_succ, List.getElem?_cons_zero]; rfl) (by kernel_rfl) (by kernel_rfl) (by kernel_rfl) (fun _ _ _ h => h) (Or.inl ⟨by rfl, ?_⟩) (by assumption) ?_
  rotate_left
  · intro w hSw
    try dsimp only at hSw
    go_simp
    try with_reducible rfl
  try simp only [Act.put, List.setIfInBounds_toArray, List.set_cons_zero, List.set_cons_succ]
  refine wpAnyH_take (i := 6) (v := ?_) (by simp only [List.getElem?_toArray, List.getElem?_cons_succ, List.getElem?_cons_zero]; rfl) (by kernel_rfl) (by kernel_rfl) (by kernel_rfl) (fun _ _ _ h => h) (Or.inl ⟨by rfl, ?_⟩) (by assumption) ?_
  rotate_left
  · intro w hSw
    try dsimp only at hSw
    go_simp
    try with_reducible rfl
  try simp only [Act.put, List.setIfInBounds_toArray, List.set_cons_zero, List.set_cons_succ]
  refine wpAnyH_take (i := 7) (v := ?_) (by simp only [List.getElem?_toArray, List.getElem?_cons_succ, List.getElem?_cons_zero]; rfl) (by kernel_rfl) (by kernel_rfl) (by kernel_rfl) (fun _ _ _ h => h) (Or.inl ⟨by rfl, ?_⟩) (by assumption) ?_
  rotate_left
  · intro w hSw
    try dsimp only at hSw
    go_simp
    try with_reducible rfl
  try simp only [Act.put, List.setIfInBounds_toArray, List.set_cons_zero, List.set_cons_succ]
  refine wpAnyH_ready (rs := [3]) (by kernel_rfl) (by simp) ?_
  refine AllReadyH.cons (by simp only [List.getElem?_toArray, List.getElem?_cons_succ, List.getElem?_cons_zero]; rfl) (fun K hK => ?_) AllReadyH.nil
  go_simp
  refine hK.out _ _ (HC.out _ HB3.out) (fun hHeld => ?_)
  clear hK K
  try simp only [Act.put, List.setIfInBounds_toArray, List.set_cons_zero, List.set_cons_succ]
  refine wpAnyH_ready (rs := [5]) (by kernel_rfl) (by simp) ?_
  refine AllReadyH.cons (by simp only [List.getElem?_toArray, List.getElem?_cons_succ, List.getElem?_cons_zero]; rfl) (fun K hK => ?_) AllReadyH.nil
  refine step_append_bytes (by rfl) _ _ (by rfl) W0.heap.size (.slice (some ⟨W0.heap.size, 0, none⟩) 0 0) [] (by rfl) hown.out (.slice pb bl.length cb) bl (by rfl) (HBB.out.kb HB3.out).seen HL1.out HB3.out.size ?_
  intro v5 w5 own5 grow5 _
  rw [List.nil_append] at own5
  have B5 : Hid (Below W0.heap.size W0 w5) := Lib.hid (HB3.out.grown grow5 HB3.out.size (fun k hk => (hown.out.lt k hk).1))
  obtain ⟨p5, cap5, rfl⟩ := own_slice own5
  have O5 := Lib.hid own5
  clear own5 grow5
  refine hK.out _ _ (HC.out _ B5.out) (fun hHeld => ?_)
  clear hK K
  try simp only [Act.put, List.setIfInBounds_toArray, List.set_cons_zero, List.set_cons_succ]
  refine wpAnyH_ready (rs := [8]) (by kernel_rfl) (by simp) ?_
  refine AllReadyH.cons (by simp only [List.getElem?_toArray, List.getElem?_cons_succ, List.getElem?_cons_zero]; rfl) (fun K hK => ?_) AllReadyH.nil
  refine step_append_bytes (by rfl) _ _ (by rfl) W0.heap.size (.slice p5 bl.length cap5) bl (by rfl) O5.out (.slice pu bs.length cu) bs (by rfl) (HU0.out.kb B5.out).seen HL2.out B5.out.size ?_
  intro v8 w8 own8 grow8 _
  obtain ⟨zs, hz⟩ : ∃ zs, zs = bl ++ bs := ⟨_, rfl⟩
  have HZ := Lib.hid hz
  rw [← hz] at own8
  clear hz
  have B8 : Hid (Below W0.heap.size W0 w8) := Lib.hid (B5.out.grown grow8 B5.out.size (fun k hk => (O5.out.lt k hk).1))
  obtain ⟨p8, cap8, rfl⟩ := own_slice own8
  have O8 := Lib.hid own8
  clear own8 grow8
  refine hK.out _ _ (HC.out _ B8.out) (fun hHeld => ?_)
  clear hK K
  try simp only [Act.put, List.setIfInBounds_toArray, List.set_cons_zero, List.set_cons_succ]
  refine wpAnyH_take (i := 9) (v := ?_) (by simp only [List.getElem?_toArray, List.getElem?_cons_succ, List.getElem?_cons_zero]; rfl) (by kernel_rfl) (by kernel_rfl) (by kernel_rfl) (fun _ _ _ h => h) (Or.inl ⟨by rfl, ?_⟩) (by assumption) ?_
  rotate_left
  · intro w hSw
    try dsimp only at hSw
    go_simp
    try with_reducible rfl
  try simp only [Act.put, List.setIfInBounds_toArray, List.set_cons_zero, List.set_cons_succ]
  refine wpAnyH_ready (rs := [10]) (by kernel_rfl) (by simp) ?_
  refine AllReadyH.cons (by simp only [List.getElem?_toArray, List.getElem?_cons_succ, List.getElem?_cons_zero]; rfl) (fun K hK => ?_) AllReadyH.nil
  go_simp
  refine (rput_to w8 (fun k => A k ∨ w.heap.size ≤ k) _ E nm (.slice p8 zs.length cap8) zs ((H0.out.kb B8.out).mono (fun k hk => .inl hk)) hl (BAt.own O8.out (fun k hk => .inr (Nat.le_trans B0.out.size hk)))).mono ?_
  rintro e w9 ⟨v9, rfl, h9, b9⟩
  have H9 := Lib.hid h9
  have B9 : Hid (Below W0.heap.size W0 w9) := Lib.hid (B8.out.trans (b9.mono B8.out.size))
  clear h9 b9
  go_wp2_with fail
  refine hK.out _ _ (HC.out _ B9.out) (fun hHeld => ?_)
  clear hK K
  try simp only [Act.put, List.setIfInBounds_toArray, List.set_cons_zero, List.set_cons_succ]
  refine wpAnyH_take (i := 11) (v := ?_) (by simp only [List.getElem?_toArray, List.getElem?_cons_succ, List.getElem?_cons_zero]; rfl) (by kernel_rfl) (by kernel_rfl) (by kernel_rfl) (fun _ _ _ h => h) (Or.inl ⟨by rfl, ?_⟩) (by assumption) ?_
  rotate_left
  · intro w hSw
    try dsimp only at hSw
    go_simp
    try with_reducible rfl
  try simp only [Act.put, List.setIfInBounds_toArray, List.set_cons_zero, List.set_cons_succ]
  refine wpAnyH_done (by kernel_rfl) ?_ _
  refine NoPanic.normal ?_
  go_wp2_with fail
  go_ret
  refine ⟨_, _, rfl, H9.out.mono (fun k hk => ?_), ?_, B0.out.trans (B9.out.mono B0.out.size)⟩
  · rcases hk with (hk | hk) | hk
    · exact .inl hk
    · exact .inr hk
    · exact .inr (Nat.le_trans (Nat.le_trans B0.out.size B8.out.size) hk)
  · rw [fb_put, HZ.out, HBL.out]
set_option maxRecDepth 20000 in
set_option maxHeartbeats 2000000 in
theorem rturn1_to (w : World) (A : Nat → Prop) (v : Value) (E : List Fe) (nm to : Key) (u : Value) (bs : List Int) (n : Nat) (h : FAt w A v E) (hl : E.length ≤ 1000000) (hu : BAt w A u bs) (hn : n ≤ (fbytes nm (fb E)).length) :
    Calls Tryz.prog 57 #[v, .agg #[.int .i64 2, stv nm, stv to, u, .int .i64 n]] w (TPost w A (aput nm ((fbytes nm (fb E)).take n) (fb E))) := by
  obtain ⟨pu, cu, rfl⟩ := len_val hu.seen
  obtain ⟨p0, cap0, rfl, _⟩ := h.slice
  have H := Lib.hid h
  have HU := Lib.hid hu
  clear h hu
  go_enter Tryz.func57, Tryz.ntmps57
  go_wp2_with fail
  have B0 : Hid (Below w.heap.size w (w.alloc (.cells #[.int .i64 2, stv nm, stv to, .slice pu bs.length cu, .int .i64 n] 95))) := Lib.hid ((Below.refl _ w).alloc (Nat.le_refl _) _)
  have X0 : Hid ((w.alloc (.cells #[.int .i64 2, stv nm, stv to, .slice pu bs.length cu, .int .i64 n] 95)).heap[w.heap.size]? = some (.cells #[.int .i64 2, stv nm, stv to, .slice pu bs.length cu, .int .i64 n] 95 (0, 0))) := Lib.hid (heap_alloc_last w _)
  generalize w.alloc (.cells #[.int .i64 2, stv nm, stv to, .slice pu bs.length cu, .int .i64 n] 95) = W0 at *
  have H0 := Lib.hid (H.out.kb B0.out)
  have HU0 := Lib.hid (HU.out.kb B0.out)
  refine (find_to W0 A _ E nm H0.out hl).mono ?_
  rintro e w' ⟨rfl, rfl⟩
  obtain ⟨pb, cb, hfr, hbb⟩ := find_bat H0.out nm
  rw [hfr]
  have HBB := Lib.hid hbb
  obtain ⟨bl, hbl⟩ : ∃ bl, bl = fbytes nm (fb E) := ⟨_, rfl⟩
  rw [← hbl] at HBB ⊢
  have HBL := Lib.hid hbl
  clear hfr hbb hbl
  have c0 : W0.cell? ⟨w.heap.size, 0, none⟩ = some (.int .i64 2) := by rw [cell_of_row W0 _ 0 _ _ _ X0.out]; rfl
  have c1 : W0.cell? ⟨w.heap.size, 1, none⟩ = some (stv nm) := by rw [cell_of_row W0 _ 1 _ _ _ X0.out]; rfl
  have c2 : W0.cell? ⟨w.heap.size, 2, none⟩ = some (stv to) := by rw [cell_of_row W0 _ 2 _ _ _ X0.out]; rfl
  have c3 : W0.cell? ⟨w.heap.size, 3, none⟩ = some (.slice pu bs.length cu) := by rw [cell_of_row W0 _ 3 _ _ _ X0.out]; rfl
  have c4 : W0.cell? ⟨w.heap.size, 4, none⟩ = some (.int .i64 n) := by rw [cell_of_row W0 _ 4 _ _ _ X0.out]; rfl
  have HC : Hid (∀ W, Below W0.heap.size W0 W → W.cell? ⟨w.heap.size, 1, none⟩ = some (stv nm) ∧ W.cell? ⟨w.heap.size, 4, none⟩ = some (.int .i64 n)) := Lib.hid (fun W hW => ⟨cell_kb c1 hW, cell_kb c4 hW⟩)
  have HNB : Hid (n ≤ bl.length) := Lib.hid (by rw [HBL.out]; exact hn)
  have hfm := HBB.out.form
  have hsr := bslice_run pb bl.length cb n (Nat.le_trans HNB.out hfm.1) (fun e => by have := hfm.2 e; have := HNB.out; omega)
  have HTK := Lib.hid (HBB.out.take n HNB.out)
  clear hn hfm c2 c3
  go_wp2_with fail
  try simp only [List.append]
  refine wp_region_noPanic ?_
  refine wp_region_held_drew (S := (fun W => W.cell? ⟨w.heap.size, 1, none⟩ = some (stv nm) ∧ W.cell? ⟨w.heap.size, 4, none⟩ = some (.int .i64 n))) (by kernel_rfl) ⟨c1, c4⟩ (fun hHeld => ?_)
  refine wpAnyH_take (i := 0) (v := ?_) (by simp only [List.getElem?_toArray, List.getElem?_cons_zero]; rfl) (by kernel_rfl) (by kernel_rfl) (by kernel_rfl) (fun _ _ _ h => h) (Or.inl ⟨by rfl, ?_⟩) (by assumption) ?_
  rotate_left
  · intro w hSw
    try dsimp only at hSw
    go_simp
    try with_reducible rfl
  try simp only [Act.put, List.setIfInBounds_toArray, List.set_cons_zero, List.set_cons_succ]
  refine wpAnyH_take (i := 1) (v := ?_) (by simp only [List.getElem?_toArray, List.getElem?_cons_succ, List.getElem?_cons_zero]; rfl) (by kernel_rfl) (by kernel_rfl) (by kernel_rfl) (fun _ _ _ h => h) (Or.inl ⟨by rfl, ?_⟩) (by assumption) ?_
  rotate_left
  · intro w hSw
    try dsimp only at hSw
    go_simp
    try with_reducible rfl
  try simp only [Act.put, List.setIfInBounds_toArray, List.set_cons_zero, List.set_cons_succ]
  refine wpAnyH_take (i := 2) (v := ?_) (by simp only [List.getElem?_toArray, List.getElem?_cons_succ, List.getElem?_cons_zero]; rfl) (by kernel_rfl) (by kernel_rfl) (by kernel_rfl) (fun _ _ _ h => h) (Or.inl ⟨by rfl, ?_⟩) (by assumption) ?_
  rotate_left
  · intro w hSw
    try dsimp only at hSw
    go_simp
    try with_reducible rfl
  try simp only [Act.put, List.setIfInBounds_toArray, List.set_cons_zero, List.set_cons_succ]
  refine wpAnyH_take (i := 3) (v := ?_) (by simp only [List.getElem?_toArray, List.getElem?_cons_succ, List.getElem?_cons_zero]; rfl) (by kernel_rfl) (by kernel_rfl) (by kernel_rfl) (fun _ _ _ h => h) (Or.inl ⟨by rfl, ?_⟩) (by assumption) ?_
  rotate_left
  · intro w hSw
    try dsimp only at hSw
    go_simp
    try with_reducible rfl
  try simp only [Act.put, List.setIfInBounds_toArray, List.set_cons_zero, List.set_cons_succ]
  refine wpAnyH_take (i := 4) (v := ?_) (by simp only [List.getElem?_toArray, List.getElem?_cons_succ, List.getElem?_cons_zero]; rfl) (by kernel_rfl) (by kernel_rfl) (by kernel_rfl) (fun _ _ _ h => h) (Or.inl ⟨by rfl, ?_⟩) (by assumption) ?_
  rotate_left
  · intro w hSw
    try dsimp only at hSw
    go_simp
    try with_reducible rfl
  try simp only [Act.put, List.setIfInBounds_toArray, List.set_cons_zero, List.set_cons_succ]
  refine wpAnyH_take (i := 5) (v := ?_) (by simp only [List.getElem?_toArray, List.getElem?_cons_succ, List.getElem?_cons_zero]; rfl) (by kernel_rfl) (by kernel_rfl) (by kernel_rfl) (fun _ _ _ h => h) (Or.inl ⟨by rfl, ?_⟩) (by assumption) ?_
  rotate_left
  · intro w hSw
    try dsimp only at hSw
    go_simp
    try with_reducible rfl
  try simp only [Act.put, List.setIfInBounds_toArray, List.set_cons_zero, List.set_cons_succ]
  refine wpAnyH_take (i := 6) (v := ?_) (by simp only [List.getElem?_toArray, List.getElem?_cons_succ, List.getElem?_cons_zero]; rfl) (by kernel_rfl) (by kernel_rfl) (by kernel_rfl) (fun _ _ _ h => h) (Or.inl ⟨by rfl, ?_⟩) (by assumption) ?_
  rotate_left
  · intro w hSw
    try dsimp only at hSw
    go_simp
    try with_reducible rfl
  try simp only [Act.put, List.setIfInBounds_toArray, List.set_cons_zero, List.set_cons_succ]
  refine wpAnyH_take (i := 7) (v := ?_) (by simp only [List.getElem?_toArray, List.getElem?_cons_succ, List.getElem?_cons_zero]; rfl) (by kernel_rfl) (by kernel_rfl) (by kernel_rfl) (fun _ _ _ h => h) (Or.inl ⟨by rfl, ?_⟩) (by assumption) ?_
  rotate_left
  · intro w hSw
    try dsimp only at hSw
    go_simp
    try with_reducible rfl
  try simp only [Act.put, List.setIfInBounds_toArray, List.set_cons_zero, List.set_cons_succ]
  refine wpAnyH_ready (rs := [8]) (by kernel_rfl) (by simp) ?_
  refine AllReadyH.cons (by simp only [List.getElem?_toArray, List.getElem?_cons_succ, List.getElem?_cons_zero]; rfl) (fun K hK => ?_) AllReadyH.nil
  go_simp
  refine (rput_to W0.drew A _ E nm (.slice pb n cb) (bl.take n) (H0.out.kb (below_dn (m := 1) (Below.refl _ W0))) hl (HTK.out.kb (below_dn (m := 1) (Below.refl _ W0)))).mono ?_
  rintro e w9 ⟨v9, rfl, h9, b9⟩
  have H9 := Lib.hid h9
  have B9 : Hid (Below W0.heap.size W0 w9) := Lib.hid ((below_dn (m := 1) (Below.refl _ W0)).trans b9)
  clear h9 b9
  go_wp2_with fail
  refine hK.out _ _ (HC.out _ B9.out) (fun hHeld => ?_)
  clear hK K
  try simp only [Act.put, List.setIfInBounds_toArray, List.set_cons_zero, List.set_cons_succ]
  refine wpAnyH_take (i := 9) (v := ?_) (by simp only [List.getElem?_toArray, List.getElem?_cons_succ, List.getElem?_cons_zero]; rfl) (by kernel_rfl) (by kernel_rfl) (by kernel_rfl) (fun _ _ _ h => h) (Or.inl ⟨by rfl, ?_⟩) (by assumption) ?_
  rotate_left
  · intro w hSw
    try dsimp only at hSw
    go_simp
    try with_reducible rfl
  try simp only [Act.put, List.setIfInBounds_toArray, List.set_cons_zero, List.set_cons_succ]
  refine wpAnyH_done (by kernel_rfl) ?_ _
  refine NoPanic.normal ?_
  go_wp2_with fail
  go_ret
  refine ⟨_, _, rfl, H9.out.mono (fun k hk => ?_), ?_, B0.out.trans (B9.out.mono B0.out.size)⟩
  · rcases hk with hk | hk
    · exact .inl hk
    · exact .inr (Nat.le_trans B0.out.size hk)
  · rw [fb_put, HBL.out]
set_option maxRecDepth 20000 in
set_option maxHeartbeats 2000000 in
theorem rturn2_to (w : World) (A : Nat → Prop) (v : Value) (E : List Fe) (nm to : Key) (u : Value) (bs : List Int) (n : Int) (h : FAt w A v E) (hl : E.length ≤ 1000000) (hu : BAt w A u bs) :
    Calls Tryz.prog 57 #[v, .agg #[.int .i64 3, stv nm, stv to, u, .int .i64 n]] w (TPost w A (aput to (fbytes nm (fb E)) (adel nm (fb E)))) := by
  obtain ⟨pu, cu, rfl⟩ := len_val hu.seen
  obtain ⟨p0, cap0, rfl, _⟩ := h.slice
  have H := Lib.hid h
  have HU := Lib.hid hu
  clear h hu
  go_enter Tryz.func57, Tryz.ntmps57
  go_wp2_with fail
  have B0 : Hid (Below w.heap.size w (w.alloc (.cells #[.int .i64 3, stv nm, stv to, .slice pu bs.length cu, .int .i64 n] 95))) := Lib.hid ((Below.refl _ w).alloc (Nat.le_refl _) _)
  have X0 : Hid ((w.alloc (.cells #[.int .i64 3, stv nm, stv to, .slice pu bs.length cu, .int .i64 n] 95)).heap[w.heap.size]? = some (.cells #[.int .i64 3, stv nm, stv to, .slice pu bs.length cu, .int .i64 n] 95 (0, 0))) := Lib.hid (heap_alloc_last w _)
  generalize w.alloc (.cells #[.int .i64 3, stv nm, stv to, .slice pu bs.length cu, .int .i64 n] 95) = W0 at *
  have H0 := Lib.hid (H.out.kb B0.out)
  have HU0 := Lib.hid (HU.out.kb B0.out)
  refine (find_to W0 A _ E nm H0.out hl).mono ?_
  rintro e w' ⟨rfl, rfl⟩
  obtain ⟨pb, cb, hfr, hbb⟩ := find_bat H0.out nm
  rw [hfr]
  have HBB := Lib.hid hbb
  obtain ⟨bl, hbl⟩ : ∃ bl, bl = fbytes nm (fb E) := ⟨_, rfl⟩
  rw [← hbl] at HBB ⊢
  have HBL := Lib.hid hbl
  clear hfr hbb hbl
  have c0 : W0.cell? ⟨w.heap.size, 0, none⟩ = some (.int .i64 3) := by rw [cell_of_row W0 _ 0 _ _ _ X0.out]; rfl
  have c1 : W0.cell? ⟨w.heap.size, 1, none⟩ = some (stv nm) := by rw [cell_of_row W0 _ 1 _ _ _ X0.out]; rfl
  have c2 : W0.cell? ⟨w.heap.size, 2, none⟩ = some (stv to) := by rw [cell_of_row W0 _ 2 _ _ _ X0.out]; rfl
  have c3 : W0.cell? ⟨w.heap.size, 3, none⟩ = some (.slice pu bs.length cu) := by rw [cell_of_row W0 _ 3 _ _ _ X0.out]; rfl
  have c4 : W0.cell? ⟨w.heap.size, 4, none⟩ = some (.int .i64 n) := by rw [cell_of_row W0 _ 4 _ _ _ X0.out]; rfl
  have HC : Hid (∀ W, Below W0.heap.size W0 W → W.cell? ⟨w.heap.size, 1, none⟩ = some (stv nm) ∧ W.cell? ⟨w.heap.size, 2, none⟩ = some (stv to)) := Lib.hid (fun W hW => ⟨cell_kb c1 hW, cell_kb c2 hW⟩)
  clear c3 c4
  go_wp2_with fail
  try simp only [List.append]
  refine wp_region_noPanic ?_
  refine wp_region_held_drew (S := (fun W => W.cell? ⟨w.heap.size, 1, none⟩ = some (stv nm) ∧ W.cell? ⟨w.heap.size, 2, none⟩ = some (stv to))) (by kernel_rfl) ⟨c1, c2⟩ (fun hHeld => ?_)
  refine wpAnyH_take (i := 0) (v := ?_) (by simp only [List.getElem?_toArray, List.getElem?_cons_zero]; rfl) (by kernel_rfl) (by kernel_rfl) (by kernel_rfl) (fun _ _ _ h => h) (Or.inl ⟨by rfl, ?_⟩) (by assumption) ?_
  rotate_left
  · intro w hSw
    try dsimp only at hSw
    go_simp
    try with_reducible rfl
  try simp only [Act.put, List.setIfInBounds_toArray, List.set_cons_zero, List.set_cons_succ]
  refine wpAnyH_take (i := 1) (v := ?_) (by simp only [List.getElem?_toArray, List.getElem?_cons_succ, List.getElem?_cons_zero]; rfl) (by kernel_rfl) (by kernel_rfl) (by kernel_rfl) (fun _ _ _ h => h) (Or.inl ⟨by rfl, ?_⟩) (by assumption) ?_
  rotate_left
  · intro w hSw
    try dsimp only at hSw
    go_simp
    try with_reducible rfl
  try simp only [Act.put, List.setIfInBounds_toArray, List.set_cons_zero, List.set_cons_succ]
  refine wpAnyH_take (i := 2) (v := ?_) (by simp only [List.getElem?_toArray, List.getElem?_cons_succ, List.getElem?_cons_zero]; rfl) (by kernel_rfl) (by kernel_rfl) (by kernel_rfl) (fun _ _ _ h => h) (Or.inl ⟨by rfl, ?_⟩) (by assumption) ?_
  rotate_left
  · intro w hSw
    try dsimp only at hSw
    go_simp
    try with_reducible rfl
  try simp only [Act.put, List.setIfInBounds_toArray, List.set_cons_zero, List.set_cons_succ]
  refine wpAnyH_take (i := 4) (v := ?_) (by simp only [List.getElem?_toArray, List.getElem?_cons_succ, List.getElem?_cons_zero]; rfl) (by kernel_rfl) (by kernel_rfl) (by kernel_rfl) (fun _ _ _ h => h) (Or.inl ⟨by rfl, ?_⟩) (by assumption) ?_
  rotate_left
  · intro w hSw
    try dsimp only at hSw
    go_simp
    try with_reducible rfl
  try simp only [Act.put, List.setIfInBounds_toArray, List.set_cons_zero, List.set_cons_succ]
  refine wpAnyH_take (i := 5) (v := ?_) (by simp only [List.getElem?_toArray, List.getElem?_cons_succ, List.getElem?_cons_zero]; rfl) (by kernel_rfl) (by kernel_rfl) (by kernel_rfl) (fun _ _ _ h => h) (Or.inl ⟨by rfl, ?_⟩) (by assumption) ?_
  rotate_left
  · intro w hSw
    try dsimp only at hSw
    go_simp
    try with_reducible rfl
  try simp only [Act.put, List.setIfInBounds_toArray, List.set_cons_zero, List.set_cons_succ]
  refine wpAnyH_take (i := 6) (v := ?_) (by simp only [List.getElem?_toArray, List.getElem?_cons_succ, List.getElem?_cons_zero]; rfl) (by kernel_rfl) (by kernel_rfl) (by kernel_rfl) (fun _ _ _ h => h) (Or.inl ⟨by rfl, ?_⟩) (by assumption) ?_
  rotate_left
  · intro w hSw
    try dsimp only at hSw
    go_simp
    try with_reducible rfl
  try simp only [Act.put, List.setIfInBounds_toArray, List.set_cons_zero, List.set_cons_succ]
  refine wpAnyH_take (i := 7) (v := ?_) (by simp only [List.getElem?_toArray, List.getElem?_cons_succ, List.getElem?_cons_zero]; rfl) (by kernel_rfl) (by kernel_rfl) (by kernel_rfl) (fun _ _ _ h => h) (Or.inl ⟨by rfl, ?_⟩) (by assumption) ?_
  rotate_left
  · intro w hSw
    try dsimp only at hSw
    go_simp
    try with_reducible rfl
  try simp only [Act.put, List.setIfInBounds_toArray, List.set_cons_zero, List.set_cons_succ]
  refine wpAnyH_ready (rs := [3]) (by kernel_rfl) (by simp) ?_
  refine AllReadyH.cons (by simp only [List.getElem?_toArray, List.getElem?_cons_succ, List.getElem?_cons_zero]; rfl) (fun K hK => ?_) AllReadyH.nil
  go_simp
  refine (rdrop_to W0.drew A _ E nm (H0.out.kb (below_dn (m := 1) (Below.refl _ W0))) hl).mono ?_
  rintro e w8 ⟨v8, rfl, h8, b8⟩
  have H8 := Lib.hid h8
  have B8 : Hid (Below W0.heap.size W0 w8) := Lib.hid ((below_dn (m := 1) (Below.refl _ W0)).trans b8)
  clear h8 b8
  go_wp2_with fail
  refine hK.out _ _ (HC.out _ B8.out) (fun hHeld => ?_)
  clear hK K
  try simp only [Act.put, List.setIfInBounds_toArray, List.set_cons_zero, List.set_cons_succ]
  refine wpAnyH_ready (rs := [8]) (by kernel_rfl) (by simp) ?_
  refine AllReadyH.cons (by simp only [List.getElem?_toArray, List.getElem?_cons_succ, List.getElem?_cons_zero]; rfl) (fun K hK => ?_) AllReadyH.nil
  go_simp
  refine (rput_to w8 _ _ (adel nm E) to (.slice pb bl.length cb) bl H8.out (Nat.le_trans (del_len _ _) hl) ((HBB.out.kb B8.out).mono (fun k hk => .inl hk))).mono ?_
  rintro e w9 ⟨v9, rfl, h9, b9⟩
  have H9 := Lib.hid h9
  have B9 : Hid (Below W0.heap.size W0 w9) := Lib.hid (B8.out.trans (b9.mono B8.out.size))
  clear h9 b9
  go_wp2_with fail
  refine hK.out _ _ (HC.out _ B9.out) (fun hHeld => ?_)
  clear hK K
  try simp only [Act.put, List.setIfInBounds_toArray, List.set_cons_zero, List.set_cons_succ]
  refine wpAnyH_take (i := 9) (v := ?_) (by simp only [List.getElem?_toArray, List.getElem?_cons_succ, List.getElem?_cons_zero]; rfl) (by kernel_rfl) (by kernel_rfl) (by kernel_rfl) (fun _ _ _ h => h) (Or.inl ⟨by rfl, ?_⟩) (by assumption) ?_
  rotate_left
  · intro w hSw
    try dsimp only at hSw
    go_simp
    try with_reducible rfl
  try simp only [Act.put, List.setIfInBounds_toArray, List.set_cons_zero, List.set_cons_succ]
  refine wpAnyH_done (by kernel_rfl) ?_ _
  refine NoPanic.normal ?_
  go_wp2_with fail
  go_ret
  refine ⟨_, _, rfl, H9.out.mono (fun k hk => ?_), ?_, B0.out.trans (B9.out.mono B0.out.size)⟩
  · rcases hk with (hk | hk) | hk
    · exact .inl hk
    · exact .inr (Nat.le_trans B0.out.size hk)
    · exact .inr (Nat.le_trans (Nat.le_trans B0.out.size B8.out.size) hk)
  · rw [fb_put, fb_del, HBL.out]
set_option maxRecDepth 20000 in
set_option maxHeartbeats 2000000 in
theorem rturn3_to (w : World) (A : Nat → Prop) (v : Value) (E : List Fe) (nm to : Key) (u : Value) (bs : List Int) (n : Int) (h : FAt w A v E) (hl : E.length ≤ 1000000) (hu : BAt w A u bs) :
    Calls Tryz.prog 57 #[v, .agg #[.int .i64 4, stv nm, stv to, u, .int .i64 n]] w (TPost w A (adel nm (fb E))) := by
  obtain ⟨pu, cu, rfl⟩ := len_val hu.seen
  obtain ⟨p0, cap0, rfl, _⟩ := h.slice
  have H := Lib.hid h
  have HU := Lib.hid hu
  clear h hu
  go_enter Tryz.func57, Tryz.ntmps57
  go_wp2_with fail
  have B0 : Hid (Below w.heap.size w (w.alloc (.cells #[.int .i64 4, stv nm, stv to, .slice pu bs.length cu, .int .i64 n] 95))) := Lib.hid ((Below.refl _ w).alloc (Nat.le_refl _) _)
  have X0 : Hid ((w.alloc (.cells #[.int .i64 4, stv nm, stv to, .slice pu bs.length cu, .int .i64 n] 95)).heap[w.heap.size]? = some (.cells #[.int .i64 4, stv nm, stv to, .slice pu bs.length cu, .int .i64 n] 95 (0, 0))) := Lib.hid (heap_alloc_last w _)
  generalize w.alloc (.cells #[.int .i64 4, stv nm, stv to, .slice pu bs.length cu, .int .i64 n] 95) = W0 at *
  have H0 := Lib.hid (H.out.kb B0.out)
  have HU0 := Lib.hid (HU.out.kb B0.out)
  refine (find_to W0 A _ E nm H0.out hl).mono ?_
  rintro e w' ⟨rfl, rfl⟩
  obtain ⟨pb, cb, hfr, hbb⟩ := find_bat H0.out nm
  rw [hfr]
  have HBB := Lib.hid hbb
  obtain ⟨bl, hbl⟩ : ∃ bl, bl = fbytes nm (fb E) := ⟨_, rfl⟩
  rw [← hbl] at HBB ⊢
  have HBL := Lib.hid hbl
  clear hfr hbb hbl
  have c0 : W0.cell? ⟨w.heap.size, 0, none⟩ = some (.int .i64 4) := by rw [cell_of_row W0 _ 0 _ _ _ X0.out]; rfl
  have c1 : W0.cell? ⟨w.heap.size, 1, none⟩ = some (stv nm) := by rw [cell_of_row W0 _ 1 _ _ _ X0.out]; rfl
  have c2 : W0.cell? ⟨w.heap.size, 2, none⟩ = some (stv to) := by rw [cell_of_row W0 _ 2 _ _ _ X0.out]; rfl
  have c3 : W0.cell? ⟨w.heap.size, 3, none⟩ = some (.slice pu bs.length cu) := by rw [cell_of_row W0 _ 3 _ _ _ X0.out]; rfl
  have c4 : W0.cell? ⟨w.heap.size, 4, none⟩ = some (.int .i64 n) := by rw [cell_of_row W0 _ 4 _ _ _ X0.out]; rfl
  clear c2 c3 c4
  go_wp2_with fail
  refine (rdrop_to W0 A _ E nm H0.out hl).mono ?_
  rintro e w9 ⟨v9, rfl, h9, b9⟩
  have H9 := Lib.hid h9
  have B9 := Lib.hid b9
  clear h9 b9
  go_wp2_with fail
  go_ret
  refine ⟨_, _, rfl, H9.out.mono (fun k hk => ?_), ?_, B0.out.trans (B9.out.mono B0.out.size)⟩
  · rcases hk with hk | hk
    · exact .inl hk
    · exact .inr (Nat.le_trans B0.out.size hk)
  · rw [fb_del]
/-- A work's cells. -/
def Wk.ref (k : Wk) (u : Value) : List Value := [.int .i64 ((k.kind : Int) + 1), stv k.name, stv k.to, u, .int .i64 k.n]
theorem rturn_to (w : World) (A : Nat → Prop) (v : Value) (E : List Fe) (k : Wk) (u : Value) (h : FAt w A v E) (hl : E.length ≤ 1000000) (hu : BAt w A u k.bs) (hf : Fits (fb E) k) (ht : totF (fb E) ≤ 16777216) (hbs : k.kind = 0 → k.bs.length ≤ 16777216) :
    Calls Tryz.prog 57 #[v, .agg (k.ref u).toArray] w (TPost w A (turn (fb E) k)) := by
  obtain ⟨kind, nm, to, bs, n⟩ := k
  have hk : kind ≤ 3 := hf.kind
  have h4 : kind = 0 ∨ kind = 1 ∨ kind = 2 ∨ kind = 3 := by omega
  rcases h4 with rfl | rfl | rfl | rfl
  · exact rturn0_to w A v E nm to u bs n h hl hu (Nat.le_trans (fbytes_le nm (fb E)) ht) (hbs rfl)
  · exact rturn1_to w A v E nm to u bs n h hl hu (hf.long rfl)
  · exact rturn2_to w A v E nm to u bs n h hl hu
  · exact rturn3_to w A v E nm to u bs n h hl hu
end Go.Proofs.YtageblggakfbdaaGreatDoor
