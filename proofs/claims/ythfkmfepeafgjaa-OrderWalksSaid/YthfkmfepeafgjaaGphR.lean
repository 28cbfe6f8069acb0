/- The small calls of a graph: New, Count, Has, Parents, Hashes; the sorted hashes of a set. Conditions: hashes of 32 bytes; no more than a million of them. -/
import Derived.Test.YthfkmfepeafgjaaGphC
namespace Go.Proofs.Ythfkmfepeafgjaa
open Go.RowKit
open Go.Maps
attribute [local go_sem ↓] hld_open

theorem bl_bb : ∀ a b : Key, Op.bytesLess a b = bytesBefore a b
  | [], [] => rfl
  | [], _ :: _ => rfl
  | _ :: _, [] => rfl
  | x :: a, y :: b => by
    have ih := bl_bb a b
    simp only [Op.bytesLess, bytesBefore, ih]
theorem aasc_asc {α : Type} {M : List (Key × α)} (h : AAsc M) : Asc (M.map (·.1)) := List.pairwise_map.2 (h.imp fun {a b} hab => by rw [bl_bb]; exact hab)
theorem rsort_perm {E R : List Key} (h : E.Perm R) (hR : Asc R) : rsort E = R := asc_ext _ _ (rsort_asc E) hR fun a => by rw [rsort_mem, h.mem_iff]
theorem h32_keys {M : Kv} (h : ∀ p ∈ M, p.1.length = 32) : H32 (M.map (·.1)) := fun x hx => by
  obtain ⟨p, hp, rfl⟩ := List.mem_map.1 hx
  exact h p hp
theorem kvs_keys (X : Lx) : (kvs X).map (·.1) = X.map (·.1) := by simp [kvs, amap, Function.comp_def]
theorem gr_keys (X : Lx) : (gr X).map (·.1) = X.map (·.1) := by simp [gr, amap, Function.comp_def]
theorem kvs_len (X : Lx) : (kvs X).length = X.length := by simp [kvs, amap]
theorem gr_len (X : Lx) : (gr X).length = X.length := by simp [gr, amap]
theorem gr_get (n : Key) (X : Lx) : aget n (gr X) = (aget n X).map (·.2) := amap_get _ _ _
theorem srt_fit {n : Nat} (h : n ≤ 1000000) : n * 32 ≤ 140737488355328 := by omega
theorem blw_drn {n m : Nat} {w w' : World} (h : Below n (w.drewN m) w') : Below n w w' := ⟨h.os, h.tape, h.output, h.size, h.block⟩
theorem blw_qt (n m : Nat) (w : World) : Below n w (w.drewN m) := ⟨rfl, rfl, rfl, Nat.le_refl _, fun _ _ => rfl⟩
abbrev gp (g : Nat) : Value := .pointer (some ⟨g, 0, none⟩)

/-- graph.New. -/
theorem new_to (w : World) : Calls Try.prog 25 #[] w fun e w' => e = .returned (gp (w.heap.size + 1)) ∧ GA w' (w.heap.size + 1) w.heap.size [] ∧ Below w.heap.size w w' := by
  have h1 := MpH.made w
  have b1 : Below w.heap.size w (w.alloc (.map #[] 0)) := (Below.refl _ w).alloc (Nat.le_refl _) _
  have h2 : GA ((w.alloc (.map #[] 0)).alloc (.cells #[.map (some w.heap.size)] 83)) (w.heap.size + 1) w.heap.size [] :=
    ⟨by have := heap_alloc_last (w.alloc (.map #[] 0)) (.cells #[.map (some w.heap.size)] 83); simpa using this, h1.kb ((Below.refl _ _).alloc (Nat.le_refl _) _) h1.lt, fun x hx => by cases hx⟩
  have B := Lib.hid (b1.alloc b1.size (.cells #[.map (some w.heap.size)] 83))
  have H2 := Lib.hid h2
  have hmm := @run_makeMap Try.prog
  clear h1 h2 b1
  go_enter Try.func25, Try.ntmps25
  go_wp2
  go_ret
  exact ⟨rfl, H2.out, B.out⟩
/-- Count. -/
theorem count_to (w : World) (g bm : Nat) (X : Lx) (H : GA w g bm X) : Calls Try.prog 65 #[gp g] w fun e w' => e = .returned (.int .i64 X.length) ∧ w = w' := by
  have hc := H.c0
  have ho := H.at_.mp.own
  have hs : Maps.size (mapV (kvs X)) = X.length := by rw [mapV_size, kvs_len]
  generalize mapV (kvs X) = D at ho hs
  go_enter Try.func65, Try.ntmps65
  go_wp2_with (at_len; refine wpList_len_own _ rfl _ 81 rfl _ _ Try.underlying81 rdv bm (kvs X).length D rfl ho ?_; rw [hs])
  go_ret
  exact ⟨rfl, rfl⟩
set_option maxRecDepth 20000 in
/-- Has. -/
theorem has_to (w : World) (g bm : Nat) (X : Lx) (h : Key) (hh : h.length = 32) (H : GA w g bm X) : Calls Try.prog 31 #[gp g, .agg (hv h)] w fun e w' => e = .returned (.bool (aget h (gr X)).isSome) ∧ Below w.heap.size w w' := by
  have b1 : Below w.heap.size w (w.alloc (.cells (hv h) 28)) := (Below.refl _ w).alloc (Nat.le_refl _) _
  have H1 := H.kb b1
  have hq : (aget h (kvs X)).isSome = (aget h (gr X)).isSome := by rw [kvs_get, gr_get]; cases aget h X <;> rfl
  have HC := Lib.hid (fun W (hW : Below (w.alloc (.cells (hv h) 28)).heap.size (w.alloc (.cells (hv h) 28)) W) => lhas_to W bm (kvs X) h hh (H1.at_.mp.kb hW H1.at_.mp.lt))
  rw [hq] at HC
  generalize (aget h (gr X)).isSome = ok at HC ⊢
  have c0 := H1.c0
  have HV := Lib.hid (heap_alloc_last w (.cells (hv h) 28))
  have q0 := hld_row (w := (w.alloc (.cells (hv h) 28)).drew) hh HV.out
  have H1' := Lib.hid H1
  have HH := Lib.hid hh
  have B1 := Lib.hid b1
  clear b1 H H1 hq hh
  go_enter Try.func31, Try.ntmps31
  go_wp2_with fail
  generalize w.alloc (.cells (hv h) 28) = w1 at *
  try simp only [List.append]
  refine wp_region_noPanic ?_
  refine wp_region_held_drew (S := (fun W => W.cell? ⟨g, 0, none⟩ = some (.map (some bm)) ∧ (hld ⟨w.heap.size, 0, none⟩).run Try.prog W = .ok (.agg (hv h)) W)) (by kernel_rfl) ⟨c0, q0⟩ (fun hHeld => ?_)
  refine wpAnyH_take (i := 0) (v := ?_) (by simp only [List.getElem?_toArray, List.getElem?_cons_zero]; rfl) (by kernel_rfl) (by kernel_rfl) (by kernel_rfl) (fun _ _ _ h => h) (Or.inl ⟨by rfl, ?_⟩) (by assumption) ?_
  rotate_left
  · intro w hSw
    try dsimp only at hSw
    go_simp
    try with_reducible rfl
  try simp only [Act.put, List.setIfInBounds_toArray, List.set_cons_zero, List.set_cons_succ]
  refine wpAnyH_take (i := 1) (v := ?_) (by simp only [List.getElem?_toArray, List.getElem?_cons_succ, List.getElem?_cons_zero]; rfl) (by kernel_rfl) (by kernel_rfl) (by kernel_rfl) (fun _ _ _ h => h) (Or.inl ⟨by rfl, ?_⟩) (by assumption) ?_
  rotate_left
  · intro w hSw
    try dsimp only at hSw
    go_simp
    try with_reducible rfl
  try simp only [Act.put, List.setIfInBounds_toArray, List.set_cons_zero, List.set_cons_succ]
  refine wpAnyH_take (i := 2) (v := ?_) (by simp only [List.getElem?_toArray, List.getElem?_cons_succ, List.getElem?_cons_zero]; rfl) (by kernel_rfl) (by kernel_rfl) (by kernel_rfl) (fun _ _ _ h => h) (Or.inl ⟨by rfl, ?_⟩) (by assumption) ?_
  rotate_left
  · intro w hSw
    try dsimp only at hSw
    go_simp
    try with_reducible rfl
  try simp only [Act.put, List.setIfInBounds_toArray, List.set_cons_zero, List.set_cons_succ]
  refine wpAnyH_take (i := 3) (v := ?_) (by simp only [List.getElem?_toArray, List.getElem?_cons_succ, List.getElem?_cons_zero]; rfl) (by kernel_rfl) (by kernel_rfl) (by kernel_rfl) (fun _ _ _ h => h) (Or.inl ⟨by rfl, ?_⟩) (by assumption) ?_
  rotate_left
  · intro w hSw
    try dsimp only at hSw
    go_simp
    try with_reducible rfl
  try simp only [Act.put, List.setIfInBounds_toArray, List.set_cons_zero, List.set_cons_succ]
  refine wpAnyH_take (i := 4) (v := ?_) (by simp only [List.getElem?_toArray, List.getElem?_cons_succ, List.getElem?_cons_zero]; rfl) (by kernel_rfl) (by kernel_rfl) (by kernel_rfl) (fun _ _ _ h => h) (Or.inl ⟨by rfl, ?_⟩) (by assumption) ?_
  rotate_left
  · intro w hSw
    try dsimp only at hSw
    go_simp
    try with_reducible rfl
  try simp only [Act.put, List.setIfInBounds_toArray, List.set_cons_zero, List.set_cons_succ]
  refine wpAnyH_ready (rs := [5]) (by kernel_rfl) (by simp) ?_
  refine AllReadyH.cons (by simp only [List.getElem?_toArray, List.getElem?_cons_succ, List.getElem?_cons_zero]; rfl) (fun K hK => ?_) AllReadyH.nil
  go_simp
  refine (HC.out w1.drew ((Below.refl _ w1).drew)).mono ?_
  rintro e w2 ⟨rfl, b2⟩
  have B2 : Hid (Below w.heap.size w w2) := Lib.hid (B1.out.trans ((blw_drn (m := 1) b2).mono B1.out.size))
  have q2 := hld_row (w := w2) HH.out ((b2.block _ (Array.getElem?_eq_some_iff.1 HV.out).1).trans HV.out)
  have c2 := (H1'.out.kb (blw_drn (m := 1) b2)).c0
  go_wp2_with fail
  refine hK.out _ _ ⟨c2, q2⟩ (fun hHeld => ?_)
  clear hK K
  try simp only [Act.put, List.setIfInBounds_toArray, List.set_cons_zero, List.set_cons_succ]
  refine wpAnyH_take (i := 6) (v := ?_) (by simp only [List.getElem?_toArray, List.getElem?_cons_succ, List.getElem?_cons_zero]; rfl) (by kernel_rfl) (by kernel_rfl) (by kernel_rfl) (fun _ _ _ h => h) (Or.inl ⟨by rfl, ?_⟩) (by assumption) ?_
  rotate_left
  · intro w hSw
    try dsimp only at hSw
    go_simp
    try with_reducible rfl
  try simp only [Act.put, List.setIfInBounds_toArray, List.set_cons_zero, List.set_cons_succ]
  refine wpAnyH_done (by kernel_rfl) ?_ _
  refine NoPanic.normal ?_
  go_wp2
  go_ret
  exact ⟨rfl, B2.out⟩

set_option maxRecDepth 20000 in
/-- Parents. -/
theorem parents_to (w : World) (g bm : Nat) (X : Lx) (h : Key) (hh : h.length = 32) (H : GA w g bm X) (hl : ∀ x ∈ X, x.2.2.length ≤ 1000000) : Calls Try.prog 23 #[gp g, .agg (hv h)] w fun e w' =>
    ∃ v, e = .returned (.tuple #[v, .bool (aget h (gr X)).isSome]) ∧ HOwn w' w.heap.size v ((aget h (gr X)).getD []) ∧ Below w.heap.size w w' := by
  have b1 : Below w.heap.size w (w.alloc (.cells (hv h) 28)) := (Below.refl _ w).alloc (Nat.le_refl _) _
  have H1 := H.kb b1
  have hlk := fun j => (H1.at_.mp.drew j).lookOk Try.underlying81 (lzero _) h hh
  have hq : (aget h (kvs X)).isSome = (aget h (gr X)).isSome := by rw [kvs_get, gr_get]; cases aget h X <;> rfl
  rw [hq] at hlk
  have hs : HSeen (w.alloc (.cells (hv h) 28)) ((aget h (kvs X)).getD (.slice none 0 0)) ((aget h (gr X)).getD []) ∧ H32 ((aget h (gr X)).getD []) ∧ ((aget h (gr X)).getD []).length ≤ 1000000 := by
    rw [kvs_get, gr_get]
    cases hg : aget h X with
    | none => exact ⟨.inl ⟨rfl, rfl⟩, H32.nil, Nat.zero_le _⟩
    | some y => exact ⟨(H1.at_.seen _ (aget_mem hg)).1, (H1.at_.seen _ (aget_mem hg)).2, hl _ (aget_mem hg)⟩
  generalize (aget h (gr X)).isSome = ok at hlk ⊢
  generalize (aget h (gr X)).getD [] = E at hs ⊢
  generalize (aget h (kvs X)).getD (.slice none 0 0) = zv at hlk hs
  have HCL := Lib.hid (fun W (hW : Below (w.alloc (.cells (hv h) 28)).heap.size (w.alloc (.cells (hv h) 28)) W) => hclone_any W zv E hs.2.1 (srt_fit hs.2.2) (hs.1.mild (mild_below hW)))
  have c0 := H1.c0
  have HV := Lib.hid (heap_alloc_last w (.cells (hv h) 28))
  have hld0 := fun j => hld_row (w := (w.alloc (.cells (hv h) 28)).drewN j) hh HV.out
  have B1 := Lib.hid b1
  clear b1 H H1 hq hh hs hl
  go_enter Try.func23, Try.ntmps23
  go_wp2_with fail
  generalize w.alloc (.cells (hv h) 28) = w1 at *
  generalize hv h = q at *
  go_quiet (fail)
  go_wp2_with (first
    | (go_at_call 30; refine (HCL.out (w1.drewN _) (blw_qt _ _ w1)).mono ?_; rintro e w2 ⟨v2, rfl, o2, b2⟩))
  go_ret2
  have b3 := blw_drn b2
  exact ⟨_, rfl, own_lower o2 B1.out.size, B1.out.trans (b3.mono B1.out.size)⟩
/-- The sorted hashes of a set. -/
theorem sorted_to (w : World) (b : Nat) (R : List Key) (hR : R.length ≤ 1000000) (H : SetH w b R) : Calls Try.prog 44 #[.map (some b)] w fun e w' => ∃ v, e = .returned v ∧ HOwn w' w.heap.size v R ∧ Below w.heap.size w w' := by
  obtain ⟨M, HM, hu, rfl⟩ := H.ex
  rw [List.length_map] at hR
  have HC := Lib.hid (collectS_to w b M hR HM _ rfl)
  have ha := aasc_asc HM.asc
  have hb1 := ((Below.refl w.heap.size w).alloc (Nat.le_refl _) (.cells #[.map (some b)] 79))
  have HS := Lib.hid (fun (W : World) (v : Value) (E : List Key) (h32 : H32 E) (hp : E.Perm (M.map (·.1))) (ho : HOwn W w.heap.size v E) => (sort_to W v E h32 (srt_fit (by rw [hp.length_eq, List.length_map]; exact hR)) (HSeen.own ho)).mono fun e w' h => by unfold SoPost at h; rw [rsort_perm hp ha] at h; exact h)
  clear HM hu hR ha H
  go_enter Try.func44, Try.ntmps44
  go_wp2_with (first
    | (go_at_call 58; refine (keysS_to _ _).mono ?_; rintro e w1 ⟨rfl, rfl⟩)
    | (go_at_call 57; refine HC.out.mono ?_; rintro e w2 ⟨v2, E, rfl, h1, h2, h3, h4⟩)
    | (go_at_call 56; refine (HS.out _ _ E h1 h2 h3).mono ?_; rintro e w3 ⟨v3, rfl, h5, h6⟩))
  go_ret
  exact ⟨_, rfl, own_lower h5 h4.size, h4.trans (h6.mono h4.size)⟩
end Go.Proofs.Ythfkmfepeafgjaa
