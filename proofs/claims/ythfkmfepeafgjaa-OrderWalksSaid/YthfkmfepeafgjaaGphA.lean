/- Which hashes exist; Ancestors. Conditions: hashes of 32 bytes; no more than 4000 commits, of no more than 1000 parents each; no more than a million hashes asked. -/
import Derived.Test.YthfkmfepeafgjaaGphS
namespace Go.Proofs.Ythfkmfepeafgjaa
open Go.RowKit
open Go.Maps
attribute [local go_sem ↓] hld_open

theorem mem_take_succ {E : List Key} {i : Nat} (hi : i < E.length) (y : Key) : y ∈ E.take (i + 1) ↔ y ∈ E.take i ∨ y = E[i] := by
  rw [List.take_add_one, List.getElem?_eq_getElem hi]
  simp only [Option.toList_some, List.mem_append, List.mem_singleton]
theorem next_fit {i n : Nat} (hi : i < n) (hn : n ≤ 1000000) : wrap64 ((i : Int) + 1) = ((i + 1 : Nat) : Int) ∧ (0 : Int) ≤ (i : Int) ∧ (i : Int) < (n : Int) := by unfold wrap64; omega
/-- What existing hands back. -/
def ExPost (w : World) (G : Gr) (E : List Key) (e : Ending) (w' : World) : Prop :=
  ∃ b R, e = .returned (.map (some b)) ∧ SetH w' b R ∧ w.heap.size ≤ b ∧ (∀ x, x ∈ R ↔ x ∈ E ∧ (aget x G).isSome) ∧ R.length ≤ G.length ∧ Below w.heap.size w w'
theorem ex_len {R E : List Key} {G : Gr} (hn : R.Nodup) (h : ∀ x, x ∈ R ↔ x ∈ E ∧ (aget x G).isSome) : R.length ≤ G.length := by
  rw [← List.length_map (f := fun p : Key × List Key => p.1)]
  refine nodup_le hn fun x hx => ?_
  have := ((h x).1 hx).2
  rw [aget_isSome] at this
  exact of_decide_eq_true this
set_option maxRecDepth 20000 in
set_option maxHeartbeats 4000000 in
theorem existing_to (w : World) (g bm : Nat) (X : Lx) (v : Value) (E : List Key) (H : GA w g bm X) (hE : HSeen w v E) (h32 : H32 E) (hEl : E.length ≤ 1000000) (hX : X.length ≤ 4000) :
    Calls Try.prog 43 #[gp g, v] w (ExPost w (gr X) E) := by
  have hmm := @run_makeMap Try.prog
  have b1 : Below w.heap.size w (w.alloc (.map #[] 0)) := (Below.refl _ w).alloc (Nat.le_refl _) _
  obtain ⟨p, cap, rfl⟩ := hE.shape
  have HS0 := Lib.hid (setH_made w)
  have B1 := Lib.hid b1
  have HG := Lib.hid H
  have HE := Lib.hid hE
  have HEl := Lib.hid hEl
  have HXl : Hid ((gr X).length ≤ 4000) := Lib.hid (by rw [gr_len]; exact hX)
  have H3 := Lib.hid h32
  obtain ⟨nE, hnE⟩ : ∃ nE, nE = E.length := ⟨_, rfl⟩
  rw [← hnE] at HE HEl ⊢
  have HN := Lib.hid hnE
  clear b1 H hE h32 hEl hX hnE
  go_enter Try.func43, Try.ntmps43
  go_wp2_with fail
  go_loopw [11] (fun s wr => ∃ (i : Nat) (R : List Key), s = .int .i64 i ∧ i ≤ nE ∧ Hid (SetH wr w.heap.size R) ∧ Hid (∀ x, x ∈ R ↔ x ∈ E.take i ∧ (aget x (gr X)).isSome) ∧ Hid (Below w.heap.size w wr))
    (fun s _ => nE - (intOf s).toNat)
  case atStart => exact ⟨0, [], rfl, Nat.zero_le _, HS0, Lib.hid (fun x => by simp), B1⟩
  case round =>
    obtain ⟨i, R, rfl, hi, S, I, B⟩ := hrel
    clear HS0 B1
    by_cases hlt : i < nE
    · obtain ⟨j1, j2, j3⟩ := next_fit hlt HEl.out
      have hiE : i < E.length := by rw [← HN.out]; exact hlt
      obtain ⟨b, o, c', e1, hrg⟩ := (HE.out.mild (mild_below (B.out))).at H3.out hiE
      injection e1 with e1 e2 e3
      subst e1
      obtain ⟨x, hx⟩ : ∃ x, x = E[i] := ⟨_, rfl⟩
      rw [← hx] at hrg
      have hx32 : x.length = 32 := by rw [hx]; exact H3.out.at hiE
      have HMT : Hid (∀ y, y ∈ E.take (i + 1) ↔ y ∈ E.take i ∨ y = x) := Lib.hid (fun y => by rw [hx]; exact mem_take_succ hiE y)
      have hld0 := hld_range hx32 hrg
      have st := hst_cells x hx32 wr
      have hks : (hv x).size = 32 := by rw [hv_size, hx32]
      have b3 : Below wr.heap.size wr (wr.alloc (.cells (hv x) 28)) := (Below.refl _ _).alloc (Nat.le_refl _) _
      have hwr := S.out.lt'
      have S3 := Lib.hid (S.out.kb b3 hwr)
      have HV3 := Lib.hid (heap_alloc_last wr (.cells (hv x) 28))
      have hld3 := hld_row (w := wr.alloc (.cells (hv x) 28)) hx32 HV3.out
      have B3 : Hid (Below w.heap.size w (wr.alloc (.cells (hv x) 28))) := Lib.hid (B.out.alloc B.out.size _)
      have HHS := Lib.hid (has_to (wr.alloc (.cells (hv x) 28)) g bm X x hx32 (HG.out.kb B3.out))
      have hs3 : (wr.alloc (.cells (hv x) 28)).heap.size = wr.heap.size + 1 := by simp
      have HWR := Lib.hid hwr
      have H32x := Lib.hid hx32
      have HLT := Lib.hid hlt
      clear hx hrg hx32 b3 hwr e2 e3 hiE S hi
      generalize hw3 : wr.alloc (.cells (hv x) 28) = w3 at *
      go_wp2_with fail
      refine HHS.out.mono ?_
      rintro e w4 ⟨rfl, b4⟩
      rw [hs3] at b4
      have S4 := Lib.hid (S3.out.kb b4 (by have := HWR.out; omega))
      have B4 : Hid (Below w.heap.size w w4) := Lib.hid (B3.out.trans (b4.mono (by have := HWR.out; omega)))
      have HV4 := Lib.hid ((b4.block wr.heap.size (by omega)).trans HV3.out)
      have hld4 := hld_row (w := w4) H32x.out HV4.out
      have hm4 : (U : Nat) → nE - ((i + 1 : Nat) : Int).toNat < nE - ((i : Nat) : Int).toNat := fun _ => by have := HLT.out; omega
      clear b4
      cases hhas : (aget x (gr X)).isSome with
      | false =>
        go_wp2_with fail
        refine ⟨⟨i + 1, R, by rw [j1], HLT.out, S4, Lib.hid (fun y => ?_), B4⟩, by rw [j1]; exact hm4 0⟩
        rw [I.out, HMT.out]
        constructor
        · rintro ⟨h1, h2⟩; exact ⟨.inl h1, h2⟩
        · rintro ⟨h1 | rfl, h2⟩
          · exact ⟨h1, h2⟩
          · rw [hhas] at h2; cases h2
      | true =>
        obtain ⟨w5, hmu, ⟨R', s5, hR', _⟩, o5⟩ := setH_store S4.out x H32x.out (by
          have := ex_len (setH_nodup S4.out) I.out
          have := HXl.out
          omega)
        have S5 := Lib.hid s5
        have B5 : Hid (Below w.heap.size w w5) := Lib.hid (B4.out.trans (Only.below (S := fun k => k = w.heap.size) o5 B4.out.size (fun k hk => by omega)))
        have HR5 := Lib.hid hR'
        have HH := Lib.hid hhas
        clear s5 hR' o5 hhas
        go_wp2_with fail
        refine ⟨⟨i + 1, R', by rw [j1], HLT.out, S5, Lib.hid (fun y => ?_), B5⟩, by rw [j1]; exact hm4 0⟩
        rw [HR5.out, I.out, HMT.out]
        constructor
        · rintro (rfl | ⟨h1, h2⟩)
          · exact ⟨.inr rfl, HH.out⟩
          · exact ⟨.inl h1, h2⟩
        · rintro ⟨h1 | rfl, h2⟩
          · exact .inr ⟨h1, h2⟩
          · exact .inl rfl
    · obtain rfl : i = nE := by omega
      go_wp2
      go_ret
      have hI := I.out
      rw [List.take_of_length_le (by rw [HN.out]; exact Nat.le_refl _)] at hI
      exact ⟨_, R, rfl, S.out, Nat.le_refl _, hI, ex_len (setH_nodup S.out) hI, B.out⟩

theorem setH_asc {w : World} {b : Nat} {R : List Key} (h : SetH w b R) : Asc R := by
  obtain ⟨M, h1, _, rfl⟩ := h.ex
  exact aasc_asc h1.asc
/-- All parents are there. -/
def Clo (G : Gr) : Prop := ∀ h, ∀ p ∈ adj G h, (aget p G).isSome = true
def Anc (G : Gr) (E : List Key) (x : Key) : Prop := ∃ a ∈ E, (aget a G).isSome = true ∧ Up (adj G) a x
open Classical in
/-- The ancestors of some hashes, and they. -/
noncomputable def ancs (G : Gr) (E : List Key) : List Key := (G.map (·.1)).filter fun x => decide (Anc G E x)
theorem up_has {G : Gr} (hc : Clo G) {a x : Key} (h : Up (adj G) a x) (ha : (aget a G).isSome = true) : (aget x G).isSome = true := by
  induction h with
  | refl => exact ha
  | step h1 _ ih => exact ih (hc _ _ h1)
theorem mem_keys {G : Gr} {x : Key} : x ∈ G.map (·.1) ↔ (aget x G).isSome = true := by rw [aget_isSome]; simp
theorem ancs_mem {G : Gr} (hc : Clo G) {E : List Key} {x : Key} : x ∈ ancs G E ↔ Anc G E x := by
  unfold ancs
  simp only [List.mem_filter, mem_keys, decide_eq_true_eq]
  exact ⟨fun h => h.2, fun h => ⟨by obtain ⟨a, _, ha, hu⟩ := h; exact up_has hc hu ha, h⟩⟩
theorem ancs_asc {G : Gr} (ha : AAsc G) (E : List Key) : Asc (ancs G E) := List.Pairwise.filter _ (aasc_asc ha)
theorem gr_asc {X : Lx} (h : AAsc (kvs X)) : AAsc (gr X) := by
  have h' := List.pairwise_map.1 h
  exact List.pairwise_map.2 h'
theorem ancs_len (G : Gr) (E : List Key) : (ancs G E).length ≤ G.length := by
  unfold ancs
  exact Nat.le_trans (List.length_filter_le _ _) (by simp)
theorem h32_set {w : World} {b : Nat} {R : List Key} (h : SetH w b R) : H32 R := by
  obtain ⟨M, h1, _, rfl⟩ := h.ex
  exact h32_keys h1.h32
set_option maxRecDepth 20000 in
set_option maxHeartbeats 4000000 in
/-- Ancestors. -/
theorem ancestors_to (w : World) (g bm : Nat) (X : Lx) (v : Value) (E : List Key) (H : GA w g bm X) (hE : HSeen w v E) (h32 : H32 E) (hEl : E.length ≤ 1000000) (hX : X.length ≤ 4000) (hc : Clo (gr X)) (hf : ∀ x ∈ X, x.2.2.length ≤ 1000) :
    Calls Try.prog 22 #[gp g, v] w fun e w' => ∃ v', e = .returned v' ∧ HOwn w' w.heap.size v' (ancs (gr X) E) ∧ Below w.heap.size w w' := by
  have hd : Below w.heap.size w w.drew := blw_qt _ 1 w
  have HX := Lib.hid (existing_to w.drew g bm X v E (H.kb hd) (hE.mild (mild_below hd)) h32 hEl hX)
  have c0 := H.c0
  have HG := Lib.hid H
  have HC := Lib.hid hc
  have HF := Lib.hid hf
  have HXl := Lib.hid hX
  have ha := gr_asc H.at_.mp.asc
  have HA := Lib.hid ha
  have HUl : Hid (((gr X).map (·.1)).length ≤ 4000) := Lib.hid (by rw [List.length_map, gr_len]; exact hX)
  clear hd H hE h32 hEl hX hc hf ha
  go_enter Try.func22, Try.ntmps22
  go_wp2_with fail
  try simp only [List.append]
  refine wp_region_noPanic ?_
  refine wp_region_held_drew (S := (fun W => W.cell? ⟨g, 0, none⟩ = some (.map (some bm)))) (by kernel_rfl) c0 (fun hHeld => ?_)
  refine wpAnyH_take (i := 0) (v := ?_) (by simp only [List.getElem?_toArray, List.getElem?_cons_zero]; rfl) (by kernel_rfl) (by kernel_rfl) (by kernel_rfl) (fun _ _ _ h => h) (Or.inl ⟨by rfl, ?_⟩) (by assumption) ?_
  rotate_left
  · intro w hSw
    try dsimp only at hSw
    go_simp
    try with_reducible rfl
  try simp only [Act.put, List.setIfInBounds_toArray, List.set_cons_zero, List.set_cons_succ]
  refine wpAnyH_take (i := 1) (v := ?_) (by simp only [List.getElem?_toArray, List.getElem?_cons_succ, List.getElem?_cons_zero]; rfl) (by kernel_rfl) (by kernel_rfl) (by kernel_rfl) (fun _ _ _ h => h) (Or.inl ⟨by rfl, ?_⟩) (by assumption) ?_
  rotate_left
  · intro w hSw
    try dsimp only at hSw
    go_simp
    try with_reducible rfl
  try simp only [Act.put, List.setIfInBounds_toArray, List.set_cons_zero, List.set_cons_succ]
  refine wpAnyH_take (i := 2) (v := ?_) (by simp only [List.getElem?_toArray, List.getElem?_cons_succ, List.getElem?_cons_zero]; rfl) (by kernel_rfl) (by kernel_rfl) (by kernel_rfl) (fun _ _ _ h => h) (Or.inl ⟨by rfl, ?_⟩) (by assumption) ?_
  rotate_left
  · intro w hSw
    try dsimp only at hSw
    go_simp
    try with_reducible rfl
  try simp only [Act.put, List.setIfInBounds_toArray, List.set_cons_zero, List.set_cons_succ]
  refine wpAnyH_take (i := 3) (v := ?_) (by simp only [List.getElem?_toArray, List.getElem?_cons_succ, List.getElem?_cons_zero]; rfl) (by kernel_rfl) (by kernel_rfl) (by kernel_rfl) (fun _ _ _ h => h) (Or.inl ⟨by rfl, ?_⟩) (by assumption) ?_
  rotate_left
  · intro w hSw
    try dsimp only at hSw
    go_simp
    try with_reducible rfl
  try simp only [Act.put, List.setIfInBounds_toArray, List.set_cons_zero, List.set_cons_succ]
  refine wpAnyH_take (i := 4) (v := ?_) (by simp only [List.getElem?_toArray, List.getElem?_cons_succ, List.getElem?_cons_zero]; rfl) (by kernel_rfl) (by kernel_rfl) (by kernel_rfl) (fun _ _ _ h => h) (Or.inl ⟨by rfl, ?_⟩) (by assumption) ?_
  rotate_left
  · intro w hSw
    try dsimp only at hSw
    go_simp
    try with_reducible rfl
  try simp only [Act.put, List.setIfInBounds_toArray, List.set_cons_zero, List.set_cons_succ]
  refine wpAnyH_take (i := 5) (v := ?_) (by simp only [List.getElem?_toArray, List.getElem?_cons_succ, List.getElem?_cons_zero]; rfl) (by kernel_rfl) (by kernel_rfl) (by kernel_rfl) (fun _ _ _ h => h) (Or.inl ⟨by rfl, ?_⟩) (by assumption) ?_
  rotate_left
  · intro w hSw
    try dsimp only at hSw
    go_simp
    try with_reducible rfl
  try simp only [Act.put, List.setIfInBounds_toArray, List.set_cons_zero, List.set_cons_succ]
  refine wpAnyH_ready (rs := [6]) (by kernel_rfl) (by simp) ?_
  refine AllReadyH.cons (by simp only [List.getElem?_toArray, List.getElem?_cons_succ, List.getElem?_cons_zero]; rfl) (fun K hK => ?_) AllReadyH.nil
  go_simp
  refine HX.out.mono ?_
  rintro e w1 ⟨b, R, rfl, hS, hb, hR, hRl, b1⟩
  have B1 : Hid (Below w.heap.size w w1) := Lib.hid (blw_drn (m := 1) b1)
  have HR := Lib.hid hR
  have HRl : Hid (R.length ≤ 4000) := Lib.hid (by have := HUl.out; rw [List.length_map] at this; omega)
  have H32R := Lib.hid (h32_set hS)
  have HS1 := Lib.hid (sorted_to w1 b R (by have := HRl.out; omega) hS)
  have c1 := (HG.out.kb B1.out).c0
  clear hS hR b1 hb hRl
  go_wp2_with fail
  refine hK.out _ _ c1 (fun hHeld => ?_)
  clear hK K
  try simp only [Act.put, List.setIfInBounds_toArray, List.set_cons_zero, List.set_cons_succ]
  refine wpAnyH_ready (rs := [7]) (by kernel_rfl) (by simp) ?_
  refine AllReadyH.cons (by simp only [List.getElem?_toArray, List.getElem?_cons_succ, List.getElem?_cons_zero]; rfl) (fun K hK => ?_) AllReadyH.nil
  go_simp
  refine HS1.out.mono ?_
  rintro e w2 ⟨v2, rfl, o2, b2⟩
  have B2 : Hid (Below w.heap.size w w2) := Lib.hid (B1.out.trans (b2.mono B1.out.size))
  have HRe := Lib.hid (reach_to w2 bm X v2 R ((gr X).map (·.1)) (HG.out.kb B2.out).at_ (HSeen.own o2) H32R.out HRl.out HUl.out
    (fun x hx => mem_keys.2 ((HR.out x).1 hx).2) (fun x p hp => mem_keys.2 (HC.out x p hp)) HF.out)
  have c2 := (HG.out.kb B2.out).c0
  clear o2 b2 c1
  go_wp2_with fail
  refine hK.out _ _ c2 (fun hHeld => ?_)
  clear hK K
  try simp only [Act.put, List.setIfInBounds_toArray, List.set_cons_zero, List.set_cons_succ]
  refine wpAnyH_ready (rs := [8]) (by kernel_rfl) (by simp) ?_
  refine AllReadyH.cons (by simp only [List.getElem?_toArray, List.getElem?_cons_succ, List.getElem?_cons_zero]; rfl) (fun K hK => ?_) AllReadyH.nil
  go_simp
  refine HRe.out.mono ?_
  rintro e w3 ⟨b', R', rfl, hS, hb, hR, hRl, b3⟩
  have B3 : Hid (Below w.heap.size w w3) := Lib.hid (B2.out.trans (b3.mono B2.out.size))
  have HR' : Hid (R' = ancs (gr X) E) := Lib.hid (by
    refine asc_ext _ _ (setH_asc hS) (ancs_asc HA.out E) fun x => ?_
    rw [hR, ancs_mem HC.out]
    constructor
    · rintro ⟨a, h1, h2⟩; exact ⟨a, ((HR.out a).1 h1).1, ((HR.out a).1 h1).2, h2⟩
    · rintro ⟨a, h1, h2, h3⟩; exact ⟨a, (HR.out a).2 ⟨h1, h2⟩, h3⟩)
  have HS3 := Lib.hid (sorted_to w3 b' R' (by have := HUl.out; omega) hS)
  have c3 := (HG.out.kb B3.out).c0
  clear hS hR b3 hb hRl c2
  go_wp2_with fail
  refine hK.out _ _ c3 (fun hHeld => ?_)
  clear hK K
  try simp only [Act.put, List.setIfInBounds_toArray, List.set_cons_zero, List.set_cons_succ]
  refine wpAnyH_ready (rs := [9]) (by kernel_rfl) (by simp) ?_
  refine AllReadyH.cons (by simp only [List.getElem?_toArray, List.getElem?_cons_succ, List.getElem?_cons_zero]; rfl) (fun K hK => ?_) AllReadyH.nil
  go_simp
  refine HS3.out.mono ?_
  rintro e w4 ⟨v4, rfl, o4, b4⟩
  rw [HR'.out] at o4
  have B4 : Hid (Below w.heap.size w w4) := Lib.hid (B3.out.trans (b4.mono B3.out.size))
  have O4 := Lib.hid (own_lower o4 B3.out.size)
  have c4 := (HG.out.kb B4.out).c0
  clear o4 b4 c3
  go_wp2_with fail
  refine hK.out _ _ c4 (fun hHeld => ?_)
  clear hK K
  try simp only [Act.put, List.setIfInBounds_toArray, List.set_cons_zero, List.set_cons_succ]
  refine wpAnyH_take (i := 10) (v := ?_) (by simp only [List.getElem?_toArray, List.getElem?_cons_succ, List.getElem?_cons_zero]; rfl) (by kernel_rfl) (by kernel_rfl) (by kernel_rfl) (fun _ _ _ h => h) (Or.inl ⟨by rfl, ?_⟩) (by assumption) ?_
  rotate_left
  · intro w hSw
    try dsimp only at hSw
    go_simp
    try with_reducible rfl
  try simp only [Act.put, List.setIfInBounds_toArray, List.set_cons_zero, List.set_cons_succ]
  refine wpAnyH_done (by kernel_rfl) ?_ _
  refine NoPanic.normal ?_
  go_wp2
  go_ret
  exact ⟨_, rfl, O4.out, B4.out⟩
end Go.Proofs.Ythfkmfepeafgjaa
