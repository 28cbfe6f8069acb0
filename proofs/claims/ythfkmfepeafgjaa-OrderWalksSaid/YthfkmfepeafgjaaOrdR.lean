/- Walk and Rising. Conditions: hashes of 32 bytes; a graph that may be; no more than a million heads. · Rising. Conditions: hashes of 32 bytes; a graph that may be; no more than a million hashes. -/
import Derived.Test.YthfkmfepeafgjaaOrdV
import Derived.Test.YthfkmfepeafgjaaGphH
namespace Go.Proofs.Ythfkmfepeafgjaa
open Go.RowKit
open Go.Maps

theorem Dn.kb {w W0 : World} {fv : Value} {D : Key → Bool} (h : Dn w fv D) (b : Below w.heap.size w W0) : Dn W0 fv D := by
  rcases h with h | ⟨k, c, h1, h2, h3⟩
  · exact .inl h
  · exact .inr ⟨k, c, h1, h2, fun V hV => h3 V (b.trans (hV.mono b.size))⟩
theorem Dn.none (w : World) : Dn w .nilFunc fun _ => false := .inl ⟨rfl, fun _ => rfl⟩
theorem Dn.cells {w : World} {fv : Value} {D : Key → Bool} (h : Dn w fv D) : fv = .nilFunc ∨ ∃ k c, fv = .func (.func k) #[] c := by
  rcases h with ⟨rfl, _⟩ | ⟨k, c, h1, _, _⟩
  · exact .inl rfl
  · exact .inr ⟨k, c, h1⟩
set_option maxRecDepth 20000 in
theorem newwalk_to (w : World) (g : Nat) (fv : Value) (hf : fv = .nilFunc ∨ ∃ k c, fv = .func (.func k) #[] c) :
    Calls Try.prog 28 #[gp g, fv] w fun e w' => e = .returned (wkp (w.heap.size + 1)) ∧ w'.heap[w.heap.size + 1]? = some (.cells #[gp g, fv, .slice none 0 0, .map (some w.heap.size)] 59 (0, 0)) ∧ SetH w' w.heap.size [] ∧ Below w.heap.size w w' := by
  have hmm := @run_makeMap Try.prog
  have b1 : Below w.heap.size w (w.alloc (.map #[] 0)) := (Below.refl _ w).alloc (Nat.le_refl _) _
  have hs1 : (w.alloc (.map #[] 0)).heap.size = w.heap.size + 1 := by simp
  have B2 : Hid (∀ cs, Below w.heap.size w ((w.alloc (.map #[] 0)).alloc (.cells cs 59))) := Lib.hid (fun cs => b1.alloc b1.size _)
  have S2 : Hid (∀ cs, SetH ((w.alloc (.map #[] 0)).alloc (.cells cs 59)) w.heap.size []) := Lib.hid (fun cs => (setH_made w).kb (below_al11 (w.alloc (.map #[] 0)) (.cells cs 59)) (by rw [hs1]; exact Nat.lt_succ_self _))
  have H2 : Hid (∀ cs, ((w.alloc (.map #[] 0)).alloc (.cells cs 59)).heap[w.heap.size + 1]? = some (.cells cs 59 (0, 0))) := Lib.hid (fun cs => by have := heap_alloc_last (w.alloc (.map #[] 0)) (.cells cs 59); rwa [hs1] at this)
  clear b1
  rcases hf with rfl | ⟨k, c, rfl⟩
  · go_enter Try.func28, Try.ntmps28
    go_wp2
    go_ret
    exact ⟨rfl, H2.out _, S2.out _, B2.out _⟩
  · go_enter Try.func28, Try.ntmps28
    go_wp2
    go_ret
    exact ⟨rfl, H2.out _, S2.out _, B2.out _⟩
theorem wk_new {W0 W : World} {g bm : Nat} {X : Lx} {fv : Value} (b : Below W0.heap.size W0 W) (hga : GA W0 g bm X) (hc : W.heap[W0.heap.size + 1]? = some (.cells #[gp g, fv, .slice none 0 0, .map (some W0.heap.size)] 59 (0, 0))) (hs : SetH W W0.heap.size []) : WK W0 W (W0.heap.size + 1) g bm W0.heap.size X fv (.slice none 0 0) [] :=
  ⟨b, hc, hga, World.ownsRow_nil _ _ _ _, ⟨[], hs, fun _ => Iff.rfl⟩, H32.nil, ⟨Nat.le_succ _, Nat.le_refl _⟩⟩
/-- What a walk has listed is among the graph's commits, none of it twice. -/
theorem vl_len {G : Gr} {D : Key → Bool} (W : Wf G) {n : Nat} {hs o : List Key} (v : VL G D n [] hs o) (h : ∀ x ∈ hs, (aget x G).isSome = true) : o.length ≤ 1000 :=
  Nat.le_trans (in_len (v.nodup W List.nodup_nil) (v.inG W.clo (fun _ h => by cases h) h)) W.few
/-- A row of hashes of one's own stays as the walk turns. -/
theorem own_wk {W0 W W' : World} {wk g bm ml B : Nat} {X : Lx} {fv lv v : Value} {o E : List Key} (h : HOwn W B v E) (K : WK W0 W wk g bm ml X fv lv o) (ho : Only (wS wk ml lv) W W') (hne : ∀ j, v.ownBlock = some j → lv.ownBlock ≠ some j) : HOwn W' B v E := by
  obtain ⟨es, cc, hml⟩ : ∃ es cc, W.heap[ml]? = some (.map es cc) := by
    obtain ⟨R, h4, _⟩ := K.set
    obtain ⟨M, h5, _⟩ := h4.ex
    exact h5.ismap
  refine own_keep h ho (fun j hj e => ?_)
  rcases e with rfl | rfl | e
  · exact own_apart h K.cell (by decide) hj
  · exact own_nomap h hml hj
  · exact hne j hj e
def hasB (G : Gr) (h : Key) : Bool := (aget h G).isSome
set_option linter.unusedSimpArgs false in
set_option maxRecDepth 20000 in
set_option maxHeartbeats 8000000 in
attribute [local go_sem ↓] hld_open in
theorem walk_to (w : World) (g bm : Nat) (X : Lx) (H : GA w g bm X) (HW : Wf (gr X)) (v : Value) (E : List Key) (hE : HSeen w v E) (h32 : H32 E) (hEl : E.length ≤ 1000000) (fv : Value) (D : Key → Bool) (hD : Dn w fv D) :
    Calls Try.prog 10 #[gp g, v, fv] w fun e w' => ∃ v' o', e = .returned v' ∧ HOwn w' w.heap.size v' o' ∧ (∃ N, VL (gr X) D N [] (E.filter (hasB (gr X))) o') ∧ Below w.heap.size w w' := by
  obtain ⟨pe, ce, rfl⟩ := hE.shape
  obtain ⟨ne, hne⟩ : ∃ ne, ne = E.length := ⟨_, rfl⟩
  rw [← hne] at hE hEl ⊢
  have hnp : ∀ w : World, (binOp .eql 22 (gp g) (.pointer none)).run Try.prog w = .ok (.bool false) w := fun w => by kernel_rfl
  have HCP := Lib.hid (copy_to w g bm X H)
  have HWF := Lib.hid HW
  have HE := Lib.hid hE
  have H3 := Lib.hid h32
  have HL := Lib.hid hEl
  have HN := Lib.hid hne
  have HDN := Lib.hid hD
  clear H HW hE h32 hEl hne hD
  go_enter Try.func10, Try.ntmps10
  go_wp2_with fail
  refine HCP.out.mono ?_
  rintro e w1 ⟨g', rfl, _, hga, b1⟩
  have B1 := Lib.hid b1
  have HGA := Lib.hid hga
  have HD1 := Lib.hid (HDN.out.kb b1)
  clear hga b1 HCP
  generalize w.heap.size = bm' at HGA
  go_wp2_with fail
  refine (newwalk_to w1 g' fv HD1.out.cells).mono ?_
  rintro e w2 ⟨rfl, hc, hs, b2⟩
  have K2 := Lib.hid (wk_new b2 HGA.out hc hs)
  have B2 : Hid (Below w.heap.size w w2) := Lib.hid (B1.out.trans (b2.mono B1.out.size))
  clear hc hs b2
  obtain ⟨wk, hwk⟩ : ∃ wk, wk = w1.heap.size + 1 := ⟨_, rfl⟩
  obtain ⟨ml, hml⟩ : ∃ ml, ml = w1.heap.size := ⟨_, rfl⟩
  have K2' : Hid (WK w1 w2 wk g' bm' ml X fv (.slice none 0 0) []) := Lib.hid (by rw [hwk, hml]; exact K2.out)
  rw [← hwk]
  clear K2 hwk hml
  go_wp2_with fail
  refine (hclone_any w2 _ E H3.out (by have := HL.out; have := HN.out; omega) (HE.out.mild (mild_below B2.out))).mono ?_
  rintro e w3 ⟨v3, rfl, o3, b3⟩
  obtain ⟨pc, nc, cc, rfl, hnc⟩ := own_sh o3
  rw [← HN.out] at hnc
  subst nc
  have O3 := Lib.hid o3
  have K3 := Lib.hid (K2'.out.kb b3)
  clear o3 b3 K2'
  go_wp2_with fail
  go_loopw [19] (fun v19 wr => ∃ i : Nat, v19 = .int .i64 i ∧ i ≤ ne ∧ Hid (∃ lc oc N, WK w1 wr wk g' bm' ml X fv lc oc ∧ VL (gr X) D N [] ((E.take i).filter (hasB (gr X))) oc ∧ ∀ j, (Value.slice pc ne cc).ownBlock = some j → lc.ownBlock ≠ some j) ∧ Hid (HOwn wr w2.heap.size (.slice pc ne cc) E)) (fun v19 _ => ne - (intOf v19).toNat)
  case atStart => exact ⟨0, rfl, Nat.zero_le _, Lib.hid ⟨_, [], 0, K3.out, by simpa using VL.nil [], fun _ _ h => by cases h⟩, O3⟩
  case round =>
    obtain ⟨i, rfl, hi, HK, O⟩ := hrel
    clear O3 K3
    obtain ⟨lc, oc, N, k0, v0, hne⟩ := HK.out
    have K := Lib.hid k0
    have V := Lib.hid v0
    have HNE := Lib.hid hne
    clear k0 v0 hne HK
    by_cases hlt : i < ne
    · obtain ⟨j1, j2, j3⟩ := next_fit hlt HL.out
      have hiE : i < E.length := by rw [← HN.out]; exact hlt
      obtain ⟨bb, o, c', e1, hrg⟩ := (HSeen.own O.out).at H3.out hiE
      injection e1 with e1 e2 e3
      subst e1
      have htk : E.take (i + 1) = E.take i ++ [E[i]] := List.take_succ_eq_append_getElem hiE
      obtain ⟨x, hx⟩ : ∃ x, x = E[i] := ⟨_, rfl⟩
      rw [← hx] at hrg htk
      have HX : Hid (x.length = 32) := Lib.hid (by rw [hx]; exact H3.out.at hiE)
      have hld0 := hld_range HX.out hrg
      have st := hst_cells x HX.out wr
      have hks : (hv x).size = 32 := by rw [hv_size, HX.out]
      have AL := Lib.hid (below_al11 wr (.cells (hv x) 28))
      have HB := Lib.hid (heap_alloc_last wr (.cells (hv x) 28))
      have K4 := Lib.hid (K.out.kb AL.out)
      have O4 := Lib.hid (own_below O.out AL.out)
      have HTK := Lib.hid htk
      have HIN := Lib.hid hlt
      have HJ1 := Lib.hid j1
      clear hx hrg htk hiE e2 e3 hi hlt K O
      go_upto_region 7 with fail
      clear st hld0
      generalize wr.alloc (.cells (hv x) 28) = w4 at *
      generalize wr.heap.size = hb at *
      have bq : Below w4.heap.size w4 w4.drew := blw_qt _ 1 w4
      have K5 := Lib.hid (K4.out.kb bq)
      have O5 := Lib.hid (own_below O4.out bq)
      have HB5 := Lib.hid ((mild_below bq).cells HB.out)
      clear bq K4 O4 HB
      obtain ⟨q, hq⟩ : ∃ q, q = hasB (gr X) x := ⟨_, rfl⟩
      have HQ := Lib.hid hq
      clear hq
      go_wp2_with fail
      try simp only [List.append]
      refine wp_region_noPanic ?_
      refine wp_region_held_drew (S := (fun V => V.cell? ⟨wk, 0, none⟩ = some (gp g') ∧ (hld ⟨hb, 0, none⟩).run Try.prog V = .ok (.agg (hv x)) V)) (by kernel_rfl) ⟨K5.out.c (i := 0) rfl, hld_row HX.out HB5.out⟩ (fun hHeld => ?_)
      generalize w4.drew = cw at *
      refine wpAnyH_take (i := 0) (v := ?_) (by simp only [List.getElem?_toArray, List.getElem?_cons_zero]; rfl) (by kernel_rfl) (by kernel_rfl) (by kernel_rfl) (fun _ _ _ h => h) (Or.inl ⟨by rfl, ?_⟩) (by assumption) ?_
      rotate_left
      · intro w hSw
        try dsimp only at hSw
        go_simp
        try with_reducible rfl
      try simp only [Act.put, List.setIfInBounds_toArray, List.set_cons_zero, List.set_cons_succ]
      refine wpAnyH_take (i := 1) (v := ?_) (by simp only [List.getElem?_toArray, List.getElem?_cons_succ, List.getElem?_cons_zero]; rfl) (by kernel_rfl) (by kernel_rfl) (by kernel_rfl) (fun _ _ _ h => h) (Or.inl ⟨by rfl, ?_⟩) (by assumption) ?_
      rotate_left
      · intro w hSw
        try dsimp only at hSw
        go_simp
        try with_reducible rfl
      try simp only [Act.put, List.setIfInBounds_toArray, List.set_cons_zero, List.set_cons_succ]
      refine wpAnyH_take (i := 2) (v := ?_) (by simp only [List.getElem?_toArray, List.getElem?_cons_succ, List.getElem?_cons_zero]; rfl) (by kernel_rfl) (by kernel_rfl) (by kernel_rfl) (fun _ _ _ h => h) (Or.inl ⟨by rfl, ?_⟩) (by assumption) ?_
      rotate_left
      · intro w hSw
        try dsimp only at hSw
        go_simp
        try with_reducible rfl
      try simp only [Act.put, List.setIfInBounds_toArray, List.set_cons_zero, List.set_cons_succ]
      refine wpAnyH_take (i := 3) (v := ?_) (by simp only [List.getElem?_toArray, List.getElem?_cons_succ, List.getElem?_cons_zero]; rfl) (by kernel_rfl) (by kernel_rfl) (by kernel_rfl) (fun _ _ _ h => h) (Or.inl ⟨by rfl, ?_⟩) (by assumption) ?_
      rotate_left
      · intro w hSw
        try dsimp only at hSw
        go_simp
        try with_reducible rfl
      try simp only [Act.put, List.setIfInBounds_toArray, List.set_cons_zero, List.set_cons_succ]
      refine wpAnyH_take (i := 4) (v := ?_) (by simp only [List.getElem?_toArray, List.getElem?_cons_succ, List.getElem?_cons_zero]; rfl) (by kernel_rfl) (by kernel_rfl) (by kernel_rfl) (fun _ _ _ h => h) (Or.inl ⟨by rfl, ?_⟩) (by assumption) ?_
      rotate_left
      · intro w hSw
        try dsimp only at hSw
        go_simp
        try with_reducible rfl
      try simp only [Act.put, List.setIfInBounds_toArray, List.set_cons_zero, List.set_cons_succ]
      refine wpAnyH_ready (rs := [5]) (by kernel_rfl) (by simp) ?_
      refine AllReadyH.cons (by simp only [List.getElem?_toArray, List.getElem?_cons_succ, List.getElem?_cons_zero]; rfl) (fun K hK => ?_) AllReadyH.nil
      go_simp
      have hhs := has_to cw g' bm' X x HX.out K5.out.g
      rw [show (aget x (gr X)).isSome = q from HQ.out.symm] at hhs
      refine hhs.mono ?_
      clear hhs
      rintro e cx ⟨rfl, bb1⟩
      have K6 := Lib.hid (K5.out.kb bb1)
      have O6 := Lib.hid (own_below O5.out bb1)
      have HB6 := Lib.hid ((mild_below bb1).cells HB5.out)
      clear bb1 K5 O5 HB5
      go_wp2_with fail
      refine hK.out _ _ ⟨K6.out.c (i := 0) rfl, hld_row HX.out HB6.out⟩ (fun hHeld => ?_)
      clear hK K
      try simp only [Act.put, List.setIfInBounds_toArray, List.set_cons_zero, List.set_cons_succ]
      refine wpAnyH_done (by kernel_rfl) ?_ _
      refine NoPanic.normal ?_
      clear hHeld
      rename World => w6
      cases q with
      | false =>
        go_wp2_with fail
        refine ⟨⟨i + 1, by first | rw [HJ1.out] | rfl, HIN.out, Lib.hid ⟨lc, oc, N, K6.out, ?_, HNE.out⟩, O6⟩, ?_⟩
        · rw [HTK.out, List.filter_append]
          simp only [List.filter_cons, List.filter_nil, ← HQ.out, Bool.false_eq_true, if_false, List.append_nil]
          exact V.out
        · first | exact meas_nv HIN.out HJ1.out | exact meas_nw HIN.out
      | true =>
        obtain ⟨N2, o2, v2⟩ := VL.ex' HWF.out D [x] oc
        obtain ⟨N3, v3⟩ := V.out.app v2
        have hfl : (E.take (i + 1)).filter (hasB (gr X)) = (E.take i).filter (hasB (gr X)) ++ [x] := by
          rw [HTK.out, List.filter_append]
          simp only [List.filter_cons, List.filter_nil, ← HQ.out, if_true]
        have V3 : Hid (VL (gr X) D N3 [] ((E.take (i + 1)).filter (hasB (gr X))) o2) := Lib.hid (by rw [hfl]; exact v3)
        have HO2 : Hid (o2.length ≤ 1000) := Lib.hid (vl_len HWF.out V3.out (fun y hy => (List.mem_filter.1 hy).2))
        have HVI := Lib.hid (visit_to w1 w6 wk g' bm' ml X fv lc oc K6.out D HD1.out HWF.out x HX.out N2 o2 v2 HO2.out)
        have hld6 := hld_row HX.out HB6.out
        clear v2 v3 hfl
        go_wp2_with fail
        refine HVI.out.mono ?_
        rintro e w7 ⟨rfl, lc', k7, o7, l7⟩
        have K7 := Lib.hid k7
        have O7 := Lib.hid (own_wk O6.out K6.out o7 HNE.out)
        have HNE7 : Hid (∀ j, (Value.slice (some ⟨bb, o, none⟩) ne cc).ownBlock = some j → lc'.ownBlock ≠ some j) := Lib.hid (fun j hj e => (l7 j e).elim (HNE.out j hj) (fun h => by have := own_lt O6.out j hj; omega))
        clear k7 o7 l7 hld6
        go_wp2_with fail
        refine ⟨⟨i + 1, by first | rw [HJ1.out] | rfl, HIN.out, Lib.hid ⟨lc', o2, N3, K7.out, V3.out, HNE7.out⟩, O7⟩, ?_⟩
        first | exact meas_nv HIN.out HJ1.out | exact meas_nw HIN.out
    · obtain rfl : i = ne := by omega
      have hl2 : decide ((i : Int) < i) = false := by simp
      have hcl := K.out.c (i := 2) rfl
      clear hlt hi
      go_wp2_with fail
      go_ret
      refine ⟨lc, oc, rfl, own_lower K.out.own B1.out.size, ⟨N, ?_⟩, B1.out.trans (K.out.bel.mono B1.out.size)⟩
      have h := V.out
      rwa [List.take_of_length_le (by rw [HN.out]; exact Nat.le_refl _)] at h
end Go.Proofs.Ythfkmfepeafgjaa
namespace Go.Proofs.Ythfkmfepeafgjaa
open Go.RowKit
open Go.Maps

/-- What Rising tells. -/
def rising (G : Gr) (E : List Key) : Prop := ∀ i x, E[i]? = some x → (aget x G).isSome = true ∧ ∀ a ∈ E.take i, ¬ Up (adj G) a x
theorem rising_bad {G : Gr} {E : List Key} {i : Nat} {x : Key} (hx : E[i]? = some x) (h : (aget x G).isSome = false ∨ ∃ a ∈ E.take i, Up (adj G) a x) : ¬ rising G E := fun hr => by
  obtain ⟨h1, h2⟩ := hr i x hx
  rcases h with h | ⟨a, ha, hu⟩
  · rw [h] at h1; cases h1
  · exact h2 a ha hu
theorem rising_next {G : Gr} {E : List Key} {i : Nat} {x : Key} (h : rising G (E.take i)) (ht : E.take (i + 1) = E.take i ++ [x]) (hl : (E.take i).length = i) (h1 : (aget x G).isSome = true) (h2 : ∀ a ∈ E.take i, ¬ Up (adj G) a x) : rising G (E.take (i + 1)) := by
  intro k y hy
  rw [ht] at hy ⊢
  by_cases hk : k < i
  · rw [List.getElem?_append_left (by omega)] at hy
    rw [List.take_append_of_le_length (by omega)]
    exact h k y hy
  · have hki : k = i := by
      have := (List.getElem?_eq_some_iff.1 hy).1
      simp at this
      omega
    subst hki
    rw [List.getElem?_append_right (by omega), hl, Nat.sub_self] at hy
    simp at hy
    subst hy
    rw [List.take_append_of_le_length (by omega), List.take_of_length_le (by omega)]
    exact ⟨h1, h2⟩
set_option linter.unusedSimpArgs false in
set_option maxRecDepth 20000 in
set_option maxHeartbeats 8000000 in
attribute [local go_sem ↓] hld_open in
theorem rising_to (w : World) (g bm : Nat) (X : Lx) (H : GA w g bm X) (HW : Wf (gr X)) (v : Value) (E : List Key) (hE : HSeen w v E) (h32 : H32 E) (hEl : E.length ≤ 1000000) :
    Calls Try.prog 13 #[gp g, v] w fun e w' => ∃ b : Bool, e = .returned (.bool b) ∧ (b = true ↔ rising (gr X) E) ∧ Below w.heap.size w w' := by
  obtain ⟨pe, ce, rfl⟩ := hE.shape
  obtain ⟨ne, hne⟩ : ∃ ne, ne = E.length := ⟨_, rfl⟩
  rw [← hne] at hE hEl ⊢
  have hnp : ∀ w : World, (binOp .eql 22 (gp g) (.pointer none)).run Try.prog w = .ok (.bool false) w := fun w => by kernel_rfl
  have HGA := Lib.hid H
  have HWF := Lib.hid HW
  have HE := Lib.hid hE
  have H3 := Lib.hid h32
  have HL := Lib.hid hEl
  have HN := Lib.hid hne
  clear H HW hE h32 hEl hne
  go_enter Try.func13, Try.ntmps13
  go_wp2_with fail
  refine (newwalk_to w g .nilFunc (.inl rfl)).mono ?_
  rintro e w2 ⟨rfl, hc, hs, b2⟩
  have K2 := Lib.hid (wk_new b2 HGA.out hc hs)
  clear hc hs b2
  obtain ⟨wk, hwk⟩ : ∃ wk, wk = w.heap.size + 1 := ⟨_, rfl⟩
  obtain ⟨ml, hml⟩ : ∃ ml, ml = w.heap.size := ⟨_, rfl⟩
  have K2' : Hid (WK w w2 wk g bm ml X .nilFunc (.slice none 0 0) []) := Lib.hid (by rw [hwk, hml]; exact K2.out)
  rw [← hwk]
  clear K2 hwk hml
  go_wp2_with fail
  go_loopw [14] (fun v14 wr => ∃ i : Nat, v14 = .int .i64 i ∧ i ≤ ne ∧ Hid (∃ lc oc N, WK w wr wk g bm ml X .nilFunc lc oc ∧ VL (gr X) (fun _ => false) N [] (E.take i) oc) ∧ Hid (rising (gr X) (E.take i))) (fun v14 _ => ne - (intOf v14).toNat)
  case atStart => exact ⟨0, rfl, Nat.zero_le _, Lib.hid ⟨_, [], 0, K2'.out, by simpa using VL.nil []⟩, Lib.hid (fun i x hx => by simp at hx)⟩
  case round =>
    obtain ⟨i, rfl, hi, HK, HRI⟩ := hrel
    clear K2'
    obtain ⟨lc, oc, N, k0, v0⟩ := HK.out
    have K := Lib.hid k0
    have V := Lib.hid v0
    clear k0 v0 HK
    by_cases hlt : i < ne
    · obtain ⟨j1, j2, j3⟩ := next_fit hlt HL.out
      have hiE : i < E.length := by rw [← HN.out]; exact hlt
      obtain ⟨bb, o, c', e1, hrg⟩ := (HE.out.mild (mild_below K.out.bel)).at H3.out hiE
      injection e1 with e1 e2 e3
      subst e1
      have htk : E.take (i + 1) = E.take i ++ [E[i]] := List.take_succ_eq_append_getElem hiE
      obtain ⟨x, hx⟩ : ∃ x, x = E[i] := ⟨_, rfl⟩
      have HXI : Hid (E[i]? = some x) := Lib.hid (by rw [List.getElem?_eq_getElem hiE, hx])
      rw [← hx] at hrg htk
      have HX : Hid (x.length = 32) := Lib.hid (by rw [hx]; exact H3.out.at hiE)
      have hld0 := hld_range HX.out hrg
      have st := hst_cells x HX.out wr
      have hks : (hv x).size = 32 := by rw [hv_size, HX.out]
      have AL := Lib.hid (below_al11 wr (.cells (hv x) 28))
      have HB := Lib.hid (heap_alloc_last wr (.cells (hv x) 28))
      have K4 := Lib.hid (K.out.kb AL.out)
      have HTK := Lib.hid htk
      have HTL : Hid ((E.take i).length = i) := Lib.hid (by rw [List.length_take]; omega)
      have HIN := Lib.hid hlt
      have HJ1 := Lib.hid j1
      have HMI := Lib.hid (fun y => V.out.mem_iff (PB.nil (gr X)) y)
      clear hx hrg htk hiE e2 e3 hi hlt K
      go_upto_region 7 with fail
      clear st hld0
      generalize wr.alloc (.cells (hv x) 28) = w4 at *
      generalize wr.heap.size = hb at *
      have hld4 := hld_row HX.out HB.out
      obtain ⟨q, hq⟩ : ∃ q, q = (aget x (gr X)).isSome := ⟨_, rfl⟩
      have HQ := Lib.hid hq
      have hhs := Lib.hid (has_to w4 g bm X x HX.out K4.out.g)
      rw [← hq] at hhs
      clear hq
      go_wp2_with fail
      refine hhs.out.mono ?_
      rintro e w5 ⟨rfl, b5⟩
      have K5 := Lib.hid (K4.out.kb b5)
      have HB5 := Lib.hid ((mild_below b5).cells HB.out)
      have hld5 := hld_row HX.out HB5.out
      clear b5 K4 HB hld4 hhs
      cases q with
      | false =>
        go_wp2_with fail
        go_ret
        exact ⟨false, rfl, ⟨(fun h => by cases h), fun h => absurd h (rising_bad HXI.out (.inl HQ.out.symm))⟩, K5.out.bel⟩
      | true =>
        obtain ⟨d, hd⟩ : ∃ d, d = decide (x ∈ oc) := ⟨_, rfl⟩
        have HD := Lib.hid hd
        have hwh := Lib.hid (whas_to w w5 wk g bm ml X .nilFunc lc oc K5.out x HX.out)
        rw [← hd] at hwh
        clear hd
        go_wp2_with fail
        refine hwh.out.mono ?_
        rintro e w6 ⟨rfl, b6⟩
        have K6 := Lib.hid (K5.out.kb b6)
        have HB6 := Lib.hid ((mild_below b6).cells HB5.out)
        have hld6 := hld_row HX.out HB6.out
        clear b6 K5 HB5 hld5 hwh
        cases d with
        | true =>
          go_wp2_with fail
          go_ret
          refine ⟨false, rfl, ⟨(fun h => by cases h), fun h => absurd h (rising_bad HXI.out (.inr ?_))⟩, K6.out.bel⟩
          rcases (HMI.out x).1 (of_decide_eq_true HD.out.symm) with h9 | h9
          · cases h9
          · exact h9
        | false =>
          obtain ⟨N2, o2, v2⟩ := VL.ex' HWF.out (fun _ => false) [x] oc
          obtain ⟨N3, v3⟩ := V.out.app v2
          have HRN : Hid (rising (gr X) (E.take (i + 1))) := Lib.hid (rising_next HRI.out HTK.out HTL.out HQ.out.symm (fun a ha hu => (of_decide_eq_false HD.out.symm) ((HMI.out x).2 (.inr ⟨a, ha, hu⟩))))
          have V3 : Hid (VL (gr X) (fun _ => false) N3 [] (E.take (i + 1)) o2) := Lib.hid (by rw [HTK.out]; exact v3)
          have HO2 : Hid (o2.length ≤ 1000) := Lib.hid (vl_len HWF.out V3.out (fun y hy => by
            obtain ⟨k, hk, e⟩ := List.mem_iff_getElem.1 hy
            exact (HRN.out k y (by rw [List.getElem?_eq_getElem hk, e])).1))
          have HVI := Lib.hid (visit_to w w6 wk g bm ml X .nilFunc lc oc K6.out (fun _ => false) (Dn.none w) HWF.out x HX.out N2 o2 v2 HO2.out)
          clear v2 v3
          go_wp2_with fail
          refine HVI.out.mono ?_
          rintro e w7 ⟨rfl, lc', k7, o7, l7⟩
          have K7 := Lib.hid k7
          clear k7 o7 l7 hld6
          go_wp2_with fail
          refine ⟨⟨i + 1, by first | rw [HJ1.out] | rfl, HIN.out, Lib.hid ⟨lc', o2, N3, K7.out, V3.out⟩, HRN⟩, ?_⟩
          first | exact meas_nv HIN.out HJ1.out | exact meas_nw HIN.out
    · obtain rfl : i = ne := by omega
      have hl2 : decide ((i : Int) < i) = false := by simp
      clear hlt hi
      go_wp2_with fail
      go_ret
      have h := HRI.out
      rw [List.take_of_length_le (by rw [HN.out]; exact Nat.le_refl _)] at h
      exact ⟨true, rfl, ⟨fun _ => h, fun _ => rfl⟩, K.out.bel⟩
end Go.Proofs.Ythfkmfepeafgjaa
