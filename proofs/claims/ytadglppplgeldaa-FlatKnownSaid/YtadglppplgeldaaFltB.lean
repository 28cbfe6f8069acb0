/- Package flat: Build. Conditions: no more than a million of each. -/
import Derived.Test.YtadglppplgeldaaFltT
namespace Go.Proofs.Ytadglppplgeldaa
open Go.RowKit
set_option maxRecDepth 20000

/-- What append does with segments of the call's own and some that are read there, too. -/
theorem run_push_segs (w : World) (ty : TypeId) (B R R' : Nat) (v u : Value) (Y Z : List (Value × Sg)) (G : GO B R w v Y) (H : GO B R' w u Z) (hl : Y.length + Z.length ≤ 1000000) (hB : B ≤ R) (hR : R ≤ w.heap.size) :
    ∃ v' w', (Builtin.append_ #[26, 26] ty #[v, u]).run Try.prog w = .ok v' w' ∧ GO B R w' v' (Y ++ Z) ∧ Only (fun k => v.ownBlock = some k) w w' := by
  obtain ⟨i0, hi0, hz0, hz1, hz2⟩ := info_parts ginfo
  have hf : Y.length + Z.length ≤ maxLen ∧ (Y.length + Z.length) * 48 ≤ 140737488355328 := by unfold maxLen; omega
  rcases H.row.2 with ⟨rfl, h0⟩ | ⟨b, cap, cur, rfl, _, hb, hc, _⟩
  · obtain rfl : Z = [] := List.eq_nil_of_length_eq_zero h0
    have hr := run_append_owned_none (P := Try.prog) (w := w) R 26 ty 33 i0 5 Try.underlying26 hi0 v _ _ G.row
    exact ⟨v, w, hr, by rw [List.append_nil]; exact G, Only.refl _ _⟩
  · obtain ⟨v', w', hr, h2, h3, _, _⟩ := run_append_own_at (P := Try.prog) (w := w) R 26 ty 33 i0 _ 5 48 Try.underlying26 hi0 hz0 hz1 hz2 rfl (by decide) v Y.length (grow Y) G.row ⟨b, 0, none⟩ Z.length cap (grow Z) (grow_len Z) (H.row.cells (g := b) rfl) (grow_one Z (fun z hz => (H.lit z hz).one)) hf.1 hf.2 hR
    have hO := (Only.refl (fun k => v.ownBlock = some k) w).grown h3 (fun k _ e => e)
    exact ⟨v', w', hr, G.push (Z := Z) H.lit hB h2 hO, hO⟩
section
variable {ops : Array Oper} {o : Oper} {a : Act} {w : World} {K : Act → World → Prop} {Q : Exit → Act → World → Prop} {X : Prop}
theorem step_push_segs (hgd : o.guard = none) (s x : Operand) (ho : o.op = .call { callee := .builtin .append, args := #[s, x], argTypes := #[26, 26] })
    (B R R' : Nat) (v u : Value) (Y Z : List (Value × Sg)) (hs : a.eval s = v) (G : GO B R w v Y) (hx : a.eval x = u) (H : GO B R' w u Z) (hl : Y.length + Z.length ≤ 1000000) (hB : B ≤ R) (hR : R ≤ w.heap.size)
    (h : ∀ v' w', GO B R w' v' (Y ++ Z) → Only (fun k => v.ownBlock = some k) w w' → K (a.put o.dst v') w') :
    if Region.wanted o (yielded ops a.tmps) = true then Oper.wp Try.prog o a w K Q else X := by
  have hw : Region.wanted o (yielded ops a.tmps) = true := by simp [Region.wanted, hgd]
  rw [if_pos hw]
  obtain ⟨v', w', hr, h1, h2⟩ := run_push_segs w o.type B R R' v u Y Z G H hl hB hR
  unfold Oper.wp execOp
  simp only [ho, resolve, invoke, builtin, Sem.run_bind, Sem.run_pure, Result.andThen_ok, List.map_toArray, List.map_cons, List.map_nil, hs, hx, hr]
  exact h v' w' h1 h2
theorem push_segs {rest : List Oper} (hgd : o.guard = none) (s x : Operand) (ho : o.op = .call { callee := .builtin .append, args := #[s, x], argTypes := #[26, 26] })
    (B R R' : Nat) (v u : Value) (Y Z : List (Value × Sg)) (hs : a.eval s = v) (G : GO B R w v Y) (hx : a.eval x = u) (H : GO B R' w u Z) (hl : Y.length + Z.length ≤ 1000000) (hB : B ≤ R) (hR : R ≤ w.heap.size)
    (h : ∀ v' w', GO B R w' v' (Y ++ Z) → Only (fun k => v.ownBlock = some k) w w' → wpList Try.prog ops Q rest (a.put o.dst v') w') : wpList Try.prog ops Q (o :: rest) a w := by
  refine wpList_plain hgd fun K hK => ?_
  have h9 := step_push_segs (K := K) (Q := Q) (X := True) (ops := ops) hgd s x ho B R R' v u Y Z hs G hx H hl hB hR (fun v' w' a1 a2 => hK _ _ (h v' w' a1 a2))
  rwa [if_pos (by simp [Region.wanted, hgd])] at h9
end
theorem GO.up {B R R' : Nat} {w : World} {v : Value} {Y : List (Value × Sg)} (h : GO B R w v Y) (hR : R' ≤ R) : GO B R' w v Y := by
  refine ⟨⟨h.row.1, ?_⟩, h.lit⟩
  rcases h.row.2 with h1 | ⟨g, cap, cur, h1, h2, h3⟩
  · exact .inl h1
  · exact .inr ⟨g, cap, cur, h1, Nat.le_trans hR h2, h3⟩
theorem GO.ne_tab {B R b : Nat} {w : World} {p : Option Addr} {n c : Nat} {Y : List (Value × Sg)} {cs : Array Value} (h : GO B R w (.slice p n c) Y) (hb : w.heap[b]? = some (.cells cs 25 (0, 0))) (e : (Value.slice p n c).ownBlock = some b) : False := by
  rcases h.row.2 with ⟨h1, _⟩ | ⟨g, cap, cur, h1, _, hg, _⟩
  · rw [h1] at e; cases e
  · rw [h1] at e
    obtain rfl : g = b := by simpa [Value.ownBlock] using e
    rw [hg] at hb
    injection hb with hb
    injection hb with _ hb _
    exact absurd hb (by decide)
theorem segs_fit {M O : List (List Int)} {Y Z : List (Value × Sg)} {l1 l2 : Int} {n m : Nat} (h1 : Y.map (·.2) = sgs l1 M) (h2 : Z.map (·.2) = sgs l2 O) (h3 : n = M.length) (h4 : m = O.length) (h5 : n ≤ 400000) (h6 : m ≤ 400000) : Y.length + Z.length ≤ 1000000 := by
  have e1 := congrArg List.length h1
  have e2 := congrArg List.length h2
  have e3 := sgs_len l1 M
  have e4 := sgs_len l2 O
  rw [List.length_map] at e1 e2
  omega
set_option maxHeartbeats 8000000 in
theorem build_to5 (w : World) (B : Nat) (hB : B ≤ w.heap.size) (M O : List (List Int)) (p q : Option Addr) (n c m d : Nat) (hM : LS B w (.slice p n c) M) (hO : LS B w (.slice q m d) O) (hn : n ≤ 400000) (hm : m ≤ 400000) :
    Calls Try.prog 8 #[tv p n c q m d] w fun e w' => ∃ v' Y, e = .returned v' ∧ GO B w.heap.size w' v' Y ∧ (okt M O → Y.map (·.2) = flt M O) ∧ (¬ okt M O → Y = []) ∧ Below w.heap.size w w' := by
  have B0 := Lib.hid ((Below.refl w.heap.size w).alloc (Nat.le_refl _) (.cells #[.slice p n c, .slice q m d] 25))
  have HT := Lib.hid (heap_alloc_last w (.cells #[.slice p n c, .slice q m d] 25))
  have HM := Lib.hid (hM.kb B0.out)
  have HO := Lib.hid (hO.kb B0.out)
  have HNM := Lib.hid hM.len.1
  have HNO := Lib.hid hO.len.1
  have HN := Lib.hid hn
  have HMM := Lib.hid hm
  have HBB := Lib.hid hB
  clear hM hO hn hm hB
  go_enter Try.func8, Try.ntmps8
  go_wp2_with fail
  generalize w.alloc (.cells #[.slice p n c, .slice q m d] 25) = w0 at *
  have hr0 := cell_ob5 HT.out 0 rfl
  have hr1 := cell_ob5 HT.out 1 rfl
  refine (right5_to w0 B M O p q n c m d HM.out HO.out (Nat.le_trans HN.out (by decide)) (Nat.le_trans HMM.out (by decide))).mono ?_
  rintro e w1 ⟨⟨b1, rfl, h1⟩, k1⟩
  have H1 := Lib.hid h1
  have B1 := Lib.hid (B0.out.trans (k1.mono B0.out.size))
  have HT1 := Lib.hid ((k1.block _ (Array.getElem?_eq_some_iff.1 HT.out).1).trans HT.out)
  have HM1 := Lib.hid (HM.out.kb k1)
  have HO1 := Lib.hid (HO.out.kb k1)
  clear h1 k1 hr0 hr1 B0 HT HM HO
  cases b1 with
  | false =>
    go_wp2_with fail
    go_ret
    exact ⟨_, [], rfl, GO.nil _ _ _, fun h => absurd (H1.out.2 h) (by decide), fun _ => rfl, B1.out⟩
  | true =>
    have OK : Hid (okt M O) := Lib.hid (H1.out.1 rfl)
    have bq : Below w1.heap.size w1 w1.drew := drew_below w1
    have HT2 := Lib.hid ((bq.block _ (Array.getElem?_eq_some_iff.1 HT1.out).1).trans HT1.out)
    have HM2 := Lib.hid (HM1.out.kb bq)
    have HO2 := Lib.hid (HO1.out.kb bq)
    have B2 := Lib.hid (B1.out.trans (bq.mono B1.out.size))
    clear bq HM1 HO1 HT1 B1
    go_wp2_with fail
    try simp only [List.append]
    refine wp_region_noPanic ?_
    refine wp_region_held_drew (S := (fun V => V.cell? ⟨w.heap.size, 0, none⟩ = some (.slice p n c) ∧ V.cell? ⟨w.heap.size, 1, none⟩ = some (.slice q m d))) (by kernel_rfl) ⟨cell_ob5 HT2.out 0 rfl, cell_ob5 HT2.out 1 rfl⟩ (fun hHeld => ?_)
    generalize w1.drew = w2 at *
    refine wpAnyH_take (i := 0) (v := ?_) (by simp only [List.getElem?_toArray, List.getElem?_cons_zero]; rfl) (by kernel_rfl) (by kernel_rfl) (by kernel_rfl) (fun _ _ _ h => h) (Or.inl ⟨by rfl, ?_⟩) (by assumption) ?_
    rotate_left
    · intro w hSw
      try dsimp only at hSw
      go_simp
      try with_reducible rfl
    try simp only [Act.put, List.setIfInBounds_toArray, List.set_cons_zero, List.set_cons_succ]
    refine wpAnyH_take (i := 1) (v := ?_) (by simp only [List.getElem?_toArray, List.getElem?_cons_succ, List.getElem?_cons_zero]; rfl) (by kernel_rfl) (by kernel_rfl) (by kernel_rfl) (fun _ _ _ h => h) (Or.inl ⟨by rfl, ?_⟩) (by assumption) ?_
    rotate_left
    · intro w hSw
      try dsimp only at hSw
      go_simp
      try with_reducible rfl
    try simp only [Act.put, List.setIfInBounds_toArray, List.set_cons_zero, List.set_cons_succ]
    refine wpAnyH_take (i := 3) (v := ?_) (by simp only [List.getElem?_toArray, List.getElem?_cons_succ, List.getElem?_cons_zero]; rfl) (by kernel_rfl) (by kernel_rfl) (by kernel_rfl) (fun _ _ _ h => h) (Or.inl ⟨by rfl, ?_⟩) (by assumption) ?_
    rotate_left
    · intro w hSw
      try dsimp only at hSw
      go_simp
      try with_reducible rfl
    try simp only [Act.put, List.setIfInBounds_toArray, List.set_cons_zero, List.set_cons_succ]
    refine wpAnyH_take (i := 4) (v := ?_) (by simp only [List.getElem?_toArray, List.getElem?_cons_succ, List.getElem?_cons_zero]; rfl) (by kernel_rfl) (by kernel_rfl) (by kernel_rfl) (fun _ _ _ h => h) (Or.inl ⟨by rfl, ?_⟩) (by assumption) ?_
    rotate_left
    · intro w hSw
      try dsimp only at hSw
      go_simp
      try with_reducible rfl
    try simp only [Act.put, List.setIfInBounds_toArray, List.set_cons_zero, List.set_cons_succ]
    refine wpAnyH_ready (rs := [2]) (by kernel_rfl) (by simp) ?_
    refine AllReadyH.cons (by simp only [List.getElem?_toArray, List.getElem?_cons_succ, List.getElem?_cons_zero]; rfl) (fun K hK => ?_) AllReadyH.nil
    go_simp
    refine (segs_to w2 B (Nat.le_trans HBB.out B2.out.size) 0 (.inl rfl) (.slice p n c) M HM2.out (by rw [← HNM.out]; exact Nat.le_trans HN.out (by decide)) _ _ OK.out.1).mono ?_
    rintro e w3 ⟨v3, Y, rfl, g3, hy3, b3⟩
    have G3 := Lib.hid (g3.up (Nat.le_succ_of_le B2.out.size))
    have HY3 := Lib.hid hy3
    have B3 := Lib.hid (B2.out.trans (b3.mono B2.out.size))
    have HT3 := Lib.hid ((b3.block _ (Array.getElem?_eq_some_iff.1 HT2.out).1).trans HT2.out)
    have HO3 := Lib.hid (HO2.out.kb b3)
    obtain ⟨p3, n3, c3, rfl, hn3⟩ := g3.shape
    clear g3 hy3 b3 HT2 HO2 HM2 hn3 B2
    go_wp2_with fail
    refine hK.out _ _ ⟨cell_ob5 HT3.out 0 rfl, cell_ob5 HT3.out 1 rfl⟩ (fun hHeld => ?_)
    clear hK K
    try simp only [Act.put, List.setIfInBounds_toArray, List.set_cons_zero, List.set_cons_succ]
    refine wpAnyH_ready (rs := [5]) (by kernel_rfl) (by simp) ?_
    refine AllReadyH.cons (by simp only [List.getElem?_toArray, List.getElem?_cons_succ, List.getElem?_cons_zero]; rfl) (fun K hK => ?_) AllReadyH.nil
    go_simp
    refine (segs_to w3 B (Nat.le_trans HBB.out B3.out.size) spl (.inr rfl) (.slice q m d) O HO3.out (by rw [← HNO.out]; exact Nat.le_trans HMM.out (by decide)) _ _ OK.out.2).mono ?_
    rintro e w4 ⟨v4, Z, rfl, g4, hy4, b4⟩
    have G4 := Lib.hid g4
    have G4' := Lib.hid (G3.out.kb b4)
    have HY4 := Lib.hid hy4
    have B4 := Lib.hid (B3.out.trans (b4.mono B3.out.size))
    have HT4 := Lib.hid ((b4.block _ (Array.getElem?_eq_some_iff.1 HT3.out).1).trans HT3.out)
    obtain ⟨p4, n4, c4, rfl, hn4⟩ := g4.shape
    clear g4 hy4 b4 HT3 HO3 hn4 B3 G3
    go_wp2_with fail
    refine hK.out _ _ ⟨cell_ob5 HT4.out 0 rfl, cell_ob5 HT4.out 1 rfl⟩ (fun hHeld => ?_)
    clear hK K
    try simp only [Act.put, List.setIfInBounds_toArray, List.set_cons_zero, List.set_cons_succ]
    refine wpAnyH_ready (rs := [6]) (by kernel_rfl) (by simp) ?_
    refine AllReadyH.cons (by simp only [List.getElem?_toArray, List.getElem?_cons_succ, List.getElem?_cons_zero]; rfl) (fun K hK => ?_) AllReadyH.nil
    refine step_push_segs (by rfl) (.tmp 8) (.tmp 11) (by rfl) B w.heap.size _ _ _ Y Z (by rfl) G4'.out (by rfl) G4.out (segs_fit HY3.out HY4.out HNM.out HNO.out HN.out HMM.out) HBB.out B4.out.size ?_
    intro v5 w5 G5 o5
    have HT5 := Lib.hid ((o5.block _ (Array.getElem?_eq_some_iff.1 HT4.out).1 (fun e => G4'.out.ne_tab HT4.out e)).trans HT4.out)
    have B5 := Lib.hid (B4.out.trans (o5.below B4.out.size (fun k e => (G4'.out.row.lt k e).1)))
    have G6 := Lib.hid G5
    obtain ⟨p5, n5, c5, rfl, hn5⟩ := G5.shape
    clear G5 o5 B4 G4 G4' hn5
    refine hK.out _ _ ⟨cell_ob5 HT5.out 0 rfl, cell_ob5 HT5.out 1 rfl⟩ (fun hHeld => ?_)
    clear hK K
    try simp only [Act.put, List.setIfInBounds_toArray, List.set_cons_zero, List.set_cons_succ]
    refine wpAnyH_take (i := 7) (v := ?_) (by simp only [List.getElem?_toArray, List.getElem?_cons_succ, List.getElem?_cons_zero]; rfl) (by kernel_rfl) (by kernel_rfl) (by kernel_rfl) (fun _ _ _ h => h) (Or.inl ⟨by rfl, ?_⟩) (by assumption) ?_
    rotate_left
    · intro w hSw
      try dsimp only at hSw
      go_simp
      try with_reducible rfl
    try simp only [Act.put, List.setIfInBounds_toArray, List.set_cons_zero, List.set_cons_succ]
    refine wpAnyH_done (by kernel_rfl) ?_ _
    refine NoPanic.normal ?_
    go_wp2_with fail
    go_ret
    exact ⟨_, _, rfl, G6.out, fun _ => by rw [List.map_append, HY3.out, HY4.out]; rfl, fun h => absurd OK.out h, B5.out⟩
end Go.Proofs.Ytadglppplgeldaa
