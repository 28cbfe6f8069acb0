/- Package flat: segments, Build. Conditions: no more than a million of each; the lists as they may be. -/
import Derived.Test.YtadglppplgeldaaFltS
namespace Go.Proofs.Ytadglppplgeldaa
open Go.RowKit
set_option maxRecDepth 20000

/-- What a step that turns other blocks leaves. -/
theorem GO.keep {B R : Nat} {w w' : World} {v : Value} {Y : List (Value × Sg)} {S : Nat → Prop} (h : GO B R w v Y) (m : Mi B w w') (o : Only S w w') (hS : ∀ k cs f, S k → w.heap[k]? ≠ some (.cells cs 33 f)) : GO B R w' v Y := by
  refine ⟨⟨h.row.1, ?_⟩, fun y hy => (h.lit y hy).mi m⟩
  rcases h.row.2 with h1 | ⟨g, cap, cur, h1, h2, hg, h3⟩
  · exact .inl h1
  · exact .inr ⟨g, cap, cur, h1, h2, (o.block g (Array.getElem?_eq_some_iff.1 hg).1 (fun e => hS g _ _ e hg)).trans hg, h3⟩
theorem HA.typ {w : World} {R hb : Nat} {low : Int} {p : Option Addr} {n c : Nat} {m : List Bool} (h : HA w R hb low p n c m) : ∀ k cs t f, (k = hb ∨ (Value.slice p n c).ownBlock = some k) → w.heap[k]? = some (.cells cs t f) → (k = hb ∨ R ≤ k) ∧ (t = 71 ∨ t = 4) := fun k cs t f e hk => by
  rcases e with rfl | e
  · rw [h.cell] at hk
    injection hk with hk
    injection hk with _ h2 _
    exact ⟨.inl rfl, .inl h2.symm⟩
  · rcases h.row.2 with ⟨h1, _⟩ | ⟨g, cap, cur, h1, hb', hg, _⟩
    · rw [h1] at e; cases e
    · rw [h1] at e
      obtain rfl : g = k := by simpa [Value.ownBlock] using e
      rw [hg] at hk
      injection hk with hk
      injection hk with _ h2 _
      exact ⟨.inr hb', .inr h2.symm⟩
theorem HA.mi' {w w' : World} {B R hb : Nat} {low : Int} {p : Option Addr} {n c : Nat} {m : List Bool} (h : HA w R hb low p n c m) (hB : B ≤ hb) (hR : B ≤ R) (o : Only (fun k => k = hb ∨ (Value.slice p n c).ownBlock = some k) w w') : Mi B w w' := by
  refine ⟨o.mono fun k hk e => ?_⟩
  cases hh : w.heap[k]? with
  | none => rw [Array.getElem?_eq_none_iff] at hh; omega
  | some ob =>
    have hb : B ≤ k := by
      rcases e with rfl | e
      · exact hB
      · exact Nat.le_trans hR (h.row.lt k e).1
    refine ⟨hb, fun cs f e2 => ?_⟩
    injection e2 with e2
    subst e2
    rcases (h.typ k _ _ _ e hh).2 with e3 | e3 <;> exact absurd e3 (by decide)
/-- The heads and the segments so far. -/
structure SgI (w W : World) (B hb : Nat) (low : Int) (L : List (List Int)) (v : Value) : Prop where
  ex : ∃ p n c Y, HA W (hb + 1) hb low p n c (sgr low L).2 ∧ GO B (hb + 1) W v Y ∧ Y.map (·.2) = (sgr low L).1
  bel : Below w.heap.size w W
theorem okl_in {m n : Nat} {low : Int} {L : List (List Int)} (h : okl m n low L) {k : Nat} {l : List Int} (hk : L[k]? = some l) : ∀ x ∈ l, 0 ≤ x ∧ x < low + (k : Int) := fun x hx => by
  obtain ⟨j, hj⟩ := List.mem_iff_getElem?.1 hx
  have h1 := (h k l hk).2 j x hj
  refine ⟨?_, h1.2.1⟩
  have h2 := h1.1
  unfold inT spl at h2
  simp at h2
  omega
theorem sgr_take {low : Int} {L : List (List Int)} {k : Nat} {l : List Int} (h : L[k]? = some l) : sgr low (L.take (k + 1)) = stp low (sgr low (L.take k)) l := by
  rw [List.take_add_one, h]; exact sgr_snoc _ _ _
theorem GO.hi {B R : Nat} {W : World} {g n cap : Nat} {Y : List (Value × Sg)} {y : Value × Sg} (hB : B ≤ R) (h : GO B R W (.slice (some ⟨g, 0, none⟩) n cap) (Y ++ [y])) (id : Int) :
    GO B R (W.setCell ⟨g, Y.length * 5 + 1, none⟩ (.int .i64 id)) (.slice (some ⟨g, 0, none⟩) n cap) (Y ++ [(y.1, { y.2 with hi := id })]) := by
  have hn : n = (Y ++ [y]).length := by
    rcases h.row.2 with ⟨h1, _⟩ | ⟨g', cap', cur, h1, _⟩
    · cases h1
    · injection h1 with _ h1 _
  have hr := h.row
  rw [hn] at hr
  have h1 := (hr.stored (Y.length * 5 + 1) (.int .i64 id)).1
  have m : Mi B W (W.setCell ⟨g, Y.length * 5 + 1, none⟩ (.int .i64 id)) := h.mi hB (Only.setCell (S := fun k => (Value.slice (some ⟨g, 0, none⟩) n cap).ownBlock = some k) (Only.refl _ W) (p := ⟨g, Y.length * 5 + 1, none⟩) rfl _)
  refine ⟨?_, fun z hz => ?_⟩
  · have e : grow (Y ++ [(y.1, { y.2 with hi := id })]) = (grow (Y ++ [y])).set (Y.length * 5 + 1) (.int .i64 id) := by
      unfold grow
      rw [List.flatMap_append, List.flatMap_append, List.set_append_right _ _ (by have := grow_len Y; unfold grow at this; omega)]
      congr 1
      have := grow_len Y
      unfold grow at this
      rw [this, Nat.add_sub_cancel_left]
      simp [Sg.row]
    have e2 : (Y ++ [(y.1, ({ y.2 with hi := id } : Sg))]).length = (Y ++ [y]).length := by simp
    rw [e, e2, hn]
    exact h1
  · rcases List.mem_append.1 hz with hz | hz
    · exact (h.lit z (List.mem_append_left _ hz)).mi m
    · rw [List.mem_singleton.1 hz]
      exact (h.lit y (by simp)).mi m
theorem one_of {l : List Int} : l = [] ∨ (∃ y, l = [y]) ∨ 2 ≤ l.length := by
  match l with
  | [] => exact .inl rfl
  | [y] => exact .inr (.inl ⟨y, rfl⟩)
  | _ :: _ :: _ => exact .inr (.inr (by simp))
theorem below_hb {w wr w1 : World} {hb : Nat} {low : Int} {p : Option Addr} {n c : Nat} {m : List Bool} (h : HA wr (hb + 1) hb low p n c m) (hh : hb = w.heap.size) (o : Only (fun k => k = hb ∨ (Value.slice p n c).ownBlock = some k) wr w1) : Below w.heap.size wr w1 :=
  o.below (by have := (Array.getElem?_eq_some_iff.1 h.cell).1; omega) (fun k e => by
    rcases e with rfl | e
    · omega
    · have := (h.row.lt k e).1; omega)
theorem add_zero5 (a : Addr) : a.add 0 = a := by cases a with | mk b o s => cases s <;> rfl
theorem low_fit1 {low : Int} {k : Nat} (h : low = 0 ∨ low = spl) (hk : k ≤ 1000000) : wrap64 (low + (k : Int) - 1) = low + (k : Int) - 1 := by
  unfold wrap64 spl at *; omega
theorem wrap_pred {k N M : Nat} {Y : List (Value × Sg)} {S : List Sg} {L : List (List Int)} (h1 : k + 1 = Y.length) (h2 : Y.map (·.2) = S) (h3 : S.length ≤ (L.take M).length) (h4 : N ≤ 1000000) (h5 : N = L.length) : wrap64 (((k + 1 : Nat) : Int) - 1) = (k : Int) := by
  have e := congrArg List.length h2
  rw [List.length_map] at e
  rw [List.length_take] at h3
  unfold wrap64; omega
theorem GO.last {B R : Nat} {W : World} {p : Option Addr} {n cap : Nat} {Y : List (Value × Sg)} {y : Value × Sg} (h : GO B R W (.slice p n cap) (Y ++ [y])) : ∃ g, p = some ⟨g, 0, none⟩ ∧ W.frozen? ⟨g, Y.length * 5 + 1, none⟩ = false ∧ W.cell? ⟨g, Y.length * 5 + 1, none⟩ = some (.int .i64 y.2.hi) := by
  have hr := h.row
  rcases hr.2 with ⟨h1, h2⟩ | ⟨g, cap', cur, h1, _, hg, _⟩
  · simp at h2
  · injection h1 with h1 _ _
    subst h1
    refine ⟨g, rfl, frozen_of_row W g _ cur _ hg, ?_⟩
    have := hr.cells (g := g) rfl (Y.length * 5 + 1) (.int .i64 y.2.hi) (by rw [grow_at (y := y) (by simp) (by decide)]; rfl)
    simpa [Addr.add_lit] using this
theorem HA.ne_seg {w : World} {B R R' hb : Nat} {low : Int} {p q : Option Addr} {n c m d : Nat} {M : List Bool} {Y : List (Value × Sg)} (h : HA w R hb low p n c M) (k : GO B R' w (.slice q m d) Y) : ∀ g, (Value.slice q m d).ownBlock = some g → g ≠ hb ∧ (Value.slice p n c).ownBlock ≠ some g := fun g e => by
  rcases k.row.2 with ⟨h1, _⟩ | ⟨g', cap, cur, h1, _, hg, _⟩
  · rw [h1] at e; cases e
  · rw [h1] at e
    obtain rfl : g' = g := by simpa [Value.ownBlock] using e
    exact ⟨fun e => by rcases (h.typ g' _ _ _ (.inl e) hg).2 with e3 | e3 <;> exact absurd e3 (by decide), fun e => by rcases (h.typ g' _ _ _ (.inr e) hg).2 with e3 | e3 <;> exact absurd e3 (by decide)⟩
theorem len_at {low : Int} {L : List (List Int)} {k : Nat} {l : List Int} (h : L[k]? = some l) : (sgr low (L.take k)).2.length = k := by
  rw [sgr_len, List.length_take]; have := (List.getElem?_eq_some_iff.1 h).1; omega
theorem step_line {low : Int} {L : List (List Int)} {k : Nat} {l : List Int} {Y0 : List (Value × Sg)} {y : Value × Sg} (h : L[k]? = some l) (hk : 0 < k) (hl : l = [low + (k : Int) - 1]) (hy : (Y0 ++ [y]).map (·.2) = (sgr low (L.take k)).1) :
    (Y0 ++ [(y.1, ({ y.2 with hi := low + (k : Int) } : Sg))]).map (·.2) = (sgr low (L.take (k + 1))).1 ∧ (sgr low (L.take (k + 1))).2 = hadd low (sgr low (L.take k)).2 l := by
  rw [sgr_take h]
  unfold stp
  refine ⟨?_, rfl⟩
  rw [len_at h, if_pos ⟨hk, hl⟩, ← hy]
  unfold setHi
  simp
theorem step_new {low : Int} {L : List (List Int)} {k : Nat} {l : List Int} {Y : List (Value × Sg)} (x : Value) (h : L[k]? = some l) (hc : ¬ (0 < k ∧ l = [low + (k : Int) - 1])) (hy : Y.map (·.2) = (sgr low (L.take k)).1) :
    (Y ++ [(x, (⟨low + (k : Int), low + (k : Int), l, l.isEmpty, (hadd low (sgr low (L.take k)).2 l).count false == 1⟩ : Sg))]).map (·.2) = (sgr low (L.take (k + 1))).1 ∧ (sgr low (L.take (k + 1))).2 = hadd low (sgr low (L.take k)).2 l := by
  rw [sgr_take h]
  unfold stp
  refine ⟨?_, rfl⟩
  rw [len_at h, if_neg hc, ← hy]
  simp
theorem HA.put {w : World} {R hb : Nat} {low : Int} {p : Option Addr} {n c : Nat} {M : List Bool} (h : HA w R hb low p n c M) {g : Nat} (h1 : g ≠ hb) (h2 : (Value.slice p n c).ownBlock ≠ some g) (i : Nat) (u : Value) : HA (w.setCell ⟨g, i, none⟩ u) R hb low p n c M :=
  ⟨(Below.heap_setCell _ _ _ _ (fun e => h1 e.symm)).trans h.cell, h.row.kept (gb_set _ g i u) (.inr h2)⟩
theorem gsize : (Try.prog.info? 33).map (·.size) = some 5 := by kernel_rfl
theorem len_zero {l : List Int} : ((l.length : Int) == 0) = l.isEmpty := by cases l <;> simp <;> omega
theorem cnt_one5 {c : Nat} : ((c : Int) == 1) = (c == 1) := by
  rw [Bool.eq_iff_iff]; simp; omega
theorem drew_below (w : World) : Below w.heap.size w w.drew := ⟨rfl, rfl, rfl, Nat.le_refl _, fun _ _ => rfl⟩
theorem three_ways {k : Nat} {low : Int} {l : List Int} (h : ¬ (0 < k ∧ l = [low + (k : Int) - 1])) : k = 0 ∨ (0 < k ∧ l.length ≠ 1) ∨ (0 < k ∧ ∃ y, l = [y] ∧ y ≠ low + (k : Int) - 1) := by
  by_cases h0 : k = 0
  · exact .inl h0
  · right
    match l, h with
    | [], _ => exact .inl ⟨by omega, by simp⟩
    | [y], h => exact .inr ⟨by omega, y, rfl, fun e => h ⟨by omega, by rw [e]⟩⟩
    | _ :: _ :: _, _ => exact .inl ⟨by omega, by simp⟩
section
variable {ops : Array Oper} {o : Oper} {a : Act} {w : World} {K : Act → World → Prop} {Q : Exit → Act → World → Prop} {X : Prop}
/-- append of one segment, at a step of a region that draws. -/
theorem step_push_seg (hgd : o.guard = none) (s x : Operand) (ho : o.op = .call { callee := .builtin .append, args := #[s, x], argTypes := #[26, 26] })
    (B R : Nat) (v : Value) (Y : List (Value × Sg)) (hs : a.eval s = v) (G : GO B R w v Y) (b : Nat) (hx : a.eval x = .slice (some ⟨b, 0, none⟩) 1 1) (y : Value × Sg) (hb : w.heap[b]? = some (.cells (y.2.row y.1).toArray 33 (0, 0)))
    (hy : JS B w y.1 y.2.par) (hB : B ≤ R) (hR : R ≤ w.heap.size) (hl : Y.length ≤ 1000000)
    (h : ∀ g cap w', GO B R w' (.slice (some ⟨g, 0, none⟩) (Y.length + 1) cap) (Y ++ [y]) → Only (fun k => v.ownBlock = some k) w w' → (v.ownBlock = some g ∨ g = w.heap.size) → K (a.put o.dst (.slice (some ⟨g, 0, none⟩) (Y.length + 1) cap)) w') :
    if Region.wanted o (yielded ops a.tmps) = true then Oper.wp Try.prog o a w K Q else X := by
  obtain ⟨i0, hi0, hz0, hz1, hz2⟩ := info_parts ginfo
  refine step_append_lies _ hgd s x _ ho R 33 i0 _ 5 48 Try.underlying26 hi0 hz0 hz1 hz2 rfl (by decide) v Y.length (grow Y) hs G.row ⟨b, 0, none⟩ 1 1 (y.2.row y.1) hx (by rfl) (World.news_of_block hb) (fun u hu => grow_one [y] (fun z hz => by rw [List.mem_singleton.1 hz]; exact hy.one) u (by simpa [grow] using hu)) (by decide) (by unfold maxLen; omega) (by omega) hR _ rfl ?_
  intro g cap w' own grw hat _
  have e : grow [y] = y.2.row y.1 := by simp [grow]
  have hO := (Only.refl (fun k => v.ownBlock = some k) w).grown grw (fun k _ e => e)
  exact h g cap w' (G.push (Z := [y]) (fun z hz => by rw [List.mem_singleton.1 hz]; exact hy) hB (by rw [e]; exact own) hO) hO hat
end
theorem jown_sh {w : World} {B : Nat} {v : Value} {l : List Int} (h : JOwn w B v l) : ∃ p n c, v = .slice p n c := by
  rcases h.2 with ⟨h1, _⟩ | ⟨g, cap, cur, h1, _⟩
  · exact ⟨_, _, _, h1⟩
  · exact ⟨_, _, _, h1⟩
theorem HA.keepS {w w' : World} {B R R' hb : Nat} {low : Int} {p q : Option Addr} {n c m d : Nat} {M : List Bool} {Y : List (Value × Sg)} (h : HA w R hb low p n c M) (k : GO B R' w (.slice q m d) Y) (o : Only (fun j => (Value.slice q m d).ownBlock = some j) w w') : HA w' R hb low p n c M := by
  refine ⟨(o.block hb (Array.getElem?_eq_some_iff.1 h.cell).1 (fun e => (h.ne_seg k hb e).1 rfl)).trans h.cell, h.row.1, ?_⟩
  rcases h.row.2 with h1 | ⟨g, cap, cur, h1, h2, hg, h3⟩
  · exact .inl h1
  · exact .inr ⟨g, cap, cur, h1, h2, (o.block g (Array.getElem?_eq_some_iff.1 hg).1 (fun e => (h.ne_seg k g e).2 (by rw [h1]; rfl))).trans hg, h3⟩
theorem hd_cells {w : World} {low : Int} : (w.alloc (.cells #[.int .i64 low, .slice none 0 0, .int .i64 0] 71)).heap[w.heap.size]? = some (.cells #[.int .i64 low, .slice none 0 0, .int .i64 0] 71 (0, 0)) := heap_alloc_last _ _
set_option maxHeartbeats 8000000 in
theorem segs_to (w : World) (B : Nat) (hB : B ≤ w.heap.size) (low : Int) (hlow : low = 0 ∨ low = spl) (v : Value) (L : List (List Int)) (hs : LS B w v L) (hl : L.length ≤ 1000000) (m n : Nat) (hok : okl m n low L) :
    Calls Try.prog 29 #[.int .i64 low, v] w fun e w' => ∃ v' Y, e = .returned v' ∧ GO B (w.heap.size + 1) w' v' Y ∧ Y.map (·.2) = sgs low L ∧ Below w.heap.size w w' := by
  obtain ⟨pv, cv, rfl⟩ := hs.form
  obtain ⟨N, hN⟩ : ∃ N, N = L.length := ⟨_, rfl⟩
  rw [← hN] at hs hl ⊢
  have HV := Lib.hid hs
  have HN := Lib.hid hN
  have HPN := Lib.hid hl
  have HOK := Lib.hid hok
  have HLW := Lib.hid hlow
  have HBB := Lib.hid hB
  obtain ⟨hb, hhb⟩ : ∃ hb, hb = w.heap.size := ⟨_, rfl⟩
  rw [← hhb] at HBB ⊢
  have HHB := Lib.hid hhb
  clear hs hN hl hok hlow hB hhb
  go_enter Try.func29, Try.ntmps29
  go_wp2_with fail
  rw [← HHB.out]
  have hcl := hd_cells (w := w) (low := low)
  rw [← HHB.out] at hcl
  have BA : Below w.heap.size w (w.alloc (.cells #[.int .i64 low, .slice none 0 0, .int .i64 0] 71)) := (Below.refl _ w).alloc (Nat.le_refl _) _
  have SI0 : Hid (SgI w (w.alloc (.cells #[.int .i64 low, .slice none 0 0, .int .i64 0] 71)) B hb low (L.take 0) (.slice none 0 0)) := Lib.hid ⟨⟨none, 0, 0, [], ⟨hcl, World.ownsRow_nil _ _ _ _⟩, GO.nil _ _ _, rfl⟩, BA⟩
  clear hcl BA
  generalize w.alloc (.cells #[.int .i64 low, .slice none 0 0, .int .i64 0] 71) = w0 at *
  go_loopw [5, 14] (fun v5 i wr => ∃ (k : Nat) (pl : Option Addr) (nl cl : Nat), k ≤ N ∧ v5 = .slice pl nl cl ∧ i = .int .i64 k ∧ Hid (SgI w wr B hb low (L.take k) (.slice pl nl cl))) (fun _ i _ => N - (intOf i).toNat)
  case atStart => exact ⟨0, none, 0, 0, Nat.zero_le _, rfl, rfl, SI0⟩
  case round =>
    clear SI0
    obtain ⟨k, pl, nl, cl, hk, rfl, rfl, SI⟩ := hrel
    by_cases hlt : k < N
    · obtain ⟨j1, j2, j3⟩ := next5 hlt HPN.out
      have hkl : k < L.length := by rw [← HN.out]; exact hlt
      obtain ⟨⟨ph, nh, ch, Y, ha, go, hy⟩, bel⟩ := SI.out
      have HA0 := Lib.hid ha
      have G0 := Lib.hid go
      have HY := Lib.hid hy
      have BE := Lib.hid bel
      clear ha go hy bel SI
      obtain ⟨bb, o, x, rfl, g1, g2⟩ := (HV.out.kb BE.out).at hkl
      have HAT := Lib.hid (List.getElem?_eq_getElem hkl)
      have HIN := Lib.hid (okl_in HOK.out HAT.out)
      have HPL := Lib.hid (HOK.out k _ HAT.out).1
      generalize L[k] = l at *
      obtain ⟨px, cx, rfl⟩ := g2.form
      have HX := Lib.hid g2
      obtain ⟨nx, hnx⟩ : ∃ nx, nx = l.length := ⟨_, rfl⟩
      rw [← hnx] at g1 HX
      have HNX := Lib.hid hnx
      have HML : Hid (nh = k) := Lib.hid (by rw [HA0.out.len, sgr_len, List.length_take]; omega)
      have HLT := Lib.hid hlt
      have HYN : Hid (nl = Y.length) := Lib.hid (by obtain ⟨_, _, _, e, h⟩ := G0.out.shape; injection e with _ e _; rw [e]; exact h)
      have HLK := Lib.hid (low_fit HLW.out (Nat.le_trans (Nat.le_of_lt hlt) HPN.out))
      have HH := Lib.hid (hadd_to wr B (hb + 1) hb low HLW.out ph nh ch _ HA0.out (by rw [HML.out]; have := HPN.out; omega) HBB.out (Nat.le_succ_of_le HBB.out) (Array.getElem?_eq_some_iff.1 HA0.out.cell).1 (.slice px nx cx) l HX.out (by have := HPL.out; omega) (by rw [HML.out]; exact HIN.out))
      clear hkl hk hlt g2 hnx
      go_wp2_with fail
      refine HH.out.mono ?_
      rintro e w1 ⟨rfl, p1, n1, c1, ha1, o1, f1⟩
      have HA1 := Lib.hid ha1
      have MI1 := Lib.hid (HA0.out.mi' HBB.out (Nat.le_succ_of_le HBB.out) o1)
      have G1 := Lib.hid (G0.out.keep MI1.out o1 (fun k cs f hk e => by rcases (HA0.out.typ k _ _ _ hk e).2 with e3 | e3 <;> exact absurd e3 (by decide)))
      have B1 := Lib.hid (BE.out.trans (below_hb HA0.out HHB.out o1))
      clear ha1 o1 f1 HH G0 HA0
      by_cases hc : 0 < k ∧ l = [low + (k : Int) - 1]
      · obtain ⟨hk0, rfl⟩ := hc
        obtain rfl : nx = 1 := HNX.out
        obtain ⟨Y0, y, hYY⟩ : ∃ Y0 y, Y = Y0 ++ [y] := by
          rcases List.eq_nil_or_concat Y with h | ⟨Y0, y, h⟩
          · refine absurd (show sgs low (L.take k) = [] from ?_) (sgs_ne (by rw [List.length_take]; have := (List.getElem?_eq_some_iff.1 HAT.out).1; omega))
            rw [show sgs low (L.take k) = Y.map (·.2) from HY.out.symm, h]; rfl
          · exact ⟨Y0, y, by rw [h, List.concat_eq_append]⟩
        rw [hYY] at HYN HY G1
        obtain ⟨kk, hkk⟩ : ∃ kk, kk = Y0.length := ⟨_, rfl⟩
        have hnl : nl = kk + 1 := by rw [HYN.out, List.length_append, ← hkk]; rfl
        subst hnl
        obtain ⟨a, rfl, hc1⟩ := (HX.out.mi MI1.out).1.at (j := 0) (by simp)
        rw [show ([low + (k : Int) - 1] : List Int)[0] = low + (k : Int) - 1 from rfl, add_zero5] at hc1
        have d1 : decide ((k : Int) > 0) = true := by simp; omega
        have d1' : decide ((0 : Int) < k) = true := by simp; omega
        have hlk := HLK.out
        have hlk2 : wrap64 (low + (k : Int) - 1) = low + (k : Int) - 1 := low_fit1 HLW.out (Nat.le_trans (Nat.le_of_lt HLT.out) HPN.out)
        have hw2 : wrap64 (((kk + 1 : Nat) : Int) - 1) = (kk : Int) := wrap_pred HYN.out HY.out (sgs_len low (L.take k)) HPN.out HN.out
        have hw3 : wrap64 (kk : Int) = (kk : Int) := by rw [show (((kk + 1 : Nat) : Int) - 1) = (kk : Int) by omega] at hw2; exact hw2
        have hlt2 : (kk : Int) < ((kk + 1 : Nat) : Int) := by omega
        have hlt3 : (kk : Int) < (kk : Int) + 1 := by omega
        have hkk0 : (0 : Int) ≤ kk := Int.natCast_nonneg _
        obtain ⟨g, rfl, hf, ht⟩ := G1.out.last
        rw [← hkk] at hf ht
        have HSET := Lib.hid (G1.out.hi (by exact Nat.le_succ_of_le HBB.out) (low + (k : Int)))
        rw [← hkk] at HSET
        have HNE := Lib.hid (HA1.out.ne_seg G1.out)
        have hgs := gsize
        have HKK := Lib.hid hkk
        clear hkk hYY
        go_wp2_with fail
        have hst := step_line HAT.out hk0 rfl HY.out
        refine ⟨⟨k + 1, _, _, _, HLT.out, rfl, by rw [j1], Lib.hid ⟨⟨_, _, _, _, hst.2 ▸ HA1.out.put (HNE.out g rfl).1 (HNE.out g rfl).2 _ _, HSET.out, hst.1⟩, B1.out.setCell ?_ _⟩⟩, ?_⟩
        · have := (G1.out.row.lt g rfl).1
          have := HHB.out
          show w.heap.size ≤ g
          omega
        · rw [j1]; exact meas5 HLT.out
      · have HC := Lib.hid hc
        obtain ⟨cn, hcn⟩ : ∃ cn, cn = (hadd low (sgr low (L.take k)).2 l).count false := ⟨_, rfl⟩
        obtain ⟨rt, hrt⟩ : ∃ rt, rt = ((nx : Int) == 0) := ⟨_, rfl⟩
        obtain ⟨hd, hhd⟩ : ∃ hd, hd = ((cn : Int) == 1) := ⟨_, rfl⟩
        have HSEG : Hid ((⟨low + (k : Int), low + (k : Int), l, rt, hd⟩ : Sg) = ⟨low + (k : Int), low + (k : Int), l, l.isEmpty, (hadd low (sgr low (L.take k)).2 l).count false == 1⟩) := Lib.hid (by rw [hrt, hhd, hcn, HNX.out, len_zero, cnt_one5])
        have HCN := Lib.hid hcn
        have hrt' := hrt.symm
        have hhd' := hhd.symm
        have bq : Below w1.heap.size w1 w1.drew := drew_below w1
        have HA2 := Lib.hid (HA1.out.kb bq)
        have G2 := Lib.hid (G1.out.kb bq)
        have HX2 := Lib.hid ((HX.out.mi MI1.out).kb bq)
        have B2 := Lib.hid (B1.out.trans (bq.mono B1.out.size))
        have HPX : Hid (l.length ≤ 1000000) := Lib.hid (Nat.le_trans HPL.out (by decide))
        have HYB : Hid (Y.length ≤ 1000000) := Lib.hid (by have e := congrArg List.length HY.out; rw [List.length_map] at e; have h := sgs_len low (L.take k); unfold sgs at h; rw [List.length_take] at h; have := HPN.out; have := HN.out; omega)
        have h3 := three_ways hc
        clear bq hrt hhd hc G1 HA1 hcn
        have hlk := HLK.out
        rcases h3 with h3 | ⟨h3, h4⟩ | ⟨h3, y, rfl, h4⟩
        · have d1 : decide ((k : Int) > 0) = false := by simp; omega
          have d1' : decide ((0 : Int) < k) = false := by simp; omega
          have d1'' : decide (0 < k) = false := by simp; omega
          clear h3
          go_wp2_with fail
          have hcw := cell_ob5 HA2.out.cell 2 rfl
          rw [← HCN.out] at hcw
          try simp only [List.append]
          refine wp_region_noPanic ?_
          refine wp_region_held_drew (S := (fun V => V.cell? ⟨hb, 2, none⟩ = some (.int .i64 (cn : Nat)))) (by kernel_rfl) hcw (fun hHeld => ?_)
          clear hcw
          generalize w1.drew = w2 at *
          refine wpAnyH_take (i := 0) (v := ?_) (by simp only [List.getElem?_toArray, List.getElem?_cons_zero]; rfl) (by kernel_rfl) (by kernel_rfl) (by kernel_rfl) (fun _ _ _ h => h) (Or.inl ⟨by rfl, ?_⟩) (by assumption) ?_
          rotate_left
          · intro w hSw
            try dsimp only at hSw
            go_simp
            try with_reducible rfl
          try simp only [Act.put, List.setIfInBounds_toArray, List.set_cons_zero, List.set_cons_succ]
          refine wpAnyH_take (i := 1) (v := ?_) (by simp only [List.getElem?_toArray, List.getElem?_cons_succ, List.getElem?_cons_zero]; rfl) (by kernel_rfl) (by kernel_rfl) (by kernel_rfl) (fun _ _ _ h => h) (Or.inl ⟨by rfl, ?_⟩) (by assumption) ?_
          rotate_left
          · intro w hSw
            try dsimp only at hSw
            go_simp
            try with_reducible rfl
          try simp only [Act.put, List.setIfInBounds_toArray, List.set_cons_zero, List.set_cons_succ]
          refine wpAnyH_take (i := 2) (v := ?_) (by simp only [List.getElem?_toArray, List.getElem?_cons_succ, List.getElem?_cons_zero]; rfl) (by kernel_rfl) (by kernel_rfl) (by kernel_rfl) (fun _ _ _ h => h) (Or.inl ⟨by rfl, ?_⟩) (by assumption) ?_
          rotate_left
          · intro w hSw
            try dsimp only at hSw
            go_simp
            try with_reducible rfl
          try simp only [Act.put, List.setIfInBounds_toArray, List.set_cons_zero, List.set_cons_succ]
          refine wpAnyH_take (i := 3) (v := ?_) (by simp only [List.getElem?_toArray, List.getElem?_cons_succ, List.getElem?_cons_zero]; rfl) (by kernel_rfl) (by kernel_rfl) (by kernel_rfl) (fun _ _ _ h => h) (Or.inl ⟨by rfl, ?_⟩) (by assumption) ?_
          rotate_left
          · intro w hSw
            try dsimp only at hSw
            go_simp
            try with_reducible rfl
          try simp only [Act.put, List.setIfInBounds_toArray, List.set_cons_zero, List.set_cons_succ]
          refine wpAnyH_take (i := 5) (v := ?_) (by simp only [List.getElem?_toArray, List.getElem?_cons_succ, List.getElem?_cons_zero]; rfl) (by kernel_rfl) (by kernel_rfl) (by kernel_rfl) (fun _ _ _ h => h) (Or.inl ⟨by rfl, ?_⟩) (by assumption) ?_
          rotate_left
          · intro w hSw
            try dsimp only at hSw
            go_simp
            try with_reducible rfl
          try simp only [Act.put, List.setIfInBounds_toArray, List.set_cons_zero, List.set_cons_succ]
          refine wpAnyH_take (i := 6) (v := ?_) (by simp only [List.getElem?_toArray, List.getElem?_cons_succ, List.getElem?_cons_zero]; rfl) (by kernel_rfl) (by kernel_rfl) (by kernel_rfl) (fun _ _ _ h => h) (Or.inl ⟨by rfl, ?_⟩) (by assumption) ?_
          rotate_left
          · intro w hSw
            try dsimp only at hSw
            go_simp
            try with_reducible rfl
          try simp only [Act.put, List.setIfInBounds_toArray, List.set_cons_zero, List.set_cons_succ]
          refine wpAnyH_take (i := 7) (v := ?_) (by simp only [List.getElem?_toArray, List.getElem?_cons_succ, List.getElem?_cons_zero]; rfl) (by kernel_rfl) (by kernel_rfl) (by kernel_rfl) (fun _ _ _ h => h) (Or.inl ⟨by rfl, ?_⟩) (by assumption) ?_
          rotate_left
          · intro w hSw
            try dsimp only at hSw
            go_simp
            try with_reducible rfl
          try simp only [Act.put, List.setIfInBounds_toArray, List.set_cons_zero, List.set_cons_succ]
          refine wpAnyH_take (i := 8) (v := ?_) (by simp only [List.getElem?_toArray, List.getElem?_cons_succ, List.getElem?_cons_zero]; rfl) (by kernel_rfl) (by kernel_rfl) (by kernel_rfl) (fun _ _ _ h => h) (Or.inl ⟨by rfl, ?_⟩) (by assumption) ?_
          rotate_left
          · intro w hSw
            try dsimp only at hSw
            go_simp
            try with_reducible rfl
          try simp only [Act.put, List.setIfInBounds_toArray, List.set_cons_zero, List.set_cons_succ]
          refine wpAnyH_take (i := 9) (v := ?_) (by simp only [List.getElem?_toArray, List.getElem?_cons_succ, List.getElem?_cons_zero]; rfl) (by kernel_rfl) (by kernel_rfl) (by kernel_rfl) (fun _ _ _ h => h) (Or.inl ⟨by rfl, ?_⟩) (by assumption) ?_
          rotate_left
          · intro w hSw
            try dsimp only at hSw
            go_simp
            try with_reducible rfl
          try simp only [Act.put, List.setIfInBounds_toArray, List.set_cons_zero, List.set_cons_succ]
          refine wpAnyH_take (i := 10) (v := ?_) (by simp only [List.getElem?_toArray, List.getElem?_cons_succ, List.getElem?_cons_zero]; rfl) (by kernel_rfl) (by kernel_rfl) (by kernel_rfl) (fun _ _ _ h => h) (Or.inl ⟨by rfl, ?_⟩) (by assumption) ?_
          rotate_left
          · intro w hSw
            try dsimp only at hSw
            go_simp
            try with_reducible rfl
          try simp only [Act.put, List.setIfInBounds_toArray, List.set_cons_zero, List.set_cons_succ]
          refine wpAnyH_ready (rs := [4]) (by kernel_rfl) (by simp) ?_
          refine AllReadyH.cons (by simp only [List.getElem?_toArray, List.getElem?_cons_succ, List.getElem?_cons_zero]; rfl) (fun K hK => ?_) AllReadyH.nil
          go_simp
          refine (nclone_to w2 _ _ HX2.out.1 HPX.out).mono ?_
          rintro e w3 ⟨v3, rfl, o3, b3⟩
          obtain ⟨p3, n3, c3, rfl⟩ := jown_sh o3
          have X3 := Lib.hid (JS.own (B := B) o3)
          have G3 := Lib.hid (G2.out.kb b3)
          have HA3 := Lib.hid (HA2.out.kb b3)
          have B3 := Lib.hid (B2.out.trans (b3.mono B2.out.size))
          have hcw3 := cell_ob5 HA3.out.cell 2 rfl
          rw [← HCN.out] at hcw3
          clear o3 b3 G2 HA2 B2
          go_wp2_with fail
          refine hK.out _ _ hcw3 (fun hHeld => ?_)
          clear hK K
          try simp only [Act.put, List.setIfInBounds_toArray, List.set_cons_zero, List.set_cons_succ]
          refine wpAnyH_take (i := 11) (v := ?_) (by simp only [List.getElem?_toArray, List.getElem?_cons_succ, List.getElem?_cons_zero]; rfl) (by kernel_rfl) (by kernel_rfl) (by kernel_rfl) (fun _ _ _ h => h) (Or.inl ⟨by rfl, ?_⟩) (by assumption) ?_
          rotate_left
          · intro w hSw
            try dsimp only at hSw
            go_simp
            try with_reducible rfl
          try simp only [Act.put, List.setIfInBounds_toArray, List.set_cons_zero, List.set_cons_succ]
          refine wpAnyH_ready (rs := [12]) (by kernel_rfl) (by simp) ?_
          refine AllReadyH.cons (by simp only [List.getElem?_toArray, List.getElem?_cons_succ, List.getElem?_cons_zero]; rfl) (fun K hK => ?_) AllReadyH.nil
          go_simp
          go_wp2_with fail
          have AL := (Below.refl w3.heap.size w3).alloc (Nat.le_refl _) (.cells #[.int .i64 (low + (k : Int)), .int .i64 (low + (k : Int)), .slice p3 n3 c3, .bool rt, .bool hd] 33)
          have HL4 := Lib.hid (heap_alloc_last w3 (.cells #[.int .i64 (low + (k : Int)), .int .i64 (low + (k : Int)), .slice p3 n3 c3, .bool rt, .bool hd] 33))
          have X4 := Lib.hid (X3.out.kb AL)
          have G4 := Lib.hid (G3.out.kb AL)
          have HA4 := Lib.hid (HA3.out.kb AL)
          have B4 := Lib.hid (B3.out.trans (AL.mono B3.out.size))
          have hcw4 := cell_ob5 HA4.out.cell 2 rfl
          rw [← HCN.out] at hcw4
          clear AL X3 G3 HA3 B3 hcw3
          refine hK.out _ _ hcw4 (fun hHeld => ?_)
          clear hK K
          try simp only [Act.put, List.setIfInBounds_toArray, List.set_cons_zero, List.set_cons_succ]
          generalize w3.alloc (.cells #[.int .i64 (low + (k : Int)), .int .i64 (low + (k : Int)), .slice p3 n3 c3, .bool rt, .bool hd] 33) = w4 at *
          refine wpAnyH_ready (rs := [13]) (by kernel_rfl) (by simp) ?_
          refine AllReadyH.cons (by simp only [List.getElem?_toArray, List.getElem?_cons_succ, List.getElem?_cons_zero]; rfl) (fun K hK => ?_) AllReadyH.nil
          refine step_push_seg (by rfl) (.tmp 46) (.tmp 58) (by rfl) B (hb + 1) _ Y (by rfl) G4.out w3.heap.size (by rfl) (.slice p3 n3 c3, ⟨low + (k : Int), low + (k : Int), _, rt, hd⟩) HL4.out X4.out (Nat.le_succ_of_le HBB.out) (Array.getElem?_eq_some_iff.1 HA4.out.cell).1 (by have := HYN.out; have := HYB.out; omega) ?_
          intro g5 cap5 w5 G5 o5 _
          have HA5 := Lib.hid (HA4.out.keepS G4.out o5)
          have B5 := Lib.hid (B4.out.trans (o5.below B4.out.size (fun k e => by have := (G4.out.row.lt k e).1; have := HHB.out; omega)))
          have hcw5 := cell_ob5 HA5.out.cell 2 rfl
          rw [← HCN.out] at hcw5
          have G6 := Lib.hid G5
          clear G5 o5 B4 HA4 G4 hcw4 HL4 X4
          refine hK.out _ _ hcw5 (fun hHeld => ?_)
          clear hK K
          try simp only [Act.put, List.setIfInBounds_toArray, List.set_cons_zero, List.set_cons_succ]
          refine wpAnyH_take (i := 14) (v := ?_) (by simp only [List.getElem?_toArray, List.getElem?_cons_succ, List.getElem?_cons_zero]; rfl) (by kernel_rfl) (by kernel_rfl) (by kernel_rfl) (fun _ _ _ h => h) (Or.inl ⟨by rfl, ?_⟩) (by assumption) ?_
          rotate_left
          · intro w hSw
            try dsimp only at hSw
            go_simp
            try with_reducible rfl
          try simp only [Act.put, List.setIfInBounds_toArray, List.set_cons_zero, List.set_cons_succ]
          refine wpAnyH_done (by kernel_rfl) ?_ _
          refine NoPanic.normal ?_
          go_wp2_with fail
          have hst := step_new (.slice p3 n3 c3) HAT.out HC.out HY.out
          rw [← HSEG.out] at hst
          refine ⟨⟨k + 1, _, _, _, HLT.out, rfl, by rw [j1], Lib.hid ⟨⟨_, _, _, _, hst.2 ▸ HA5.out, G6.out, hst.1⟩, B5.out⟩⟩, ?_⟩
          rw [j1]; exact meas5 HLT.out
        · have d1 : decide ((k : Int) > 0) = true := by simp; omega
          have d1' : decide ((0 : Int) < k) = true := by simp; omega
          have d1'' : decide (0 < k) = true := by simp; omega
          have d2 : ((nx : Int) == 1) = false := by rw [HNX.out]; simp; omega
          clear h3 h4
          go_wp2_with fail
          have hcw := cell_ob5 HA2.out.cell 2 rfl
          rw [← HCN.out] at hcw
          try simp only [List.append]
          refine wp_region_noPanic ?_
          refine wp_region_held_drew (S := (fun V => V.cell? ⟨hb, 2, none⟩ = some (.int .i64 (cn : Nat)))) (by kernel_rfl) hcw (fun hHeld => ?_)
          clear hcw
          generalize w1.drew = w2 at *
          refine wpAnyH_take (i := 0) (v := ?_) (by simp only [List.getElem?_toArray, List.getElem?_cons_zero]; rfl) (by kernel_rfl) (by kernel_rfl) (by kernel_rfl) (fun _ _ _ h => h) (Or.inl ⟨by rfl, ?_⟩) (by assumption) ?_
          rotate_left
          · intro w hSw
            try dsimp only at hSw
            go_simp
            try with_reducible rfl
          try simp only [Act.put, List.setIfInBounds_toArray, List.set_cons_zero, List.set_cons_succ]
          refine wpAnyH_take (i := 1) (v := ?_) (by simp only [List.getElem?_toArray, List.getElem?_cons_succ, List.getElem?_cons_zero]; rfl) (by kernel_rfl) (by kernel_rfl) (by kernel_rfl) (fun _ _ _ h => h) (Or.inl ⟨by rfl, ?_⟩) (by assumption) ?_
          rotate_left
          · intro w hSw
            try dsimp only at hSw
            go_simp
            try with_reducible rfl
          try simp only [Act.put, List.setIfInBounds_toArray, List.set_cons_zero, List.set_cons_succ]
          refine wpAnyH_take (i := 2) (v := ?_) (by simp only [List.getElem?_toArray, List.getElem?_cons_succ, List.getElem?_cons_zero]; rfl) (by kernel_rfl) (by kernel_rfl) (by kernel_rfl) (fun _ _ _ h => h) (Or.inl ⟨by rfl, ?_⟩) (by assumption) ?_
          rotate_left
          · intro w hSw
            try dsimp only at hSw
            go_simp
            try with_reducible rfl
          try simp only [Act.put, List.setIfInBounds_toArray, List.set_cons_zero, List.set_cons_succ]
          refine wpAnyH_take (i := 3) (v := ?_) (by simp only [List.getElem?_toArray, List.getElem?_cons_succ, List.getElem?_cons_zero]; rfl) (by kernel_rfl) (by kernel_rfl) (by kernel_rfl) (fun _ _ _ h => h) (Or.inl ⟨by rfl, ?_⟩) (by assumption) ?_
          rotate_left
          · intro w hSw
            try dsimp only at hSw
            go_simp
            try with_reducible rfl
          try simp only [Act.put, List.setIfInBounds_toArray, List.set_cons_zero, List.set_cons_succ]
          refine wpAnyH_take (i := 5) (v := ?_) (by simp only [List.getElem?_toArray, List.getElem?_cons_succ, List.getElem?_cons_zero]; rfl) (by kernel_rfl) (by kernel_rfl) (by kernel_rfl) (fun _ _ _ h => h) (Or.inl ⟨by rfl, ?_⟩) (by assumption) ?_
          rotate_left
          · intro w hSw
            try dsimp only at hSw
            go_simp
            try with_reducible rfl
          try simp only [Act.put, List.setIfInBounds_toArray, List.set_cons_zero, List.set_cons_succ]
          refine wpAnyH_take (i := 6) (v := ?_) (by simp only [List.getElem?_toArray, List.getElem?_cons_succ, List.getElem?_cons_zero]; rfl) (by kernel_rfl) (by kernel_rfl) (by kernel_rfl) (fun _ _ _ h => h) (Or.inl ⟨by rfl, ?_⟩) (by assumption) ?_
          rotate_left
          · intro w hSw
            try dsimp only at hSw
            go_simp
            try with_reducible rfl
          try simp only [Act.put, List.setIfInBounds_toArray, List.set_cons_zero, List.set_cons_succ]
          refine wpAnyH_take (i := 7) (v := ?_) (by simp only [List.getElem?_toArray, List.getElem?_cons_succ, List.getElem?_cons_zero]; rfl) (by kernel_rfl) (by kernel_rfl) (by kernel_rfl) (fun _ _ _ h => h) (Or.inl ⟨by rfl, ?_⟩) (by assumption) ?_
          rotate_left
          · intro w hSw
            try dsimp only at hSw
            go_simp
            try with_reducible rfl
          try simp only [Act.put, List.setIfInBounds_toArray, List.set_cons_zero, List.set_cons_succ]
          refine wpAnyH_take (i := 8) (v := ?_) (by simp only [List.getElem?_toArray, List.getElem?_cons_succ, List.getElem?_cons_zero]; rfl) (by kernel_rfl) (by kernel_rfl) (by kernel_rfl) (fun _ _ _ h => h) (Or.inl ⟨by rfl, ?_⟩) (by assumption) ?_
          rotate_left
          · intro w hSw
            try dsimp only at hSw
            go_simp
            try with_reducible rfl
          try simp only [Act.put, List.setIfInBounds_toArray, List.set_cons_zero, List.set_cons_succ]
          refine wpAnyH_take (i := 9) (v := ?_) (by simp only [List.getElem?_toArray, List.getElem?_cons_succ, List.getElem?_cons_zero]; rfl) (by kernel_rfl) (by kernel_rfl) (by kernel_rfl) (fun _ _ _ h => h) (Or.inl ⟨by rfl, ?_⟩) (by assumption) ?_
          rotate_left
          · intro w hSw
            try dsimp only at hSw
            go_simp
            try with_reducible rfl
          try simp only [Act.put, List.setIfInBounds_toArray, List.set_cons_zero, List.set_cons_succ]
          refine wpAnyH_take (i := 10) (v := ?_) (by simp only [List.getElem?_toArray, List.getElem?_cons_succ, List.getElem?_cons_zero]; rfl) (by kernel_rfl) (by kernel_rfl) (by kernel_rfl) (fun _ _ _ h => h) (Or.inl ⟨by rfl, ?_⟩) (by assumption) ?_
          rotate_left
          · intro w hSw
            try dsimp only at hSw
            go_simp
            try with_reducible rfl
          try simp only [Act.put, List.setIfInBounds_toArray, List.set_cons_zero, List.set_cons_succ]
          refine wpAnyH_ready (rs := [4]) (by kernel_rfl) (by simp) ?_
          refine AllReadyH.cons (by simp only [List.getElem?_toArray, List.getElem?_cons_succ, List.getElem?_cons_zero]; rfl) (fun K hK => ?_) AllReadyH.nil
          go_simp
          refine (nclone_to w2 _ _ HX2.out.1 HPX.out).mono ?_
          rintro e w3 ⟨v3, rfl, o3, b3⟩
          obtain ⟨p3, n3, c3, rfl⟩ := jown_sh o3
          have X3 := Lib.hid (JS.own (B := B) o3)
          have G3 := Lib.hid (G2.out.kb b3)
          have HA3 := Lib.hid (HA2.out.kb b3)
          have B3 := Lib.hid (B2.out.trans (b3.mono B2.out.size))
          have hcw3 := cell_ob5 HA3.out.cell 2 rfl
          rw [← HCN.out] at hcw3
          clear o3 b3 G2 HA2 B2
          go_wp2_with fail
          refine hK.out _ _ hcw3 (fun hHeld => ?_)
          clear hK K
          try simp only [Act.put, List.setIfInBounds_toArray, List.set_cons_zero, List.set_cons_succ]
          refine wpAnyH_take (i := 11) (v := ?_) (by simp only [List.getElem?_toArray, List.getElem?_cons_succ, List.getElem?_cons_zero]; rfl) (by kernel_rfl) (by kernel_rfl) (by kernel_rfl) (fun _ _ _ h => h) (Or.inl ⟨by rfl, ?_⟩) (by assumption) ?_
          rotate_left
          · intro w hSw
            try dsimp only at hSw
            go_simp
            try with_reducible rfl
          try simp only [Act.put, List.setIfInBounds_toArray, List.set_cons_zero, List.set_cons_succ]
          refine wpAnyH_ready (rs := [12]) (by kernel_rfl) (by simp) ?_
          refine AllReadyH.cons (by simp only [List.getElem?_toArray, List.getElem?_cons_succ, List.getElem?_cons_zero]; rfl) (fun K hK => ?_) AllReadyH.nil
          go_simp
          go_wp2_with fail
          have AL := (Below.refl w3.heap.size w3).alloc (Nat.le_refl _) (.cells #[.int .i64 (low + (k : Int)), .int .i64 (low + (k : Int)), .slice p3 n3 c3, .bool rt, .bool hd] 33)
          have HL4 := Lib.hid (heap_alloc_last w3 (.cells #[.int .i64 (low + (k : Int)), .int .i64 (low + (k : Int)), .slice p3 n3 c3, .bool rt, .bool hd] 33))
          have X4 := Lib.hid (X3.out.kb AL)
          have G4 := Lib.hid (G3.out.kb AL)
          have HA4 := Lib.hid (HA3.out.kb AL)
          have B4 := Lib.hid (B3.out.trans (AL.mono B3.out.size))
          have hcw4 := cell_ob5 HA4.out.cell 2 rfl
          rw [← HCN.out] at hcw4
          clear AL X3 G3 HA3 B3 hcw3
          refine hK.out _ _ hcw4 (fun hHeld => ?_)
          clear hK K
          try simp only [Act.put, List.setIfInBounds_toArray, List.set_cons_zero, List.set_cons_succ]
          generalize w3.alloc (.cells #[.int .i64 (low + (k : Int)), .int .i64 (low + (k : Int)), .slice p3 n3 c3, .bool rt, .bool hd] 33) = w4 at *
          refine wpAnyH_ready (rs := [13]) (by kernel_rfl) (by simp) ?_
          refine AllReadyH.cons (by simp only [List.getElem?_toArray, List.getElem?_cons_succ, List.getElem?_cons_zero]; rfl) (fun K hK => ?_) AllReadyH.nil
          refine step_push_seg (by rfl) (.tmp 46) (.tmp 58) (by rfl) B (hb + 1) _ Y (by rfl) G4.out w3.heap.size (by rfl) (.slice p3 n3 c3, ⟨low + (k : Int), low + (k : Int), _, rt, hd⟩) HL4.out X4.out (Nat.le_succ_of_le HBB.out) (Array.getElem?_eq_some_iff.1 HA4.out.cell).1 (by have := HYN.out; have := HYB.out; omega) ?_
          intro g5 cap5 w5 G5 o5 _
          have HA5 := Lib.hid (HA4.out.keepS G4.out o5)
          have B5 := Lib.hid (B4.out.trans (o5.below B4.out.size (fun k e => by have := (G4.out.row.lt k e).1; have := HHB.out; omega)))
          have hcw5 := cell_ob5 HA5.out.cell 2 rfl
          rw [← HCN.out] at hcw5
          have G6 := Lib.hid G5
          clear G5 o5 B4 HA4 G4 hcw4 HL4 X4
          refine hK.out _ _ hcw5 (fun hHeld => ?_)
          clear hK K
          try simp only [Act.put, List.setIfInBounds_toArray, List.set_cons_zero, List.set_cons_succ]
          refine wpAnyH_take (i := 14) (v := ?_) (by simp only [List.getElem?_toArray, List.getElem?_cons_succ, List.getElem?_cons_zero]; rfl) (by kernel_rfl) (by kernel_rfl) (by kernel_rfl) (fun _ _ _ h => h) (Or.inl ⟨by rfl, ?_⟩) (by assumption) ?_
          rotate_left
          · intro w hSw
            try dsimp only at hSw
            go_simp
            try with_reducible rfl
          try simp only [Act.put, List.setIfInBounds_toArray, List.set_cons_zero, List.set_cons_succ]
          refine wpAnyH_done (by kernel_rfl) ?_ _
          refine NoPanic.normal ?_
          go_wp2_with fail
          have hst := step_new (.slice p3 n3 c3) HAT.out HC.out HY.out
          rw [← HSEG.out] at hst
          refine ⟨⟨k + 1, _, _, _, HLT.out, rfl, by rw [j1], Lib.hid ⟨⟨_, _, _, _, hst.2 ▸ HA5.out, G6.out, hst.1⟩, B5.out⟩⟩, ?_⟩
          rw [j1]; exact meas5 HLT.out
        · have d1 : decide ((k : Int) > 0) = true := by simp; omega
          have d1' : decide ((0 : Int) < k) = true := by simp; omega
          have d1'' : decide (0 < k) = true := by simp; omega
          obtain rfl : nx = 1 := HNX.out
          obtain rfl : rt = false := hrt'.symm
          obtain ⟨a, rfl, hc1⟩ := (HX.out.mi MI1.out).1.at (j := 0) (by simp)
          rw [show ([y] : List Int)[0] = y from rfl, add_zero5] at hc1
          have hlk2 : wrap64 (low + (k : Int) - 1) = low + (k : Int) - 1 := low_fit1 HLW.out (Nat.le_trans (Nat.le_of_lt HLT.out) HPN.out)
          have d2 : (y == low + (k : Int) - 1) = false := by simpa using h4
          clear h3 h4
          go_wp2_with fail
          have hcw := cell_ob5 HA2.out.cell 2 rfl
          rw [← HCN.out] at hcw
          try simp only [List.append]
          refine wp_region_noPanic ?_
          refine wp_region_held_drew (S := (fun V => V.cell? ⟨hb, 2, none⟩ = some (.int .i64 (cn : Nat)))) (by kernel_rfl) hcw (fun hHeld => ?_)
          clear hcw
          generalize w1.drew = w2 at *
          refine wpAnyH_take (i := 0) (v := ?_) (by simp only [List.getElem?_toArray, List.getElem?_cons_zero]; rfl) (by kernel_rfl) (by kernel_rfl) (by kernel_rfl) (fun _ _ _ h => h) (Or.inl ⟨by rfl, ?_⟩) (by assumption) ?_
          rotate_left
          · intro w hSw
            try dsimp only at hSw
            go_simp
            try with_reducible rfl
          try simp only [Act.put, List.setIfInBounds_toArray, List.set_cons_zero, List.set_cons_succ]
          refine wpAnyH_take (i := 1) (v := ?_) (by simp only [List.getElem?_toArray, List.getElem?_cons_succ, List.getElem?_cons_zero]; rfl) (by kernel_rfl) (by kernel_rfl) (by kernel_rfl) (fun _ _ _ h => h) (Or.inl ⟨by rfl, ?_⟩) (by assumption) ?_
          rotate_left
          · intro w hSw
            try dsimp only at hSw
            go_simp
            try with_reducible rfl
          try simp only [Act.put, List.setIfInBounds_toArray, List.set_cons_zero, List.set_cons_succ]
          refine wpAnyH_take (i := 2) (v := ?_) (by simp only [List.getElem?_toArray, List.getElem?_cons_succ, List.getElem?_cons_zero]; rfl) (by kernel_rfl) (by kernel_rfl) (by kernel_rfl) (fun _ _ _ h => h) (Or.inl ⟨by rfl, ?_⟩) (by assumption) ?_
          rotate_left
          · intro w hSw
            try dsimp only at hSw
            go_simp
            try with_reducible rfl
          try simp only [Act.put, List.setIfInBounds_toArray, List.set_cons_zero, List.set_cons_succ]
          refine wpAnyH_take (i := 3) (v := ?_) (by simp only [List.getElem?_toArray, List.getElem?_cons_succ, List.getElem?_cons_zero]; rfl) (by kernel_rfl) (by kernel_rfl) (by kernel_rfl) (fun _ _ _ h => h) (Or.inl ⟨by rfl, ?_⟩) (by assumption) ?_
          rotate_left
          · intro w hSw
            try dsimp only at hSw
            go_simp
            try with_reducible rfl
          try simp only [Act.put, List.setIfInBounds_toArray, List.set_cons_zero, List.set_cons_succ]
          refine wpAnyH_take (i := 5) (v := ?_) (by simp only [List.getElem?_toArray, List.getElem?_cons_succ, List.getElem?_cons_zero]; rfl) (by kernel_rfl) (by kernel_rfl) (by kernel_rfl) (fun _ _ _ h => h) (Or.inl ⟨by rfl, ?_⟩) (by assumption) ?_
          rotate_left
          · intro w hSw
            try dsimp only at hSw
            go_simp
            try with_reducible rfl
          try simp only [Act.put, List.setIfInBounds_toArray, List.set_cons_zero, List.set_cons_succ]
          refine wpAnyH_take (i := 6) (v := ?_) (by simp only [List.getElem?_toArray, List.getElem?_cons_succ, List.getElem?_cons_zero]; rfl) (by kernel_rfl) (by kernel_rfl) (by kernel_rfl) (fun _ _ _ h => h) (Or.inl ⟨by rfl, ?_⟩) (by assumption) ?_
          rotate_left
          · intro w hSw
            try dsimp only at hSw
            go_simp
            try with_reducible rfl
          try simp only [Act.put, List.setIfInBounds_toArray, List.set_cons_zero, List.set_cons_succ]
          refine wpAnyH_take (i := 7) (v := ?_) (by simp only [List.getElem?_toArray, List.getElem?_cons_succ, List.getElem?_cons_zero]; rfl) (by kernel_rfl) (by kernel_rfl) (by kernel_rfl) (fun _ _ _ h => h) (Or.inl ⟨by rfl, ?_⟩) (by assumption) ?_
          rotate_left
          · intro w hSw
            try dsimp only at hSw
            go_simp
            try with_reducible rfl
          try simp only [Act.put, List.setIfInBounds_toArray, List.set_cons_zero, List.set_cons_succ]
          refine wpAnyH_take (i := 8) (v := ?_) (by simp only [List.getElem?_toArray, List.getElem?_cons_succ, List.getElem?_cons_zero]; rfl) (by kernel_rfl) (by kernel_rfl) (by kernel_rfl) (fun _ _ _ h => h) (Or.inl ⟨by rfl, ?_⟩) (by assumption) ?_
          rotate_left
          · intro w hSw
            try dsimp only at hSw
            go_simp
            try with_reducible rfl
          try simp only [Act.put, List.setIfInBounds_toArray, List.set_cons_zero, List.set_cons_succ]
          refine wpAnyH_take (i := 9) (v := ?_) (by simp only [List.getElem?_toArray, List.getElem?_cons_succ, List.getElem?_cons_zero]; rfl) (by kernel_rfl) (by kernel_rfl) (by kernel_rfl) (fun _ _ _ h => h) (Or.inl ⟨by rfl, ?_⟩) (by assumption) ?_
          rotate_left
          · intro w hSw
            try dsimp only at hSw
            go_simp
            try with_reducible rfl
          try simp only [Act.put, List.setIfInBounds_toArray, List.set_cons_zero, List.set_cons_succ]
          refine wpAnyH_take (i := 10) (v := ?_) (by simp only [List.getElem?_toArray, List.getElem?_cons_succ, List.getElem?_cons_zero]; rfl) (by kernel_rfl) (by kernel_rfl) (by kernel_rfl) (fun _ _ _ h => h) (Or.inl ⟨by rfl, ?_⟩) (by assumption) ?_
          rotate_left
          · intro w hSw
            try dsimp only at hSw
            go_simp
            try with_reducible rfl
          try simp only [Act.put, List.setIfInBounds_toArray, List.set_cons_zero, List.set_cons_succ]
          refine wpAnyH_ready (rs := [4]) (by kernel_rfl) (by simp) ?_
          refine AllReadyH.cons (by simp only [List.getElem?_toArray, List.getElem?_cons_succ, List.getElem?_cons_zero]; rfl) (fun K hK => ?_) AllReadyH.nil
          go_simp
          refine (nclone_to w2 _ _ HX2.out.1 HPX.out).mono ?_
          rintro e w3 ⟨v3, rfl, o3, b3⟩
          obtain ⟨p3, n3, c3, rfl⟩ := jown_sh o3
          have X3 := Lib.hid (JS.own (B := B) o3)
          have G3 := Lib.hid (G2.out.kb b3)
          have HA3 := Lib.hid (HA2.out.kb b3)
          have B3 := Lib.hid (B2.out.trans (b3.mono B2.out.size))
          have hcw3 := cell_ob5 HA3.out.cell 2 rfl
          rw [← HCN.out] at hcw3
          clear o3 b3 G2 HA2 B2
          go_wp2_with fail
          refine hK.out _ _ hcw3 (fun hHeld => ?_)
          clear hK K
          try simp only [Act.put, List.setIfInBounds_toArray, List.set_cons_zero, List.set_cons_succ]
          refine wpAnyH_take (i := 11) (v := ?_) (by simp only [List.getElem?_toArray, List.getElem?_cons_succ, List.getElem?_cons_zero]; rfl) (by kernel_rfl) (by kernel_rfl) (by kernel_rfl) (fun _ _ _ h => h) (Or.inl ⟨by rfl, ?_⟩) (by assumption) ?_
          rotate_left
          · intro w hSw
            try dsimp only at hSw
            go_simp
            try with_reducible rfl
          try simp only [Act.put, List.setIfInBounds_toArray, List.set_cons_zero, List.set_cons_succ]
          refine wpAnyH_ready (rs := [12]) (by kernel_rfl) (by simp) ?_
          refine AllReadyH.cons (by simp only [List.getElem?_toArray, List.getElem?_cons_succ, List.getElem?_cons_zero]; rfl) (fun K hK => ?_) AllReadyH.nil
          go_simp
          go_wp2_with fail
          have AL := (Below.refl w3.heap.size w3).alloc (Nat.le_refl _) (.cells #[.int .i64 (low + (k : Int)), .int .i64 (low + (k : Int)), .slice p3 n3 c3, .bool false, .bool hd] 33)
          have HL4 := Lib.hid (heap_alloc_last w3 (.cells #[.int .i64 (low + (k : Int)), .int .i64 (low + (k : Int)), .slice p3 n3 c3, .bool false, .bool hd] 33))
          have X4 := Lib.hid (X3.out.kb AL)
          have G4 := Lib.hid (G3.out.kb AL)
          have HA4 := Lib.hid (HA3.out.kb AL)
          have B4 := Lib.hid (B3.out.trans (AL.mono B3.out.size))
          have hcw4 := cell_ob5 HA4.out.cell 2 rfl
          rw [← HCN.out] at hcw4
          clear AL X3 G3 HA3 B3 hcw3
          refine hK.out _ _ hcw4 (fun hHeld => ?_)
          clear hK K
          try simp only [Act.put, List.setIfInBounds_toArray, List.set_cons_zero, List.set_cons_succ]
          generalize w3.alloc (.cells #[.int .i64 (low + (k : Int)), .int .i64 (low + (k : Int)), .slice p3 n3 c3, .bool false, .bool hd] 33) = w4 at *
          refine wpAnyH_ready (rs := [13]) (by kernel_rfl) (by simp) ?_
          refine AllReadyH.cons (by simp only [List.getElem?_toArray, List.getElem?_cons_succ, List.getElem?_cons_zero]; rfl) (fun K hK => ?_) AllReadyH.nil
          refine step_push_seg (by rfl) (.tmp 46) (.tmp 58) (by rfl) B (hb + 1) _ Y (by rfl) G4.out w3.heap.size (by rfl) (.slice p3 n3 c3, ⟨low + (k : Int), low + (k : Int), _, false, hd⟩) HL4.out X4.out (Nat.le_succ_of_le HBB.out) (Array.getElem?_eq_some_iff.1 HA4.out.cell).1 (by have := HYN.out; have := HYB.out; omega) ?_
          intro g5 cap5 w5 G5 o5 _
          have HA5 := Lib.hid (HA4.out.keepS G4.out o5)
          have B5 := Lib.hid (B4.out.trans (o5.below B4.out.size (fun k e => by have := (G4.out.row.lt k e).1; have := HHB.out; omega)))
          have hcw5 := cell_ob5 HA5.out.cell 2 rfl
          rw [← HCN.out] at hcw5
          have G6 := Lib.hid G5
          clear G5 o5 B4 HA4 G4 hcw4 HL4 X4
          refine hK.out _ _ hcw5 (fun hHeld => ?_)
          clear hK K
          try simp only [Act.put, List.setIfInBounds_toArray, List.set_cons_zero, List.set_cons_succ]
          refine wpAnyH_take (i := 14) (v := ?_) (by simp only [List.getElem?_toArray, List.getElem?_cons_succ, List.getElem?_cons_zero]; rfl) (by kernel_rfl) (by kernel_rfl) (by kernel_rfl) (fun _ _ _ h => h) (Or.inl ⟨by rfl, ?_⟩) (by assumption) ?_
          rotate_left
          · intro w hSw
            try dsimp only at hSw
            go_simp
            try with_reducible rfl
          try simp only [Act.put, List.setIfInBounds_toArray, List.set_cons_zero, List.set_cons_succ]
          refine wpAnyH_done (by kernel_rfl) ?_ _
          refine NoPanic.normal ?_
          go_wp2_with fail
          have hst := step_new (.slice p3 n3 c3) HAT.out HC.out HY.out
          rw [← HSEG.out] at hst
          refine ⟨⟨k + 1, _, _, _, HLT.out, rfl, by rw [j1], Lib.hid ⟨⟨_, _, _, _, hst.2 ▸ HA5.out, G6.out, hst.1⟩, B5.out⟩⟩, ?_⟩
          rw [j1]; exact meas5 HLT.out
    · obtain rfl : k = N := Nat.le_antisymm hk (Nat.le_of_not_lt hlt)
      obtain ⟨⟨ph, nh, ch, Y, ha, go, hy⟩, bel⟩ := SI.out
      have G0 := Lib.hid go
      have HY := Lib.hid hy
      have BE := Lib.hid bel
      clear ha go hy bel SI
      go_wp2_with fail
      go_ret
      refine ⟨_, Y, rfl, ?_, ?_, ?_⟩
      · exact G0.out
      · have h := HY.out
        rw [HN.out, List.take_length] at h
        exact h
      · rw [HHB.out]; exact BE.out
end Go.Proofs.Ytadglppplgeldaa
