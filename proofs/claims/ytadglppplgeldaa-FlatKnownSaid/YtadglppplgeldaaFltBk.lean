/- Package flat: Back. Conditions: no more than a million segments, of no more than a million parents each. -/
import Derived.Test.YtadglppplgeldaaFltA
import Derived.Test.YtadglppplgeldaaFltK
namespace Go.Proofs.Ytadglppplgeldaa
open Go.RowKit
set_option maxRecDepth 20000

/-- The lists of all segments, if they follow one another. -/
def addL (l : List Sg) : Option (List (List Int) × List (List Int)) := l.foldl (fun r s => r.bind fun x => addP x.1 x.2 s) (some ([], []))
theorem addL_snoc (l : List Sg) (s : Sg) : addL (l ++ [s]) = (addL l).bind fun x => addP x.1 x.2 s := by unfold addL; rw [List.foldl_append]; rfl
theorem addL_take {l : List Sg} {k : Nat} {s : Sg} (h : l[k]? = some s) : addL (l.take (k + 1)) = (addL (l.take k)).bind fun x => addP x.1 x.2 s := by
  rw [List.take_add_one, h]; exact addL_snoc _ _
theorem foldl_none (l : List Sg) : l.foldl (fun (r : Option (List (List Int) × List (List Int))) s => r.bind fun x => addP x.1 x.2 s) none = none := by
  induction l with
  | nil => rfl
  | cons s l ih => exact ih
theorem addL_none {l : List Sg} {k : Nat} (h : addL (l.take k) = none) : addL l = none := by
  have e : l = l.take k ++ l.drop k := (List.take_append_drop k l).symm
  rw [e]
  unfold addL at h ⊢
  rw [List.foldl_append, h]
  exact foldl_none _
theorem addP_len {M O M' O' : List (List Int)} {s : Sg} (h : addP M O s = some (M', O')) : M'.length + O'.length ≤ 1000 := by
  unfold addP at h
  by_cases hc : s.lo ≠ (if spl ≤ s.lo then spl + (O.length : Int) else (M.length : Int)) ∨ s.hi < s.lo ∨ 1000 - (M.length : Int) - (O.length : Int) ≤ s.hi - s.lo ∨ 4 < s.par.length
  · rw [if_pos hc] at h; cases h
  · rw [if_neg hc] at h
    have h3 : ¬ (1000 - (M.length : Int) - (O.length : Int) ≤ s.hi - s.lo) := fun h => hc (.inr (.inr (.inl h)))
    by_cases hs : spl ≤ s.lo
    · rw [if_pos hs] at h
      injection h with h
      injection h with h1 h2
      subst h1 h2
      simp only [List.length_append, List.length_cons, lineK_len]
      omega
    · rw [if_neg hs] at h
      injection h with h
      injection h with h1 h2
      subst h1 h2
      simp only [List.length_append, List.length_cons, lineK_len]
      omega
theorem flt_par2 {M O : List (List Int)} (ok : okt M O) : ∀ s ∈ flt M O, s.par.length ≤ 1000000 := fun s hs => by
  obtain ⟨i, hi⟩ := List.mem_iff_getElem?.1 hs
  obtain ⟨low, L, base, a, b, g, so, _⟩ := flt_at hi
  have hok : okl M.length O.length low L := by
    rcases g with ⟨rfl, rfl, rfl⟩ | ⟨rfl, rfl, rfl⟩
    · exact ok.1
    · exact ok.2
  exact Nat.le_trans (hok _ _ so.par).1 (by decide)
/-- The table that the segments come from. -/
def BkOf (l : List Sg) (M O : List (List Int)) : Prop := addL l = some (M, O) ∧ okt M O ∧ flt M O = l
theorem res_two5 {P : Program} {fn : Func} {p u : Tmp} {ty : TypeId} (h : fn.results = #[.cell p ty, .tmp u]) (tmps : Array Value) (w : World) (g : Nat) (t : TypeId) (cs : Array Value) (fr : Nat × Nat) (d : TypeDesc)
    (hp : tmps.getD p undef = .pointer (some ⟨g, 0, none⟩)) (hg : w.heap[g]? = some (.cells cs t fr))
    (hu : P.underlying ty = some d) (hd : (match d with | .struct _ | .array _ _ => true | _ => false) = true) (hi : (P.info? ty).map (·.size) = some cs.size) :
    (results fn tmps).run P w = .ok (.tuple #[.agg cs, tmps.getD u undef]) w := by
  have hp' : tmps[p]?.getD undef = .pointer (some ⟨g, 0, none⟩) := by simpa using hp
  rw [results_cell_tmp h]
  simp [hp', asAddr, run_loadVar_row w g t ty cs fr d hg hu hd hi]
/-- What Back tells. -/
def BkPost (w : World) (B : Nat) (l : List Sg) (e : Ending) (w' : World) : Prop :=
  Below w.heap.size w w' ∧ ((∃ p n c q m d X Z, e = .returned (.tuple #[tv p n c q m d, .bool true]) ∧ LO B w.heap.size w' (.slice p n c) X ∧ LO B w.heap.size w' (.slice q m d) Z ∧ BkOf l (X.map (·.2)) (Z.map (·.2))) ∨
    (e = .returned (.tuple #[tv none 0 0 none 0 0, .bool false]) ∧ ∀ M O, ¬ BkOf l M O))
set_option maxHeartbeats 16000000 in
theorem back_to (w : World) (B : Nat) (hB : B ≤ w.heap.size) (v : Value) (l : List Sg) (hs : GS B w v l) (hl : l.length ≤ 1000000) (hin : ∀ s ∈ l, (-9223372036854775808 ≤ s.lo ∧ s.lo < 9223372036854775808 ∧ -9223372036854775808 ≤ s.hi ∧ s.hi < 9223372036854775808) ∧ s.par.length ≤ 1000000) :
    Calls Try.prog 10 #[v] w (BkPost w B l) := by
  obtain ⟨pv, cv, rfl⟩ := hs.form
  obtain ⟨N, hN⟩ : ∃ N, N = l.length := ⟨_, rfl⟩
  rw [← hN] at hs hl ⊢
  have HV := Lib.hid hs
  have HN := Lib.hid hN
  have HPN := Lib.hid hl
  have HIN := Lib.hid hin
  have HBB := Lib.hid hB
  have e1 : (w.alloc (.cells #[.slice none 0 0, .slice none 0 0] 25)).heap.size = w.heap.size + 1 := by simp
  have b2 : Below w.heap.size w ((w.alloc (.cells #[.slice none 0 0, .slice none 0 0] 25)).alloc (.cells #[.slice none 0 0, .slice none 0 0] 25)) := ((Below.refl _ w).alloc (Nat.le_refl _) _).alloc (by simp) _
  have h0 := heap_alloc_last w (.cells #[.slice none 0 0, .slice none 0 0] 25)
  have h1 := heap_alloc_last (w.alloc (.cells #[.slice none 0 0, .slice none 0 0] 25)) (.cells #[.slice none 0 0, .slice none 0 0] 25)
  rw [e1] at h1
  have RB0 : Hid (((w.alloc (.cells #[.slice none 0 0, .slice none 0 0] 25)).alloc (.cells #[.slice none 0 0, .slice none 0 0] 25)).heap[w.heap.size]? = some (.cells #[.slice none 0 0, .slice none 0 0] 25 (0, 0))) := Lib.hid (by rw [heap_alloc_old _ _ (by simp)]; exact h0)
  have T0 : Hid (TB ((w.alloc (.cells #[.slice none 0 0, .slice none 0 0] 25)).alloc (.cells #[.slice none 0 0, .slice none 0 0] 25)) B (w.heap.size + 2) (w.heap.size + 1) none 0 0 none 0 0 [] []) := Lib.hid ⟨h1, LO.nil _ _ _, LO.nil _ _ _, (fun j e => (by cases e)), by omega, by omega, by simp⟩
  have B0 := Lib.hid b2
  obtain ⟨R, hR⟩ : ∃ R, R = w.heap.size := ⟨_, rfl⟩
  have HR := Lib.hid hR
  rw [← hR] at T0 RB0 HBB
  clear hs hN hl hin hB e1 b2 h0 h1 hR
  go_enter Try.func10, Try.ntmps10
  go_wp2_with fail
  rw [← HR.out]
  generalize (w.alloc (.cells #[.slice none 0 0, .slice none 0 0] 25)).alloc (.cells #[.slice none 0 0, .slice none 0 0] 25) = w2 at *
  go_loopw [9] (fun i wr => ∃ (k : Nat) (p : Option Addr) (n c : Nat) (q : Option Addr) (m d : Nat) (X Z : List (Value × List Int)), k ≤ N ∧ i = .int .i64 k ∧ Hid (addL (l.take k) = some (X.map (·.2), Z.map (·.2))) ∧ Hid (X.length + Z.length ≤ 1000) ∧ Hid (TB wr B (R + 2) (R + 1) p n c q m d X Z) ∧ Hid (wr.heap[R]? = some (.cells #[.slice none 0 0, .slice none 0 0] 25 (0, 0))) ∧ Hid (Below w.heap.size w wr)) (fun i _ => N - (intOf i).toNat)
  case atStart => exact ⟨0, none, 0, 0, none, 0, 0, [], [], Nat.zero_le _, rfl, Lib.hid rfl, Lib.hid (Nat.zero_le _), T0, RB0, B0⟩
  case round =>
    clear T0 RB0 B0
    obtain ⟨k, p, n, c, q, m, d, X, Z, hk, rfl, HA, HXZ, T, RB, BE⟩ := hrel
    by_cases hlt : k < N
    · obtain ⟨j1, j2, j3⟩ := next5 hlt HPN.out
      have hkl : k < l.length := by rw [← HN.out]; exact hlt
      obtain ⟨bb, o, x, rfl, r0, jx⟩ := (HV.out.kb BE.out).at hkl
      have HAT := Lib.hid (List.getElem?_eq_getElem hkl)
      have HI := Lib.hid (HIN.out _ (List.getElem_mem hkl))
      have HTK := Lib.hid (addL_take HAT.out)
      generalize l[k] = s at *
      rw [HA.out] at HTK
      obtain ⟨px, cx, rfl⟩ := jx.form
      obtain ⟨np, hnp⟩ : ∃ np, np = s.par.length := ⟨_, rfl⟩
      rw [← hnp] at r0 jx
      obtain ⟨a1, a2, a3, a4, a5⟩ := sg_cells r0
      have AL := (Below.refl wr.heap.size wr).alloc (Nat.le_refl _) (.cells #[.int .i64 s.lo, .int .i64 s.hi, .slice px np cx, .bool s.root, .bool s.head] 33)
      have T1 := Lib.hid (T.out.kb AL)
      have RB1 := Lib.hid ((AL.block _ (Array.getElem?_eq_some_iff.1 RB.out).1).trans RB.out)
      have BE1 := Lib.hid (BE.out.trans (AL.mono BE.out.size))
      have JX := Lib.hid (jx.kb AL)
      have hgs := gsize
      have HLT := Lib.hid hlt
      clear AL hnp jx r0 hkl hk hlt T RB BE
      go_wp2_with fail
      refine (add5_to _ B (R + 2) (R + 1) p n c q m d X Z T1.out HXZ.out _ s JX.out HI.out.1 HI.out.2).mono ?_
      rintro e w4 ⟨p4, n4, c4, q4, m4, d4, X4, Z4, rfl, t4, b4, h4⟩
      have T4 := Lib.hid t4
      have H4 := Lib.hid h4
      have RB4 := Lib.hid ((b4.block R (by omega)).trans RB1.out)
      have BE4 := Lib.hid (BE1.out.trans (b4.mono (by have := HR.out; omega)))
      clear t4 b4 h4 T1 RB1 BE1
      cases hap : addP (X.map (·.2)) (Z.map (·.2)) s with
      | none =>
        have HNO : Hid (addL l = none) := Lib.hid (addL_none (k := k + 1) (by rw [HTK.out]; exact hap))
        have hz0 := cell_ob5 RB4.out 0 rfl
        have hz1 := cell_ob5 RB4.out 1 rfl
        have hf0 := frozen_of_row _ R 0 _ _ RB4.out
        have hf1 := frozen_of_row _ R 1 _ _ RB4.out
        have HS := Lib.hid (set3T (x := .slice none 0 0) (y := .slice none 0 0) RB4.out)
        have HB := Lib.hid (BE4.out.trans (Only.below (S := fun k => k = R) (setCells_only (w := w4) (b := R) [.slice none 0 0, .slice none 0 0]) BE4.out.size (fun k e => by have := HR.out; omega)))
        clear hap
        go_wp2_with fail
        refine bodyPost_ret (res_two5 rfl _ _ R _ _ (0, 0) _ rfl HS.out Try.underlying25 rfl (by kernel_rfl)) rfl ?_
        exact ⟨HB.out, .inr ⟨rfl, fun M O h => by have h1 := h.1; rw [HNO.out] at h1; cases h1⟩⟩
      | some MO =>
        obtain ⟨M', O'⟩ := MO
        rw [hap] at H4
        have HEQ : Hid (addL (l.take (k + 1)) = some (X4.map (·.2), Z4.map (·.2))) := Lib.hid (by rw [HTK.out]; exact hap.trans (congrArg some H4.out))
        have HLN : Hid (X4.length + Z4.length ≤ 1000) := Lib.hid (by
          have h5 := addP_len hap
          have h6 : (M', O') = (X4.map (·.2), Z4.map (·.2)) := H4.out
          injection h6 with h6 h7
          rw [h6, h7, List.length_map, List.length_map] at h5
          exact h5)
        clear hap
        go_wp2_with fail
        refine ⟨⟨k + 1, _, _, _, _, _, _, X4, Z4, HLT.out, by first | rw [j1] | rfl, HEQ, HLN, T4, RB4, BE4⟩, ?_⟩
        first | (rw [j1]; exact meas5 HLT.out) | exact meas5 HLT.out
    · obtain rfl : k = N := Nat.le_antisymm hk (Nat.le_of_not_lt hlt)
      have HAL : Hid (addL l = some (X.map (·.2), Z.map (·.2))) := Lib.hid (by have h := HA.out; rw [HN.out, List.take_length] at h; exact h)
      have hc0 := cell_ob5 T.out.cell 0 rfl
      have hc1 := cell_ob5 T.out.cell 1 rfl
      have HNM := Lib.hid T.out.len
      clear hlt hk HA
      go_wp2_with fail
      refine (build_to5 wr B (Nat.le_trans HBB.out (by have := BE.out.size; have := HR.out; omega)) _ _ p q n c m d T.out.lm.seen T.out.lo.seen (by have := HNM.out; have := HXZ.out; omega) (by have := HNM.out; have := HXZ.out; omega)).mono ?_
      rintro e w5 ⟨v5, Y, rfl, g5, hy5, hn5, b5⟩
      have HY5 := Lib.hid hy5
      have HN5 := Lib.hid hn5
      have G5 := Lib.hid g5.seen
      have T5 := Lib.hid (T.out.kb b5)
      have RB5 := Lib.hid ((b5.block _ (Array.getElem?_eq_some_iff.1 RB.out).1).trans RB.out)
      have BE5 := Lib.hid (BE.out.trans (b5.mono BE.out.size))
      obtain ⟨p5, n5, c5, rfl, hn5'⟩ := g5.shape
      have HYP : Hid (∀ s ∈ Y.map (·.2), s.par.length ≤ 1000000) := Lib.hid (by
        by_cases ok : okt (X.map (·.2)) (Z.map (·.2))
        · rw [HY5.out ok]; exact flt_par2 ok
        · rw [HN5.out ok]; intro s hs; cases hs)
      have HYL : Hid ((Y.map (·.2)).length ≤ 1000000) := Lib.hid (by
        by_cases ok : okt (X.map (·.2)) (Z.map (·.2))
        · rw [HY5.out ok]
          unfold flt
          rw [List.length_append]
          have h1 := sgs_len 0 (X.map (·.2))
          have h2 := sgs_len spl (Z.map (·.2))
          rw [List.length_map] at h1 h2
          have := HXZ.out
          omega
        · rw [HN5.out ok]; exact Nat.zero_le _)
      clear g5 hy5 hn5 b5 hn5' hc0 hc1 T RB BE
      go_wp2_with fail
      refine (eqf_to w5 B _ _ (Y.map (·.2)) l G5.out (HV.out.kb BE5.out) HYL.out HYP.out).mono ?_
      rintro e w6 ⟨⟨r, rfl, hr⟩, b6⟩
      have HRR := Lib.hid hr
      have T6 := Lib.hid (T5.out.kb b6)
      have RB6 := Lib.hid ((b6.block _ (Array.getElem?_eq_some_iff.1 RB5.out).1).trans RB5.out)
      have BE6 := Lib.hid (BE5.out.trans (b6.mono BE5.out.size))
      have hz0 := cell_ob5 RB6.out 0 rfl
      have hz1 := cell_ob5 RB6.out 1 rfl
      have hf0 := frozen_of_row _ R 0 _ _ RB6.out
      have hf1 := frozen_of_row _ R 1 _ _ RB6.out
      have ht0 := cell_ob5 T6.out.cell 0 rfl
      have ht1 := cell_ob5 T6.out.cell 1 rfl
      clear hr b6 T5 RB5 BE5
      cases r with
      | false =>
        have HS := Lib.hid (set3T (x := .slice none 0 0) (y := .slice none 0 0) RB6.out)
        have HB := Lib.hid (BE6.out.trans (Only.below (S := fun k => k = R) (setCells_only (w := w6) (b := R) [.slice none 0 0, .slice none 0 0]) BE6.out.size (fun k e => by have := HR.out; omega)))
        go_wp2_with fail
        refine bodyPost_ret (res_two5 rfl _ _ R _ _ (0, 0) _ rfl HS.out Try.underlying25 rfl (by kernel_rfl)) rfl ?_
        refine ⟨HB.out, .inr ⟨rfl, fun M O h => ?_⟩⟩
        have h1 := h.1
        rw [HAL.out] at h1
        injection h1 with h1
        injection h1 with h1 h2
        subst h1 h2
        have h3 := HRR.out.2 (by rw [HY5.out h.2.1]; exact h.2.2)
        cases h3
      | true =>
        have HS := Lib.hid (set3T (x := .slice p n c) (y := .slice q m d) RB6.out)
        have o6 := setCells_only (w := w6) (b := R) [.slice p n c, .slice q m d]
        have HB := Lib.hid (BE6.out.trans (Only.below (S := fun k => k = R) o6 BE6.out.size (fun k e => by have := HR.out; omega)))
        have m6 : Mi B w6 (w6.setCells R 0 [.slice p n c, .slice q m d]) := Mi.of RB6.out (by decide) HBB.out o6
        have L1 := Lib.hid (T6.out.lm.keep m6 o6 (fun k e e2 => by have := (T6.out.lm.row.lt k e).1; omega))
        have L2 := Lib.hid (T6.out.lo.keep m6 o6 (fun k e e2 => by have := (T6.out.lo.row.lt k e).1; omega))
        clear o6 m6
        go_wp2_with fail
        refine bodyPost_ret (res_two5 rfl _ _ R _ _ (0, 0) _ rfl HS.out Try.underlying25 rfl (by kernel_rfl)) rfl ?_
        have he := HRR.out.1 (by trivial)
        refine ⟨HB.out, .inl ⟨p, n, c, q, m, d, X, Z, rfl, ⟨L1.out.row.mono (by have := HR.out; omega), L1.out.lit⟩, ⟨L2.out.row.mono (by have := HR.out; omega), L2.out.lit⟩, HAL.out, ?_⟩⟩
        by_cases ok : okt (X.map (·.2)) (Z.map (·.2))
        · exact ⟨ok, by rw [← HY5.out ok]; exact he⟩
        · have h0 : l = [] := by rw [← he, HN5.out ok]; rfl
          have h1 := HAL.out
          rw [h0] at h1
          injection h1 with h1
          injection h1 with h1 h2
          rw [← h1, ← h2] at ok
          exact absurd (oktB_iff.1 (by decide)) ok
end Go.Proofs.Ytadglppplgeldaa
