/- HexRanks returns true and makes new memory alone. Condition: the list is within what a slice may take up. -/
import Derived.Test.YtemfblhlkonlpaaHexSw
import Derived.Test.YtemfblhlkonlpaaHexRn
import Derived.Test.YtemfblhlkonlpaaHexC
import Derived.Test.YtemfblhlkonlpaaGenPick
import Derived.Deep.RegionHeld3
namespace Go.Proofs.Ytemfblhlkonlpaa
open Go.RowKit
attribute [local go_sem ↓] hld_open heq_open hne_open

theorem isee_form {w : World} {v : Value} {l : List Int} (h : ISeen w v l) : ∃ p c0, v = .slice p l.length c0 ∧ ∀ j x, l[j]? = some x → ∃ a, p = some a ∧ w.cell? (a.add j) = some (.int .i64 x) := by
  rcases h with ⟨rfl, rfl⟩ | ⟨a, c, rfl, _, h⟩
  · exact ⟨none, 0, rfl, fun j x hx => by simp at hx⟩
  · exact ⟨some a, c, rfl, fun j x hx => ⟨a, rfl, h j x hx⟩⟩
theorem below_dr2 {n : Nat} {w w' : World} (h : Below n w w') : Below n w w'.drew := ⟨h.os, h.tape, h.output, h.size, h.block⟩
theorem rcell_kb {w w' : World} {a : Addr} {u : Value} (h : w.cell? a = some u) (hb : Below w.heap.size w w') : w'.cell? a = some u := by
  rw [World.cell?_of_block (w := w) (hb.block _ (World.block_lt_of_cell? w _ h))]; exact h
theorem rrange_kb {w w' : World} {b o : Nat} {cs : List Value} (h : w.rangeAt b o cs) (hb : Below w.heap.size w w') : w'.rangeAt b o cs := fun j v hv => rcell_kb (h j v hv) hb
theorem rtwo_kb {w w' : World} {p q o r : Nat} {x y : List Value} (h : w.rangeAt p o x ∧ w.rangeAt q r y) (hb : Below w.heap.size w w') : w'.rangeAt p o x ∧ w'.rangeAt q r y := ⟨rrange_kb h.1 hb, rrange_kb h.2 hb⟩
theorem rrow_kb {W W' : World} {H : Nat} {o : Obj} (h : W.heap[H]? = some o) (hb : Below W.heap.size W W') : W'.heap[H]? = some o := (hb.block _ (Array.getElem?_eq_some_iff.1 h).1).trans h
theorem hi_hv3 {a : List UInt8} (ha : a.length = 32) : (Try.prog.info? 26).map (·.size) = some (us (nmb a)).length := by rw [← hv_list]; exact hinfo' (hv a) (by rw [hv_size, ha])
theorem own_mono2 {w w1 w2 : World} {v : Value} {E : List (List UInt8)} (h : HOwn w2 w1.heap.size v E) (hs : w.heap.size ≤ w1.heap.size) : HOwn w2 w.heap.size v E := own_as h hs rfl rfl
theorem rk_snoc {l : List Int} {k : Nat} {x : Int} (h : l[k]? = some x) : rsort (hhs (l.take (k + 1))) = rsort (rsort (hhs (l.take k)) ++ [hh x]) := by
  rw [hhs_snoc h, rsort_app]
theorem rk_len (l : List Int) (k : Nat) : (rsort (hhs (l.take k))).length ≤ k := Nat.le_trans (rsort_length _) (hhs_length l k)
theorem rk_fits {m k : Nat} (h : m ≤ k) (hk : k ≤ 30) : m + 1 ≤ maxLen ∧ (m + 1) * 32 ≤ 140737488355328 ∧ m * 32 ≤ 140737488355328 ∧ m ≤ 4611686018427387904 := by unfold maxLen; omega
theorem rslice_str (s : List UInt8) (j : Int) (h0 : 0 ≤ j) (h1 : j ≤ s.length) (w : World) : (Instr.slice 9 (.string ⟨s.toArray⟩) none (some (.int .i64 j)) none).run Try.prog w = .ok (.string ⟨(s.take j.toNat).toArray⟩) w := by
  have hs : (⟨s.toArray⟩ : ByteArray).size = s.length := rfl
  have e : (⟨s.toArray⟩ : ByteArray).extract 0 j.toNat = ⟨(s.take j.toNat).toArray⟩ := by
    apply ByteArray.ext
    rw [ByteArray.data_extract]
    simp
  simp [Instr.slice, run_underlying Try.underlying9, go_sem, h0, h1, hs, e]
theorem rgeq_str (a b : List UInt8) (h : Op.bytesLess a b = true) (W : World) : (binOp .geq 9 (.string ⟨a.toArray⟩) (.string ⟨b.toArray⟩)).run Try.prog W = .ok (.bool false) W := by
  have e1 : (⟨a.toArray⟩ : ByteArray).toList = a := by rw [ByteArray.toList_eq]
  have e2 : (⟨b.toArray⟩ : ByteArray).toList = b := by rw [ByteArray.toList_eq]
  show (Op.stringOp .geq (⟨a.toArray⟩ : ByteArray) ⟨b.toArray⟩).run Try.prog W = _
  unfold Op.stringOp
  simp only [e1, e2, h]
  rfl
theorem bgn_at {E : List (List UInt8)} {p : List UInt8} {k : Nat} (hk : k < E.length) : bgn E p k = p.isPrefixOf (tx E[k]) := by
  unfold bgn; rw [List.getD, List.getElem?_eq_getElem hk]; rfl
theorem rk_some {E : List (List UInt8)} {r q : Nat} (hr : r < E.length) : ∃ i, i < E.length ∧ bgn E ((tx E[r]).take q) i = true := ⟨r, hr, by rw [bgn_at hr, pre_take]⟩
theorem asc_lt {E : List (List UInt8)} (h : Asc E) {i j : Nat} (hij : i < j) (hj : j < E.length) : Op.bytesLess (E[i]'(Nat.lt_trans hij hj)) E[j] = true := List.pairwise_iff_getElem.1 h i j (Nat.lt_trans hij hj) hj hij
theorem runs_le (f : Nat → Bool) : ∀ k, runs f k ≤ k
  | 0 => Nat.le_refl _
  | k + 1 => by rw [runs]; have := runs_le f k; split <;> omega

set_option maxRecDepth 20000 in
set_option maxHeartbeats 4000000 in
theorem hexRanks_walk (w : World) (v0 : Value) (l : List Int) (h0 : ISeen w v0 l) (cut : Int) :
    Calls Try.prog 3 #[v0, .int .i64 cut] w fun e w' => e = .returned (.bool true) ∧ Below w.heap.size w w' := by
  obtain ⟨i0, hi0, hz0, hz1, hz2⟩ := info_parts hzinfo
  obtain ⟨p0, c0, rfl, hcell⟩ := isee_form h0
  obtain ⟨n, hn⟩ : ∃ n, n = l.length := ⟨_, rfl⟩
  rw [← hn]
  have HN := Lib.hid hn
  have HC := Lib.hid hcell
  have HS0 := Lib.hid (sort_to w (.slice none 0 0) [] H32.nil (by decide) (.inl ⟨rfl, rfl⟩))
  clear h0 hn hcell
  go_enter Try.func3, Try.ntmps3
  go_wp2_with fail
  refine HS0.out.mono ?_
  rintro e w1 ⟨v1, rfl, o1, b1⟩
  have O1 : Hid (HOwn w1 w.heap.size v1 (rsort (hhs (l.take 0)))) := Lib.hid o1
  have B1 := Lib.hid b1
  clear o1 b1 HS0
  go_wp2_with fail
  go_loopw [5, 6] (fun v i wr => ∃ (k : Nat), k ≤ n ∧ k ≤ 30 ∧ i = .int .i64 k ∧ Hid (HOwn wr w.heap.size v (rsort (hhs (l.take k)))) ∧ Hid (Below w.heap.size w wr)) (fun _ i _ => n - (intOf i).toNat)
  case atStart => exact ⟨0, Nat.zero_le _, by omega, rfl, O1, B1⟩
  case round =>
    obtain ⟨k, hk, hk30, rfl, HO, HB⟩ := hrel
    clear O1 B1
    by_cases hlt : k < n ∧ k < 30
    · obtain ⟨h1, h2⟩ := hlt
      have hx : ∃ x, l[k]? = some x := ⟨l[k]'(by rw [← HN.out]; exact h1), List.getElem?_eq_getElem _⟩
      obtain ⟨x, hx⟩ := hx
      obtain ⟨a, rfl, hxc⟩ := HC.out k x hx
      have hc : wr.cell? (a.add k) = some (.int .i64 x) := rcell_kb hxc HB.out
      have HSN := Lib.hid (rk_snoc hx)
      have HE32 := Lib.hid (rsort_h32 (hhs_h32 (l.take k)))
      have HLE := Lib.hid (rk_len l k)
      generalize rsort (hhs (l.take k)) = E at *
      have HK : Hid (E.length = E.length) := Lib.hid rfl
      obtain ⟨m, hm⟩ : ∃ m, m = E.length := ⟨_, rfl⟩
      have HM := Lib.hid hm
      have hf := rk_fits (m := m) (k := k) (by rw [HM.out]; exact HLE.out) (Nat.le_of_lt h2)
      have M := Lib.hid hf.1
      have Y := Lib.hid hf.2.1
      have hk' : (k : Int) < n := by omega
      have hk'' : (k : Int) < 30 := by omega
      clear hx hxc hf
      have HO3 : Hid (wr.ownsRow w.heap.size 26 32 u5 m (fl E)) := Lib.hid (by rw [hm]; exact HO.out)
      clear hm
      go_wp2_with (first
        | (at_builtin; refine wpList_append_lies _ (by rfl) (.tmp 22) (.tmp 28) _ (by rfl) w.heap.size 26 i0 _ 32 32 Try.underlying23 hi0 hz0 hz1 hz2 rfl (by omega) u5 m _ (by rfl) ((HO4.out).alloc _) ⟨w2.heap.size, 0, none⟩ 1 1 (fl [hh x]) (by rfl) (by rw [fl_one, usn_length]; rfl) (news_fl w2 [hh x]) (fl_one' [hh x]) (by decide) M.out Y.out (Nat.le_trans HB2.out.size (by simp)) (w2.heap.size + 1) (by simp) ?_; intro gg cap6 w6 own6 grow6 _ _; have O6 := Lib.hid own6; have S6 : Hid (Below w.heap.size w w6) := Lib.hid ((HB2.out.alloc HB2.out.size _).grown grow6 (Nat.le_trans HB2.out.size (by simp)) (fun k hk => (HO4.out.lt k hk).1)); clear own6 grow6)
        | (refine build_hash (E := [hh x]) (H32.one (hh_length x)) rfl (by simp) (by simp) ?hv ?_; (case hv => simp [Act.eval]))
        | (go_at_call 8; refine (hash_to _ x).mono ?_; rintro e w2 ⟨rfl, b2⟩; have HB2 := Lib.hid (HB.out.trans (b2.mono HB.out.size)); have HO4 := Lib.hid (own_at HO3.out b2); clear b2)
        | (go_at_call 7; have HEE : Hid (H32 (E ++ [hh x])) := Lib.hid (HE32.out.app (H32.one (hh_length x))); have HLL : Hid (m + 1 = (E ++ [hh x]).length) := Lib.hid (by rw [List.length_append, HM.out]; rfl); have HO7 : Hid (HOwn w6 w.heap.size (.slice (some ⟨gg, 0, none⟩) (m + 1) cap6) (E ++ [hh x])) := Lib.hid (own_as O6.out (Nat.le_refl _) HLL.out (by rw [fl_app])); refine (sort_to w6 _ (E ++ [hh x]) HEE.out (by rw [← HLL.out]; exact Y.out) (HSeen.own HO7.out)).mono ?_; rintro e w7 ⟨v7, rfl, o7, b7⟩; have HO8 := Lib.hid o7; have HB7 := Lib.hid (S6.out.trans (b7.mono S6.out.size)); clear o7 b7))
      refine ⟨⟨k + 1, by omega, by omega, by go_num, Lib.hid ?_, HB7⟩, by simp [intOf]; omega⟩
      rw [HSN.out]
      exact own_mono2 HO8.out S6.out.size
    · have HE32 := Lib.hid (rsort_h32 (hhs_h32 (l.take k)))
      have HAS := Lib.hid (rsort_asc (hhs (l.take k)))
      have HLE := Lib.hid (Nat.le_trans (rk_len l k) hk30)
      have HE0 := HO
      have HB0 := HB
      generalize rsort (hhs (l.take k)) = E at *
      clear HO HB HC
      by_cases h1 : k < n
      · have hk' : (k : Int) < n := by omega
        have hk'' : ¬ (k : Int) < 30 := by omega
        clear hlt
        have HRS := Lib.hid (rsort_self HAS.out)
        have HS := Lib.hid (sort_to wr u5 E HE32.out (rk_fits HLE.out (Nat.le_refl _)).2.2.1 (HSeen.own HE0.out))
        go_wp2_with (first
          | (go_at_call 9; refine (known_to _).mono ?_; rintro e w' ⟨rfl, rfl⟩)
          | (go_at_call 7; refine HS.out.mono ?_; rintro e w7 ⟨v7, rfl, o7, b7⟩; rw [HRS.out] at o7; have O7 := Lib.hid o7; have O8 := Lib.hid (hown_kb HE0.out b7); have B7 := Lib.hid (HB0.out.trans (b7.mono HB0.out.size)); clear o7 b7)
          | (go_at_call 10; refine (same_any w7 _ _ v7 u5 E HE32.out O7.out O8.out (rk_fits HLE.out (Nat.le_refl _)).2.2.2).mono ?_; rintro e w' ⟨rfl, q, rfl⟩))
        generalize hw8 : w7.drewN q = w8
        have O8' : Hid (HOwn w8 w.heap.size u5 E) := Lib.hid (by rw [← hw8]; exact O8.out)
        have B8 : Hid (Below w.heap.size w w8) := Lib.hid (by rw [← hw8]; exact below_drn B7.out)
        clear hw8 O7 O8 B7 HE0 HB0 HS HRS
        by_cases hE0 : E.length = 0
        · obtain ⟨p, cap, rfl⟩ := own_shape O8'.out
          rw [hE0]
          clear hE0 O8' HE32 HAS HLE
          refine wp_loop_rounds 1 ?_
          rw [rounds_succ]
          go_wp2_with fail
          go_ret
          exact ⟨rfl, B8.out⟩
        · obtain ⟨g, cap, R, rfl, hb, hg, hc, hm, hR⟩ := O8'.out.row (by omega)
          have HG := Lib.hid hg
          obtain ⟨m, hm⟩ : ∃ m, m = E.length := ⟨_, rfl⟩
          have HM := Lib.hid hm
          rw [← hm] at hc hE0 ⊢
          have hm30 : m ≤ 30 := by rw [hm]; exact HLE.out
          clear hg hb hR hm O8'
          go_loopw [7] (fun i wr => ∃ (k : Nat), 1 ≤ k ∧ k ≤ 31 ∧ i = .int .i64 k ∧ Hid (Below w8.heap.size w8 wr)) (fun i _ => m - (intOf i).toNat)
          case atStart => exact ⟨1, Nat.le_refl _, by omega, rfl, Lib.hid (Below.refl _ _)⟩
          case round =>
            obtain ⟨k, hk1, hk31, rfl, HW⟩ := hrel
            have HG1 := Lib.hid (rrow_kb HG.out HW.out)
            by_cases hlt : k < m
            · obtain ⟨j, hj⟩ : ∃ j, k = j + 1 := ⟨k - 1, by omega⟩
              have hkj : (k : Int) - 1 = (j : Int) := by omega
              have hkE : k < E.length := by rw [← HM.out]; exact hlt
              have hjE : j < E.length := by omega
              have HL1 := Lib.hid (asc_lt HAS.out (i := j) (j := k) (by omega) hkE)
              have HLT : Hid (Op.bytesLess (tx E[j]) (tx E[k]) = true) := Lib.hid (by rw [tx_less _ _ (by rw [HE32.out.at hjE, HE32.out.at hkE])]; exact HL1.out)
              have HL2 := Lib.hid (less_asymm HL1.out)
              have r1 := row_range HE32.out hjE HG1.out
              have r2 := row_range HE32.out hkE HG1.out
              have HX := Lib.hid (HE32.out.at hjE)
              have HY := Lib.hid (HE32.out.at hkE)
              have HC1 := Lib.hid (fun W => less_to W E[j] E[k] HX.out HY.out)
              have HC2 := Lib.hid (fun W => less_to W E[k] E[j] HY.out HX.out)
              have HT1 := Lib.hid (fun W => text_to W E[j] HX.out)
              have HT2 := Lib.hid (fun W => text_to W E[k] HY.out)
              rw [HL1.out] at HC1
              rw [HL2.out] at HC2
              have hu := Try.underlying26
              have hi1 := hi_hv3 HX.out
              have hi2 := hi_hv3 HY.out
              have hk' : (k : Int) < m := by omega
              have hj' : (j : Int) < m := by omega
              have hjm : j < m := by omega
              have hwj : IntKind.i64.wrap (j : Int) = (j : Int) := IntWalk.i64_in _ (by omega)
              have hj0 : 0 ≤ (j : Int) := by omega
              have hk0 : 0 ≤ (k : Int) := by omega
              have hkb : (k : Int) ≤ 31 := by omega
              have BD := Lib.hid (below_dr2 HW.out)
              generalize tx E[j] = tj at *
              generalize tx E[k] = tk at *
              generalize E[j] = x at *
              generalize E[k] = y at *
              have hges : ∀ W : World, (binOp .geq 9 (.string ⟨tj.toArray⟩) (.string ⟨tk.toArray⟩)).run Try.prog W = .ok (.bool false) W := fun W => by
                exact rgeq_str tj tk HLT.out W
              clear hj hjE hkE HL1 HL2 HX HY
              go_wp2_with fail
              try simp only [List.append]
              refine wp_region_noPanic ?_
              refine wp_region_held_drew (S := (fun W => W.rangeAt g (j * 32) (us (nmb x)) ∧ W.rangeAt g (k * 32) (us (nmb y)))) (by kernel_rfl) ⟨r1, r2⟩ (fun hHeld => ?_)
              refine wpAnyH_take (i := 0) (v := ?_) (by simp only [List.getElem?_toArray, List.getElem?_cons_zero]; rfl) (by kernel_rfl) (by kernel_rfl) (by kernel_rfl) (fun _ _ _ h => h) (Or.inl ⟨by rfl, ?_⟩) (by assumption) ?_
              rotate_left
              · intro w hSw
                try dsimp only at hSw
                go_simp
                try with_reducible rfl
              try simp only [Act.put, List.setIfInBounds_toArray, List.set_cons_zero, List.set_cons_succ]
              refine wpAnyH_take (i := 1) (v := ?_) (by simp only [List.getElem?_toArray, List.getElem?_cons_succ, List.getElem?_cons_zero]; rfl) (by kernel_rfl) (by kernel_rfl) (by kernel_rfl) (fun _ _ _ h => h) (Or.inl ⟨by rfl, ?_⟩) (by assumption) ?_
              rotate_left
              · intro w hSw
                try dsimp only at hSw
                go_simp
                try with_reducible rfl
              try simp only [Act.put, List.setIfInBounds_toArray, List.set_cons_zero, List.set_cons_succ]
              refine wpAnyH_take (i := 2) (v := ?_) (by simp only [List.getElem?_toArray, List.getElem?_cons_succ, List.getElem?_cons_zero]; rfl) (by kernel_rfl) (by kernel_rfl) (by kernel_rfl) (fun _ _ _ h => h) (Or.inl ⟨by rfl, ?_⟩) (by assumption) ?_
              rotate_left
              · intro w hSw
                try dsimp only at hSw
                go_simp
                try with_reducible rfl
              try simp only [Act.put, List.setIfInBounds_toArray, List.set_cons_zero, List.set_cons_succ]
              refine wpAnyH_take (i := 3) (v := ?_) (by simp only [List.getElem?_toArray, List.getElem?_cons_succ, List.getElem?_cons_zero]; rfl) (by kernel_rfl) (by kernel_rfl) (by kernel_rfl) (fun _ _ _ h => h) (Or.inl ⟨by rfl, ?_⟩) (by assumption) ?_
              rotate_left
              · intro w hSw
                try dsimp only at hSw
                go_simp
                try with_reducible rfl
              try simp only [Act.put, List.setIfInBounds_toArray, List.set_cons_zero, List.set_cons_succ]
              refine wpAnyH_take (i := 4) (v := (.agg (hv x))) (by simp only [List.getElem?_toArray, List.getElem?_cons_succ, List.getElem?_cons_zero]; rfl) (by kernel_rfl) (by kernel_rfl) (by kernel_rfl) (fun _ _ _ h => h) (yieldsIf_load_mid (by rfl) _ _ rfl _ _ rfl _ _ (fun _ h => h.1) hu rfl hi1) (by assumption) ?_
              try simp only [Act.put, List.setIfInBounds_toArray, List.set_cons_zero, List.set_cons_succ]
              refine wpAnyH_take (i := 5) (v := ?_) (by simp only [List.getElem?_toArray, List.getElem?_cons_succ, List.getElem?_cons_zero]; rfl) (by kernel_rfl) (by kernel_rfl) (by kernel_rfl) (fun _ _ _ h => h) (Or.inl ⟨by rfl, ?_⟩) (by assumption) ?_
              rotate_left
              · intro w hSw
                try dsimp only at hSw
                go_simp
                try with_reducible rfl
              try simp only [Act.put, List.setIfInBounds_toArray, List.set_cons_zero, List.set_cons_succ]
              refine wpAnyH_take (i := 6) (v := ?_) (by simp only [List.getElem?_toArray, List.getElem?_cons_succ, List.getElem?_cons_zero]; rfl) (by kernel_rfl) (by kernel_rfl) (by kernel_rfl) (fun _ _ _ h => h) (Or.inl ⟨by rfl, ?_⟩) (by assumption) ?_
              rotate_left
              · intro w hSw
                try dsimp only at hSw
                go_simp
                try with_reducible rfl
              try simp only [Act.put, List.setIfInBounds_toArray, List.set_cons_zero, List.set_cons_succ]
              refine wpAnyH_take (i := 7) (v := ?_) (by simp only [List.getElem?_toArray, List.getElem?_cons_succ, List.getElem?_cons_zero]; rfl) (by kernel_rfl) (by kernel_rfl) (by kernel_rfl) (fun _ _ _ h => h) (Or.inl ⟨by rfl, ?_⟩) (by assumption) ?_
              rotate_left
              · intro w hSw
                try dsimp only at hSw
                go_simp
                try with_reducible rfl
              try simp only [Act.put, List.setIfInBounds_toArray, List.set_cons_zero, List.set_cons_succ]
              refine wpAnyH_take (i := 8) (v := (.agg (hv y))) (by simp only [List.getElem?_toArray, List.getElem?_cons_succ, List.getElem?_cons_zero]; rfl) (by kernel_rfl) (by kernel_rfl) (by kernel_rfl) (fun _ _ _ h => h) (yieldsIf_load_mid (by rfl) _ _ rfl _ _ rfl _ _ (fun _ h => h.2) hu rfl hi2) (by assumption) ?_
              try simp only [Act.put, List.setIfInBounds_toArray, List.set_cons_zero, List.set_cons_succ]
              refine wpAnyH_ready (rs := [9]) (by kernel_rfl) (by simp) ?_
              refine AllReadyH.cons (by simp only [List.getElem?_toArray, List.getElem?_cons_succ, List.getElem?_cons_zero]; rfl) (fun K hK => ?_) AllReadyH.nil
              go_simp
              refine (HC1.out _).mono ?_
              rintro e q1 ⟨rfl, b⟩
              have s1 := rtwo_kb (w := wr.drew) ⟨r1, r2⟩ b
              have D1 := Lib.hid (BD.out.trans (b.mono BD.out.size))
              clear b
              go_wp2_with fail
              refine hK.out _ _ s1 (fun hHeld => ?_)
              clear hK K
              try simp only [Act.put, List.setIfInBounds_toArray, List.set_cons_zero, List.set_cons_succ]
              refine wpAnyH_take (i := 10) (v := ?_) (by simp only [List.getElem?_toArray, List.getElem?_cons_succ, List.getElem?_cons_zero]; rfl) (by kernel_rfl) (by kernel_rfl) (by kernel_rfl) (fun _ _ _ h => h) (Or.inl ⟨by rfl, ?_⟩) (by assumption) ?_
              rotate_left
              · intro w hSw
                try dsimp only at hSw
                go_simp
                try with_reducible rfl
              try simp only [Act.put, List.setIfInBounds_toArray, List.set_cons_zero, List.set_cons_succ]
              refine wpAnyH_take (i := 11) (v := ?_) (by simp only [List.getElem?_toArray, List.getElem?_cons_succ, List.getElem?_cons_zero]; rfl) (by kernel_rfl) (by kernel_rfl) (by kernel_rfl) (fun _ _ _ h => h) (Or.inl ⟨by rfl, ?_⟩) (by assumption) ?_
              rotate_left
              · intro w hSw
                try dsimp only at hSw
                go_simp
                try with_reducible rfl
              try simp only [Act.put, List.setIfInBounds_toArray, List.set_cons_zero, List.set_cons_succ]
              refine wpAnyH_take (i := 12) (v := ?_) (by simp only [List.getElem?_toArray, List.getElem?_cons_succ, List.getElem?_cons_zero]; rfl) (by kernel_rfl) (by kernel_rfl) (by kernel_rfl) (fun _ _ _ h => h) (Or.inl ⟨by rfl, ?_⟩) (by assumption) ?_
              rotate_left
              · intro w hSw
                try dsimp only at hSw
                go_simp
                try with_reducible rfl
              try simp only [Act.put, List.setIfInBounds_toArray, List.set_cons_zero, List.set_cons_succ]
              refine wpAnyH_take (i := 13) (v := ?_) (by simp only [List.getElem?_toArray, List.getElem?_cons_succ, List.getElem?_cons_zero]; rfl) (by kernel_rfl) (by kernel_rfl) (by kernel_rfl) (fun _ _ _ h => h) (Or.inl ⟨by rfl, ?_⟩) (by assumption) ?_
              rotate_left
              · intro w hSw
                try dsimp only at hSw
                go_simp
                try with_reducible rfl
              try simp only [Act.put, List.setIfInBounds_toArray, List.set_cons_zero, List.set_cons_succ]
              refine wpAnyH_take (i := 14) (v := ?_) (by simp only [List.getElem?_toArray, List.getElem?_cons_succ, List.getElem?_cons_zero]; rfl) (by kernel_rfl) (by kernel_rfl) (by kernel_rfl) (fun _ _ _ h => h) (Or.inl ⟨by rfl, ?_⟩) (by assumption) ?_
              rotate_left
              · intro w hSw
                try dsimp only at hSw
                go_simp
                try with_reducible rfl
              try simp only [Act.put, List.setIfInBounds_toArray, List.set_cons_zero, List.set_cons_succ]
              refine wpAnyH_take (i := 15) (v := (.agg (hv y))) (by simp only [List.getElem?_toArray, List.getElem?_cons_succ, List.getElem?_cons_zero]; rfl) (by kernel_rfl) (by kernel_rfl) (by kernel_rfl) (fun _ _ _ h => h) (yieldsIf_load_mid (by rfl) _ _ rfl _ _ rfl _ _ (fun _ h => h.2) hu rfl hi2) (by assumption) ?_
              try simp only [Act.put, List.setIfInBounds_toArray, List.set_cons_zero, List.set_cons_succ]
              refine wpAnyH_take (i := 16) (v := ?_) (by simp only [List.getElem?_toArray, List.getElem?_cons_succ, List.getElem?_cons_zero]; rfl) (by kernel_rfl) (by kernel_rfl) (by kernel_rfl) (fun _ _ _ h => h) (Or.inl ⟨by rfl, ?_⟩) (by assumption) ?_
              rotate_left
              · intro w hSw
                try dsimp only at hSw
                go_simp
                try with_reducible rfl
              try simp only [Act.put, List.setIfInBounds_toArray, List.set_cons_zero, List.set_cons_succ]
              refine wpAnyH_take (i := 17) (v := ?_) (by simp only [List.getElem?_toArray, List.getElem?_cons_succ, List.getElem?_cons_zero]; rfl) (by kernel_rfl) (by kernel_rfl) (by kernel_rfl) (fun _ _ _ h => h) (Or.inl ⟨by rfl, ?_⟩) (by assumption) ?_
              rotate_left
              · intro w hSw
                try dsimp only at hSw
                go_simp
                try with_reducible rfl
              try simp only [Act.put, List.setIfInBounds_toArray, List.set_cons_zero, List.set_cons_succ]
              refine wpAnyH_take (i := 18) (v := ?_) (by simp only [List.getElem?_toArray, List.getElem?_cons_succ, List.getElem?_cons_zero]; rfl) (by kernel_rfl) (by kernel_rfl) (by kernel_rfl) (fun _ _ _ h => h) (Or.inl ⟨by rfl, ?_⟩) (by assumption) ?_
              rotate_left
              · intro w hSw
                try dsimp only at hSw
                go_simp
                try with_reducible rfl
              try simp only [Act.put, List.setIfInBounds_toArray, List.set_cons_zero, List.set_cons_succ]
              refine wpAnyH_take (i := 19) (v := ?_) (by simp only [List.getElem?_toArray, List.getElem?_cons_succ, List.getElem?_cons_zero]; rfl) (by kernel_rfl) (by kernel_rfl) (by kernel_rfl) (fun _ _ _ h => h) (Or.inl ⟨by rfl, ?_⟩) (by assumption) ?_
              rotate_left
              · intro w hSw
                try dsimp only at hSw
                go_simp
                try with_reducible rfl
              try simp only [Act.put, List.setIfInBounds_toArray, List.set_cons_zero, List.set_cons_succ]
              refine wpAnyH_take (i := 20) (v := (.agg (hv x))) (by simp only [List.getElem?_toArray, List.getElem?_cons_succ, List.getElem?_cons_zero]; rfl) (by kernel_rfl) (by kernel_rfl) (by kernel_rfl) (fun _ _ _ h => h) (yieldsIf_load_mid (by rfl) _ _ rfl _ _ rfl _ _ (fun _ h => h.1) hu rfl hi1) (by assumption) ?_
              try simp only [Act.put, List.setIfInBounds_toArray, List.set_cons_zero, List.set_cons_succ]
              refine wpAnyH_ready (rs := [21]) (by kernel_rfl) (by simp) ?_
              refine AllReadyH.cons (by simp only [List.getElem?_toArray, List.getElem?_cons_succ, List.getElem?_cons_zero]; rfl) (fun K hK => ?_) AllReadyH.nil
              go_simp
              refine (HC2.out _).mono ?_
              rintro e q2 ⟨rfl, b⟩
              have s2 := rtwo_kb (w := q1) s1 b
              have D2 := Lib.hid (D1.out.trans (b.mono D1.out.size))
              clear b
              go_wp2_with fail
              refine hK.out _ _ s2 (fun hHeld => ?_)
              clear hK K
              try simp only [Act.put, List.setIfInBounds_toArray, List.set_cons_zero, List.set_cons_succ]
              refine wpAnyH_take (i := 22) (v := ?_) (by simp only [List.getElem?_toArray, List.getElem?_cons_succ, List.getElem?_cons_zero]; rfl) (by kernel_rfl) (by kernel_rfl) (by kernel_rfl) (fun _ _ _ h => h) (Or.inl ⟨by rfl, ?_⟩) (by assumption) ?_
              rotate_left
              · intro w hSw
                try dsimp only at hSw
                go_simp
                try with_reducible rfl
              try simp only [Act.put, List.setIfInBounds_toArray, List.set_cons_zero, List.set_cons_succ]
              refine wpAnyH_take (i := 23) (v := ?_) (by simp only [List.getElem?_toArray, List.getElem?_cons_succ, List.getElem?_cons_zero]; rfl) (by kernel_rfl) (by kernel_rfl) (by kernel_rfl) (fun _ _ _ h => h) (Or.inl ⟨by rfl, ?_⟩) (by assumption) ?_
              rotate_left
              · intro w hSw
                try dsimp only at hSw
                go_simp
                try with_reducible rfl
              try simp only [Act.put, List.setIfInBounds_toArray, List.set_cons_zero, List.set_cons_succ]
              refine wpAnyH_take (i := 24) (v := ?_) (by simp only [List.getElem?_toArray, List.getElem?_cons_succ, List.getElem?_cons_zero]; rfl) (by kernel_rfl) (by kernel_rfl) (by kernel_rfl) (fun _ _ _ h => h) (Or.inl ⟨by rfl, ?_⟩) (by assumption) ?_
              rotate_left
              · intro w hSw
                try dsimp only at hSw
                go_simp
                try with_reducible rfl
              try simp only [Act.put, List.setIfInBounds_toArray, List.set_cons_zero, List.set_cons_succ]
              refine wpAnyH_take (i := 25) (v := ?_) (by simp only [List.getElem?_toArray, List.getElem?_cons_succ, List.getElem?_cons_zero]; rfl) (by kernel_rfl) (by kernel_rfl) (by kernel_rfl) (fun _ _ _ h => h) (Or.inl ⟨by rfl, ?_⟩) (by assumption) ?_
              rotate_left
              · intro w hSw
                try dsimp only at hSw
                go_simp
                try with_reducible rfl
              try simp only [Act.put, List.setIfInBounds_toArray, List.set_cons_zero, List.set_cons_succ]
              refine wpAnyH_take (i := 26) (v := ?_) (by simp only [List.getElem?_toArray, List.getElem?_cons_succ, List.getElem?_cons_zero]; rfl) (by kernel_rfl) (by kernel_rfl) (by kernel_rfl) (fun _ _ _ h => h) (Or.inl ⟨by rfl, ?_⟩) (by assumption) ?_
              rotate_left
              · intro w hSw
                try dsimp only at hSw
                go_simp
                try with_reducible rfl
              try simp only [Act.put, List.setIfInBounds_toArray, List.set_cons_zero, List.set_cons_succ]
              refine wpAnyH_take (i := 27) (v := ?_) (by simp only [List.getElem?_toArray, List.getElem?_cons_succ, List.getElem?_cons_zero]; rfl) (by kernel_rfl) (by kernel_rfl) (by kernel_rfl) (fun _ _ _ h => h) (Or.inl ⟨by rfl, ?_⟩) (by assumption) ?_
              rotate_left
              · intro w hSw
                try dsimp only at hSw
                go_simp
                try with_reducible rfl
              try simp only [Act.put, List.setIfInBounds_toArray, List.set_cons_zero, List.set_cons_succ]
              refine wpAnyH_take (i := 28) (v := (.agg (hv x))) (by simp only [List.getElem?_toArray, List.getElem?_cons_succ, List.getElem?_cons_zero]; rfl) (by kernel_rfl) (by kernel_rfl) (by kernel_rfl) (fun _ _ _ h => h) (yieldsIf_load_mid (by rfl) _ _ rfl _ _ rfl _ _ (fun _ h => h.1) hu rfl hi1) (by assumption) ?_
              try simp only [Act.put, List.setIfInBounds_toArray, List.set_cons_zero, List.set_cons_succ]
              refine wpAnyH_take (i := 30) (v := ?_) (by simp only [List.getElem?_toArray, List.getElem?_cons_succ, List.getElem?_cons_zero]; rfl) (by kernel_rfl) (by kernel_rfl) (by kernel_rfl) (fun _ _ _ h => h) (Or.inl ⟨by rfl, ?_⟩) (by assumption) ?_
              rotate_left
              · intro w hSw
                try dsimp only at hSw
                go_simp
                try with_reducible rfl
              try simp only [Act.put, List.setIfInBounds_toArray, List.set_cons_zero, List.set_cons_succ]
              refine wpAnyH_take (i := 31) (v := ?_) (by simp only [List.getElem?_toArray, List.getElem?_cons_succ, List.getElem?_cons_zero]; rfl) (by kernel_rfl) (by kernel_rfl) (by kernel_rfl) (fun _ _ _ h => h) (Or.inl ⟨by rfl, ?_⟩) (by assumption) ?_
              rotate_left
              · intro w hSw
                try dsimp only at hSw
                go_simp
                try with_reducible rfl
              try simp only [Act.put, List.setIfInBounds_toArray, List.set_cons_zero, List.set_cons_succ]
              refine wpAnyH_take (i := 32) (v := ?_) (by simp only [List.getElem?_toArray, List.getElem?_cons_succ, List.getElem?_cons_zero]; rfl) (by kernel_rfl) (by kernel_rfl) (by kernel_rfl) (fun _ _ _ h => h) (Or.inl ⟨by rfl, ?_⟩) (by assumption) ?_
              rotate_left
              · intro w hSw
                try dsimp only at hSw
                go_simp
                try with_reducible rfl
              try simp only [Act.put, List.setIfInBounds_toArray, List.set_cons_zero, List.set_cons_succ]
              refine wpAnyH_take (i := 33) (v := (.agg (hv y))) (by simp only [List.getElem?_toArray, List.getElem?_cons_succ, List.getElem?_cons_zero]; rfl) (by kernel_rfl) (by kernel_rfl) (by kernel_rfl) (fun _ _ _ h => h) (yieldsIf_load_mid (by rfl) _ _ rfl _ _ rfl _ _ (fun _ h => h.2) hu rfl hi2) (by assumption) ?_
              try simp only [Act.put, List.setIfInBounds_toArray, List.set_cons_zero, List.set_cons_succ]
              refine wpAnyH_ready (rs := [29]) (by kernel_rfl) (by simp) ?_
              refine AllReadyH.cons (by simp only [List.getElem?_toArray, List.getElem?_cons_succ, List.getElem?_cons_zero]; rfl) (fun K hK => ?_) AllReadyH.nil
              go_simp
              refine (HT1.out _).mono ?_
              rintro e q3 ⟨rfl, b⟩
              have s3 := rtwo_kb (w := q2) s2 b
              have D3 := Lib.hid (D2.out.trans (b.mono D2.out.size))
              clear b
              go_wp2_with fail
              refine hK.out _ _ s3 (fun hHeld => ?_)
              clear hK K
              try simp only [Act.put, List.setIfInBounds_toArray, List.set_cons_zero, List.set_cons_succ]
              refine wpAnyH_ready (rs := [34]) (by kernel_rfl) (by simp) ?_
              refine AllReadyH.cons (by simp only [List.getElem?_toArray, List.getElem?_cons_succ, List.getElem?_cons_zero]; rfl) (fun K hK => ?_) AllReadyH.nil
              go_simp
              refine (HT2.out _).mono ?_
              rintro e q4 ⟨rfl, b⟩
              have s4 := rtwo_kb (w := q3) s3 b
              have D4 := Lib.hid (D3.out.trans (b.mono D3.out.size))
              clear b
              go_wp2_with fail
              refine hK.out _ _ s4 (fun hHeld => ?_)
              clear hK K
              try simp only [Act.put, List.setIfInBounds_toArray, List.set_cons_zero, List.set_cons_succ]
              refine wpAnyH_take (i := 35) (v := ?_) (by simp only [List.getElem?_toArray, List.getElem?_cons_succ, List.getElem?_cons_zero]; rfl) (by kernel_rfl) (by kernel_rfl) (by kernel_rfl) (fun _ _ _ h => h) (Or.inl ⟨by rfl, ?_⟩) (by assumption) ?_
              rotate_left
              · intro w hSw
                try dsimp only at hSw
                go_simp
                try with_reducible rfl
              try simp only [Act.put, List.setIfInBounds_toArray, List.set_cons_zero, List.set_cons_succ]
              refine wpAnyH_take (i := 36) (v := ?_) (by simp only [List.getElem?_toArray, List.getElem?_cons_succ, List.getElem?_cons_zero]; rfl) (by kernel_rfl) (by kernel_rfl) (by kernel_rfl) (fun _ _ _ h => h) (Or.inl ⟨by rfl, ?_⟩) (by assumption) ?_
              rotate_left
              · intro w hSw
                try dsimp only at hSw
                go_simp
                try with_reducible rfl
              try simp only [Act.put, List.setIfInBounds_toArray, List.set_cons_zero, List.set_cons_succ]
              refine wpAnyH_done (by kernel_rfl) ?_ _
              refine NoPanic.normal ?_
              go_wp2_with fail
              refine ⟨⟨k + 1, by omega, by omega, by go_num, D4⟩, by simp [intOf]; omega⟩
            · have hk' : ¬ (k : Int) < m := by omega
              have hm0 : ¬ (m : Int) = 0 := by omega
              obtain ⟨r, hr⟩ : ∃ r : Nat, (r : Int) = cut % m := ⟨(cut % m).toNat, by have := Int.emod_nonneg cut hm0; omega⟩
              have hrm : r < m := by have := Int.emod_lt_of_pos cut (show (0:Int) < m by omega); omega
              have hrm' : (r : Int) < m := by omega
              have hr0 : 0 ≤ (r : Int) := by omega
              have hm1 : (0:Int) < m := by omega
              have hm2 : (m : Int) ≤ 4611686018427387904 := by omega
              have hrE : r < E.length := by rw [← HM.out]; exact hrm
              have hwr : IntKind.i64.wrap (r : Int) = (r : Int) := IntWalk.i64_in _ (by omega)
              have HP := Lib.hid (fun W => pick_to W cut m r hm1 hm2 hr.symm)
              have hl1 := hld_range (HE32.out.at hrE) (row_range HE32.out hrE HG1.out)
              have HT := Lib.hid (text_to wr E[r] (HE32.out.at hrE))
              obtain ⟨qq, hqq⟩ : ∃ qq, qq = wrap64 (cut.tdiv 30) % 65 := ⟨_, rfl⟩
              have hq0 : 0 ≤ qq := by omega
              have hq1 : qq < 65 := by omega
              have HQ := Lib.hid (fun W => pick_to W (wrap64 (cut.tdiv 30)) 65 qq (by decide) (by decide) hqq.symm)
              have HSM := Lib.hid (rk_some (q := qq.toNat) hrE)
              have htl : (tx E[r]).length = 64 := by rw [tx_length, HE32.out.at hrE]
              have hsl := rslice_str (tx E[r]) qq hq0 (by rw [htl]; omega)
              have hk64 : (⟨(tx E[r]).toArray⟩ : ByteArray).size = 64 := htl
              generalize tx E[r] = t at *
              generalize E[r] = er at *
              have HRU := Lib.hid (runs_hashes HE32.out HAS.out (t.take qq.toNat) HSM.out)
              clear hr hqq htl hrE HSM hlt
              go_wp2_with fail
              refine (HP.out _).mono ?_
              rintro e w' ⟨rfl, rfl⟩
              go_wp2_with fail
              refine HT.out.mono ?_
              rintro e w9 ⟨rfl, b9⟩
              have B9 := Lib.hid (HW.out.trans (b9.mono HW.out.size))
              have HG2 := Lib.hid (rrow_kb HG1.out b9)
              clear b9
              go_wp2_with fail
              refine (HQ.out _).mono ?_
              rintro e w' ⟨rfl, rfl⟩
              go_wp2_with fail
              generalize t.take qq.toNat = p at *
              rw [← HM.out] at HRU
              clear HG1 HW HG hl1 hsl hk64 HP HT HQ
              go_loopw [9, 10] (fun r i wr => ∃ (k : Nat), k ≤ m ∧ i = .int .i64 k ∧ r = .int .i64 (runs (bgn E p) k : Nat) ∧ Hid (Below w9.heap.size w9 wr)) (fun _ i _ => m - (intOf i).toNat)
              case atStart => exact ⟨0, Nat.zero_le _, rfl, rfl, Lib.hid (Below.refl _ _)⟩
              case round =>
                rename_i kold
                obtain ⟨k, hk, rfl, rfl, HW⟩ := hrel
                have HG3 := Lib.hid (rrow_kb HG2.out HW.out)
                by_cases hlt : k < m
                · have hkE : k < E.length := by rw [← HM.out]; exact hlt
                  have hk' : (k : Int) < m := by omega
                  have hk0' : 0 ≤ (k : Int) := by omega
                  have hl1 := hld_range (HE32.out.at hkE) (row_range HE32.out hkE HG3.out)
                  have HB1 := Lib.hid (fun W => begins_to W E[k] p (HE32.out.at hkE))
                  rw [← bgn_at hkE] at HB1
                  have HRS : Hid (runs (bgn E p) (k + 1) = runs (bgn E p) k + if bgn E p k && (decide (k = 0) || !bgn E p (k - 1)) then 1 else 0) := Lib.hid rfl
                  have hrl : runs (bgn E p) k ≤ 30 := Nat.le_trans (runs_le _ k) (by omega)
                  generalize hR : runs (bgn E p) k = rr at *
                  generalize hR1 : runs (bgn E p) (k + 1) = rr1 at *
                  generalize E[k] = ek at *
                  cases hbk : bgn E p k with
                  | false =>
                    rw [hbk] at HB1 HRS
                    go_wp2_with (refine (HB1.out _).mono ?_; rintro e wa ⟨rfl, ba⟩; have BA := Lib.hid (HW.out.trans (ba.mono HW.out.size)); clear ba)
                    refine ⟨⟨k + 1, by omega, by go_num, ?_, BA⟩, by simp [intOf]; omega⟩
                    rw [hR1, HRS.out]; rfl
                  | true =>
                    rw [hbk] at HB1 HRS
                    by_cases hk0 : k = 0
                    · have hk0'' : (k : Int) = 0 := by omega
                      rw [hk0, Nat.zero_mul] at hl1
                      go_wp2_with (refine (HB1.out _).mono ?_; rintro e wa ⟨rfl, ba⟩; have BA := Lib.hid (HW.out.trans (ba.mono HW.out.size)); clear ba)
                      refine ⟨⟨k + 1, by omega, by go_num, ?_, BA⟩, by simp [intOf]; omega⟩
                      rw [hR1, HRS.out]; simp [hk0]
                    · obtain ⟨j, hj⟩ : ∃ j, k = j + 1 := ⟨k - 1, by omega⟩
                      have hk0'' : ¬ (k : Int) = 0 := by omega
                      have hkj : (k : Int) - 1 = (j : Int) := by omega
                      have hkj' : k - 1 = j := by omega
                      have hj' : (j : Int) < m := by omega
                      have hjm : j < m := by omega
                      have hj0 : 0 ≤ (j : Int) := by omega
                      have hwj : IntKind.i64.wrap (j : Int) = (j : Int) := IntWalk.i64_in _ (by omega)
                      have hjE : j < E.length := by rw [← HM.out]; exact hjm
                      have HB2 := Lib.hid (fun W => begins_to W E[j] p (HE32.out.at hjE))
                      rw [← bgn_at hjE] at HB2
                      rw [hkj'] at HRS
                      have HEJ := Lib.hid (HE32.out.at hjE)
                      have HRJ := Lib.hid (fun (W : World) (h : W.heap[g]? = some (.cells (fl E ++ R).toArray 26 (0, 0))) => row_range HE32.out hjE h)
                      generalize E[j] = ej at *
                      clear hj
                      generalize bgn E p j = bj at *
                      cases bj
                      all_goals
                        go_wp2_with (first
                          | (refine (HB2.out _).mono ?_; rintro e wb ⟨rfl, bb⟩; have BB := Lib.hid (BA.out.trans (bb.mono BA.out.size)); clear bb)
                          | (refine (HB1.out _).mono ?_; rintro e wa ⟨rfl, ba⟩; have BA := Lib.hid (HW.out.trans (ba.mono HW.out.size)); have hl2 := hld_range HEJ.out (HRJ.out wa (rrow_kb HG3.out ba)); clear ba))
                        refine ⟨⟨k + 1, by omega, by go_num, ?_, BB⟩, by simp [intOf]; omega⟩
                        rw [hR1, HRS.out]; simp [hk0]
                · obtain rfl : k = m := by omega
                  have hk' : ¬ (k : Int) < k := by omega
                  rw [HRU.out]
                  go_wp2_with fail
                  go_ret
                  exact ⟨rfl, B8.out.trans ((B9.out.trans (HW.out.mono B9.out.size)).mono B8.out.size)⟩
      · have hk' : ¬ (k : Int) < n := by omega
        clear hlt
        have HRS := Lib.hid (rsort_self HAS.out)
        have HS := Lib.hid (sort_to wr u5 E HE32.out (rk_fits HLE.out (Nat.le_refl _)).2.2.1 (HSeen.own HE0.out))
        go_wp2_with (first
          | (go_at_call 9; refine (known_to _).mono ?_; rintro e w' ⟨rfl, rfl⟩)
          | (go_at_call 7; refine HS.out.mono ?_; rintro e w7 ⟨v7, rfl, o7, b7⟩; rw [HRS.out] at o7; have O7 := Lib.hid o7; have O8 := Lib.hid (hown_kb HE0.out b7); have B7 := Lib.hid (HB0.out.trans (b7.mono HB0.out.size)); clear o7 b7)
          | (go_at_call 10; refine (same_any w7 _ _ v7 u5 E HE32.out O7.out O8.out (rk_fits HLE.out (Nat.le_refl _)).2.2.2).mono ?_; rintro e w' ⟨rfl, q, rfl⟩))
        generalize hw8 : w7.drewN q = w8
        have O8' : Hid (HOwn w8 w.heap.size u5 E) := Lib.hid (by rw [← hw8]; exact O8.out)
        have B8 : Hid (Below w.heap.size w w8) := Lib.hid (by rw [← hw8]; exact below_drn B7.out)
        clear hw8 O7 O8 B7 HE0 HB0 HS HRS
        by_cases hE0 : E.length = 0
        · obtain ⟨p, cap, rfl⟩ := own_shape O8'.out
          rw [hE0]
          clear hE0 O8' HE32 HAS HLE
          refine wp_loop_rounds 1 ?_
          rw [rounds_succ]
          go_wp2_with fail
          go_ret
          exact ⟨rfl, B8.out⟩
        · obtain ⟨g, cap, R, rfl, hb, hg, hc, hm, hR⟩ := O8'.out.row (by omega)
          have HG := Lib.hid hg
          obtain ⟨m, hm⟩ : ∃ m, m = E.length := ⟨_, rfl⟩
          have HM := Lib.hid hm
          rw [← hm] at hc hE0 ⊢
          have hm30 : m ≤ 30 := by rw [hm]; exact HLE.out
          clear hg hb hR hm O8'
          go_loopw [7] (fun i wr => ∃ (k : Nat), 1 ≤ k ∧ k ≤ 31 ∧ i = .int .i64 k ∧ Hid (Below w8.heap.size w8 wr)) (fun i _ => m - (intOf i).toNat)
          case atStart => exact ⟨1, Nat.le_refl _, by omega, rfl, Lib.hid (Below.refl _ _)⟩
          case round =>
            obtain ⟨k, hk1, hk31, rfl, HW⟩ := hrel
            have HG1 := Lib.hid (rrow_kb HG.out HW.out)
            by_cases hlt : k < m
            · obtain ⟨j, hj⟩ : ∃ j, k = j + 1 := ⟨k - 1, by omega⟩
              have hkj : (k : Int) - 1 = (j : Int) := by omega
              have hkE : k < E.length := by rw [← HM.out]; exact hlt
              have hjE : j < E.length := by omega
              have HL1 := Lib.hid (asc_lt HAS.out (i := j) (j := k) (by omega) hkE)
              have HLT : Hid (Op.bytesLess (tx E[j]) (tx E[k]) = true) := Lib.hid (by rw [tx_less _ _ (by rw [HE32.out.at hjE, HE32.out.at hkE])]; exact HL1.out)
              have HL2 := Lib.hid (less_asymm HL1.out)
              have r1 := row_range HE32.out hjE HG1.out
              have r2 := row_range HE32.out hkE HG1.out
              have HX := Lib.hid (HE32.out.at hjE)
              have HY := Lib.hid (HE32.out.at hkE)
              have HC1 := Lib.hid (fun W => less_to W E[j] E[k] HX.out HY.out)
              have HC2 := Lib.hid (fun W => less_to W E[k] E[j] HY.out HX.out)
              have HT1 := Lib.hid (fun W => text_to W E[j] HX.out)
              have HT2 := Lib.hid (fun W => text_to W E[k] HY.out)
              rw [HL1.out] at HC1
              rw [HL2.out] at HC2
              have hu := Try.underlying26
              have hi1 := hi_hv3 HX.out
              have hi2 := hi_hv3 HY.out
              have hk' : (k : Int) < m := by omega
              have hj' : (j : Int) < m := by omega
              have hjm : j < m := by omega
              have hwj : IntKind.i64.wrap (j : Int) = (j : Int) := IntWalk.i64_in _ (by omega)
              have hj0 : 0 ≤ (j : Int) := by omega
              have hk0 : 0 ≤ (k : Int) := by omega
              have hkb : (k : Int) ≤ 31 := by omega
              have BD := Lib.hid (below_dr2 HW.out)
              generalize tx E[j] = tj at *
              generalize tx E[k] = tk at *
              generalize E[j] = x at *
              generalize E[k] = y at *
              have hges : ∀ W : World, (binOp .geq 9 (.string ⟨tj.toArray⟩) (.string ⟨tk.toArray⟩)).run Try.prog W = .ok (.bool false) W := fun W => by
                exact rgeq_str tj tk HLT.out W
              clear hj hjE hkE HL1 HL2 HX HY
              go_wp2_with fail
              try simp only [List.append]
              refine wp_region_noPanic ?_
              refine wp_region_held_drew (S := (fun W => W.rangeAt g (j * 32) (us (nmb x)) ∧ W.rangeAt g (k * 32) (us (nmb y)))) (by kernel_rfl) ⟨r1, r2⟩ (fun hHeld => ?_)
              refine wpAnyH_take (i := 0) (v := ?_) (by simp only [List.getElem?_toArray, List.getElem?_cons_zero]; rfl) (by kernel_rfl) (by kernel_rfl) (by kernel_rfl) (fun _ _ _ h => h) (Or.inl ⟨by rfl, ?_⟩) (by assumption) ?_
              rotate_left
              · intro w hSw
                try dsimp only at hSw
                go_simp
                try with_reducible rfl
              try simp only [Act.put, List.setIfInBounds_toArray, List.set_cons_zero, List.set_cons_succ]
              refine wpAnyH_take (i := 1) (v := ?_) (by simp only [List.getElem?_toArray, List.getElem?_cons_succ, List.getElem?_cons_zero]; rfl) (by kernel_rfl) (by kernel_rfl) (by kernel_rfl) (fun _ _ _ h => h) (Or.inl ⟨by rfl, ?_⟩) (by assumption) ?_
              rotate_left
              · intro w hSw
                try dsimp only at hSw
                go_simp
                try with_reducible rfl
              try simp only [Act.put, List.setIfInBounds_toArray, List.set_cons_zero, List.set_cons_succ]
              refine wpAnyH_take (i := 2) (v := ?_) (by simp only [List.getElem?_toArray, List.getElem?_cons_succ, List.getElem?_cons_zero]; rfl) (by kernel_rfl) (by kernel_rfl) (by kernel_rfl) (fun _ _ _ h => h) (Or.inl ⟨by rfl, ?_⟩) (by assumption) ?_
              rotate_left
              · intro w hSw
                try dsimp only at hSw
                go_simp
                try with_reducible rfl
              try simp only [Act.put, List.setIfInBounds_toArray, List.set_cons_zero, List.set_cons_succ]
              refine wpAnyH_take (i := 3) (v := ?_) (by simp only [List.getElem?_toArray, List.getElem?_cons_succ, List.getElem?_cons_zero]; rfl) (by kernel_rfl) (by kernel_rfl) (by kernel_rfl) (fun _ _ _ h => h) (Or.inl ⟨by rfl, ?_⟩) (by assumption) ?_
              rotate_left
              · intro w hSw
                try dsimp only at hSw
                go_simp
                try with_reducible rfl
              try simp only [Act.put, List.setIfInBounds_toArray, List.set_cons_zero, List.set_cons_succ]
              refine wpAnyH_take (i := 4) (v := (.agg (hv x))) (by simp only [List.getElem?_toArray, List.getElem?_cons_succ, List.getElem?_cons_zero]; rfl) (by kernel_rfl) (by kernel_rfl) (by kernel_rfl) (fun _ _ _ h => h) (yieldsIf_load_mid (by rfl) _ _ rfl _ _ rfl _ _ (fun _ h => h.1) hu rfl hi1) (by assumption) ?_
              try simp only [Act.put, List.setIfInBounds_toArray, List.set_cons_zero, List.set_cons_succ]
              refine wpAnyH_take (i := 5) (v := ?_) (by simp only [List.getElem?_toArray, List.getElem?_cons_succ, List.getElem?_cons_zero]; rfl) (by kernel_rfl) (by kernel_rfl) (by kernel_rfl) (fun _ _ _ h => h) (Or.inl ⟨by rfl, ?_⟩) (by assumption) ?_
              rotate_left
              · intro w hSw
                try dsimp only at hSw
                go_simp
                try with_reducible rfl
              try simp only [Act.put, List.setIfInBounds_toArray, List.set_cons_zero, List.set_cons_succ]
              refine wpAnyH_take (i := 6) (v := ?_) (by simp only [List.getElem?_toArray, List.getElem?_cons_succ, List.getElem?_cons_zero]; rfl) (by kernel_rfl) (by kernel_rfl) (by kernel_rfl) (fun _ _ _ h => h) (Or.inl ⟨by rfl, ?_⟩) (by assumption) ?_
              rotate_left
              · intro w hSw
                try dsimp only at hSw
                go_simp
                try with_reducible rfl
              try simp only [Act.put, List.setIfInBounds_toArray, List.set_cons_zero, List.set_cons_succ]
              refine wpAnyH_take (i := 7) (v := ?_) (by simp only [List.getElem?_toArray, List.getElem?_cons_succ, List.getElem?_cons_zero]; rfl) (by kernel_rfl) (by kernel_rfl) (by kernel_rfl) (fun _ _ _ h => h) (Or.inl ⟨by rfl, ?_⟩) (by assumption) ?_
              rotate_left
              · intro w hSw
                try dsimp only at hSw
                go_simp
                try with_reducible rfl
              try simp only [Act.put, List.setIfInBounds_toArray, List.set_cons_zero, List.set_cons_succ]
              refine wpAnyH_take (i := 8) (v := (.agg (hv y))) (by simp only [List.getElem?_toArray, List.getElem?_cons_succ, List.getElem?_cons_zero]; rfl) (by kernel_rfl) (by kernel_rfl) (by kernel_rfl) (fun _ _ _ h => h) (yieldsIf_load_mid (by rfl) _ _ rfl _ _ rfl _ _ (fun _ h => h.2) hu rfl hi2) (by assumption) ?_
              try simp only [Act.put, List.setIfInBounds_toArray, List.set_cons_zero, List.set_cons_succ]
              refine wpAnyH_ready (rs := [9]) (by kernel_rfl) (by simp) ?_
              refine AllReadyH.cons (by simp only [List.getElem?_toArray, List.getElem?_cons_succ, List.getElem?_cons_zero]; rfl) (fun K hK => ?_) AllReadyH.nil
              go_simp
              refine (HC1.out _).mono ?_
              rintro e q1 ⟨rfl, b⟩
              have s1 := rtwo_kb (w := wr.drew) ⟨r1, r2⟩ b
              have D1 := Lib.hid (BD.out.trans (b.mono BD.out.size))
              clear b
              go_wp2_with fail
              refine hK.out _ _ s1 (fun hHeld => ?_)
              clear hK K
              try simp only [Act.put, List.setIfInBounds_toArray, List.set_cons_zero, List.set_cons_succ]
              refine wpAnyH_take (i := 10) (v := ?_) (by simp only [List.getElem?_toArray, List.getElem?_cons_succ, List.getElem?_cons_zero]; rfl) (by kernel_rfl) (by kernel_rfl) (by kernel_rfl) (fun _ _ _ h => h) (Or.inl ⟨by rfl, ?_⟩) (by assumption) ?_
              rotate_left
              · intro w hSw
                try dsimp only at hSw
                go_simp
                try with_reducible rfl
              try simp only [Act.put, List.setIfInBounds_toArray, List.set_cons_zero, List.set_cons_succ]
              refine wpAnyH_take (i := 11) (v := ?_) (by simp only [List.getElem?_toArray, List.getElem?_cons_succ, List.getElem?_cons_zero]; rfl) (by kernel_rfl) (by kernel_rfl) (by kernel_rfl) (fun _ _ _ h => h) (Or.inl ⟨by rfl, ?_⟩) (by assumption) ?_
              rotate_left
              · intro w hSw
                try dsimp only at hSw
                go_simp
                try with_reducible rfl
              try simp only [Act.put, List.setIfInBounds_toArray, List.set_cons_zero, List.set_cons_succ]
              refine wpAnyH_take (i := 12) (v := ?_) (by simp only [List.getElem?_toArray, List.getElem?_cons_succ, List.getElem?_cons_zero]; rfl) (by kernel_rfl) (by kernel_rfl) (by kernel_rfl) (fun _ _ _ h => h) (Or.inl ⟨by rfl, ?_⟩) (by assumption) ?_
              rotate_left
              · intro w hSw
                try dsimp only at hSw
                go_simp
                try with_reducible rfl
              try simp only [Act.put, List.setIfInBounds_toArray, List.set_cons_zero, List.set_cons_succ]
              refine wpAnyH_take (i := 13) (v := ?_) (by simp only [List.getElem?_toArray, List.getElem?_cons_succ, List.getElem?_cons_zero]; rfl) (by kernel_rfl) (by kernel_rfl) (by kernel_rfl) (fun _ _ _ h => h) (Or.inl ⟨by rfl, ?_⟩) (by assumption) ?_
              rotate_left
              · intro w hSw
                try dsimp only at hSw
                go_simp
                try with_reducible rfl
              try simp only [Act.put, List.setIfInBounds_toArray, List.set_cons_zero, List.set_cons_succ]
              refine wpAnyH_take (i := 14) (v := ?_) (by simp only [List.getElem?_toArray, List.getElem?_cons_succ, List.getElem?_cons_zero]; rfl) (by kernel_rfl) (by kernel_rfl) (by kernel_rfl) (fun _ _ _ h => h) (Or.inl ⟨by rfl, ?_⟩) (by assumption) ?_
              rotate_left
              · intro w hSw
                try dsimp only at hSw
                go_simp
                try with_reducible rfl
              try simp only [Act.put, List.setIfInBounds_toArray, List.set_cons_zero, List.set_cons_succ]
              refine wpAnyH_take (i := 15) (v := (.agg (hv y))) (by simp only [List.getElem?_toArray, List.getElem?_cons_succ, List.getElem?_cons_zero]; rfl) (by kernel_rfl) (by kernel_rfl) (by kernel_rfl) (fun _ _ _ h => h) (yieldsIf_load_mid (by rfl) _ _ rfl _ _ rfl _ _ (fun _ h => h.2) hu rfl hi2) (by assumption) ?_
              try simp only [Act.put, List.setIfInBounds_toArray, List.set_cons_zero, List.set_cons_succ]
              refine wpAnyH_take (i := 16) (v := ?_) (by simp only [List.getElem?_toArray, List.getElem?_cons_succ, List.getElem?_cons_zero]; rfl) (by kernel_rfl) (by kernel_rfl) (by kernel_rfl) (fun _ _ _ h => h) (Or.inl ⟨by rfl, ?_⟩) (by assumption) ?_
              rotate_left
              · intro w hSw
                try dsimp only at hSw
                go_simp
                try with_reducible rfl
              try simp only [Act.put, List.setIfInBounds_toArray, List.set_cons_zero, List.set_cons_succ]
              refine wpAnyH_take (i := 17) (v := ?_) (by simp only [List.getElem?_toArray, List.getElem?_cons_succ, List.getElem?_cons_zero]; rfl) (by kernel_rfl) (by kernel_rfl) (by kernel_rfl) (fun _ _ _ h => h) (Or.inl ⟨by rfl, ?_⟩) (by assumption) ?_
              rotate_left
              · intro w hSw
                try dsimp only at hSw
                go_simp
                try with_reducible rfl
              try simp only [Act.put, List.setIfInBounds_toArray, List.set_cons_zero, List.set_cons_succ]
              refine wpAnyH_take (i := 18) (v := ?_) (by simp only [List.getElem?_toArray, List.getElem?_cons_succ, List.getElem?_cons_zero]; rfl) (by kernel_rfl) (by kernel_rfl) (by kernel_rfl) (fun _ _ _ h => h) (Or.inl ⟨by rfl, ?_⟩) (by assumption) ?_
              rotate_left
              · intro w hSw
                try dsimp only at hSw
                go_simp
                try with_reducible rfl
              try simp only [Act.put, List.setIfInBounds_toArray, List.set_cons_zero, List.set_cons_succ]
              refine wpAnyH_take (i := 19) (v := ?_) (by simp only [List.getElem?_toArray, List.getElem?_cons_succ, List.getElem?_cons_zero]; rfl) (by kernel_rfl) (by kernel_rfl) (by kernel_rfl) (fun _ _ _ h => h) (Or.inl ⟨by rfl, ?_⟩) (by assumption) ?_
              rotate_left
              · intro w hSw
                try dsimp only at hSw
                go_simp
                try with_reducible rfl
              try simp only [Act.put, List.setIfInBounds_toArray, List.set_cons_zero, List.set_cons_succ]
              refine wpAnyH_take (i := 20) (v := (.agg (hv x))) (by simp only [List.getElem?_toArray, List.getElem?_cons_succ, List.getElem?_cons_zero]; rfl) (by kernel_rfl) (by kernel_rfl) (by kernel_rfl) (fun _ _ _ h => h) (yieldsIf_load_mid (by rfl) _ _ rfl _ _ rfl _ _ (fun _ h => h.1) hu rfl hi1) (by assumption) ?_
              try simp only [Act.put, List.setIfInBounds_toArray, List.set_cons_zero, List.set_cons_succ]
              refine wpAnyH_ready (rs := [21]) (by kernel_rfl) (by simp) ?_
              refine AllReadyH.cons (by simp only [List.getElem?_toArray, List.getElem?_cons_succ, List.getElem?_cons_zero]; rfl) (fun K hK => ?_) AllReadyH.nil
              go_simp
              refine (HC2.out _).mono ?_
              rintro e q2 ⟨rfl, b⟩
              have s2 := rtwo_kb (w := q1) s1 b
              have D2 := Lib.hid (D1.out.trans (b.mono D1.out.size))
              clear b
              go_wp2_with fail
              refine hK.out _ _ s2 (fun hHeld => ?_)
              clear hK K
              try simp only [Act.put, List.setIfInBounds_toArray, List.set_cons_zero, List.set_cons_succ]
              refine wpAnyH_take (i := 22) (v := ?_) (by simp only [List.getElem?_toArray, List.getElem?_cons_succ, List.getElem?_cons_zero]; rfl) (by kernel_rfl) (by kernel_rfl) (by kernel_rfl) (fun _ _ _ h => h) (Or.inl ⟨by rfl, ?_⟩) (by assumption) ?_
              rotate_left
              · intro w hSw
                try dsimp only at hSw
                go_simp
                try with_reducible rfl
              try simp only [Act.put, List.setIfInBounds_toArray, List.set_cons_zero, List.set_cons_succ]
              refine wpAnyH_take (i := 23) (v := ?_) (by simp only [List.getElem?_toArray, List.getElem?_cons_succ, List.getElem?_cons_zero]; rfl) (by kernel_rfl) (by kernel_rfl) (by kernel_rfl) (fun _ _ _ h => h) (Or.inl ⟨by rfl, ?_⟩) (by assumption) ?_
              rotate_left
              · intro w hSw
                try dsimp only at hSw
                go_simp
                try with_reducible rfl
              try simp only [Act.put, List.setIfInBounds_toArray, List.set_cons_zero, List.set_cons_succ]
              refine wpAnyH_take (i := 24) (v := ?_) (by simp only [List.getElem?_toArray, List.getElem?_cons_succ, List.getElem?_cons_zero]; rfl) (by kernel_rfl) (by kernel_rfl) (by kernel_rfl) (fun _ _ _ h => h) (Or.inl ⟨by rfl, ?_⟩) (by assumption) ?_
              rotate_left
              · intro w hSw
                try dsimp only at hSw
                go_simp
                try with_reducible rfl
              try simp only [Act.put, List.setIfInBounds_toArray, List.set_cons_zero, List.set_cons_succ]
              refine wpAnyH_take (i := 25) (v := ?_) (by simp only [List.getElem?_toArray, List.getElem?_cons_succ, List.getElem?_cons_zero]; rfl) (by kernel_rfl) (by kernel_rfl) (by kernel_rfl) (fun _ _ _ h => h) (Or.inl ⟨by rfl, ?_⟩) (by assumption) ?_
              rotate_left
              · intro w hSw
                try dsimp only at hSw
                go_simp
                try with_reducible rfl
              try simp only [Act.put, List.setIfInBounds_toArray, List.set_cons_zero, List.set_cons_succ]
              refine wpAnyH_take (i := 26) (v := ?_) (by simp only [List.getElem?_toArray, List.getElem?_cons_succ, List.getElem?_cons_zero]; rfl) (by kernel_rfl) (by kernel_rfl) (by kernel_rfl) (fun _ _ _ h => h) (Or.inl ⟨by rfl, ?_⟩) (by assumption) ?_
              rotate_left
              · intro w hSw
                try dsimp only at hSw
                go_simp
                try with_reducible rfl
              try simp only [Act.put, List.setIfInBounds_toArray, List.set_cons_zero, List.set_cons_succ]
              refine wpAnyH_take (i := 27) (v := ?_) (by simp only [List.getElem?_toArray, List.getElem?_cons_succ, List.getElem?_cons_zero]; rfl) (by kernel_rfl) (by kernel_rfl) (by kernel_rfl) (fun _ _ _ h => h) (Or.inl ⟨by rfl, ?_⟩) (by assumption) ?_
              rotate_left
              · intro w hSw
                try dsimp only at hSw
                go_simp
                try with_reducible rfl
              try simp only [Act.put, List.setIfInBounds_toArray, List.set_cons_zero, List.set_cons_succ]
              refine wpAnyH_take (i := 28) (v := (.agg (hv x))) (by simp only [List.getElem?_toArray, List.getElem?_cons_succ, List.getElem?_cons_zero]; rfl) (by kernel_rfl) (by kernel_rfl) (by kernel_rfl) (fun _ _ _ h => h) (yieldsIf_load_mid (by rfl) _ _ rfl _ _ rfl _ _ (fun _ h => h.1) hu rfl hi1) (by assumption) ?_
              try simp only [Act.put, List.setIfInBounds_toArray, List.set_cons_zero, List.set_cons_succ]
              refine wpAnyH_take (i := 30) (v := ?_) (by simp only [List.getElem?_toArray, List.getElem?_cons_succ, List.getElem?_cons_zero]; rfl) (by kernel_rfl) (by kernel_rfl) (by kernel_rfl) (fun _ _ _ h => h) (Or.inl ⟨by rfl, ?_⟩) (by assumption) ?_
              rotate_left
              · intro w hSw
                try dsimp only at hSw
                go_simp
                try with_reducible rfl
              try simp only [Act.put, List.setIfInBounds_toArray, List.set_cons_zero, List.set_cons_succ]
              refine wpAnyH_take (i := 31) (v := ?_) (by simp only [List.getElem?_toArray, List.getElem?_cons_succ, List.getElem?_cons_zero]; rfl) (by kernel_rfl) (by kernel_rfl) (by kernel_rfl) (fun _ _ _ h => h) (Or.inl ⟨by rfl, ?_⟩) (by assumption) ?_
              rotate_left
              · intro w hSw
                try dsimp only at hSw
                go_simp
                try with_reducible rfl
              try simp only [Act.put, List.setIfInBounds_toArray, List.set_cons_zero, List.set_cons_succ]
              refine wpAnyH_take (i := 32) (v := ?_) (by simp only [List.getElem?_toArray, List.getElem?_cons_succ, List.getElem?_cons_zero]; rfl) (by kernel_rfl) (by kernel_rfl) (by kernel_rfl) (fun _ _ _ h => h) (Or.inl ⟨by rfl, ?_⟩) (by assumption) ?_
              rotate_left
              · intro w hSw
                try dsimp only at hSw
                go_simp
                try with_reducible rfl
              try simp only [Act.put, List.setIfInBounds_toArray, List.set_cons_zero, List.set_cons_succ]
              refine wpAnyH_take (i := 33) (v := (.agg (hv y))) (by simp only [List.getElem?_toArray, List.getElem?_cons_succ, List.getElem?_cons_zero]; rfl) (by kernel_rfl) (by kernel_rfl) (by kernel_rfl) (fun _ _ _ h => h) (yieldsIf_load_mid (by rfl) _ _ rfl _ _ rfl _ _ (fun _ h => h.2) hu rfl hi2) (by assumption) ?_
              try simp only [Act.put, List.setIfInBounds_toArray, List.set_cons_zero, List.set_cons_succ]
              refine wpAnyH_ready (rs := [29]) (by kernel_rfl) (by simp) ?_
              refine AllReadyH.cons (by simp only [List.getElem?_toArray, List.getElem?_cons_succ, List.getElem?_cons_zero]; rfl) (fun K hK => ?_) AllReadyH.nil
              go_simp
              refine (HT1.out _).mono ?_
              rintro e q3 ⟨rfl, b⟩
              have s3 := rtwo_kb (w := q2) s2 b
              have D3 := Lib.hid (D2.out.trans (b.mono D2.out.size))
              clear b
              go_wp2_with fail
              refine hK.out _ _ s3 (fun hHeld => ?_)
              clear hK K
              try simp only [Act.put, List.setIfInBounds_toArray, List.set_cons_zero, List.set_cons_succ]
              refine wpAnyH_ready (rs := [34]) (by kernel_rfl) (by simp) ?_
              refine AllReadyH.cons (by simp only [List.getElem?_toArray, List.getElem?_cons_succ, List.getElem?_cons_zero]; rfl) (fun K hK => ?_) AllReadyH.nil
              go_simp
              refine (HT2.out _).mono ?_
              rintro e q4 ⟨rfl, b⟩
              have s4 := rtwo_kb (w := q3) s3 b
              have D4 := Lib.hid (D3.out.trans (b.mono D3.out.size))
              clear b
              go_wp2_with fail
              refine hK.out _ _ s4 (fun hHeld => ?_)
              clear hK K
              try simp only [Act.put, List.setIfInBounds_toArray, List.set_cons_zero, List.set_cons_succ]
              refine wpAnyH_take (i := 35) (v := ?_) (by simp only [List.getElem?_toArray, List.getElem?_cons_succ, List.getElem?_cons_zero]; rfl) (by kernel_rfl) (by kernel_rfl) (by kernel_rfl) (fun _ _ _ h => h) (Or.inl ⟨by rfl, ?_⟩) (by assumption) ?_
              rotate_left
              · intro w hSw
                try dsimp only at hSw
                go_simp
                try with_reducible rfl
              try simp only [Act.put, List.setIfInBounds_toArray, List.set_cons_zero, List.set_cons_succ]
              refine wpAnyH_take (i := 36) (v := ?_) (by simp only [List.getElem?_toArray, List.getElem?_cons_succ, List.getElem?_cons_zero]; rfl) (by kernel_rfl) (by kernel_rfl) (by kernel_rfl) (fun _ _ _ h => h) (Or.inl ⟨by rfl, ?_⟩) (by assumption) ?_
              rotate_left
              · intro w hSw
                try dsimp only at hSw
                go_simp
                try with_reducible rfl
              try simp only [Act.put, List.setIfInBounds_toArray, List.set_cons_zero, List.set_cons_succ]
              refine wpAnyH_done (by kernel_rfl) ?_ _
              refine NoPanic.normal ?_
              go_wp2_with fail
              refine ⟨⟨k + 1, by omega, by omega, by go_num, D4⟩, by simp [intOf]; omega⟩
            · have hk' : ¬ (k : Int) < m := by omega
              have hm0 : ¬ (m : Int) = 0 := by omega
              obtain ⟨r, hr⟩ : ∃ r : Nat, (r : Int) = cut % m := ⟨(cut % m).toNat, by have := Int.emod_nonneg cut hm0; omega⟩
              have hrm : r < m := by have := Int.emod_lt_of_pos cut (show (0:Int) < m by omega); omega
              have hrm' : (r : Int) < m := by omega
              have hr0 : 0 ≤ (r : Int) := by omega
              have hm1 : (0:Int) < m := by omega
              have hm2 : (m : Int) ≤ 4611686018427387904 := by omega
              have hrE : r < E.length := by rw [← HM.out]; exact hrm
              have hwr : IntKind.i64.wrap (r : Int) = (r : Int) := IntWalk.i64_in _ (by omega)
              have HP := Lib.hid (fun W => pick_to W cut m r hm1 hm2 hr.symm)
              have hl1 := hld_range (HE32.out.at hrE) (row_range HE32.out hrE HG1.out)
              have HT := Lib.hid (text_to wr E[r] (HE32.out.at hrE))
              obtain ⟨qq, hqq⟩ : ∃ qq, qq = wrap64 (cut.tdiv 30) % 65 := ⟨_, rfl⟩
              have hq0 : 0 ≤ qq := by omega
              have hq1 : qq < 65 := by omega
              have HQ := Lib.hid (fun W => pick_to W (wrap64 (cut.tdiv 30)) 65 qq (by decide) (by decide) hqq.symm)
              have HSM := Lib.hid (rk_some (q := qq.toNat) hrE)
              have htl : (tx E[r]).length = 64 := by rw [tx_length, HE32.out.at hrE]
              have hsl := rslice_str (tx E[r]) qq hq0 (by rw [htl]; omega)
              have hk64 : (⟨(tx E[r]).toArray⟩ : ByteArray).size = 64 := htl
              generalize tx E[r] = t at *
              generalize E[r] = er at *
              have HRU := Lib.hid (runs_hashes HE32.out HAS.out (t.take qq.toNat) HSM.out)
              clear hr hqq htl hrE HSM hlt
              go_wp2_with fail
              refine (HP.out _).mono ?_
              rintro e w' ⟨rfl, rfl⟩
              go_wp2_with fail
              refine HT.out.mono ?_
              rintro e w9 ⟨rfl, b9⟩
              have B9 := Lib.hid (HW.out.trans (b9.mono HW.out.size))
              have HG2 := Lib.hid (rrow_kb HG1.out b9)
              clear b9
              go_wp2_with fail
              refine (HQ.out _).mono ?_
              rintro e w' ⟨rfl, rfl⟩
              go_wp2_with fail
              generalize t.take qq.toNat = p at *
              rw [← HM.out] at HRU
              clear HG1 HW HG hl1 hsl hk64 HP HT HQ
              go_loopw [9, 10] (fun r i wr => ∃ (k : Nat), k ≤ m ∧ i = .int .i64 k ∧ r = .int .i64 (runs (bgn E p) k : Nat) ∧ Hid (Below w9.heap.size w9 wr)) (fun _ i _ => m - (intOf i).toNat)
              case atStart => exact ⟨0, Nat.zero_le _, rfl, rfl, Lib.hid (Below.refl _ _)⟩
              case round =>
                rename_i kold
                obtain ⟨k, hk, rfl, rfl, HW⟩ := hrel
                have HG3 := Lib.hid (rrow_kb HG2.out HW.out)
                by_cases hlt : k < m
                · have hkE : k < E.length := by rw [← HM.out]; exact hlt
                  have hk' : (k : Int) < m := by omega
                  have hk0' : 0 ≤ (k : Int) := by omega
                  have hl1 := hld_range (HE32.out.at hkE) (row_range HE32.out hkE HG3.out)
                  have HB1 := Lib.hid (fun W => begins_to W E[k] p (HE32.out.at hkE))
                  rw [← bgn_at hkE] at HB1
                  have HRS : Hid (runs (bgn E p) (k + 1) = runs (bgn E p) k + if bgn E p k && (decide (k = 0) || !bgn E p (k - 1)) then 1 else 0) := Lib.hid rfl
                  have hrl : runs (bgn E p) k ≤ 30 := Nat.le_trans (runs_le _ k) (by omega)
                  generalize hR : runs (bgn E p) k = rr at *
                  generalize hR1 : runs (bgn E p) (k + 1) = rr1 at *
                  generalize E[k] = ek at *
                  cases hbk : bgn E p k with
                  | false =>
                    rw [hbk] at HB1 HRS
                    go_wp2_with (refine (HB1.out _).mono ?_; rintro e wa ⟨rfl, ba⟩; have BA := Lib.hid (HW.out.trans (ba.mono HW.out.size)); clear ba)
                    refine ⟨⟨k + 1, by omega, by go_num, ?_, BA⟩, by simp [intOf]; omega⟩
                    rw [hR1, HRS.out]; rfl
                  | true =>
                    rw [hbk] at HB1 HRS
                    by_cases hk0 : k = 0
                    · have hk0'' : (k : Int) = 0 := by omega
                      rw [hk0, Nat.zero_mul] at hl1
                      go_wp2_with (refine (HB1.out _).mono ?_; rintro e wa ⟨rfl, ba⟩; have BA := Lib.hid (HW.out.trans (ba.mono HW.out.size)); clear ba)
                      refine ⟨⟨k + 1, by omega, by go_num, ?_, BA⟩, by simp [intOf]; omega⟩
                      rw [hR1, HRS.out]; simp [hk0]
                    · obtain ⟨j, hj⟩ : ∃ j, k = j + 1 := ⟨k - 1, by omega⟩
                      have hk0'' : ¬ (k : Int) = 0 := by omega
                      have hkj : (k : Int) - 1 = (j : Int) := by omega
                      have hkj' : k - 1 = j := by omega
                      have hj' : (j : Int) < m := by omega
                      have hjm : j < m := by omega
                      have hj0 : 0 ≤ (j : Int) := by omega
                      have hwj : IntKind.i64.wrap (j : Int) = (j : Int) := IntWalk.i64_in _ (by omega)
                      have hjE : j < E.length := by rw [← HM.out]; exact hjm
                      have HB2 := Lib.hid (fun W => begins_to W E[j] p (HE32.out.at hjE))
                      rw [← bgn_at hjE] at HB2
                      rw [hkj'] at HRS
                      have HEJ := Lib.hid (HE32.out.at hjE)
                      have HRJ := Lib.hid (fun (W : World) (h : W.heap[g]? = some (.cells (fl E ++ R).toArray 26 (0, 0))) => row_range HE32.out hjE h)
                      generalize E[j] = ej at *
                      clear hj
                      generalize bgn E p j = bj at *
                      cases bj
                      all_goals
                        go_wp2_with (first
                          | (refine (HB2.out _).mono ?_; rintro e wb ⟨rfl, bb⟩; have BB := Lib.hid (BA.out.trans (bb.mono BA.out.size)); clear bb)
                          | (refine (HB1.out _).mono ?_; rintro e wa ⟨rfl, ba⟩; have BA := Lib.hid (HW.out.trans (ba.mono HW.out.size)); have hl2 := hld_range HEJ.out (HRJ.out wa (rrow_kb HG3.out ba)); clear ba))
                        refine ⟨⟨k + 1, by omega, by go_num, ?_, BB⟩, by simp [intOf]; omega⟩
                        rw [hR1, HRS.out]; simp [hk0]
                · obtain rfl : k = m := by omega
                  have hk' : ¬ (k : Int) < k := by omega
                  rw [HRU.out]
                  go_wp2_with fail
                  go_ret
                  exact ⟨rfl, B8.out.trans ((B9.out.trans (HW.out.mono B9.out.size)).mono B8.out.size)⟩
end Go.Proofs.Ytemfblhlkonlpaa
