/- The reference's graph: find, Has, Parents. Conditions: hashes of 32 bytes, ascending; no more than 100000 commits. · The reference's graph: Has, Parents, Hashes. Conditions: hashes of 32 bytes, ascending; no more than 100000 commits. · The reference's graph: put. Conditions: hashes of 32 bytes, ascending; no more than 100000 commits. · The reference's graph: Add. Conditions: hashes of 32 bytes; no more than 100000 commits. -/
import Derived.Test.YthfkmfepeafgjaaGphUn
import Derived.Test.YthfkmfepeafgjaaGphOc
import Derived.Deep.CutBlock
import Derived.Deep.CutRange
namespace Go.Proofs.Ythfkmfepeafgjaa
open Go.RowKit
open Go.Maps

/-- The reference's graph in memory. -/
structure RG (W : World) (rg : Nat) (p : Option Addr) (n cap : Nat) (T : Lx) : Prop where
  cell : W.heap[rg]? = some (.cells #[.slice p n cap] 62 (0, 0))
  ts : TS W (.slice p n cap) T
  len : n = T.length
  asc : AAsc T
  few : T.length ≤ 100000
  p32 : ∀ x ∈ T, H32 x.2.2 ∧ x.2.2.length ≤ 1000000
theorem RG.mild {W W' : World} {rg : Nat} {p : Option Addr} {n cap : Nat} {T : Lx} (h : RG W rg p n cap T) (m : Mild W W') : RG W' rg p n cap T := ⟨m.cells h.cell, h.ts.mild m, h.len, h.asc, h.few, h.p32⟩
theorem RG.kb {W W' : World} {rg : Nat} {p : Option Addr} {n cap : Nat} {T : Lx} (h : RG W rg p n cap T) (k : Below W.heap.size W W') : RG W' rg p n cap T := h.mild (mild_below k)
theorem RG.c {W : World} {rg : Nat} {p : Option Addr} {n cap : Nat} {T : Lx} (h : RG W rg p n cap T) : W.cell? ⟨rg, 0, none⟩ = some (.slice p n cap) := by rw [cell_of_row W rg _ _ _ _ h.cell]; rfl
abbrev rp (g : Nat) : Value := .pointer (some ⟨g, 0, none⟩)
/-- Commit number k. -/
def AtK (T : Lx) (k : Nat) (h : Key) : Prop := ∃ x, T[k]? = some x ∧ x.1 = h
theorem asc_less {T : Lx} (ha : AAsc T) {i j : Nat} (hj : j < T.length) (hij : i < j) : Op.bytesLess (T[i]'(by omega)).1 T[j].1 = true := by
  have := List.pairwise_iff_getElem.1 ha i j (by omega) hj hij
  rw [bl_bb]; exact this
/-- What find tells. -/
def Fnd (T : Lx) (h : Key) (i : Int) : Prop := (∃ k : Nat, i = k ∧ AtK T k h) ∨ (i = -1 ∧ aget h T = none)
theorem fnd_none {T : Lx} (ha : AAsc T) {h : Key} {l : Nat} (h1 : ∀ j (hj : j < T.length), j < l → Op.bytesLess T[j].1 h = true) (h2 : ∀ j (hj : j < T.length), l ≤ j → Op.bytesLess T[j].1 h = false) (hn : ∀ hl : l < T.length, T[l].1 ≠ h) : aget h T = none := by
  cases he : aget h T with
  | none => rfl
  | some v =>
    exfalso
    obtain ⟨j, hj, e⟩ := List.mem_iff_getElem.1 (aget_mem he)
    have hjh : T[j].1 = h := by rw [e]
    by_cases hjl : j < l
    · have := h1 j hj hjl
      rw [hjh, less_irrefl] at this
      cases this
    · have hlt : l < T.length := by omega
      by_cases hjl2 : j = l
      · subst hjl2; exact hn hlt hjh
      · have h3 := asc_less ha hj (show l < j by omega)
        rw [hjh, h2 l hlt (Nat.le_refl _)] at h3
        cases h3
theorem ms1 {lo m hi : Nat} (h : lo ≤ m ∧ m < hi) : hi - (m + 1) < hi - lo := by omega
theorem ms2 {lo m hi : Nat} (h : lo ≤ m ∧ m < hi) : m - lo < hi - lo := by omega
theorem mid_fit {lo hi m : Nat} (hm : m = (lo + hi) / 2) (h : hi ≤ 100000) (hl : lo ≤ hi) : wrap64 ((wrap64 ((lo : Int) + hi)).tdiv 2) = (m : Int) := by
  have h1 : wrap64 ((lo : Int) + hi) = ((lo + hi : Nat) : Int) := by unfold wrap64; omega
  rw [h1, Int.tdiv_eq_ediv_of_nonneg (by omega)]
  unfold wrap64
  omega
set_option linter.unusedSimpArgs false in
set_option maxRecDepth 20000 in
set_option maxHeartbeats 8000000 in
attribute [local go_sem ↓] hld_open heq_open in
theorem rfind_to (w : World) (rg : Nat) (p : Option Addr) (n cap : Nat) (T : Lx) (h : Key) (hh : h.length = 32) (R : RG w rg p n cap T) :
    Calls Try.prog 39 #[rp rg, .agg (hv h)] w fun e w' => ∃ i : Int, e = .returned (.int .i64 i) ∧ Fnd T h i ∧ Below w.heap.size w w' := by
  have BA := Lib.hid (below_al11 w (.cells (hv h) 28))
  have HB := Lib.hid (heap_alloc_last w (.cells (hv h) 28))
  have RR := Lib.hid (R.kb BA.out)
  have HH := Lib.hid hh
  have HLN := Lib.hid R.len
  have HFW := Lib.hid R.few
  have HAS := Lib.hid R.asc
  clear R hh
  have hgd := heq_guard
  have hr0 := RR.out.c
  go_enter Try.func39, Try.ntmps39
  go_wp2_with fail
  generalize w.alloc (.cells (hv h) 28) = w0 at *
  generalize hbh : w.heap.size = bh at HB
  go_loopw [5, 6] (fun vl vh wr => ∃ lo hi : Nat, vl = .int .i64 lo ∧ vh = .int .i64 hi ∧ lo ≤ hi ∧ hi ≤ n ∧ Hid (∀ j (hj : j < T.length), j < lo → Op.bytesLess T[j].1 h = true) ∧ Hid (∀ j (hj : j < T.length), hi ≤ j → Op.bytesLess T[j].1 h = false) ∧ Hid (Below w0.heap.size w0 wr)) (fun vl vh _ => (intOf vh).toNat - (intOf vl).toNat)
  case atStart => exact ⟨0, n, rfl, rfl, Nat.zero_le _, Nat.le_refl _, Lib.hid (fun _ _ h => by omega), Lib.hid (fun j hj h => by have := HLN.out; omega), Lib.hid (Below.refl _ _)⟩
  case round =>
    obtain ⟨lo, hi, rfl, rfl, hlh, hhn, HLO, HHI, B⟩ := hrel
    have RW := Lib.hid (RR.out.kb B.out)
    have HBW := Lib.hid ((mild_below B.out).cells HB.out)
    have hr1 := RW.out.c
    by_cases hlt : lo < hi
    · have hl1 : (lo : Int) < hi := by omega
      obtain ⟨m, hm⟩ : ∃ m, m = (lo + hi) / 2 := ⟨_, rfl⟩
      have hml : lo ≤ m ∧ m < hi := by omega
      have hmT : m < T.length := by rw [← HLN.out]; omega
      have hmid := mid_fit hm (by have := HFW.out; rw [← HLN.out] at this; omega) hlh
      obtain ⟨b, o, cap', e1, hrg⟩ := RW.out.ts.at (List.getElem?_eq_getElem hmT)
      injection e1 with e1 e2 e3
      subst e1
      obtain ⟨x, hx⟩ : ∃ x, x = T[m] := ⟨_, rfl⟩
      rw [← hx] at hrg
      have HX32 : Hid (x.1.length = 32) := Lib.hid (by rw [hx]; exact RW.out.ts.h32 _ (List.getElem_mem hmT))
      have HRG := Lib.hid (rng_pre hrg)
      have hj2 : (0 : Int) ≤ m := by omega
      have hj3 : (m : Int) < n := by omega
      have HLX : Hid (∀ j (hj : j < T.length), j < m → Op.bytesLess T[j].1 x.1 = true) := Lib.hid (fun j hj hjm => by rw [hx]; exact asc_less HAS.out hmT hjm)
      have HRX : Hid (∀ j (hj : j < T.length), m < j → Op.bytesLess x.1 T[j].1 = true) := Lib.hid (fun j hj hjm => by rw [hx]; exact asc_less HAS.out hj hjm)
      have HXM : Hid (∀ hj : m < T.length, T[m].1 = x.1) := Lib.hid (fun _ => by rw [hx])
      have HML := Lib.hid hml
      have HJ1 := Lib.hid (next_fit hml.2 (by have := HFW.out; rw [← HLN.out] at this; omega)).1
      have HHN := Lib.hid hhn
      have HLH := Lib.hid hlt
      clear hx hrg e2 e3 hm hmT hml hhn hlt hlh
      go_upto_region 5 with fail
      have bq : Below wr.heap.size wr wr.drew := blw_qt _ 1 wr
      have RV := Lib.hid (RW.out.kb bq)
      have HBV := Lib.hid ((mild_below bq).cells HBW.out)
      have HRV := Lib.hid (rng_kb HRG.out bq)
      have BV := Lib.hid (B.out.trans (bq.mono B.out.size))
      go_wp2_with fail
      try simp only [List.append]
      refine wp_region_noPanic ?_
      refine wp_region_held_drew (S := (fun V => V.cell? ⟨rg, 0, none⟩ = some (.slice (some ⟨b, o, none⟩) n cap) ∧ (hld ⟨b, o + m * 33, none⟩).run Try.prog V = .ok (.agg (hv x.1)) V ∧ (hld ⟨bh, 0, none⟩).run Try.prog V = .ok (.agg (hv h)) V)) (by kernel_rfl) ⟨RV.out.c, hld_range HX32.out HRV.out, hld_row HH.out HBV.out⟩ (fun hHeld => ?_)
      generalize wr.drew = cw at *
      refine wpAnyH_take (i := 0) (v := ?_) (by simp only [List.getElem?_toArray, List.getElem?_cons_zero]; rfl) (by kernel_rfl) (by kernel_rfl) (by kernel_rfl) (fun _ _ _ h => h) (Or.inl ⟨by rfl, ?_⟩) (by assumption) ?_
      rotate_left
      · intro w hSw
        try dsimp only at hSw
        go_simp
        try with_reducible rfl
      try simp only [Act.put, List.setIfInBounds_toArray, List.set_cons_zero, List.set_cons_succ]
      refine wpAnyH_take (i := 1) (v := ?_) (by simp only [List.getElem?_toArray, List.getElem?_cons_succ, List.getElem?_cons_zero]; rfl) (by kernel_rfl) (by kernel_rfl) (by kernel_rfl) (fun _ _ _ h => h) (Or.inl ⟨by rfl, ?_⟩) (by assumption) ?_
      rotate_left
      · intro w hSw
        try dsimp only at hSw
        go_simp
        try with_reducible rfl
      try simp only [Act.put, List.setIfInBounds_toArray, List.set_cons_zero, List.set_cons_succ]
      refine wpAnyH_take (i := 2) (v := ?_) (by simp only [List.getElem?_toArray, List.getElem?_cons_succ, List.getElem?_cons_zero]; rfl) (by kernel_rfl) (by kernel_rfl) (by kernel_rfl) (fun _ _ _ h => h) (Or.inl ⟨by rfl, ?_⟩) (by assumption) ?_
      rotate_left
      · intro w hSw
        try dsimp only at hSw
        go_simp
        try with_reducible rfl
      try simp only [Act.put, List.setIfInBounds_toArray, List.set_cons_zero, List.set_cons_succ]
      refine wpAnyH_take (i := 3) (v := ?_) (by simp only [List.getElem?_toArray, List.getElem?_cons_succ, List.getElem?_cons_zero]; rfl) (by kernel_rfl) (by kernel_rfl) (by kernel_rfl) (fun _ _ _ h => h) (Or.inl ⟨by rfl, ?_⟩) (by assumption) ?_
      rotate_left
      · intro w hSw
        try dsimp only at hSw
        go_simp
        try with_reducible rfl
      try simp only [Act.put, List.setIfInBounds_toArray, List.set_cons_zero, List.set_cons_succ]
      refine wpAnyH_take (i := 4) (v := ?_) (by simp only [List.getElem?_toArray, List.getElem?_cons_succ, List.getElem?_cons_zero]; rfl) (by kernel_rfl) (by kernel_rfl) (by kernel_rfl) (fun _ _ _ h => h) (Or.inl ⟨by rfl, ?_⟩) (by assumption) ?_
      rotate_left
      · intro w hSw
        try dsimp only at hSw
        go_simp
        try with_reducible rfl
      try simp only [Act.put, List.setIfInBounds_toArray, List.set_cons_zero, List.set_cons_succ]
      refine wpAnyH_take (i := 5) (v := ?_) (by simp only [List.getElem?_toArray, List.getElem?_cons_succ, List.getElem?_cons_zero]; rfl) (by kernel_rfl) (by kernel_rfl) (by kernel_rfl) (fun _ _ _ h => h) (Or.inl ⟨by rfl, ?_⟩) (by assumption) ?_
      rotate_left
      · intro w hSw
        try dsimp only at hSw
        go_simp
        try with_reducible rfl
      try simp only [Act.put, List.setIfInBounds_toArray, List.set_cons_zero, List.set_cons_succ]
      refine wpAnyH_take (i := 6) (v := ?_) (by simp only [List.getElem?_toArray, List.getElem?_cons_succ, List.getElem?_cons_zero]; rfl) (by kernel_rfl) (by kernel_rfl) (by kernel_rfl) (fun _ _ _ h => h) (Or.inl ⟨by rfl, ?_⟩) (by assumption) ?_
      rotate_left
      · intro w hSw
        try dsimp only at hSw
        go_simp
        try with_reducible rfl
      try simp only [Act.put, List.setIfInBounds_toArray, List.set_cons_zero, List.set_cons_succ]
      refine wpAnyH_take (i := 7) (v := ?_) (by simp only [List.getElem?_toArray, List.getElem?_cons_succ, List.getElem?_cons_zero]; rfl) (by kernel_rfl) (by kernel_rfl) (by kernel_rfl) (fun _ _ _ h => h) (Or.inl ⟨by rfl, ?_⟩) (by assumption) ?_
      rotate_left
      · intro w hSw
        try dsimp only at hSw
        go_simp
        try with_reducible rfl
      try simp only [Act.put, List.setIfInBounds_toArray, List.set_cons_zero, List.set_cons_succ]
      refine wpAnyH_take (i := 8) (v := ?_) (by simp only [List.getElem?_toArray, List.getElem?_cons_succ, List.getElem?_cons_zero]; rfl) (by kernel_rfl) (by kernel_rfl) (by kernel_rfl) (fun _ _ _ h => h) (Or.inl ⟨by rfl, ?_⟩) (by assumption) ?_
      rotate_left
      · intro w hSw
        try dsimp only at hSw
        go_simp
        try with_reducible rfl
      try simp only [Act.put, List.setIfInBounds_toArray, List.set_cons_zero, List.set_cons_succ]
      refine wpAnyH_ready (rs := [9]) (by kernel_rfl) (by simp) ?_
      refine AllReadyH.cons (by simp only [List.getElem?_toArray, List.getElem?_cons_succ, List.getElem?_cons_zero]; rfl) (fun K hK => ?_) AllReadyH.nil
      go_simp
      refine (rless_to cw x.1 h HX32.out HH.out).mono ?_
      rintro e cx ⟨rfl, bb⟩
      have RX := Lib.hid (RV.out.kb bb)
      have BX := Lib.hid (BV.out.trans (bb.mono BV.out.size))
      obtain ⟨lb, hlb⟩ : ∃ lb, lb = Op.bytesLess x.1 h := ⟨_, rfl⟩
      rw [← hlb]
      have HLB := Lib.hid hlb
      have hsp : cx.cell? ⟨rg, 0, none⟩ = some (.slice (some ⟨b, o, none⟩) n cap) ∧ (hld ⟨b, o + m * 33, none⟩).run Try.prog cx = .ok (.agg (hv x.1)) cx ∧ (hld ⟨bh, 0, none⟩).run Try.prog cx = .ok (.agg (hv h)) cx := ⟨RX.out.c, hld_range HX32.out (rng_kb HRV.out bb), hld_row HH.out ((mild_below bb).cells HBV.out)⟩
      have HSP := Lib.hid hsp
      clear hlb bb hsp bq
      go_wp2_with fail
      refine hK.out _ _ HSP.out (fun hHeld => ?_)
      clear hK K
      try simp only [Act.put, List.setIfInBounds_toArray, List.set_cons_zero, List.set_cons_succ]
      refine wpAnyH_done (by kernel_rfl) ?_ _
      refine NoPanic.normal ?_
      cases lb with
      | true =>
        go_wp2_with fail
        refine ⟨⟨m + 1, hi, congrArg _ HJ1.out, rfl, HML.out.2, HHN.out, Lib.hid (fun j hj hjm => ?_), HHI, BX⟩, ?_⟩
        · by_cases e : j = m
          · subst e; rw [HXM.out hj, ← HLB.out]
          · exact less_trans _ _ _ (HLX.out j hj (by omega)) HLB.out.symm
        · rw [HJ1.out]; simp only [intOf, Int.toNat_natCast]; exact ms1 HML.out
      | false =>
        go_wp2_with fail
        refine ⟨⟨lo, m, rfl, rfl, HML.out.1, Nat.le_trans (Nat.le_of_lt HML.out.2) HHN.out, HLO, Lib.hid (fun j hj hjm => ?_), BX⟩, ?_⟩
        · by_cases e : j = m
          · subst e; rw [HXM.out hj, ← HLB.out]
          · cases hq : Op.bytesLess T[j].1 h with
            | false => rfl
            | true =>
              have := less_trans _ _ _ (HRX.out j hj (by omega)) hq
              rw [← HLB.out] at this; cases this
        · simp only [intOf, Int.toNat_natCast]; exact ms2 HML.out
    · obtain rfl : lo = hi := by omega
      have hll : ¬ (lo : Int) < lo := by omega
      clear hlt hlh
      by_cases hln : lo < n
      · have hl1 : (lo : Int) < n := by omega
        have hl0 : (0 : Int) ≤ lo := by omega
        have hmT : lo < T.length := by rw [← HLN.out]; omega
        obtain ⟨b, o, cap', e1, hrg⟩ := RW.out.ts.at (List.getElem?_eq_getElem hmT)
        injection e1 with e1 e2 e3
        subst e1
        obtain ⟨x, hx⟩ : ∃ x, x = T[lo] := ⟨_, rfl⟩
        rw [← hx] at hrg
        have HX32 : Hid (x.1.length = 32) := Lib.hid (by rw [hx]; exact RW.out.ts.h32 _ (List.getElem_mem hmT))
        have HRG := Lib.hid (rng_pre hrg)
        have HXK : Hid (T[lo]? = some x) := Lib.hid (by rw [hx]; exact List.getElem?_eq_getElem hmT)
        have HXM : Hid (∀ hj : lo < T.length, T[lo].1 = x.1) := Lib.hid (fun _ => by rw [hx])
        have l1 := fun m => hld_range (w := wr.drewN m) HX32.out (rng_kb HRG.out (blw_qt wr.heap.size m wr))
        have l2 := fun m => hld_row (w := wr.drewN m) HH.out ((mild_below (blw_qt wr.heap.size m wr)).cells HBW.out)
        clear hx hrg e2 e3 hmT hln hhn
        by_cases hr : x.1 = h
        · have heq := heq_hv HX32.out HH.out
          rw [decide_eq_true hr] at heq
          have HR := Lib.hid hr
          clear hr
          go_wp2_with fail
          go_quiet (fail)
          go_wp2_with fail
          go_ret
          exact ⟨_, rfl, .inl ⟨lo, rfl, x, HXK.out, HR.out⟩, BA.out.trans ((B.out.trans (blw_qt _ _ _)).mono BA.out.size)⟩
        · have heq := heq_hv HX32.out HH.out
          rw [decide_eq_false hr] at heq
          have HR := Lib.hid hr
          clear hr
          go_wp2_with fail
          go_quiet (fail)
          go_wp2_with fail
          go_ret
          exact ⟨_, rfl, .inr ⟨rfl, fnd_none HAS.out HLO.out HHI.out (fun hl => by rw [HXM.out hl]; exact HR.out)⟩, BA.out.trans ((B.out.trans (blw_qt _ _ _)).mono BA.out.size)⟩
      · have hl1 : ¬ (lo : Int) < n := by omega
        have hl2 : decide (lo < n) = false := decide_eq_false hln
        have HNL : Hid (¬ lo < T.length) := Lib.hid (by rw [← HLN.out]; exact hln)
        clear hln hhn hl1
        go_wp2_with fail
        go_quiet (fail)
        go_wp2_with fail
        go_ret
        exact ⟨_, rfl, .inr ⟨rfl, fnd_none HAS.out HLO.out HHI.out (fun hl => absurd hl HNL.out)⟩, BA.out.trans ((B.out.trans (blw_qt _ _ _)).mono BA.out.size)⟩
end Go.Proofs.Ythfkmfepeafgjaa
namespace Go.Proofs.Ythfkmfepeafgjaa
open Go.RowKit
open Go.Maps

theorem atk_get {T : Lx} (ha : AAsc T) {k : Nat} {h : Key} (h1 : AtK T k h) : ∃ x, T[k]? = some x ∧ x.1 = h ∧ aget h T = some x.2 := by
  obtain ⟨x, hx, rfl⟩ := h1
  exact ⟨x, hx, rfl, aget_of_mem ha (List.mem_of_getElem? hx)⟩
theorem fnd_ge {T : Lx} (ha : AAsc T) {h : Key} {i : Int} (h1 : Fnd T h i) : decide (i ≥ 0) = (aget h (gr T)).isSome := by
  rw [gr_get]
  rcases h1 with ⟨k, rfl, hk⟩ | ⟨rfl, hn⟩
  · obtain ⟨x, _, _, e⟩ := atk_get ha hk
    rw [e]; simp
  · rw [hn]; rfl
set_option linter.unusedSimpArgs false in
set_option maxRecDepth 20000 in
attribute [local go_sem ↓] hld_open in
theorem rhas_to (w : World) (rg : Nat) (p : Option Addr) (n cap : Nat) (T : Lx) (h : Key) (hh : h.length = 32) (R : RG w rg p n cap T) :
    Calls Try.prog 19 #[rp rg, .agg (hv h)] w fun e w' => e = .returned (.bool (aget h (gr T)).isSome) ∧ Below w.heap.size w w' := by
  have BA := Lib.hid (below_al11 w (.cells (hv h) 28))
  have HF := Lib.hid (rfind_to _ rg p n cap T h hh (R.kb BA.out))
  have hld0 := hld_row hh (heap_alloc_last w (.cells (hv h) 28))
  have HAS := Lib.hid R.asc
  clear R hh
  go_enter Try.func19, Try.ntmps19
  go_wp2_with fail
  refine HF.out.mono ?_
  rintro e w1 ⟨i, rfl, hf, b1⟩
  obtain ⟨b, hb⟩ : ∃ b, b = decide (i ≥ 0) := ⟨_, rfl⟩
  have hq : (aget h (gr T)).isSome = b := by rw [hb, fnd_ge HAS.out hf]
  have B1 := Lib.hid b1
  have HQ := Lib.hid hq
  cases b with
  | true =>
    have hi : i ≥ 0 := by simpa using hb.symm
    have hi2 : decide (0 ≤ i) = true := decide_eq_true hi
    clear hf hb hq b1 hld0
    go_wp2_with fail
    go_ret
    exact ⟨by rw [HQ.out]; rfl, BA.out.trans (B1.out.mono BA.out.size)⟩
  | false =>
    have hi : ¬ i ≥ 0 := by simpa using hb.symm
    have hi2 : decide (0 ≤ i) = false := decide_eq_false hi
    clear hf hb hq b1 hld0
    go_wp2_with fail
    go_ret
    exact ⟨by rw [HQ.out]; rfl, BA.out.trans (B1.out.mono BA.out.size)⟩
set_option linter.unusedSimpArgs false in
set_option maxRecDepth 20000 in
set_option maxHeartbeats 2000000 in
attribute [local go_sem ↓] hld_open in
theorem rparents_to (w : World) (rg : Nat) (p : Option Addr) (n cap : Nat) (T : Lx) (h : Key) (hh : h.length = 32) (R : RG w rg p n cap T) :
    Calls Try.prog 51 #[rp rg, .agg (hv h)] w fun e w' => ∃ v, e = .returned v ∧ HSeen w' v ((aget h (gr T)).getD []) ∧ Below w.heap.size w w' := by
  have BA := Lib.hid (below_al11 w (.cells (hv h) 28))
  have HF := Lib.hid (rfind_to _ rg p n cap T h hh (R.kb BA.out))
  have hld0 := hld_row hh (heap_alloc_last w (.cells (hv h) 28))
  have RR := Lib.hid R
  clear R hh
  go_enter Try.func51, Try.ntmps51
  go_wp2_with fail
  refine HF.out.mono ?_
  rintro e w1 ⟨i, rfl, hf, b1⟩
  have B1 : Hid (Below w.heap.size w w1) := Lib.hid (BA.out.trans (b1.mono BA.out.size))
  have R1 := Lib.hid (RR.out.kb B1.out)
  clear b1 hld0
  rcases hf with ⟨k, rfl, hk⟩ | ⟨rfl, hn⟩
  · obtain ⟨x, hx, hxh, hg⟩ := atk_get RR.out.asc hk
    have hkT := (List.getElem?_eq_some_iff.1 hx).1
    obtain ⟨b, o, cap', e1, hrg⟩ := R1.out.ts.at hx
    injection e1 with e1 e2 e3
    subst e1
    have hr1 := R1.out.c
    have hk0 : (0 : Int) ≤ k := by omega
    have hk1 : (k : Int) ≥ 0 := by omega
    have hk2 : (k : Int) < n := by have := R1.out.len; omega
    have hx32 := R1.out.ts.h32 x (List.mem_of_getElem? hx)
    have hcu : w1.cell? ⟨b, o + k * 33 + 32, none⟩ = some x.2.1 := hrg 32 _ (by rw [List.getElem?_append_right (by rw [usn_length, hx32]; exact Nat.le_refl _), usn_length, hx32]; rfl)
    have HLT := Lib.hid (R1.out.ts.lit x (List.mem_of_getElem? hx))
    have HG : Hid ((aget h (gr T)).getD [] = x.2.2) := Lib.hid (by rw [gr_get, hg]; rfl)
    clear hk hx hxh hg hkT hrg e2 e3 hx32
    go_wp2_with fail
    go_ret
    exact ⟨_, rfl, by rw [HG.out]; exact HLT.out, B1.out⟩
  · have HG : Hid ((aget h (gr T)).getD [] = []) := Lib.hid (by rw [gr_get, hn]; rfl)
    clear hn
    go_wp2_with fail
    go_ret
    exact ⟨_, rfl, by rw [HG.out]; exact .inl ⟨rfl, rfl⟩, B1.out⟩
end Go.Proofs.Ythfkmfepeafgjaa
namespace Go.Proofs.Ythfkmfepeafgjaa
open Go.RowKit
open Go.Maps

section
variable {ops : Array Oper} {rest : List Oper} {a : Act} {Q : Exit → Act → World → Prop} {o : Oper} {w : World} {K : Act → World → Prop} {X : Prop}
theorem step_empty_h (hgd : o.guard = none) (ho : o.op = .buildSlice 25 0 #[]) (h : K (a.put o.dst (.slice (some ⟨w.heap.size, 0, none⟩) 0 0)) (w.alloc (.cells #[] 28))) : if Region.wanted o (yielded ops a.tmps) = true then Oper.wp Try.prog o a w K Q else X := by
  obtain ⟨i0, hi0, hz0, hz1, hz2⟩ := info_parts hzinfo
  exact step_build_empty hgd ho Try.underlying25 hi0 h
theorem step_hashes (hgd : o.guard = none) (s x : Operand) (ho : o.op = .call { callee := .builtin .append, args := #[s, x], argTypes := #[25, 25] })
    (B : Nat) (v u : Value) (l m : List Key) (hs : a.eval s = v) (hown : HOwn w B v l) (hx : a.eval x = u) (hu : HSeen w u m) (h32m : H32 m) (hl : l.length + m.length ≤ 4398046511104) (hB : B ≤ w.heap.size)
    (h : ∀ v' w', HOwn w' B v' (l ++ m) → Only (fun j => v.ownBlock = some j) w w' → K (a.put o.dst v') w') :
    if Region.wanted o (yielded ops a.tmps) = true then Oper.wp Try.prog o a w K Q else X := by
  have hw : Region.wanted o (yielded ops a.tmps) = true := by simp [Region.wanted, hgd]
  rw [if_pos hw]
  obtain ⟨v', w', hr, h1, h2⟩ := run_push_hash w o.type B v u l m hown hu h32m hl hB
  unfold Oper.wp execOp
  simp only [ho, resolve, invoke, builtin, Sem.run_bind, Sem.run_pure, Result.andThen_ok, List.map_toArray, List.map_cons, List.map_nil, hs, hx, hr]
  exact h v' w' h1 h2
set_option maxRecDepth 20000 in
theorem step_buildc {dst : Option Tmp} {T : TypeId} {pos : String} {after : Array Edge} {x y : Operand} (h : Key) (v : Value) (hh : h.length = 32) (hc : v.cells = #[v]) (hx : a.eval x = .agg (hv h)) (hy : a.eval y = v)
    (hK : K (a.put dst (.agg (cmv h v))) w) :
    if Region.wanted ⟨dst, .build 49 #[(0, x), (1, y)], T, pos, after, none⟩ (yielded ops a.tmps) = true then Oper.wp Try.prog ⟨dst, .build 49 #[(0, x), (1, y)], T, pos, after, none⟩ a w K Q else X := by
  rw [if_pos (by simp [Region.wanted])]
  have hv' : ((#[(0, x), (1, y)] : Array (Nat × Operand)).map fun (i, x) => (i, a.eval x)) = #[(0, .agg (hv h)), (1, v)] := by simp [hx, hy]
  have hr : Try.prog.built 49 (#[(0, .agg (hv h)), (1, v)] : Array (Nat × Value)).toList = some (cmv h v) := built_commit h v hh hc
  exact wp_build 49 #[(0, x), (1, y)] rfl (by rw [hv', hr]; rfl) (by rw [hv', hr]; exact hK)
theorem step_slc1 (hgd : o.guard = none) (x : Operand) (ho : o.op = .buildSlice 46 1 #[(0, x)]) (h : Key) (u : Value) (hh : h.length = 32) (hx : a.eval x = .agg (cmv h u))
    (hk : K (a.put o.dst (.slice (some ⟨w.heap.size, 0, none⟩) 1 1)) (w.alloc (.cells (cf [(h, u)]).toArray 49))) :
    if Region.wanted o (yielded ops a.tmps) = true then Oper.wp Try.prog o a w K Q else X := by
  have hw : Region.wanted o (yielded ops a.tmps) = true := by simp [Region.wanted, hgd]
  rw [if_pos hw]
  obtain ⟨i0, hi0, hz0, hz1, hz2⟩ := info_parts czinfo
  have hrun : (Instr.buildSlice 46 1 #[(0, .agg (cmv h u))]).run Try.prog w = .ok (.slice (some ⟨w.heap.size, 0, none⟩) 1 1) (w.alloc (.cells (cf [(h, u)]).toArray 49)) := by
    refine run_buildSlice w 46 49 1 _ (cf [(h, u)]).toArray i0 (.agg czer) Try.underlying46 hi0 hz0 (by rw [hz1]; omega) (by rw [hz1]; omega) ?_
    rw [hz1]
    exact (by
      have := Great.fill_whole (s := 33) (by decide) ([(h, u)].map fun c => Value.agg (cmv c.1 c.2)) ((Array.range ([(h, u)].length * 33)).map ((Value.agg czer).cells[· % (Value.agg czer).cells.size]!)) (fun v hvm => by
        obtain ⟨c, hm, rfl⟩ := List.mem_map.1 hvm
        rw [List.mem_singleton.1 hm]
        exact cmv_size hh u) (by simp)
      rw [cf_flat] at this
      exact this)
  unfold Oper.wp execOp
  simp only [ho, Sem.run_bind, Sem.run_pure, Result.andThen_ok, List.map_toArray, List.map_cons, List.map_nil, hx, hrun]
  exact hk
end
theorem mem_gr {T : Lx} {c : Cm} : c ∈ gr T ↔ ∃ x ∈ T, c = (x.1, x.2.2) := by
  unfold gr amap
  rw [List.mem_map]
  exact ⟨fun ⟨x, hx, e⟩ => ⟨x, hx, e.symm⟩, fun ⟨x, hx, e⟩ => ⟨x, hx, e.symm⟩⟩
/-- A commit more, at its place. -/
theorem put_gr {T : Lx} (ha : AAsc T) {k : Nat} (h : Key) (u : Value) (ps : List Key) (hk : k ≤ T.length) (h1 : ∀ j (hj : j < T.length), j < k → Op.bytesLess T[j].1 h = true) (h2 : ∀ j (hj : j < T.length), k ≤ j → Op.bytesLess T[j].1 h = false) (hn : aget h T = none) :
    AAsc (T.take k ++ [(h, (u, ps))] ++ T.drop k) ∧ gr (T.take k ++ [(h, (u, ps))] ++ T.drop k) = aput h ps (gr T) := by
  have hlt : ∀ x ∈ T.take k, bytesBefore x.1 h = true := fun x hx => by
    obtain ⟨j, hj, e⟩ := List.mem_iff_getElem.1 hx
    rw [List.length_take] at hj
    rw [List.getElem_take] at e
    rw [← bl_bb, ← e]; exact h1 j (by omega) (by omega)
  have hgt : ∀ x ∈ T.drop k, bytesBefore h x.1 = true := fun x hx => by
    obtain ⟨j, hj, e⟩ := List.mem_iff_getElem.1 hx
    rw [List.length_drop] at hj
    rw [List.getElem_drop] at e
    have h3 := h2 (k + j) (by omega) (by omega)
    rw [e, bl_bb] at h3
    rcases bb_total x.1 h with h4 | h4 | h4
    · rw [h3] at h4; cases h4
    · have := aget_of_mem ha (show (x.1, x.2) ∈ T from List.mem_of_mem_drop hx)
      rw [h4, hn] at this; cases this
    · exact h4
  have hasc : AAsc (T.take k ++ [(h, (u, ps))] ++ T.drop k) := by
    unfold AAsc
    rw [List.append_assoc, List.pairwise_append]
    have h5 := List.pairwise_append.1 (show (T.take k ++ T.drop k).Pairwise _ by rw [List.take_append_drop]; exact ha)
    refine ⟨h5.1, ?_, ?_⟩
    · rw [List.singleton_append, List.pairwise_cons]
      exact ⟨hgt, h5.2.1⟩
    · intro x hx y hy
      rw [List.singleton_append] at hy
      rcases List.mem_cons.1 hy with rfl | hy
      · exact hlt x hx
      · exact h5.2.2 x hx y hy
  refine ⟨hasc, ?_⟩
  have ag : AAsc (gr (T.take k ++ [(h, (u, ps))] ++ T.drop k)) := amap_asc _ hasc
  have ag2 : AAsc (aput h ps (gr T)) := AAsc.put (amap_asc _ ha) _ _
  have hng : ∀ c ∈ gr T, c.1 ≠ h := fun c hc e => by
    obtain ⟨x, hx, rfl⟩ := mem_gr.1 hc
    have := aget_of_mem ha (show (x.1, x.2) ∈ T from hx)
    rw [show x.1 = h from e, hn] at this; cases this
  have hmem : ∀ c, c ∈ gr (T.take k ++ [(h, (u, ps))] ++ T.drop k) ↔ c ∈ aput h ps (gr T) := fun c => by
    rw [mem_aput, mem_gr]
    constructor
    · rintro ⟨x, hx, rfl⟩
      rw [List.mem_append, List.mem_append] at hx
      rcases hx with (hx | hx) | hx
      · have hc : (x.1, x.2.2) ∈ gr T := mem_gr.2 ⟨x, List.mem_of_mem_take hx, rfl⟩
        exact .inr ⟨hc, hng _ hc⟩
      · rw [List.mem_singleton.1 hx]; exact .inl rfl
      · have hc : (x.1, x.2.2) ∈ gr T := mem_gr.2 ⟨x, List.mem_of_mem_drop hx, rfl⟩
        exact .inr ⟨hc, hng _ hc⟩
    · rintro (rfl | ⟨hc, _⟩)
      · exact ⟨(h, (u, ps)), by simp, rfl⟩
      · obtain ⟨x, hx, rfl⟩ := mem_gr.1 hc
        rw [← List.take_append_drop k T] at hx
        refine ⟨x, ?_, rfl⟩
        rw [List.mem_append, List.mem_append]
        rcases List.mem_append.1 hx with h3 | h3
        · exact .inl (.inl h3)
        · exact .inr h3
  refine aext ag ag2 fun x => ?_
  cases he : aget x (aput h ps (gr T)) with
  | some v => exact aget_of_mem ag ((hmem _).2 (aget_mem he))
  | none =>
    cases hf : aget x (gr (T.take k ++ [(h, (u, ps))] ++ T.drop k)) with
    | none => rfl
    | some v =>
      have := aget_of_mem ag2 ((hmem _).1 (aget_mem hf))
      rw [he] at this; cases this
theorem g_cell {w : World} {b : Nat} {v : Value} {t : TypeId} (h : w.heap[b]? = some (.cells #[v] t (0, 0))) (u : Value) : (w.setCell ⟨b, 0, none⟩ u).heap[b]? = some (.cells #[u] t (0, 0)) := by
  unfold World.setCell
  simp only [Array.getElem?_modify, if_true, h, Option.map_some]
  simp
theorem cu_at {w : World} {b : Nat} {h : Key} {u : Value} (hh : h.length = 32) (hr : w.rangeAt b 0 (us (nmb h) ++ [u])) : w.cell? ⟨b, 32, none⟩ = some u := by
  have := hr 32 u (by rw [List.getElem?_append_right (by rw [usn_length, hh]; exact Nat.le_refl _), usn_length, hh]; rfl)
  simpa using this
theorem fl_int {E : List Key} {j : Nat} {u : Value} (h : (fl E)[j]? = some u) : ∃ n : Int, u = .int .u8 n := by
  have hm := List.mem_of_getElem? h
  unfold fl at hm
  obtain ⟨x, _, hx⟩ := List.mem_flatMap.1 hm
  obtain ⟨y, _, rfl⟩ := List.mem_map.1 hx
  exact ⟨_, rfl⟩
/-- No hashes are read out of a graph's own cell. -/
theorem HSeen.away {W W' : World} {rg : Nat} {p : Option Addr} {n c : Nat} {t : TypeId} {v : Value} {E : List Key} (h : HSeen W v E) (hb : W.heap[rg]? = some (.cells #[.slice p n c] t (0, 0))) (ho : Only (fun j => j = rg) W W') : HSeen W' v E := by
  rcases h with h1 | ⟨a, cap, h1, h2, h3⟩
  · exact .inl h1
  · refine .inr ⟨a, cap, h1, h2, fun j u hj => ?_⟩
    have h4 := h3 j u hj
    have hne : (a.add j).block ≠ rg := fun e => by
      have h5 := World.cell?_spot h4
      obtain ⟨n1, rfl⟩ := fl_int hj
      have h6 : a.add j = ⟨rg, (a.add j).off, none⟩ := by
        cases hq : a.add j with
        | mk b o s => rw [hq] at e h5; simp only at e h5 ⊢; subst e; rw [h5]
      rw [h6, cell_of_row W rg _ _ _ _ hb] at h4
      have h7 := (Array.getElem?_eq_some_iff.1 h4)
      obtain ⟨h8, h9⟩ := h7
      have h10 : (a.add j).off = 0 := by simpa using h8
      simp only [h10] at h9
      cases h9
    rw [World.cell?_of_block (ho.block _ (World.block_lt_of_cell? W _ h4) hne)]
    exact h4
theorem TS.dropO {W : World} {p : Option Addr} {n cap : Nat} {T : Lx} (h : TS W (.slice p n cap) T) {k : Nat} (hk : k ≤ T.length) (hn : n = T.length) : TS W (.slice (if cap = k then p else Option.map (fun x => x.add (k * 33)) p) (n - k) (cap - k)) (T.drop k) := by
  cases p with
  | none =>
    rcases h.row with ⟨h1, h2⟩ | ⟨b, o, c, h1, _⟩
    · injection h1 with _ e2 e3
      subst h2 e2 e3
      refine ⟨.inl ⟨by simp, by simp⟩, fun _ h => by simp at h, fun _ h => by simp at h⟩
    · cases h1
  | some a =>
    rcases h.row with ⟨h1, _⟩ | ⟨b, o, c, h1, _⟩
    · cases h1
    · injection h1 with e1 _ _
      injection e1 with e1
      subst e1
      have h5 := h.drop (k := k) (m := n - k) hk (by rw [hn])
      have e : (if cap = k then some (⟨b, o, none⟩ : Addr) else some ⟨b, o + k * 33, none⟩) = (if cap = k then some (⟨b, o, none⟩ : Addr) else Option.map (fun x : Addr => x.add (k * 33)) (some (⟨b, o, none⟩ : Addr))) := by
        rw [Option.map_some, Addr.add_lit]
      rw [← e]; exact h5
/-- What put does. -/
def RputPost (w : World) (rg : Nat) (T : Lx) (h : Key) (ps : List Key) (e : Ending) (w' : World) : Prop :=
  e = .returned (.tuple #[]) ∧ Only (fun j => j = rg) w w' ∧ ∃ p' n' cap' T', RG w' rg p' n' cap' T' ∧ gr T' = (if (aget h (gr T)).isSome then gr T else aput h ps (gr T))
set_option linter.unusedSimpArgs false in
set_option maxRecDepth 20000 in
set_option maxHeartbeats 16000000 in
attribute [local go_sem ↓] hld_open cld_open in
theorem rput_to (w : World) (rg : Nat) (p : Option Addr) (n cap : Nat) (T : Lx) (R : RG w rg p n cap T) (h : Key) (u : Value) (ps : List Key) (hh : h.length = 32) (hu : HSeen w u ps) (hps : H32 ps) (hpl : ps.length ≤ 1000) (hT : T.length + 1 ≤ 100000) :
    Calls Try.prog 52 #[rp rg, .agg (cmv h u)] w (RputPost w rg T h ps) := by
  have BA := Lib.hid (below_al11 w (.cells (cmv h u) 49))
  have HB := Lib.hid (heap_alloc_last w (.cells (cmv h u) 49))
  have RR := Lib.hid (R.kb BA.out)
  have HH := Lib.hid hh
  have HPS := Lib.hid hps
  have HPL := Lib.hid hpl
  have HTL := Lib.hid hT
  have HU := Lib.hid (hu.mild (mild_below BA.out))
  have HLN := Lib.hid R.len
  have HAS := Lib.hid R.asc
  have HP3 := Lib.hid R.p32
  have hrow := range_row HB.out
  rw [cmv_list] at hrow
  have hld0 := hld_range hh (rng_pre hrow)
  have HROW := Lib.hid hrow
  clear hh hps hpl hT hu hrow R
  go_enter Try.func52, Try.ntmps52
  go_wp2_with fail
  generalize w.alloc (.cells (cmv h u) 49) = w0 at *
  generalize hbc : w.heap.size = bc at HB HROW hld0 ⊢
  refine (rhas_to w0 rg p n cap T h HH.out RR.out).mono ?_
  rintro e w1 ⟨rfl, b1⟩
  have B1 : Hid (Below w0.heap.size w0 w1) := Lib.hid b1
  have HBC := Lib.hid hbc
  clear b1 hld0 hbc
  cases hq : (aget h (gr T)).isSome with
  | true =>
    have HQ := Lib.hid hq
    clear hq
    go_wp2_with fail
    refine bodyPost_ret (results_none rfl _ _ _) rfl ?_
    exact ⟨rfl, Only.of_below (BA.out.trans (B1.out.mono BA.out.size)), p, n, cap, T, RR.out.kb B1.out, by rw [if_pos HQ.out]⟩
  | false =>
    have HQ := Lib.hid hq
    have HQ0 := HQ
    have HNO : Hid (aget h T = none) := Lib.hid (by rw [gr_get] at hq; cases h9 : aget h T with | none => rfl | some y => rw [h9] at hq; cases hq)
    clear hq
    go_upto_block 0 with fail
    go_cut [4] from 10 to 31 (fun v4 wr => ∃ k : Nat, v4 = .int .i64 k ∧ k ≤ n ∧ Hid (∀ j (hj : j < T.length), j < k → Op.bytesLess T[j].1 h = true) ∧ Hid (∀ j (hj : j < T.length), k ≤ j → Op.bytesLess T[j].1 h = false) ∧ Hid (Below w0.heap.size w0 wr))
    case first =>
      go_wp2_with fail
      go_loopw [4] (fun v4 wr => ∃ k : Nat, v4 = .int .i64 k ∧ k ≤ n ∧ Hid (∀ j (hj : j < T.length), j < k → Op.bytesLess T[j].1 h = true) ∧ Hid (Below w0.heap.size w0 wr)) (fun v4 _ => n - (intOf v4).toNat)
      case atStart => exact ⟨0, rfl, Nat.zero_le _, Lib.hid (fun _ _ h => by omega), B1⟩
      case round =>
        clear B1
        obtain ⟨k, rfl, hk, HLO, B⟩ := hrel
        have RW := Lib.hid (RR.out.kb B.out)
        have hr1 := RW.out.c
        by_cases hlt : k < n
        · obtain ⟨j1, j2, j3⟩ := next_fit hlt (by have := HLN.out; have := HTL.out; omega)
          have hkT : k < T.length := by rw [← HLN.out]; exact hlt
          obtain ⟨b, o, cap', e1, hrg⟩ := RW.out.ts.at (List.getElem?_eq_getElem hkT)
          injection e1 with e1 e2 e3
          subst e1
          obtain ⟨x, hx⟩ : ∃ x, x = T[k] := ⟨_, rfl⟩
          rw [← hx] at hrg
          have HX32 : Hid (x.1.length = 32) := Lib.hid (by rw [hx]; exact RW.out.ts.h32 _ (List.getElem_mem hkT))
          have HRG := Lib.hid (rng_pre hrg)
          have HXM : Hid (∀ hj : k < T.length, T[k].1 = x.1) := Lib.hid (fun _ => by rw [hx])
          have HGX : Hid (∀ j (hj : j < T.length), k < j → Op.bytesLess x.1 T[j].1 = true) := Lib.hid (fun j hj hjm => by rw [hx]; exact asc_less HAS.out hj hjm)
          have HKN := Lib.hid hlt
          have HJ1 := Lib.hid j1
          have HKL := Lib.hid hk
          have hkd : decide (k < n) = true := decide_eq_true hlt
          clear hx hrg e2 e3 hkT hk
          go_upto_region 3 with fail
          have bq : Below wr.heap.size wr wr.drew := blw_qt _ 1 wr
          have RV := Lib.hid (RW.out.kb bq)
          have HRV := Lib.hid (rng_kb HRG.out bq)
          have HBV := Lib.hid (rng_kb (rng_pre HROW.out) (B.out.trans (bq.mono B.out.size)))
          have BV := Lib.hid (B.out.trans (bq.mono B.out.size))
          go_wp2_with fail
          try simp only [List.append]
          refine wp_region_noPanic ?_
          refine wp_region_held_drew (S := (fun V => V.cell? ⟨rg, 0, none⟩ = some (.slice (some ⟨b, o, none⟩) n cap) ∧ (hld ⟨b, o + k * 33, none⟩).run Try.prog V = .ok (.agg (hv x.1)) V ∧ (hld ⟨bc, 0, none⟩).run Try.prog V = .ok (.agg (hv h)) V)) (by kernel_rfl) ⟨RV.out.c, hld_range HX32.out HRV.out, hld_range HH.out HBV.out⟩ (fun hHeld => ?_)
          generalize wr.drew = cw at *
          refine wpAnyH_take (i := 0) (v := ?_) (by simp only [List.getElem?_toArray, List.getElem?_cons_zero]; rfl) (by kernel_rfl) (by kernel_rfl) (by kernel_rfl) (fun _ _ _ h => h) (Or.inl ⟨by rfl, ?_⟩) (by assumption) ?_
          rotate_left
          · intro w hSw
            try dsimp only at hSw
            go_simp
            try with_reducible rfl
          try simp only [Act.put, List.setIfInBounds_toArray, List.set_cons_zero, List.set_cons_succ]
          refine wpAnyH_take (i := 1) (v := ?_) (by simp only [List.getElem?_toArray, List.getElem?_cons_succ, List.getElem?_cons_zero]; rfl) (by kernel_rfl) (by kernel_rfl) (by kernel_rfl) (fun _ _ _ h => h) (Or.inl ⟨by rfl, ?_⟩) (by assumption) ?_
          rotate_left
          · intro w hSw
            try dsimp only at hSw
            go_simp
            try with_reducible rfl
          try simp only [Act.put, List.setIfInBounds_toArray, List.set_cons_zero, List.set_cons_succ]
          refine wpAnyH_take (i := 2) (v := ?_) (by simp only [List.getElem?_toArray, List.getElem?_cons_succ, List.getElem?_cons_zero]; rfl) (by kernel_rfl) (by kernel_rfl) (by kernel_rfl) (fun _ _ _ h => h) (Or.inl ⟨by rfl, ?_⟩) (by assumption) ?_
          rotate_left
          · intro w hSw
            try dsimp only at hSw
            go_simp
            try with_reducible rfl
          try simp only [Act.put, List.setIfInBounds_toArray, List.set_cons_zero, List.set_cons_succ]
          refine wpAnyH_take (i := 3) (v := ?_) (by simp only [List.getElem?_toArray, List.getElem?_cons_succ, List.getElem?_cons_zero]; rfl) (by kernel_rfl) (by kernel_rfl) (by kernel_rfl) (fun _ _ _ h => h) (Or.inl ⟨by rfl, ?_⟩) (by assumption) ?_
          rotate_left
          · intro w hSw
            try dsimp only at hSw
            go_simp
            try with_reducible rfl
          try simp only [Act.put, List.setIfInBounds_toArray, List.set_cons_zero, List.set_cons_succ]
          refine wpAnyH_take (i := 4) (v := ?_) (by simp only [List.getElem?_toArray, List.getElem?_cons_succ, List.getElem?_cons_zero]; rfl) (by kernel_rfl) (by kernel_rfl) (by kernel_rfl) (fun _ _ _ h => h) (Or.inl ⟨by rfl, ?_⟩) (by assumption) ?_
          rotate_left
          · intro w hSw
            try dsimp only at hSw
            go_simp
            try with_reducible rfl
          try simp only [Act.put, List.setIfInBounds_toArray, List.set_cons_zero, List.set_cons_succ]
          refine wpAnyH_take (i := 5) (v := ?_) (by simp only [List.getElem?_toArray, List.getElem?_cons_succ, List.getElem?_cons_zero]; rfl) (by kernel_rfl) (by kernel_rfl) (by kernel_rfl) (fun _ _ _ h => h) (Or.inl ⟨by rfl, ?_⟩) (by assumption) ?_
          rotate_left
          · intro w hSw
            try dsimp only at hSw
            go_simp
            try with_reducible rfl
          try simp only [Act.put, List.setIfInBounds_toArray, List.set_cons_zero, List.set_cons_succ]
          refine wpAnyH_take (i := 6) (v := ?_) (by simp only [List.getElem?_toArray, List.getElem?_cons_succ, List.getElem?_cons_zero]; rfl) (by kernel_rfl) (by kernel_rfl) (by kernel_rfl) (fun _ _ _ h => h) (Or.inl ⟨by rfl, ?_⟩) (by assumption) ?_
          rotate_left
          · intro w hSw
            try dsimp only at hSw
            go_simp
            try with_reducible rfl
          try simp only [Act.put, List.setIfInBounds_toArray, List.set_cons_zero, List.set_cons_succ]
          refine wpAnyH_take (i := 7) (v := ?_) (by simp only [List.getElem?_toArray, List.getElem?_cons_succ, List.getElem?_cons_zero]; rfl) (by kernel_rfl) (by kernel_rfl) (by kernel_rfl) (fun _ _ _ h => h) (Or.inl ⟨by rfl, ?_⟩) (by assumption) ?_
          rotate_left
          · intro w hSw
            try dsimp only at hSw
            go_simp
            try with_reducible rfl
          try simp only [Act.put, List.setIfInBounds_toArray, List.set_cons_zero, List.set_cons_succ]
          refine wpAnyH_take (i := 8) (v := ?_) (by simp only [List.getElem?_toArray, List.getElem?_cons_succ, List.getElem?_cons_zero]; rfl) (by kernel_rfl) (by kernel_rfl) (by kernel_rfl) (fun _ _ _ h => h) (Or.inl ⟨by rfl, ?_⟩) (by assumption) ?_
          rotate_left
          · intro w hSw
            try dsimp only at hSw
            go_simp
            try with_reducible rfl
          try simp only [Act.put, List.setIfInBounds_toArray, List.set_cons_zero, List.set_cons_succ]
          refine wpAnyH_take (i := 9) (v := ?_) (by simp only [List.getElem?_toArray, List.getElem?_cons_succ, List.getElem?_cons_zero]; rfl) (by kernel_rfl) (by kernel_rfl) (by kernel_rfl) (fun _ _ _ h => h) (Or.inl ⟨by rfl, ?_⟩) (by assumption) ?_
          rotate_left
          · intro w hSw
            try dsimp only at hSw
            go_simp
            try with_reducible rfl
          try simp only [Act.put, List.setIfInBounds_toArray, List.set_cons_zero, List.set_cons_succ]
          refine wpAnyH_take (i := 10) (v := ?_) (by simp only [List.getElem?_toArray, List.getElem?_cons_succ, List.getElem?_cons_zero]; rfl) (by kernel_rfl) (by kernel_rfl) (by kernel_rfl) (fun _ _ _ h => h) (Or.inl ⟨by rfl, ?_⟩) (by assumption) ?_
          rotate_left
          · intro w hSw
            try dsimp only at hSw
            go_simp
            try with_reducible rfl
          try simp only [Act.put, List.setIfInBounds_toArray, List.set_cons_zero, List.set_cons_succ]
          refine wpAnyH_take (i := 11) (v := ?_) (by simp only [List.getElem?_toArray, List.getElem?_cons_succ, List.getElem?_cons_zero]; rfl) (by kernel_rfl) (by kernel_rfl) (by kernel_rfl) (fun _ _ _ h => h) (Or.inl ⟨by rfl, ?_⟩) (by assumption) ?_
          rotate_left
          · intro w hSw
            try dsimp only at hSw
            go_simp
            try with_reducible rfl
          try simp only [Act.put, List.setIfInBounds_toArray, List.set_cons_zero, List.set_cons_succ]
          refine wpAnyH_take (i := 12) (v := ?_) (by simp only [List.getElem?_toArray, List.getElem?_cons_succ, List.getElem?_cons_zero]; rfl) (by kernel_rfl) (by kernel_rfl) (by kernel_rfl) (fun _ _ _ h => h) (Or.inl ⟨by rfl, ?_⟩) (by assumption) ?_
          rotate_left
          · intro w hSw
            try dsimp only at hSw
            go_simp
            try with_reducible rfl
          try simp only [Act.put, List.setIfInBounds_toArray, List.set_cons_zero, List.set_cons_succ]
          refine wpAnyH_take (i := 13) (v := ?_) (by simp only [List.getElem?_toArray, List.getElem?_cons_succ, List.getElem?_cons_zero]; rfl) (by kernel_rfl) (by kernel_rfl) (by kernel_rfl) (fun _ _ _ h => h) (Or.inl ⟨by rfl, ?_⟩) (by assumption) ?_
          rotate_left
          · intro w hSw
            try dsimp only at hSw
            go_simp
            try with_reducible rfl
          try simp only [Act.put, List.setIfInBounds_toArray, List.set_cons_zero, List.set_cons_succ]
          refine wpAnyH_take (i := 14) (v := ?_) (by simp only [List.getElem?_toArray, List.getElem?_cons_succ, List.getElem?_cons_zero]; rfl) (by kernel_rfl) (by kernel_rfl) (by kernel_rfl) (fun _ _ _ h => h) (Or.inl ⟨by rfl, ?_⟩) (by assumption) ?_
          rotate_left
          · intro w hSw
            try dsimp only at hSw
            go_simp
            try with_reducible rfl
          try simp only [Act.put, List.setIfInBounds_toArray, List.set_cons_zero, List.set_cons_succ]
          refine wpAnyH_take (i := 15) (v := ?_) (by simp only [List.getElem?_toArray, List.getElem?_cons_succ, List.getElem?_cons_zero]; rfl) (by kernel_rfl) (by kernel_rfl) (by kernel_rfl) (fun _ _ _ h => h) (Or.inl ⟨by rfl, ?_⟩) (by assumption) ?_
          rotate_left
          · intro w hSw
            try dsimp only at hSw
            go_simp
            try with_reducible rfl
          try simp only [Act.put, List.setIfInBounds_toArray, List.set_cons_zero, List.set_cons_succ]
          refine wpAnyH_take (i := 16) (v := ?_) (by simp only [List.getElem?_toArray, List.getElem?_cons_succ, List.getElem?_cons_zero]; rfl) (by kernel_rfl) (by kernel_rfl) (by kernel_rfl) (fun _ _ _ h => h) (Or.inl ⟨by rfl, ?_⟩) (by assumption) ?_
          rotate_left
          · intro w hSw
            try dsimp only at hSw
            go_simp
            try with_reducible rfl
          try simp only [Act.put, List.setIfInBounds_toArray, List.set_cons_zero, List.set_cons_succ]
          refine wpAnyH_take (i := 17) (v := ?_) (by simp only [List.getElem?_toArray, List.getElem?_cons_succ, List.getElem?_cons_zero]; rfl) (by kernel_rfl) (by kernel_rfl) (by kernel_rfl) (fun _ _ _ h => h) (Or.inl ⟨by rfl, ?_⟩) (by assumption) ?_
          rotate_left
          · intro w hSw
            try dsimp only at hSw
            go_simp
            try with_reducible rfl
          try simp only [Act.put, List.setIfInBounds_toArray, List.set_cons_zero, List.set_cons_succ]
          refine wpAnyH_ready (rs := [18]) (by kernel_rfl) (by simp) ?_
          refine AllReadyH.cons (by simp only [List.getElem?_toArray, List.getElem?_cons_succ, List.getElem?_cons_zero]; rfl) (fun K hK => ?_) AllReadyH.nil
          go_simp
          refine (rless_to cw x.1 h HX32.out HH.out).mono ?_
          rintro e cx ⟨rfl, bb⟩
          have BX := Lib.hid (BV.out.trans (bb.mono BV.out.size))
          obtain ⟨lb, hlb⟩ : ∃ lb, lb = Op.bytesLess x.1 h := ⟨_, rfl⟩
          rw [← hlb]
          have HLB := Lib.hid hlb
          have HSP : Hid (cx.cell? ⟨rg, 0, none⟩ = some (.slice (some ⟨b, o, none⟩) n cap) ∧ (hld ⟨b, o + k * 33, none⟩).run Try.prog cx = .ok (.agg (hv x.1)) cx ∧ (hld ⟨bc, 0, none⟩).run Try.prog cx = .ok (.agg (hv h)) cx) := Lib.hid ⟨(RV.out.kb bb).c, hld_range HX32.out (rng_kb HRV.out bb), hld_range HH.out (rng_kb HBV.out bb)⟩
          clear hlb bb bq
          go_wp2_with fail
          refine hK.out _ _ HSP.out (fun hHeld => ?_)
          clear hK K
          try simp only [Act.put, List.setIfInBounds_toArray, List.set_cons_zero, List.set_cons_succ]
          refine wpAnyH_take (i := 19) (v := ?_) (by simp only [List.getElem?_toArray, List.getElem?_cons_succ, List.getElem?_cons_zero]; rfl) (by kernel_rfl) (by kernel_rfl) (by kernel_rfl) (fun _ _ _ h => h) (Or.inl ⟨by rfl, ?_⟩) (by assumption) ?_
          rotate_left
          · intro w hSw
            try dsimp only at hSw
            go_simp
            try with_reducible rfl
          try simp only [Act.put, List.setIfInBounds_toArray, List.set_cons_zero, List.set_cons_succ]
          refine wpAnyH_done (by kernel_rfl) ?_ _
          refine NoPanic.normal ?_
          cases lb with
          | true =>
            go_wp2_with fail
            refine ⟨⟨k + 1, congrArg _ HJ1.out, HKN.out, Lib.hid (fun j hj hjm => ?_), BX⟩, ?_⟩
            · by_cases e : j = k
              · subst e; rw [HXM.out hj, ← HLB.out]
              · exact HLO.out j hj (by omega)
            · rw [HJ1.out]; simp only [intOf, Int.toNat_natCast]; exact Nat.sub_lt_sub_left HKN.out (Nat.lt_succ_self k)
          | false =>
            go_wp2_with fail
            go_meet
            case rel =>
              refine ⟨k, rfl, HKL.out, HLO, Lib.hid (fun j hj hjm => ?_), BX⟩
              by_cases e : j = k
              · subst e; rw [HXM.out hj, ← HLB.out]
              · cases hq : Op.bytesLess T[j].1 h with
                | false => rfl
                | true =>
                  have := less_trans _ _ _ (HGX.out j hj (by omega)) hq
                  rw [← HLB.out] at this; cases this
        · obtain rfl : k = n := by omega
          have hl2 : decide ((k : Int) < k) = false := by simp
          clear hlt hk
          go_wp2_with fail
          go_quiet (fail)
          go_wp2_with fail
          go_meet
          case rel => exact ⟨k, rfl, Nat.le_refl _, HLO, Lib.hid (fun j hj hjm => by have := HLN.out; omega), Lib.hid (B.out.trans (blw_qt _ _ wr))⟩
    case rest =>
      clear B1
      obtain ⟨k, rfl, hk, HLO, HHI, B⟩ := hcut
      have RW := Lib.hid (RR.out.kb B.out)
      have hr1 := RW.out.c
      have HKL : Hid (k ≤ T.length) := Lib.hid (by rw [← HLN.out]; exact hk)
      have HNC : Hid (n ≤ cap) := Lib.hid (by obtain ⟨_, _, _, e, _, hle⟩ := RW.out.ts.shape; injection e with _ e1 e2; omega)
      have hb1 : (k : Int) ≤ cap := by have := HNC.out; omega
      have hb2 : (0 : Int) ≤ k := by omega
      have hb3 : k ≤ cap := by have := HNC.out; omega
      have hb4 : (k : Int) ≤ n := by omega
      have hb5 : k ≤ n := hk
      have BE := Lib.hid (below_al11 wc (.cells #[] 49))
      have hr1a := (mild_below BE.out).cell hr1
      have E0 : Hid (TOwn (wc.alloc (.cells #[] 49)) wc.heap.size (.slice (some ⟨wc.heap.size, 0, none⟩) 0 0) []) := Lib.hid (own_empty wc _ _ (Nat.le_refl _))
      have STK : Hid (TS (wc.alloc (.cells #[] 49)) (.slice p k cap) (T.take k)) := Lib.hid ((RW.out.ts.kb BE.out).take HKL.out)
      clear hk
      go_upto_region 6 with (first
        | (at_builtin; refine push_comms rfl (.tmp 32) (.tmp 38) rfl wc.heap.size (.slice (some ⟨wc.heap.size, 0, none⟩) 0 0) (.slice p k cap) [] (T.take k) rfl E0.out rfl STK.out (by have := HTL.out; rw [List.length_take]; simp; omega) BE.out.size ?_; intro v5 w5 o5 oth5 loc5; have O5 : Hid (TOwn w5 wc.heap.size v5 (T.take k)) := Lib.hid o5; have B5 := Lib.hid (BE.out.trans (oth5.below BE.out.size (fun k hk => own_from E0.out k hk))); clear o5 oth5 loc5)
        | (refine push_empty_c rfl rfl ?_))
      obtain ⟨p5, n5, c5, hv5, hn5⟩ := own_shc O5.out
      subst hv5
      clear hn5 E0 STK BE hr1a
      obtain ⟨pu, cu, hu2⟩ := HU.out.shape
      obtain ⟨lu, hlu⟩ : ∃ lu, lu = ps.length := ⟨_, rfl⟩
      rw [← hlu] at hu2
      subst hu2
      clear hlu
      have BV : Hid (Below wc.heap.size wc w5.drew) := Lib.hid (B5.out.trans (blw_qt _ 1 w5))
      have OV : Hid (TOwn w5.drew wc.heap.size (.slice p5 n5 c5) (T.take k)) := Lib.hid (own_below O5.out (blw_qt w5.heap.size 1 w5))
      clear O5 B5
      go_wp2_with fail
      try simp only [List.append]
      refine wp_region_noPanic ?_
      refine wp_region_held_drew (S := (fun V => (hld ⟨bc, 0, none⟩).run Try.prog V = .ok (.agg (hv h)) V ∧ V.cell? ⟨bc, 32, none⟩ = some (.slice pu lu cu))) (by kernel_rfl) ⟨hld_range HH.out (rng_pre (rng_kb HROW.out (B.out.trans (BV.out.mono B.out.size)))), cu_at HH.out (rng_kb HROW.out (B.out.trans (BV.out.mono B.out.size)))⟩ (fun hHeld => ?_)
      generalize w5.drew = cw at *
      refine wpAnyH_take (i := 0) (v := ?_) (by simp only [List.getElem?_toArray, List.getElem?_cons_zero]; rfl) (by kernel_rfl) (by kernel_rfl) (by kernel_rfl) (fun _ _ _ h => h) (Or.inl ⟨by rfl, ?_⟩) (by assumption) ?_
      rotate_left
      · intro w hSw
        try dsimp only at hSw
        go_simp
        try with_reducible rfl
      try simp only [Act.put, List.setIfInBounds_toArray, List.set_cons_zero, List.set_cons_succ]
      refine wpAnyH_take (i := 1) (v := ?_) (by simp only [List.getElem?_toArray, List.getElem?_cons_succ, List.getElem?_cons_zero]; rfl) (by kernel_rfl) (by kernel_rfl) (by kernel_rfl) (fun _ _ _ h => h) (Or.inl ⟨by rfl, ?_⟩) (by assumption) ?_
      rotate_left
      · intro w hSw
        try dsimp only at hSw
        go_simp
        try with_reducible rfl
      try simp only [Act.put, List.setIfInBounds_toArray, List.set_cons_zero, List.set_cons_succ]
      refine wpAnyH_take (i := 2) (v := ?_) (by simp only [List.getElem?_toArray, List.getElem?_cons_succ, List.getElem?_cons_zero]; rfl) (by kernel_rfl) (by kernel_rfl) (by kernel_rfl) (fun _ _ _ h => h) (Or.inl ⟨by rfl, ?_⟩) (by assumption) ?_
      rotate_left
      · intro w hSw
        try dsimp only at hSw
        go_simp
        try with_reducible rfl
      try simp only [Act.put, List.setIfInBounds_toArray, List.set_cons_zero, List.set_cons_succ]
      refine wpAnyH_take (i := 4) (v := ?_) (by simp only [List.getElem?_toArray, List.getElem?_cons_succ, List.getElem?_cons_zero]; rfl) (by kernel_rfl) (by kernel_rfl) (by kernel_rfl) (fun _ _ _ h => h) (Or.inl ⟨by rfl, ?_⟩) (by assumption) ?_
      rotate_left
      · intro w hSw
        try dsimp only at hSw
        go_simp
        try with_reducible rfl
      try simp only [Act.put, List.setIfInBounds_toArray, List.set_cons_zero, List.set_cons_succ]
      refine wpAnyH_take (i := 5) (v := ?_) (by simp only [List.getElem?_toArray, List.getElem?_cons_succ, List.getElem?_cons_zero]; rfl) (by kernel_rfl) (by kernel_rfl) (by kernel_rfl) (fun _ _ _ h => h) (Or.inl ⟨by rfl, ?_⟩) (by assumption) ?_
      rotate_left
      · intro w hSw
        try dsimp only at hSw
        go_simp
        try with_reducible rfl
      try simp only [Act.put, List.setIfInBounds_toArray, List.set_cons_zero, List.set_cons_succ]
      refine wpAnyH_ready (rs := [3]) (by kernel_rfl) (by simp) ?_
      refine (AllReadyH.cons (by simp only [List.getElem?_toArray, List.getElem?_cons_succ, List.getElem?_cons_zero]; rfl) (fun K hK => ?_) AllReadyH.nil)
      refine step_empty_h rfl rfl ?_
      have HE0 : Hid (HOwn (cw.alloc (.cells #[] 28)) wc.heap.size (.slice (some ⟨cw.heap.size, 0, none⟩) 0 0) []) := Lib.hid (own_empty cw _ _ BV.out.size)
      have HB0 := Lib.hid (heap_alloc_last cw (.cells #[] 28))
      have OV := Lib.hid (own_below OV.out (below_al11 cw (.cells #[] 28)))
      have BV := Lib.hid (BV.out.alloc BV.out.size (.cells #[] 28))
      generalize cw.alloc (.cells #[] 28) = cx at *
      generalize cw.heap.size = b0 at *
      rename World => cw
      refine hK.out _ _ ⟨hld_range HH.out (rng_pre (rng_kb HROW.out (B.out.trans (BV.out.mono B.out.size)))), cu_at HH.out (rng_kb HROW.out (B.out.trans (BV.out.mono B.out.size)))⟩ (fun hHeld => ?_)
      clear hK K
      try simp only [Act.put, List.setIfInBounds_toArray, List.set_cons_zero, List.set_cons_succ]
      refine wpAnyH_ready (rs := [6]) (by kernel_rfl) (by simp) ?_
      refine (AllReadyH.cons (by simp only [List.getElem?_toArray, List.getElem?_cons_succ, List.getElem?_cons_zero]; rfl) (fun K hK => ?_) AllReadyH.nil)
      refine step_hashes rfl _ _ rfl wc.heap.size (.slice (some ⟨b0, 0, none⟩) 0 0) (.slice pu lu cu) [] ps (by rfl) HE0.out (by rfl) (HU.out.mild (mild_below (B.out.trans (BV.out.mono B.out.size)))) HPS.out (by have := HPL.out; simp; omega) BV.out.size ?_
      intro v6 cx o6 oth6
      obtain ⟨p6, n6, c6, rfl, hn6⟩ := own_sh o6
      have OH : Hid (HOwn cx wc.heap.size (.slice p6 n6 c6) ps) := Lib.hid o6
      have OV := Lib.hid (own_keep OV.out oth6 (fun j hj e => own_apart OV.out HB0.out (by decide) (hj.trans e.symm)))
      have BV := Lib.hid (BV.out.trans (oth6.below BV.out.size (fun k hk => own_from HE0.out k hk)))
      clear o6 oth6 hn6 HE0 HB0
      rename World => cw
      refine hK.out _ _ ⟨hld_range HH.out (rng_pre (rng_kb HROW.out (B.out.trans (BV.out.mono B.out.size)))), cu_at HH.out (rng_kb HROW.out (B.out.trans (BV.out.mono B.out.size)))⟩ (fun hHeld => ?_)
      clear hK K
      try simp only [Act.put, List.setIfInBounds_toArray, List.set_cons_zero, List.set_cons_succ]
      refine wpAnyH_ready (rs := [7]) (by kernel_rfl) (by simp) ?_
      refine (AllReadyH.cons (by simp only [List.getElem?_toArray, List.getElem?_cons_succ, List.getElem?_cons_zero]; rfl) (fun K hK => ?_) AllReadyH.nil)
      refine step_buildc h (.slice p6 n6 c6) HH.out rfl (by rfl) (by rfl) ?_
      refine hK.out _ _ ⟨hld_range HH.out (rng_pre (rng_kb HROW.out (B.out.trans (BV.out.mono B.out.size)))), cu_at HH.out (rng_kb HROW.out (B.out.trans (BV.out.mono B.out.size)))⟩ (fun hHeld => ?_)
      clear hK K
      try simp only [Act.put, List.setIfInBounds_toArray, List.set_cons_zero, List.set_cons_succ]
      refine wpAnyH_ready (rs := [8]) (by kernel_rfl) (by simp) ?_
      refine (AllReadyH.cons (by simp only [List.getElem?_toArray, List.getElem?_cons_succ, List.getElem?_cons_zero]; rfl) (fun K hK => ?_) AllReadyH.nil)
      refine step_slc1 rfl _ rfl h (.slice p6 n6 c6) HH.out (by rfl) ?_
      have T1 : Hid (TS (cw.alloc (.cells (cf [(h, .slice p6 n6 c6)]).toArray 49)) (.slice (some ⟨cw.heap.size, 0, none⟩) 1 1) [(h, (.slice p6 n6 c6, ps))]) := Lib.hid (TS.one (heap_alloc_last cw _) HH.out ((HSeen.own OH.out).mild (mild_below (below_al11 cw _))))
      have OV := Lib.hid (own_below OV.out (below_al11 cw (.cells (cf [(h, .slice p6 n6 c6)]).toArray 49)))
      have OH := Lib.hid (own_below OH.out (below_al11 cw (.cells (cf [(h, .slice p6 n6 c6)]).toArray 49)))
      have BV := Lib.hid (BV.out.alloc BV.out.size (.cells (cf [(h, .slice p6 n6 c6)]).toArray 49))
      generalize cw.alloc (.cells (cf [(h, .slice p6 n6 c6)]).toArray 49) = cx at *
      generalize cw.heap.size = b1 at *
      rename World => cw
      refine hK.out _ _ ⟨hld_range HH.out (rng_pre (rng_kb HROW.out (B.out.trans (BV.out.mono B.out.size)))), cu_at HH.out (rng_kb HROW.out (B.out.trans (BV.out.mono B.out.size)))⟩ (fun hHeld => ?_)
      clear hK K
      try simp only [Act.put, List.setIfInBounds_toArray, List.set_cons_zero, List.set_cons_succ]
      refine wpAnyH_ready (rs := [9]) (by kernel_rfl) (by simp) ?_
      refine (AllReadyH.cons (by simp only [List.getElem?_toArray, List.getElem?_cons_succ, List.getElem?_cons_zero]; rfl) (fun K hK => ?_) AllReadyH.nil)
      refine step_comms rfl _ _ rfl wc.heap.size (.slice p5 n5 c5) (.slice (some ⟨b1, 0, none⟩) 1 1) (T.take k) [(h, (.slice p6 n6 c6, ps))] (by rfl) OV.out (by rfl) T1.out (by have := HTL.out; rw [List.length_take]; simp; omega) BV.out.size ?_
      intro v9 cx o9 oth9 loc9
      obtain ⟨p9, n9, c9, rfl, hn9⟩ := own_shc o9
      have O9 := Lib.hid o9
      have OH := Lib.hid (own_keep OH.out oth9 (fun j hj e => by obtain ⟨cs1, h1, _⟩ := own_type OV.out e; exact own_apart OH.out h1 (by decide) hj))
      have BV := Lib.hid (BV.out.trans (oth9.below BV.out.size (fun k hk => own_from OV.out k hk)))
      clear o9 oth9 loc9 hn9 OV T1
      rename World => cw
      refine hK.out _ _ ⟨hld_range HH.out (rng_pre (rng_kb HROW.out (B.out.trans (BV.out.mono B.out.size)))), cu_at HH.out (rng_kb HROW.out (B.out.trans (BV.out.mono B.out.size)))⟩ (fun hHeld => ?_)
      clear hK K
      try simp only [Act.put, List.setIfInBounds_toArray, List.set_cons_zero, List.set_cons_succ]
      refine wpAnyH_take (i := 10) (v := ?_) (by simp only [List.getElem?_toArray, List.getElem?_cons_succ, List.getElem?_cons_zero]; rfl) (by kernel_rfl) (by kernel_rfl) (by kernel_rfl) (fun _ _ _ h => h) (Or.inl ⟨by rfl, ?_⟩) (by assumption) ?_
      rotate_left
      · intro w hSw
        try dsimp only at hSw
        go_simp
        try with_reducible rfl
      try simp only [Act.put, List.setIfInBounds_toArray, List.set_cons_zero, List.set_cons_succ]
      refine wpAnyH_done (by kernel_rfl) ?_ _
      refine NoPanic.normal ?_
      have hr2 := (RW.out.kb BV.out).c
      have RV := Lib.hid (RW.out.kb BV.out)
      have TD := Lib.hid (RV.out.ts.dropO HKL.out HLN.out)
      have hr2 := RV.out.c
      obtain ⟨S9, hS9⟩ : ∃ S9, T.take k ++ [(h, (.slice p6 n6 c6, ps))] = S9 := ⟨_, rfl⟩
      obtain ⟨D9, hD9⟩ : ∃ D9, T.drop k = D9 := ⟨_, rfl⟩
      have HL9 : Hid (S9.length + D9.length ≤ 1000000) := Lib.hid (by have := HTL.out; have := HKL.out; rw [← hS9, ← hD9, List.length_append, List.length_take, List.length_drop, List.length_singleton]; omega)
      have TD := TD.out
      have O9 := O9.out
      rw [hS9] at O9
      rw [hD9] at TD
      have HO9 := Lib.hid O9
      have HS9 := Lib.hid hS9
      have HD9 := Lib.hid hD9
      clear O9 hS9 hD9
      revert TD
      generalize hq : (if cap = k then p else Option.map (fun x => x.add (k * 33)) p) = q
      generalize hmr : n - k = mr
      generalize hcr : cap - k = cr
      intro TD
      have HTD := Lib.hid TD
      clear TD
      have HQ := Lib.hid hq
      have HMR := Lib.hid hmr
      have HCR := Lib.hid hcr
      clear hq hmr hcr
      have HOB := Lib.hid BV.out.size
      go_wp2_with (at_builtin; rw [HQ.out, HMR.out, HCR.out]; go_must (refine push_comms rfl (.tmp 51) (.tmp 57) rfl wc.heap.size (.slice p9 n9 c9) (.slice q mr cr) S9 D9 rfl HO9.out rfl HTD.out HL9.out HOB.out ?_); intro v8 w8 o8 oth8 loc8; obtain ⟨p8, n8, c8, rfl, hn8⟩ := own_shc o8; have O8 := Lib.hid o8; have HC8 := Lib.hid ((oth8.block rg (Array.getElem?_eq_some_iff.1 RV.out.cell).1 (fun e => own_apart HO9.out RV.out.cell (by decide) e)).trans RV.out.cell); have HN8 := Lib.hid hn8; have OT8 := Lib.hid oth8; clear o8 oth8 loc8 hn8; have hr8 : w8.cell? ⟨rg, 0, none⟩ = some (.slice p n cap) := (by rw [cell_of_row w8 rg _ _ _ _ HC8.out]; rfl); have hf8 : w8.frozen? ⟨rg, 0, none⟩ = false := frozen_of_row _ _ _ _ _ HC8.out)
      have B8 : Hid (Below wc.heap.size wc w8) := Lib.hid (BV.out.trans (OT8.out.below BV.out.size (fun k hk => own_from HO9.out k hk)))
      have OH8 : Hid (HOwn w8 wc.heap.size (.slice p6 n6 c6) ps) := Lib.hid (own_keep OH.out OT8.out (fun j hj e => by obtain ⟨cs1, h1, _⟩ := own_type HO9.out e; exact own_apart OH.out h1 (by decide) hj))
      have BW : Hid (Below w.heap.size w w8) := Lib.hid (((BA.out.trans (B.out.mono BA.out.size))).trans (B8.out.mono (by exact Nat.le_trans BA.out.size B.out.size)))
      clear hr8 hf8 hr2 hHeld
      refine bodyPost_ret (results_none rfl _ _ _) rfl ?_
      obtain ⟨g1, g2⟩ := put_gr HAS.out h (.slice p6 n6 c6) ps HKL.out HLO.out HHI.out HNO.out
      have hS := HS9.out
      have hD := HD9.out
      rw [hS, hD] at g1 g2
      have ho : Only (fun j => j = rg) w8 (w8.setCell ⟨rg, 0, none⟩ (.slice p8 n8 c8)) := (Only.refl (fun j => j = rg) w8).setCell (p := ⟨rg, 0, none⟩) rfl _
      have hmem : ∀ x ∈ S9 ++ D9, x = (h, (.slice p6 n6 c6, ps)) ∨ x ∈ T := fun x hx => by
        rw [← hS, ← hD, List.mem_append, List.mem_append] at hx
        rcases hx with (hx | hx) | hx
        · exact .inr (List.mem_of_mem_take hx)
        · exact .inl (List.mem_singleton.1 hx)
        · exact .inr (List.mem_of_mem_drop hx)
      refine ⟨rfl, ?_, p8, n8, c8, S9 ++ D9, ⟨?_, ?_, HN8.out, g1, ?_, ?_⟩, ?_⟩
      · exact (Only.of_below (S := fun j => j = rg) BW.out).trans ho (fun _ h => h) (fun _ _ h => h)
      · exact g_cell HC8.out _
      · refine TS.own (own_keep O8.out ho (fun j hj e => own_apart O8.out HC8.out (by decide) (by rw [hj, e]))) (fun x hx => ?_) (fun x hx => ?_)
        · rcases hmem x hx with rfl | hx
          · exact HH.out
          · exact RW.out.ts.h32 x hx
        · refine HSeen.away (W := w8) ?_ HC8.out ho
          rcases hmem x hx with rfl | hx
          · exact HSeen.own OH8.out
          · exact (RW.out.ts.lit x hx).mild (mild_below B8.out)
      · have := HTL.out
        have := HKL.out
        rw [← hS, ← hD, List.length_append, List.length_append, List.length_take, List.length_drop, List.length_singleton]
        omega
      · intro x hx
        rcases hmem x hx with rfl | hx
        · exact ⟨HPS.out, Nat.le_trans HPL.out (by decide)⟩
        · exact HP3.out x hx
      · rw [g2, HQ0.out]; rfl
end Go.Proofs.Ythfkmfepeafgjaa
namespace Go.Proofs.Ythfkmfepeafgjaa
open Go.RowKit
open Go.Maps

theorem cu_at' {w : World} {b o : Nat} {h : Key} {u : Value} (hh : h.length = 32) (hr : w.rangeAt b o (us (nmb h) ++ [u])) : w.cell? ⟨b, o + 32, none⟩ = some u := hr 32 u (by rw [List.getElem?_append_right (by rw [usn_length, hh]; exact Nat.le_refl _), usn_length, hh]; rfl)
/-- No commits are read out of a graph's own cell. -/
theorem CSeen.away {W W' : World} {rg : Nat} {p : Option Addr} {n c : Nat} {t : TypeId} {v : Value} {cs : List Cm} (h : CSeen W v cs) (ok : COk cs) (hb : W.heap[rg]? = some (.cells #[.slice p n c] t (0, 0))) (ho : Only (fun j => j = rg) W W') : CSeen W' v cs := by
  obtain ⟨q, cap, e, hc⟩ := h
  refine ⟨q, cap, e, fun i x hi => ?_⟩
  obtain ⟨b, o, u, h1, h2, h3⟩ := hc i x hi
  have hl := (ok x (List.mem_of_getElem? hi)).1
  have hne : b ≠ rg := fun e => by
    subst e
    have h4 := cu_at' hl h2
    rw [cell_of_row W b _ _ _ _ hb] at h4
    have := (Array.getElem?_eq_some_iff.1 h4).1
    simp at this
  refine ⟨b, o, u, h1, fun j y hj => ?_, h3.away hb ho⟩
  have h4 := h2 j y hj
  rw [World.cell?_of_block (ho.block b (World.block_lt_of_cell? W ⟨b, _, none⟩ h4) hne)]
  exact h4
/-- What Add does. -/
def RaddPost (w : World) (rg : Nat) (T : Lx) (cs : List Cm) (e : Ending) (w' : World) : Prop :=
  e = .returned (.tuple #[]) ∧ Only (fun j => j = rg) w w' ∧ ∃ p' n' cap' T', RG w' rg p' n' cap' T' ∧ gr T' = adds (gr T) cs
set_option linter.unusedSimpArgs false in
set_option maxRecDepth 20000 in
set_option maxHeartbeats 4000000 in
attribute [local go_sem ↓] hld_open cld_open in
theorem radd_to (w : World) (rg : Nat) (p : Option Addr) (n cap : Nat) (T : Lx) (R : RG w rg p n cap T) (v : Value) (cs : List Cm) (hv' : CSeen w v cs) (hok : COk cs) (hp : ∀ c ∈ cs, c.2.length ≤ 1000) (hl : T.length + cs.length ≤ 100000) :
    Calls Try.prog 36 #[rp rg, v] w (RaddPost w rg T cs) := by
  obtain ⟨q, cq, rfl, hc⟩ := id hv'
  clear hc
  obtain ⟨m, hm⟩ : ∃ m, m = cs.length := ⟨_, rfl⟩
  rw [← hm] at hv' hl ⊢
  have HV := Lib.hid hv'
  have HO := Lib.hid hok
  have HM := Lib.hid hm
  have HL := Lib.hid hl
  have HP := Lib.hid hp
  have R0 := Lib.hid R
  clear hv' hok hl hm hp R
  go_enter Try.func36, Try.ntmps36
  go_wp2_with fail
  go_loopw [4] (fun s wr => ∃ i : Nat, s = .int .i64 i ∧ i ≤ m ∧ Hid (∃ p' n' cap' Z, RG wr rg p' n' cap' Z ∧ adds (gr T) cs = adds (gr Z) (cs.drop i) ∧ Z.length ≤ T.length + i) ∧ Hid (Only (fun j => j = rg) w wr) ∧ Hid (CSeen wr (.slice q m cq) cs)) (fun s _ => m - (intOf s).toNat)
  case atStart => exact ⟨0, rfl, Nat.zero_le _, Lib.hid ⟨p, n, cap, T, R0.out, rfl, Nat.le_refl _⟩, Lib.hid (Only.refl _ _), HV⟩
  case round =>
    obtain ⟨i, rfl, hi, HZ, B, HC⟩ := hrel
    by_cases hlt : i < m
    · obtain ⟨j1, j2, j3⟩ := next_fit hlt (by have := HL.out; omega)
      have hiE : i < cs.length := by rw [← HM.out]; exact hlt
      obtain ⟨p', cap', e1, hc⟩ := HC.out
      injection e1 with e1 e2 e3
      obtain ⟨b, o, u, rfl, hrg, hsn⟩ := hc i cs[i] (List.getElem?_eq_getElem hiE)
      subst e1
      have hdr : cs.drop i = cs[i] :: cs.drop (i + 1) := drop_at hiE
      have hoki := HO.out _ (List.getElem_mem hiE)
      have hmemi := List.getElem_mem hiE
      obtain ⟨⟨h, E⟩, hce⟩ : ∃ c : Cm, c = cs[i] := ⟨_, rfl⟩
      rw [← hce] at hrg hsn hdr hoki hmemi
      dsimp only at hrg hsn hoki
      have hld0 := cld_range hoki.1 hrg
      obtain ⟨p2, n2, c2, Z, hR, had, hZl⟩ := HZ.out
      have HPT := Lib.hid (rput_to wr rg p2 n2 c2 Z hR h u E hoki.1 hsn hoki.2 (HP.out _ hmemi) (by have := HL.out; omega))
      have HDR := Lib.hid hdr
      have HAD := Lib.hid had
      have HZL := Lib.hid hZl
      have HRC := Lib.hid hR.cell
      clear hrg hsn hdr hoki hmemi hc e2 e3 hce hiE had hZl hR HZ
      go_wp2_with fail
      refine HPT.out.mono ?_
      rintro e w3 ⟨rfl, o3, p3, n3, c3, Z3, r3, g3⟩
      have O3 := Lib.hid o3
      have R3 := Lib.hid r3
      have G3 := Lib.hid g3
      clear o3 r3 g3
      go_wp2_with fail
      refine ⟨⟨i + 1, by rw [j1], hlt, Lib.hid ⟨p3, n3, c3, Z3, R3.out, ?_, ?_⟩, Lib.hid (B.out.trans O3.out (fun _ h => h) (fun _ _ h => h)), Lib.hid (HC.out.away HO.out HRC.out O3.out)⟩, ?_⟩
      · rw [HAD.out, HDR.out, G3.out]; rfl
      · have h1 : (gr Z3).length ≤ (gr Z).length + 1 := by
          rw [G3.out]
          split
          · exact Nat.le_succ _
          · exact aput_len _ _ _
        rw [gr_len, gr_len] at h1
        have := HZL.out
        omega
      · rw [j1]; simp only [intOf]; omega
    · obtain rfl : i = m := by omega
      have hl2 : decide ((i : Int) < i) = false := by simp
      clear hlt hi
      go_wp2_with fail
      refine bodyPost_ret (results_none rfl _ _ _) rfl ?_
      obtain ⟨p2, n2, c2, Z, hR, had, _⟩ := HZ.out
      refine ⟨rfl, B.out, p2, n2, c2, Z, hR, ?_⟩
      rw [had, HM.out, List.drop_length]; rfl
end Go.Proofs.Ythfkmfepeafgjaa
