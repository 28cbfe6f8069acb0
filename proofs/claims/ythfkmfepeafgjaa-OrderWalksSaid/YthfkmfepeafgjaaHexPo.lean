/- A literal of hashes as one step. No condition. · The reference's Put: one more hash in its place. Condition: the slice is within what a slice may take up. · The reference's Put into nothing, its Sort, and SameHashes. Condition: the slices are within what a slice may take up. -/
import Derived.Test.YthfkmfepeafgjaaHexSk
import Derived.Great.BuildSlice
import Derived.Test.YthfkmfepeafgjaaHexR
import Derived.Deep.RegionHeld3
import Derived.Laws.AppendOwnNone
namespace Go.Proofs.Ythfkmfepeafgjaa
open Go.RowKit
variable {ops : Array Oper} {rest : List Oper} {a : Act} {w : World} {Q : Exit → Act → World → Prop} {dst : Option Tmp} {T : TypeId} {pos : String} {after : Array Edge}

theorem fl_flat (E : List (List UInt8)) : (E.map fun h => Value.agg (hv h)).flatMap (fun v => v.cells.toList) = fl E := by
  rw [List.flatMap_map]
  unfold fl
  congr 1
theorem build_hash {E : List (List UInt8)} {parts : Array (Nat × Operand)} {len : Nat} (hE : H32 E) (hl : len = E.length) (h0 : 0 < E.length) (h1 : E.length ≤ 1000)
    (hv' : (parts.map fun (i, x) => (i, a.eval x)).toList = ((E.map fun h => Value.agg (hv h)).zipIdx 0).map fun x => (x.2, x.1))
    (h : wpList Try.prog ops Q rest (a.put dst (.slice (some ⟨w.heap.size, 0, none⟩) len len)) (w.alloc (.cells (fl E).toArray 28))) : wpList Try.prog ops Q (⟨dst, .buildSlice 25 len parts, T, pos, after, none⟩ :: rest) a w := by
  subst hl
  obtain ⟨i0, hi0, hz0, hz1, hz2⟩ := info_parts hzinfo
  refine wpList_buildSlice rfl 25 28 E.length parts rfl (fl E).toArray i0 (.agg hzer) Try.underlying25 hi0 hz0 (by rw [hz1]; omega) (by rw [hz1]; omega) ?_ h
  rw [hv', hz1]
  have := Great.fill_whole (s := 32) (by decide) (E.map fun h => Value.agg (hv h)) ((Array.range (E.length * 32)).map ((Value.agg hzer).cells[· % (Value.agg hzer).cells.size]!)) (fun v hvm => by
    obtain ⟨h, hm, rfl⟩ := List.mem_map.1 hvm
    show (hv h).size = 32
    rw [hv_size, hE h hm]) (by simp)
  rw [fl_flat] at this
  exact this
end Go.Proofs.Ythfkmfepeafgjaa
namespace Go.Proofs.Ythfkmfepeafgjaa
open Go.RowKit
attribute [local go_sem ↓] hld_open heq_open

theorem rput_go : ∀ (L : List (List UInt8)) (h : List UInt8) (k : Nat), k ≤ L.length → (∀ i, (hi : i < L.length) → i < k → Op.bytesLess L[i] h = true) → ((hl : k < L.length) → Op.bytesLess L[k] h = false) →
    rput L h = if hl : k < L.length then (if L[k] = h then L else L.take k ++ [h] ++ L.drop k) else L ++ [h]
  | [], h, k, hk, _, _ => by simp [rput]
  | x :: L, h, 0, hk, h1, h2 => by
    have := h2 (by simp)
    simp only [List.getElem_cons_zero] at this
    rw [rput, if_neg (by rw [this]; decide)]
    simp
  | x :: L, h, k + 1, hk, h1, h2 => by
    have h0 := h1 0 (by simp) (by omega)
    simp only [List.getElem_cons_zero] at h0
    have ih := rput_go L h k (by simpa using hk) (fun i hi hik => h1 (i + 1) (by simpa using hi) (by omega)) (fun hl => h2 (by simpa using hl))
    rw [rput, if_pos h0, ih]
    by_cases hl : k < L.length
    · rw [dif_pos hl, dif_pos (by simpa using hl)]
      simp only [List.getElem_cons_succ]
      by_cases he : L[k] = h
      · rw [if_pos he, if_pos he]
      · rw [if_neg he, if_neg he]; simp
    · rw [dif_neg hl, dif_neg (by simpa using hl)]; simp

theorem below_of_dr {w w' : World} (h : Below w.drew.heap.size w.drew w') : Below w.heap.size w w' := ⟨h.os, h.tape, h.output, h.size, h.block⟩
theorem cell_kb2 {w w' : World} {a : Addr} {u : Value} (h : w.cell? a = some u) (hb : Below w.heap.size w w') : w'.cell? a = some u := by
  rw [World.cell?_of_block (w := w) (hb.block _ (World.block_lt_of_cell? w _ h))]; exact h
theorem range_kb2 {w w' : World} {b o : Nat} {cs : List Value} (h : w.rangeAt b o cs) (hb : Below w.heap.size w w') : w'.rangeAt b o cs := fun j v hv => cell_kb2 (h j v hv) hb
theorem hi_hv2 {a : List UInt8} (ha : a.length = 32) : (Try.prog.info? 28).map (·.size) = some (us (nmb a)).length := by rw [← hv_list]; exact hinfo' (hv a) (by rw [hv_size, ha])
theorem news_fl (w : World) (E : List (List UInt8)) : ∀ j u, (fl E)[j]? = some u → (w.alloc (.cells (fl E).toArray 28)).cell? ((⟨w.heap.size, 0, none⟩ : Addr).add j) = some u := fun j u hj => by
  rw [Addr.add_lit, Nat.zero_add, cell_of_row _ _ j _ _ _ (heap_alloc_last w _), List.getElem?_toArray]
  exact hj
theorem put_fits {n k : Nat} (hk : k ≤ n) (hl : (n + 1) * 32 ≤ 140737488355328) : 0 + k ≤ maxLen ∧ 0 + k + 1 ≤ maxLen ∧ k + 1 + (n - k) ≤ maxLen ∧ (0 + k) * 32 ≤ 140737488355328 ∧ (0 + k + 1) * 32 ≤ 140737488355328 ∧ (k + 1 + (n - k)) * 32 ≤ 140737488355328 := by
  unfold maxLen
  omega
theorem own_as {w : World} {B B' n : Nat} {v : Value} {E : List (List UInt8)} {xs : List Value} (h : w.ownsRow B' 28 32 v n xs) (hb : B ≤ B') (hn : n = E.length) (hx : xs = fl E) : HOwn w B v E := by
  subst hn hx
  refine ⟨h.1, ?_⟩
  rcases h.2 with h1 | ⟨g, cap, cur, h1, h2, h3⟩
  · exact .inl h1
  · exact .inr ⟨g, cap, cur, h1, Nat.le_trans hb h2, h3⟩
/-- What Put leaves. -/
def PuPost (w : World) (B : Nat) (L : List (List UInt8)) (h : List UInt8) (e : Ending) (w' : World) : Prop := ∃ v', e = .returned v' ∧ HOwn w' B v' (rput L h) ∧ Below w.heap.size w w'

set_option maxRecDepth 20000 in
set_option maxHeartbeats 4000000 in
theorem put_any (w : World) (B : Nat) (v : Value) (L : List (List UInt8)) (hL : H32 L) (h : List UInt8) (hh : h.length = 32) (hl : (L.length + 1) * 32 ≤ 140737488355328) (hB : B ≤ w.heap.size) (ho : HOwn w B v L) (h0 : 0 < L.length) :
    Calls Try.prog 41 #[v, .agg (hv h)] w (PuPost w B L h) := by
  obtain ⟨i0, hi0, hz0, hz1, hz2⟩ := info_parts hzinfo
  obtain ⟨g, cap, R, rfl, hb, hg, hc, hm, hR⟩ := ho.row h0
  have HG : Hid ((w.alloc (.cells (hv h) 28)).heap[g]? = some (.cells (fl L ++ R).toArray 28 (0, 0))) := Lib.hid ((Below.heap_alloc _ _ _ (Array.getElem?_eq_some_iff.1 hg).1).trans hg)
  have HGL := Lib.hid (Array.getElem?_eq_some_iff.1 hg).1
  have HH := Lib.hid (heap_alloc_last w (.cells (hv h) 28))
  have BEL := Lib.hid ((Below.refl w.heap.size w).alloc (Nat.le_refl _) (.cells (hv h) 28))
  have HO := Lib.hid ho
  have HL := Lib.hid hL
  have H32' := Lib.hid hh
  have HR := Lib.hid hR
  have hgd := heq_guard
  obtain ⟨n, hn⟩ : ∃ n, n = L.length := ⟨_, rfl⟩
  rw [← hn] at hc h0 hl ⊢
  have HN := Lib.hid hn
  have HFIT := Lib.hid (fun k (hk : k ≤ n) => put_fits hk hl)
  unfold maxLen at hm
  clear hg hL hh hR ho hn
  go_enter Try.func41, Try.ntmps41
  go_wp2
  generalize w.alloc (.cells (hv h) 28) = w0 at *
  go_loopw [5] (fun i wr => ∃ (k : Nat), k ≤ n ∧ i = .int .i64 k ∧ Hid (∀ i, (hi : i < L.length) → i < k → Op.bytesLess L[i] h = true) ∧ Hid (Below w0.heap.size w0 wr)) (fun i _ => n - (intOf i).toNat)
  case atStart => exact ⟨0, Nat.zero_le _, rfl, Lib.hid (fun _ _ h => by omega), Lib.hid (Below.refl _ _)⟩
  case round =>
    obtain ⟨k, hk, rfl, HK, HW⟩ := hrel
    have HG1 := Lib.hid ((HW.out.block g (by have := HGL.out; have := BEL.out.size; omega)).trans HG.out)
    have HH1 := Lib.hid ((HW.out.block w.heap.size (Array.getElem?_eq_some_iff.1 HH.out).1).trans HH.out)
    by_cases hlt : k < n
    · have hkL : k < L.length := by rw [← HN.out]; exact hlt
      have r1 := row_range HL.out hkL HG1.out
      have r2 : wr.rangeAt w.heap.size 0 (us (nmb h)) := by have := range_row HH1.out; rwa [hv_list] at this
      have hk' : (k : Int) < n := by omega
      have hkd : decide ((k : Int) < n) = true := decide_eq_true hk'
      have HLE := Lib.hid (fun W => rless_to W L[k] h (HL.out.at hkL) H32'.out)
      have hu := Try.underlying28
      have hi1 := hi_hv2 (HL.out.at hkL)
      have hi2 := hi_hv2 H32'.out
      obtain ⟨b, hbl⟩ : ∃ b, b = Op.bytesLess L[k] h := ⟨_, rfl⟩
      rw [← hbl] at HLE
      have HLS := Lib.hid hbl
      clear hbl
      go_wp2_with fail
      try simp only [List.append]
      refine wp_region_noPanic ?_
      refine wp_region_held_drew (S := (fun W => W.rangeAt g (k * 32) (us (nmb L[k])) ∧ W.rangeAt w.heap.size 0 (us (nmb h)))) (by kernel_rfl) ⟨r1, r2⟩ (fun hHeld => ?_)
      refine wpAnyH_take (i := 0) (v := ?_) (by simp only [List.getElem?_toArray, List.getElem?_cons_zero]; rfl) (by kernel_rfl) (by kernel_rfl) (by kernel_rfl) (fun _ _ _ h => h) (Or.inl ⟨by rfl, ?_⟩) (by assumption) ?_
      rotate_left
      · intro w hSw
        try dsimp only at hSw
        go_simp
        try with_reducible rfl
      try simp only [Act.put, List.setIfInBounds_toArray, List.set_cons_zero, List.set_cons_succ]
      refine wpAnyH_take (i := 1) (v := ?_) (by simp only [List.getElem?_toArray, List.getElem?_cons_succ, List.getElem?_cons_zero]; rfl) (by kernel_rfl) (by kernel_rfl) (by kernel_rfl) (fun _ _ _ h => h) (Or.inl ⟨by rfl, ?_⟩) (by assumption) ?_
      rotate_left
      · intro w hSw
        try dsimp only at hSw
        go_simp
        try with_reducible rfl
      try simp only [Act.put, List.setIfInBounds_toArray, List.set_cons_zero, List.set_cons_succ]
      refine wpAnyH_take (i := 2) (v := ?_) (by simp only [List.getElem?_toArray, List.getElem?_cons_succ, List.getElem?_cons_zero]; rfl) (by kernel_rfl) (by kernel_rfl) (by kernel_rfl) (fun _ _ _ h => h) (Or.inl ⟨by rfl, ?_⟩) (by assumption) ?_
      rotate_left
      · intro w hSw
        try dsimp only at hSw
        go_simp
        try with_reducible rfl
      try simp only [Act.put, List.setIfInBounds_toArray, List.set_cons_zero, List.set_cons_succ]
      refine wpAnyH_take (i := 3) (v := .bool true) (by simp only [List.getElem?_toArray, List.getElem?_cons_succ, List.getElem?_cons_zero]; rfl) (by kernel_rfl) (by kernel_rfl) (by kernel_rfl) (fun _ _ _ h => h) (Or.inl ⟨by rfl, ?_⟩) (by assumption) ?_
      · intro w hSw
        try dsimp only at hSw
        go_simp
      try simp only [Act.put, List.setIfInBounds_toArray, List.set_cons_zero, List.set_cons_succ]
      refine wpAnyH_take (i := 4) (v := ?_) (by simp only [List.getElem?_toArray, List.getElem?_cons_succ, List.getElem?_cons_zero]; rfl) (by kernel_rfl) (by kernel_rfl) (by kernel_rfl) (fun _ _ _ h => h) (Or.inl ⟨by rfl, ?_⟩) (by assumption) ?_
      rotate_left
      · intro w hSw
        try dsimp only at hSw
        go_simp
        try with_reducible rfl
      try simp only [Act.put, List.setIfInBounds_toArray, List.set_cons_zero, List.set_cons_succ]
      refine wpAnyH_take (i := 5) (v := ?_) (by simp only [List.getElem?_toArray, List.getElem?_cons_succ, List.getElem?_cons_zero]; rfl) (by kernel_rfl) (by kernel_rfl) (by kernel_rfl) (fun _ _ _ h => h) (Or.inl ⟨by rfl, ?_⟩) (by assumption) ?_
      rotate_left
      · intro w hSw
        try dsimp only at hSw
        go_simp
        try with_reducible rfl
      try simp only [Act.put, List.setIfInBounds_toArray, List.set_cons_zero, List.set_cons_succ]
      refine wpAnyH_take (i := 6) (v := ?_) (by simp only [List.getElem?_toArray, List.getElem?_cons_succ, List.getElem?_cons_zero]; rfl) (by kernel_rfl) (by kernel_rfl) (by kernel_rfl) (fun _ _ _ h => h) (Or.inl ⟨by rfl, ?_⟩) (by assumption) ?_
      rotate_left
      · intro w hSw
        try dsimp only at hSw
        go_simp
        try with_reducible rfl
      try simp only [Act.put, List.setIfInBounds_toArray, List.set_cons_zero, List.set_cons_succ]
      refine wpAnyH_take (i := 7) (v := ?_) (by simp only [List.getElem?_toArray, List.getElem?_cons_succ, List.getElem?_cons_zero]; rfl) (by kernel_rfl) (by kernel_rfl) (by kernel_rfl) (fun _ _ _ h => h) (Or.inl ⟨by rfl, ?_⟩) (by assumption) ?_
      rotate_left
      · intro w hSw
        try dsimp only at hSw
        go_simp
        try with_reducible rfl
      try simp only [Act.put, List.setIfInBounds_toArray, List.set_cons_zero, List.set_cons_succ]
      refine wpAnyH_take (i := 8) (v := (.agg (hv L[k]))) (by simp only [List.getElem?_toArray, List.getElem?_cons_succ, List.getElem?_cons_zero]; rfl) (by kernel_rfl) (by kernel_rfl) (by kernel_rfl) (fun _ _ _ h => h) (yieldsIf_load_mid (by rfl) _ _ rfl _ _ rfl _ _ (fun _ h => h.1) hu rfl hi1) (by assumption) ?_
      try simp only [Act.put, List.setIfInBounds_toArray, List.set_cons_zero, List.set_cons_succ]
      refine wpAnyH_take (i := 9) (v := (.agg (hv h))) (by simp only [List.getElem?_toArray, List.getElem?_cons_succ, List.getElem?_cons_zero]; rfl) (by kernel_rfl) (by kernel_rfl) (by kernel_rfl) (fun _ _ _ h => h) (yieldsIf_load_mid (by rfl) _ _ rfl _ _ rfl _ _ (fun _ h => h.2) hu rfl hi2) (by assumption) ?_
      try simp only [Act.put, List.setIfInBounds_toArray, List.set_cons_zero, List.set_cons_succ]
      refine wpAnyH_ready (rs := [10]) (by kernel_rfl) (by simp) ?_
      refine AllReadyH.cons (by simp only [List.getElem?_toArray, List.getElem?_cons_succ, List.getElem?_cons_zero]; rfl) (fun K hK => ?_) AllReadyH.nil
      go_simp
      refine (HLE.out _).mono ?_
      rintro e w2 ⟨rfl, b2⟩
      have r3 := range_kb2 (w := wr.drew) r1 b2
      have r4 := range_kb2 (w := wr.drew) r2 b2
      have B2 := Lib.hid (below_of_dr b2)
      clear b2
      go_wp2_with fail
      refine hK.out _ _ ⟨r3, r4⟩ (fun hHeld => ?_)
      clear hK K
      try simp only [Act.put, List.setIfInBounds_toArray, List.set_cons_zero, List.set_cons_succ]
      refine wpAnyH_take (i := 11) (v := ?_) (by simp only [List.getElem?_toArray, List.getElem?_cons_succ, List.getElem?_cons_zero]; rfl) (by kernel_rfl) (by kernel_rfl) (by kernel_rfl) (fun _ _ _ h => h) (Or.inl ⟨by rfl, ?_⟩) (by assumption) ?_
      rotate_left
      · intro w hSw
        try dsimp only at hSw
        go_simp
        try with_reducible rfl
      try simp only [Act.put, List.setIfInBounds_toArray, List.set_cons_zero, List.set_cons_succ]
      refine wpAnyH_done (by kernel_rfl) ?_ _
      refine NoPanic.normal ?_
      have HW2 := Lib.hid (HW.out.trans (B2.out.mono HW.out.size))
      have HG2 := Lib.hid ((B2.out.block g (Array.getElem?_eq_some_iff.1 HG1.out).1).trans HG1.out)
      have HH2 := Lib.hid ((B2.out.block w.heap.size (Array.getElem?_eq_some_iff.1 HH1.out).1).trans HH1.out)
      clear HW HG1 HH1 HLE hu hi1 hi2 hHeld
      cases b
      case' true =>
        go_wp2_with fail
        refine ⟨⟨k + 1, by omega, by go_num, Lib.hid ?_, HW2⟩, by simp [intOf]; omega⟩
        intro i hi hik
        by_cases h' : i < k
        · exact HK.out i hi h'
        · obtain rfl : i = k := by omega
          exact HLS.out.symm
      case' false =>
        have l1 := hld_at HL.out hkL HG2.out 1
        have l2 := hld_row (w := w2.drew) H32'.out HH2.out
        have l3 := fun q => hld_at HL.out hkL HG2.out q
        have l4 := fun q => hld_row (w := w2.drewN q) H32'.out HH2.out
        rw [show w2.drewN 1 = w2.drew from rfl] at l1
        have heq := heq_hv (HL.out.at hkL) H32'.out
        have hrp := rput_go L h k (Nat.le_of_lt hkL) HK.out (fun _ => HLS.out.symm)
        rw [dif_pos hkL] at hrp
        by_cases hsame : L[k] = h
        · rw [decide_eq_true hsame] at heq
          rw [if_pos hsame] at hrp
          have HRP := Lib.hid hrp
          clear hsame hrp
          go_wp2_with fail
          go_quiet (fail)
          go_wp2_with fail
          go_ret
          refine ⟨_, rfl, ?_, below_drn (BEL.out.trans (HW2.out.mono BEL.out.size))⟩
          rw [HRP.out, HN.out]
          exact hown_mk HL.out rfl hb HG2.out (by rw [← HN.out]; exact hc) hm HR.out
        · rw [decide_eq_false hsame] at heq
          rw [if_neg hsame] at hrp
          have HRP := Lib.hid hrp
          clear hsame hrp
          go_wp2_with fail
          go_quiet (fail)
          have HGX := Lib.hid (show (w2.drewN nq).heap[g]? = _ from HG2.out)
          have HHX := Lib.hid (show (w2.drewN nq).heap[w.heap.size]? = _ from HH2.out)
          have HBX := Lib.hid (below_drn (m := nq) (BEL.out.trans (HW2.out.mono BEL.out.size)))
          clear HW2 HG2 HH2 l1 l2 l3 l4 heq
          generalize w2.drewN nq = W at *
          have HGW : Hid (W.heap[g]? = some (.cells (fl L ++ R).toArray 28 (0, 0))) := HGX
          have HHW : Hid (W.heap[w.heap.size]? = some (.cells (hv h) 28 (0, 0))) := HHX
          have HBW : Hid (Below w.heap.size w W) := HBX
          have hsW : w.heap.size ≤ W.heap.size := HBW.out.size
          have hkn : k ≤ L.length := by rw [← HN.out]; exact hk
          have hgl : g < W.heap.size := (Array.getElem?_eq_some_iff.1 HGW.out).1
          have hhl : w.heap.size < W.heap.size := (Array.getElem?_eq_some_iff.1 HHW.out).1
          have HGLW := Lib.hid hgl
          have HHLW := Lib.hid hhl
          have hown := World.ownsRow_made (base := W.heap.size) (e := 28) (size := 32) W #[] 0 (Nat.le_refl _) (by decide) rfl
          have hn1 : Hid (∀ j u, (fl (L.take k))[j]? = some u → (W.alloc (.cells #[] 28)).cell? ((⟨g, 0, none⟩ : Addr).add j) = some u) := Lib.hid fun j u hj => by
            rw [Addr.add_lit, Nat.zero_add, World.cell?_of_block (w := W) (Below.heap_alloc W _ _ hgl), cell_of_row W g j _ _ _ HGW.out, List.getElem?_toArray]
            rw [← fl_take HL.out] at hj
            have hj2 := (List.getElem?_eq_some_iff.1 hj).1
            rw [List.length_take] at hj2
            rw [List.getElem?_append_left (by omega), ← hj, List.getElem?_take, if_pos (by omega)]
          have HTL := Lib.hid (fl_length (HL.out.take k))
          have HTK : Hid ((L.take k).length = k) := Lib.hid (by rw [List.length_take]; omega)
          have HDL := Lib.hid (fl_length (HL.out.drop k))
          have HDK : Hid ((L.drop k).length = n - k) := Lib.hid (by rw [List.length_drop, HN.out])
          have HN3 : Hid (∀ W' : World, W'.heap[g]? = W.heap[g]? → ∀ j u, (fl (L.drop k))[j]? = some u → W'.cell? ((⟨g, k * 32, none⟩ : Addr).add j) = some u) := Lib.hid fun W' hW j u hj => by
            rw [Addr.add_lit, World.cell?_of_block (w := W) hW, cell_of_row W g _ _ _ _ HGW.out, List.getElem?_toArray]
            rw [← fl_drop HL.out k hkn, List.getElem?_drop] at hj
            have hj2 := (List.getElem?_eq_some_iff.1 hj).1
            rw [List.getElem?_append_left hj2, hj]
          have hfit := HFIT.out k hk
          have M5 := Lib.hid hfit.1
          have M6 := Lib.hid hfit.2.1
          have M7 := Lib.hid hfit.2.2.1
          have Y5 := Lib.hid hfit.2.2.2.1
          have Y6 := Lib.hid hfit.2.2.2.2.1
          have Y7 := Lib.hid hfit.2.2.2.2.2
          clear hsW hkn hgl hhl hfit
          rcases Nat.lt_or_ge k cap with hcap | hcap
          case' inl =>
            go_wp2_with (first
              | (at_builtin; refine wpList_append_own _ (by rfl) (.tmp 43) (.tmp 46) _ (by rfl) W.heap.size 28 i0 _ 32 32 Try.underlying25 hi0 hz0 hz1 hz2 rfl (by omega) _ _ _ (by rfl) O6.out ⟨g, k * 32, none⟩ (n - k) _ (fl (L.drop k)) (by rfl) (by rw [HDL.out, HDK.out]) (HN3.out w6 (S6.out.block _ HGLW.out)) (fl_one' _) M7.out Y7.out S6.out.size ?_; intro v7 w7 own7 grow7 _; have O7 := Lib.hid own7; have S7 : Hid (Below W.heap.size W w7) := Lib.hid (S6.out.grown grow7 S6.out.size (fun k hk => (O6.out.lt k hk).1)); clear own7 grow7)
              | (at_builtin; refine wpList_append_lies _ (by rfl) (.tmp 39) (.tmp 41) _ (by rfl) W.heap.size 28 i0 _ 32 32 Try.underlying25 hi0 hz0 hz1 hz2 rfl (by omega) v5 (0 + k) ([] ++ fl (L.take k)) (by rfl) (O5.out.alloc _) ⟨w5.heap.size, 0, none⟩ 1 1 (fl [h]) (by rfl) (by rw [fl_one, usn_length, H32'.out]) (news_fl w5 [h]) (fl_one' [h]) (by decide) M6.out Y6.out (Nat.le_trans S5.out.size (by simp)) (w5.heap.size + 1) (by simp) ?_; intro gg cap6 w6 own6 grow6 _ _; simp only [Nat.zero_add, List.nil_append] at own6; have O6 := Lib.hid own6; have S6 : Hid (Below W.heap.size W w6) := Lib.hid ((S5.out.alloc S5.out.size _).grown grow6 (Nat.le_trans S5.out.size (by simp)) (fun k hk => (O5.out.lt k hk).1)); clear own6 grow6)
              | (refine load_to (range_row HH5.out) Try.underlying28 rfl (hinfo' _ (by rw [hv_size, H32'.out])) ?hx ?_; (case hx => rfl); refine build_hash (E := [h]) (H32.one H32'.out) rfl (by simp) (by simp) ?hv ?_; (case hv => simp [Act.put, Act.eval, hv]))
              | (at_builtin; refine wpList_append_own _ (by rfl) (.tmp 34) (.tmp 37) _ (by rfl) W.heap.size 28 i0 _ 32 32 Try.underlying25 hi0 hz0 hz1 hz2 rfl (by omega) (.slice (some ⟨W.heap.size, 0, none⟩) 0 0) 0 [] (by rfl) hown ⟨g, 0, none⟩ k _ (fl (L.take k)) (by rfl) (by rw [HTL.out, HTK.out]) hn1.out (fl_one' _) M5.out Y5.out (by simp) ?_; intro v5 w5 own5 grow5 _; have O5 := Lib.hid own5; have S5 : Hid (Below W.heap.size W w5) := Lib.hid (((Below.refl _ _).alloc (Nat.le_refl _) _).grown grow5 (by simp) (by intro k hk; cases hk; exact Nat.le_refl _)); have HH5 : Hid (w5.heap[w.heap.size]? = some (.cells (hv h) 28 (0, 0))) := Lib.hid ((S5.out.block _ HHLW.out).trans HHW.out); clear own5 grow5))
            go_ret
            refine ⟨_, rfl, ?_, HBW.out.trans (S7.out.mono HBW.out.size)⟩
            rw [HRP.out]
            refine own_as O7.out (Nat.le_trans hB HBW.out.size) ?_ ?_
            · rw [List.length_append, List.length_append, HTK.out, HDK.out]; rfl
            · rw [fl_app, fl_app]
          case' inr => exact absurd hlt (Nat.not_lt.2 (Nat.le_trans hc hcap))
    · have hkn0 : k = n := by omega
      have hk' : ¬ (k : Int) < n := by omega
      have hkd : decide ((k : Int) < n) = false := decide_eq_false hk'
      have hrp := rput_go L h k (by rw [← HN.out]; exact hk) HK.out (fun hl => absurd hl (by rw [← HN.out]; omega))
      rw [dif_neg (by rw [← HN.out]; omega)] at hrp
      have hrp2 : rput L h = L.take k ++ [h] ++ L.drop k := by rw [hrp, List.take_of_length_le (by rw [← HN.out]; omega), List.drop_of_length_le (by rw [← HN.out]; omega), List.append_nil]
      have HRP := Lib.hid hrp2
      clear hrp hrp2 hkn0
      go_wp2_with fail
      go_quiet (fail)
      have HGq := Lib.hid (show (wr.drewN nq).heap[g]? = _ from HG1.out)
      have HHq := Lib.hid (show (wr.drewN nq).heap[w.heap.size]? = _ from HH1.out)
      have HBq := Lib.hid (below_drn (m := nq) (BEL.out.trans (HW.out.mono BEL.out.size)))
      clear HG1 HH1 HW
      generalize wr.drewN nq = wq at *
      go_wp2_with fail
      go_quiet (fail)
      have HGX := Lib.hid (show (wq.drewN nq).heap[g]? = _ from HGq.out)
      have HHX := Lib.hid (show (wq.drewN nq).heap[w.heap.size]? = _ from HHq.out)
      have HBX := Lib.hid (below_drn (m := nq) HBq.out)
      clear HGq HHq HBq
      generalize wq.drewN nq = W at *
      have HGW : Hid (W.heap[g]? = some (.cells (fl L ++ R).toArray 28 (0, 0))) := HGX
      have HHW : Hid (W.heap[w.heap.size]? = some (.cells (hv h) 28 (0, 0))) := HHX
      have HBW : Hid (Below w.heap.size w W) := HBX
      have hsW : w.heap.size ≤ W.heap.size := HBW.out.size
      have hkn : k ≤ L.length := by rw [← HN.out]; exact hk
      have hgl : g < W.heap.size := (Array.getElem?_eq_some_iff.1 HGW.out).1
      have hhl : w.heap.size < W.heap.size := (Array.getElem?_eq_some_iff.1 HHW.out).1
      have HGLW := Lib.hid hgl
      have HHLW := Lib.hid hhl
      have hown := World.ownsRow_made (base := W.heap.size) (e := 28) (size := 32) W #[] 0 (Nat.le_refl _) (by decide) rfl
      have hn1 : Hid (∀ j u, (fl (L.take k))[j]? = some u → (W.alloc (.cells #[] 28)).cell? ((⟨g, 0, none⟩ : Addr).add j) = some u) := Lib.hid fun j u hj => by
        rw [Addr.add_lit, Nat.zero_add, World.cell?_of_block (w := W) (Below.heap_alloc W _ _ hgl), cell_of_row W g j _ _ _ HGW.out, List.getElem?_toArray]
        rw [← fl_take HL.out] at hj
        have hj2 := (List.getElem?_eq_some_iff.1 hj).1
        rw [List.length_take] at hj2
        rw [List.getElem?_append_left (by omega), ← hj, List.getElem?_take, if_pos (by omega)]
      have HTL := Lib.hid (fl_length (HL.out.take k))
      have HTK : Hid ((L.take k).length = k) := Lib.hid (by rw [List.length_take]; omega)
      have HDL := Lib.hid (fl_length (HL.out.drop k))
      have HDK : Hid ((L.drop k).length = n - k) := Lib.hid (by rw [List.length_drop, HN.out])
      have HN3 : Hid (∀ W' : World, W'.heap[g]? = W.heap[g]? → ∀ j u, (fl (L.drop k))[j]? = some u → W'.cell? ((⟨g, k * 32, none⟩ : Addr).add j) = some u) := Lib.hid fun W' hW j u hj => by
        rw [Addr.add_lit, World.cell?_of_block (w := W) hW, cell_of_row W g _ _ _ _ HGW.out, List.getElem?_toArray]
        rw [← fl_drop HL.out k hkn, List.getElem?_drop] at hj
        have hj2 := (List.getElem?_eq_some_iff.1 hj).1
        rw [List.getElem?_append_left hj2, hj]
      have hfit := HFIT.out k hk
      have M5 := Lib.hid hfit.1
      have M6 := Lib.hid hfit.2.1
      have M7 := Lib.hid hfit.2.2.1
      have Y5 := Lib.hid hfit.2.2.2.1
      have Y6 := Lib.hid hfit.2.2.2.2.1
      have Y7 := Lib.hid hfit.2.2.2.2.2
      clear hsW hkn hgl hhl hfit
      rcases Nat.lt_or_ge k cap with hcap | hcap
      case' inl =>
        go_wp2_with (first
          | (at_builtin; refine wpList_append_own _ (by rfl) (.tmp 43) (.tmp 46) _ (by rfl) W.heap.size 28 i0 _ 32 32 Try.underlying25 hi0 hz0 hz1 hz2 rfl (by omega) _ _ _ (by rfl) O6.out ⟨g, k * 32, none⟩ (n - k) _ (fl (L.drop k)) (by rfl) (by rw [HDL.out, HDK.out]) (HN3.out w6 (S6.out.block _ HGLW.out)) (fl_one' _) M7.out Y7.out S6.out.size ?_; intro v7 w7 own7 grow7 _; have O7 := Lib.hid own7; have S7 : Hid (Below W.heap.size W w7) := Lib.hid (S6.out.grown grow7 S6.out.size (fun k hk => (O6.out.lt k hk).1)); clear own7 grow7)
          | (at_builtin; refine wpList_append_lies _ (by rfl) (.tmp 39) (.tmp 41) _ (by rfl) W.heap.size 28 i0 _ 32 32 Try.underlying25 hi0 hz0 hz1 hz2 rfl (by omega) v5 (0 + k) ([] ++ fl (L.take k)) (by rfl) (O5.out.alloc _) ⟨w5.heap.size, 0, none⟩ 1 1 (fl [h]) (by rfl) (by rw [fl_one, usn_length, H32'.out]) (news_fl w5 [h]) (fl_one' [h]) (by decide) M6.out Y6.out (Nat.le_trans S5.out.size (by simp)) (w5.heap.size + 1) (by simp) ?_; intro gg cap6 w6 own6 grow6 _ _; simp only [Nat.zero_add, List.nil_append] at own6; have O6 := Lib.hid own6; have S6 : Hid (Below W.heap.size W w6) := Lib.hid ((S5.out.alloc S5.out.size _).grown grow6 (Nat.le_trans S5.out.size (by simp)) (fun k hk => (O5.out.lt k hk).1)); clear own6 grow6)
          | (refine load_to (range_row HH5.out) Try.underlying28 rfl (hinfo' _ (by rw [hv_size, H32'.out])) ?hx ?_; (case hx => rfl); refine build_hash (E := [h]) (H32.one H32'.out) rfl (by simp) (by simp) ?hv ?_; (case hv => simp [Act.put, Act.eval, hv]))
          | (at_builtin; refine wpList_append_own _ (by rfl) (.tmp 34) (.tmp 37) _ (by rfl) W.heap.size 28 i0 _ 32 32 Try.underlying25 hi0 hz0 hz1 hz2 rfl (by omega) (.slice (some ⟨W.heap.size, 0, none⟩) 0 0) 0 [] (by rfl) hown ⟨g, 0, none⟩ k _ (fl (L.take k)) (by rfl) (by rw [HTL.out, HTK.out]) hn1.out (fl_one' _) M5.out Y5.out (by simp) ?_; intro v5 w5 own5 grow5 _; have O5 := Lib.hid own5; have S5 : Hid (Below W.heap.size W w5) := Lib.hid (((Below.refl _ _).alloc (Nat.le_refl _) _).grown grow5 (by simp) (by intro k hk; cases hk; exact Nat.le_refl _)); have HH5 : Hid (w5.heap[w.heap.size]? = some (.cells (hv h) 28 (0, 0))) := Lib.hid ((S5.out.block _ HHLW.out).trans HHW.out); clear own5 grow5))
        go_ret
        refine ⟨_, rfl, ?_, HBW.out.trans (S7.out.mono HBW.out.size)⟩
        rw [HRP.out]
        refine own_as O7.out (Nat.le_trans hB HBW.out.size) ?_ ?_
        · rw [List.length_append, List.length_append, HTK.out, HDK.out]; rfl
        · rw [fl_app, fl_app]
      case' inr =>
        go_wp2_with (first
          | (at_builtin; refine wpList_append_own _ (by rfl) (.tmp 43) (.tmp 46) _ (by rfl) W.heap.size 28 i0 _ 32 32 Try.underlying25 hi0 hz0 hz1 hz2 rfl (by omega) _ _ _ (by rfl) O6.out ⟨g, 0, none⟩ (n - k) _ (fl (L.drop k)) (by rfl) (by rw [HDL.out, HDK.out]) (fun j u hj => by have hj2 := (List.getElem?_eq_some_iff.1 hj).1; rw [HDL.out, HDK.out] at hj2; omega) (fl_one' _) M7.out Y7.out S6.out.size ?_; intro v7 w7 own7 grow7 _; have O7 := Lib.hid own7; have S7 : Hid (Below W.heap.size W w7) := Lib.hid (S6.out.grown grow7 S6.out.size (fun k hk => (O6.out.lt k hk).1)); clear own7 grow7)
          | (at_builtin; refine wpList_append_lies _ (by rfl) (.tmp 39) (.tmp 41) _ (by rfl) W.heap.size 28 i0 _ 32 32 Try.underlying25 hi0 hz0 hz1 hz2 rfl (by omega) v5 (0 + k) ([] ++ fl (L.take k)) (by rfl) (O5.out.alloc _) ⟨w5.heap.size, 0, none⟩ 1 1 (fl [h]) (by rfl) (by rw [fl_one, usn_length, H32'.out]) (news_fl w5 [h]) (fl_one' [h]) (by decide) M6.out Y6.out (Nat.le_trans S5.out.size (by simp)) (w5.heap.size + 1) (by simp) ?_; intro gg cap6 w6 own6 grow6 _ _; simp only [Nat.zero_add, List.nil_append] at own6; have O6 := Lib.hid own6; have S6 : Hid (Below W.heap.size W w6) := Lib.hid ((S5.out.alloc S5.out.size _).grown grow6 (Nat.le_trans S5.out.size (by simp)) (fun k hk => (O5.out.lt k hk).1)); clear own6 grow6)
          | (refine load_to (range_row HH5.out) Try.underlying28 rfl (hinfo' _ (by rw [hv_size, H32'.out])) ?hx ?_; (case hx => rfl); refine build_hash (E := [h]) (H32.one H32'.out) rfl (by simp) (by simp) ?hv ?_; (case hv => simp [Act.put, Act.eval, hv]))
          | (at_builtin; refine wpList_append_own _ (by rfl) (.tmp 34) (.tmp 37) _ (by rfl) W.heap.size 28 i0 _ 32 32 Try.underlying25 hi0 hz0 hz1 hz2 rfl (by omega) (.slice (some ⟨W.heap.size, 0, none⟩) 0 0) 0 [] (by rfl) hown ⟨g, 0, none⟩ k _ (fl (L.take k)) (by rfl) (by rw [HTL.out, HTK.out]) hn1.out (fl_one' _) M5.out Y5.out (by simp) ?_; intro v5 w5 own5 grow5 _; have O5 := Lib.hid own5; have S5 : Hid (Below W.heap.size W w5) := Lib.hid (((Below.refl _ _).alloc (Nat.le_refl _) _).grown grow5 (by simp) (by intro k hk; cases hk; exact Nat.le_refl _)); have HH5 : Hid (w5.heap[w.heap.size]? = some (.cells (hv h) 28 (0, 0))) := Lib.hid ((S5.out.block _ HHLW.out).trans HHW.out); clear own5 grow5))
        go_ret
        refine ⟨_, rfl, ?_, HBW.out.trans (S7.out.mono HBW.out.size)⟩
        rw [HRP.out]
        refine own_as O7.out (Nat.le_trans hB HBW.out.size) ?_ ?_
        · rw [List.length_append, List.length_append, HTK.out, HDK.out]; rfl
        · rw [fl_app, fl_app]
end Go.Proofs.Ythfkmfepeafgjaa
namespace Go.Proofs.Ythfkmfepeafgjaa
open Go.RowKit
attribute [local go_sem ↓] hld_open heq_open hne_open

set_option maxRecDepth 20000 in
set_option maxHeartbeats 2000000 in
theorem put_nil (w : World) (B : Nat) (h : List UInt8) (hh : h.length = 32) (hB : B ≤ w.heap.size) :
    Calls Try.prog 41 #[.slice none 0 0, .agg (hv h)] w (PuPost w B [] h) := by
  obtain ⟨i0, hi0, hz0, hz1, hz2⟩ := info_parts hzinfo
  have HH := Lib.hid (heap_alloc_last w (.cells (hv h) 28))
  have BEL := Lib.hid ((Below.refl w.heap.size w).alloc (Nat.le_refl _) (.cells (hv h) 28))
  have H32' := Lib.hid hh
  clear hh
  go_enter Try.func41, Try.ntmps41
  go_wp2
  generalize w.alloc (.cells (hv h) 28) = w0 at *
  refine wp_loop_rounds 1 ?_
  rw [rounds_succ]
  go_wp2_with fail
  go_quiet (fail)
  have HHq := Lib.hid (show (w0.drewN nq).heap[w.heap.size]? = _ from HH.out)
  have HBq := Lib.hid (below_drn (m := nq) BEL.out)
  clear HH BEL
  generalize w0.drewN nq = wq at *
  go_wp2_with fail
  go_quiet (fail)
  have HHX := Lib.hid (show (wq.drewN nq).heap[w.heap.size]? = _ from HHq.out)
  have HBX := Lib.hid (below_drn (m := nq) HBq.out)
  clear HHq HBq
  generalize wq.drewN nq = W at *
  have hhl : w.heap.size < W.heap.size := (Array.getElem?_eq_some_iff.1 HHX.out).1
  have hown := World.ownsRow_made (base := W.heap.size) (e := 28) (size := 32) W #[] 0 (Nat.le_refl _) (by decide) rfl
  have HO := Lib.hid hown
  have HR : Hid ((W.alloc (.cells #[] 28)).rangeAt w.heap.size 0 (hv h).toList) := Lib.hid (range_row ((Below.heap_alloc W _ _ hhl).trans HHX.out))
  clear hhl hown
  go_wp2_with (first
    | (at_builtin; refine wpList_append_own_none (by rfl) (.tmp 43) (.tmp 46) _ (by rfl) W.heap.size 28 i0 32 Try.underlying25 hi0 _ _ _ (by rfl) O6.out (by rfl) ?_)
    | (refine load_to HR.out Try.underlying28 rfl (hinfo' _ (by rw [hv_size, H32'.out])) ?hx ?_; (case hx => rfl); refine build_hash (E := [h]) (H32.one H32'.out) rfl (by simp) (by simp) ?hv ?_; (case hv => simp [Act.put, Act.eval, hv]))
    | (at_builtin; refine wpList_append_lies _ (by rfl) (.tmp 39) (.tmp 41) _ (by rfl) W.heap.size 28 i0 _ 32 32 Try.underlying25 hi0 hz0 hz1 hz2 rfl (by omega) (.slice (some ⟨W.heap.size, 0, none⟩) 0 0) 0 [] (by rfl) (HO.out.alloc _) ⟨(W.alloc (.cells #[] 28)).heap.size, 0, none⟩ 1 1 (fl [h]) (by rfl) (by rw [fl_one, usn_length, H32'.out]) (news_fl (W.alloc (.cells #[] 28)) [h]) (fl_one' [h]) (by decide) (by decide) (by decide) (by simp; omega) (W.heap.size + 2) (by simp) ?_; intro gg cap6 w6 own6 grow6 _ _; simp only [Nat.zero_add, List.nil_append] at own6; have O6 := Lib.hid own6; have S6 : Hid (Below W.heap.size W w6) := Lib.hid ((((Below.refl W.heap.size W).alloc (Nat.le_refl _) _).alloc (by simp) _).grown grow6 (by simp; omega) (fun k hk => (HO.out.lt k hk).1)); clear own6 grow6))
  go_ret
  refine ⟨_, rfl, own_as O6.out (Nat.le_trans hB HBX.out.size) rfl rfl, HBX.out.trans (S6.out.mono HBX.out.size)⟩

/-- The hashes of a list, in their places, each once. -/
theorem rsort_snoc (l : List (List UInt8)) (h : List UInt8) : rsort (l ++ [h]) = rput (rsort l) h := by simp [rsort, List.foldl_append]
theorem rput_length (h : List UInt8) : ∀ l, (rput l h).length ≤ l.length + 1
  | [] => by simp [rput]
  | x :: l => by
    have ih := rput_length h l
    rw [rput]
    split
    · simp; omega
    · split <;> simp
theorem rsort_length : ∀ l, (rsort l).length ≤ l.length := by
  intro l
  have : ∀ s, (l.foldl rput s).length ≤ s.length + l.length := by
    induction l with
    | nil => intro s; simp
    | cons x l ih => intro s; have h1 := ih (rput s x); have h2 := rput_length x s; simp at h1 ⊢; omega
  simpa [rsort] using this []

set_option maxRecDepth 20000 in
set_option maxHeartbeats 2000000 in
theorem rsort_any (w : World) (E : List (List UInt8)) (hE : H32 E) (v : Value) (B : Nat) (ho : HOwn w B v E) (hl : (E.length + 1) * 32 ≤ 140737488355328) :
    Calls Try.prog 21 #[v] w fun e w' => ∃ v', e = .returned v' ∧ HOwn w' w.heap.size v' (rsort E) ∧ Below w.heap.size w w' := by
  by_cases h0 : E.length = 0
  · obtain rfl : E = [] := List.eq_nil_of_length_eq_zero h0
    obtain ⟨p, cap, rfl⟩ : ∃ p cap, v = .slice p 0 cap := by
      rcases ho.2 with ⟨rfl, _⟩ | ⟨g, cap, cur, rfl, _⟩
      · exact ⟨_, _, rfl⟩
      · exact ⟨_, _, rfl⟩
    clear ho hl h0
    go_enter Try.func21, Try.ntmps21
    go_wp2
    refine wp_loop_rounds 1 ?_
    rw [rounds_succ]
    go_wp2
    go_ret
    exact ⟨_, rfl, World.ownsRow_nil _ _ _ _, Below.refl _ _⟩
  · obtain ⟨g, cap, R, rfl, hb, hg, hc, hm, hR⟩ := ho.row (by omega)
    have HG := Lib.hid hg
    have HE := Lib.hid hE
    obtain ⟨n, hn⟩ : ∃ n, n = E.length := ⟨_, rfl⟩
    rw [← hn] at hc h0 hl ⊢
    have HN := Lib.hid hn
    have HFIT : Hid (∀ k, k ≤ n → ((rsort (E.take k)).length + 1) * 32 ≤ 140737488355328) := Lib.hid fun k hk => by
      have h1 := rsort_length (E.take k)
      have h2 : (E.take k).length ≤ k := List.length_take_le _ _
      omega
    unfold maxLen at hm
    clear hg hE hn ho hR
    go_enter Try.func21, Try.ntmps21
    go_wp2
    go_loopw [3, 4] (fun v i wr => ∃ (k : Nat), k ≤ n ∧ i = .int .i64 k ∧ Hid (HOwn wr w.heap.size v (rsort (E.take k))) ∧ Hid (k = 0 → v = .slice none 0 0) ∧ Hid (Below w.heap.size w wr)) (fun _ i _ => n - (intOf i).toNat)
    case atStart => exact ⟨0, Nat.zero_le _, rfl, Lib.hid (World.ownsRow_nil _ _ _ _), Lib.hid (fun _ => rfl), Lib.hid (Below.refl _ _)⟩
    case round =>
      obtain ⟨k, hk, rfl, HO, HV, HB⟩ := hrel
      have HG1 := Lib.hid ((HB.out.block g (Array.getElem?_eq_some_iff.1 HG.out).1).trans HG.out)
      by_cases hlt : k < n
      · have hkE : k < E.length := by rw [← HN.out]; exact hlt
        have hk' : (k : Int) < n := by omega
        have l1 := hld_at HE.out hkE HG1.out 0
        rw [show wr.drewN 0 = wr from rfl] at l1
        have hput : Calls Try.prog 41 #[u3, .agg (hv E[k])] wr (PuPost wr w.heap.size (rsort (E.take k)) E[k]) := by
          by_cases hz0 : k = 0
          · subst hz0
            rw [HV.out rfl]
            exact put_nil wr w.heap.size E[0] (HE.out.at hkE) HB.out.size
          · refine put_any wr w.heap.size u3 _ (rsort_h32 (HE.out.take k)) E[k] (HE.out.at hkE) (HFIT.out k hk) HB.out.size HO.out ?_
            have hm : E[0]'(by omega) ∈ rsort (E.take k) := (rsort_mem _ _).2 (by rw [List.mem_take_iff_getElem]; exact ⟨0, by omega, rfl⟩)
            exact List.length_pos_of_mem hm
        have HP := Lib.hid hput
        have e : rsort (E.take (k + 1)) = rput (rsort (E.take k)) E[k] := by rw [List.take_succ_eq_append_getElem hkE, rsort_snoc]
        have HES := Lib.hid e
        clear hput e
        go_wp2_with (go_at_call 41; refine HP.out.mono ?_; rintro e w2 ⟨v2, rfl, o2, b2⟩; have O2 := Lib.hid o2; have B2 := Lib.hid b2; clear o2 b2)
        refine ⟨⟨k + 1, by omega, by go_num, Lib.hid (by rw [HES.out]; exact O2.out), Lib.hid (fun h => by omega), Lib.hid (HB.out.trans (B2.out.mono HB.out.size))⟩, by simp [intOf]; omega⟩
      · obtain rfl : k = n := by omega
        have e : E.take k = E := List.take_of_length_le (by rw [← HN.out]; exact Nat.le_refl _)
        rw [e] at HO
        have HO2 := HO
        clear e HO
        go_wp2_with fail
        go_ret
        exact ⟨_, rfl, HO2.out, HB.out⟩
end Go.Proofs.Ythfkmfepeafgjaa
