/- What was put, as the statements keep it: their own put. Conditions: a list is no longer than a million. · The statements' own put. Condition: a list is no longer than a million. -/
import Derived.Test.YtbpccbhlggcmfaaGreatDoorRadKa
namespace Go.Proofs.YtbpccbhlggcmfaaGreatDoor
open Go.RowKit
attribute [local go_sem ↓] hld_open heq_open hne_open

def nvl (l : List Int) : List Value := l.map (Value.int .i64)
def nums (k : En) : List Int := k.map (·.2)
abbrev NOwn (w : World) (B : Nat) (v : Value) (l : List Int) : Prop := w.ownsRow B 3 1 v l.length (nvl l)
theorem ninfo9 : (Tryz.prog.info? 3).map (fun i => (i.zero, i.size, i.bytes)) = some (some (.int .i64 0), 1, 8) := by kernel_rfl
theorem nums_length (k : En) : (nums k).length = k.length := List.length_map _
/-- The entries in memory. -/
structure KX (W : World) (B kb : Nat) (vh vn : Value) (E : List (List UInt8)) (l : List Int) : Prop where
  cell : W.heap[kb]? = some (.cells #[vh, vn] 52 (0, 0))
  hs : HOwn W B vh E
  ns : NOwn W B vn l
  h32 : H32 E
  ge : B ≤ kb
section
variable {W W' : World} {B kb : Nat} {vh vn : Value} {E : List (List UInt8)} {l : List Int}
theorem KX.below (h : KX W B kb vh vn E l) (hb : Below W.heap.size W W') : KX W' B kb vh vn E l := by
  refine ⟨(hb.block kb (Array.getElem?_eq_some_iff.1 h.cell).1).trans h.cell, hown_kb h.hs hb, ⟨h.ns.1, ?_⟩, h.h32, h.ge⟩
  rcases h.ns.2 with h1 | ⟨g, cap, cur, h1, h2, hg, h3⟩
  · exact .inl h1
  · exact .inr ⟨g, cap, cur, h1, h2, (hb.block g (Array.getElem?_eq_some_iff.1 hg).1).trans hg, h3⟩
theorem KX.lt (h : KX W B kb vh vn E l) : kb < W.heap.size := (Array.getElem?_eq_some_iff.1 h.cell).1
theorem KX.c0 (h : KX W B kb vh vn E l) : W.cell? ⟨kb, 0, none⟩ = some vh := by rw [cell_of_row W kb 0 _ _ _ h.cell]; rfl
theorem KX.c1 (h : KX W B kb vh vn E l) : W.cell? ⟨kb, 1, none⟩ = some vn := by rw [cell_of_row W kb 1 _ _ _ h.cell]; rfl
theorem KX.fz (h : KX W B kb vh vn E l) (i : Nat) : W.frozen? ⟨kb, i, none⟩ = false := by simp [World.frozen?, h.cell]
theorem KX.nh (h : KX W B kb vh vn E l) {g : Nat} (hg : vh.ownBlock = some g) : g ≠ kb := fun e => by
  obtain ⟨cs, hcs⟩ := row_type9 h.hs hg
  rw [e, h.cell] at hcs
  simp at hcs
theorem KX.nn (h : KX W B kb vh vn E l) {g : Nat} (hg : vn.ownBlock = some g) : g ≠ kb := fun e => by
  obtain ⟨cs, hcs⟩ := row_type9 h.ns hg
  rw [e, h.cell] at hcs
  simp at hcs
theorem KX.hn (h : KX W B kb vh vn E l) {g j : Nat} (hg : vh.ownBlock = some g) (hj : vn.ownBlock = some j) : g ≠ j := fun e => by
  obtain ⟨cs, hcs⟩ := row_type9 h.hs hg
  obtain ⟨ds, hds⟩ := row_type9 h.ns hj
  rw [e, hds] at hcs
  simp at hcs
theorem nown_shape {w : World} {v : Value} (h : NOwn w B v l) : ∃ p cap, v = .slice p l.length cap := by
  rcases h.2 with ⟨rfl, h0⟩ | ⟨g, cap, cur, rfl, _⟩
  · exact ⟨none, 0, by rw [h0]⟩
  · exact ⟨_, _, rfl⟩
/-- The row of an owned list of numbers. -/
theorem nown_row {w : World} {v : Value} (h : NOwn w B v l) (h0 : 0 < l.length) : ∃ g cap R, v = .slice (some ⟨g, 0, none⟩) l.length cap ∧ B ≤ g ∧ w.heap[g]? = some (.cells (nvl l ++ R).toArray 3 (0, 0)) ∧ l.length ≤ cap ∧ cap ≤ maxLen ∧ R.length = cap - l.length := by
  rcases h.2 with ⟨_, hn⟩ | ⟨g, cap, cur, rfl, hb, hg, hn, hm, hs, ht⟩
  · omega
  · refine ⟨g, cap, cur.toList.drop (l.length * 1), rfl, hb, ?_, hn, hm, ?_⟩
    · rw [← ht, List.take_append_drop]; simpa using hg
    · rw [List.length_drop, Array.length_toList, hs]; omega
theorem nown_mk {w : World} {g cap n : Nat} {R : List Value} (hn : n = l.length) (hb : B ≤ g) (hg : w.heap[g]? = some (.cells (nvl l ++ R).toArray 3 (0, 0))) (hc : l.length ≤ cap) (hm : cap ≤ maxLen) (hR : R.length = cap - l.length) : NOwn w B (.slice (some ⟨g, 0, none⟩) n cap) l := by
  subst hn
  have hl : (nvl l).length = l.length := List.length_map _
  refine ⟨by rw [hl, Nat.mul_one], .inr ⟨g, cap, (nvl l ++ R).toArray, rfl, hb, hg, hc, hm, ?_, ?_⟩⟩
  · show (nvl l ++ R).length = cap * 1
    rw [List.length_append, hl, hR]; omega
  · rw [show (nvl l ++ R).toArray.toList = nvl l ++ R from rfl, Nat.mul_one, ← hl, List.take_left]
end
/-- A put of what is there, at its place. -/
theorem kput_at : ∀ (k : En) (i : Nat) (h : List UInt8) (n : Int), (keys k)[i]? = some h → (∀ j, j < i → (keys k)[j]? ≠ some h) → keys (kput k h n) = keys k ∧ nums (kput k h n) = (nums k).set i n
  | [], i, h, n, hi, _ => by simp [keys] at hi
  | y :: k, 0, h, n, hi, _ => by
    have e : y.1 = h := by simpa [keys] using hi
    unfold kput
    rw [if_pos e]
    exact ⟨rfl, rfl⟩
  | y :: k, i + 1, h, n, hi, hj => by
    have e : y.1 ≠ h := fun e => hj 0 (Nat.succ_pos i) (by rw [← e]; rfl)
    have ih := kput_at k i h n (by simpa [keys] using hi) (fun j hj' => by have := hj (j + 1) (Nat.succ_lt_succ hj'); simpa [keys] using this)
    unfold kput
    rw [if_neg e]
    exact ⟨by show y.1 :: keys (kput k h n) = _; rw [ih.1]; rfl, by show y.2 :: nums (kput k h n) = _; rw [ih.2]; rfl⟩
/-- A put of what is not there. -/
theorem kput_new : ∀ (k : En) (h : List UInt8) (n : Int), (∀ j, j < k.length → (keys k)[j]? ≠ some h) → keys (kput k h n) = keys k ++ [h] ∧ nums (kput k h n) = nums k ++ [n]
  | [], h, n, _ => ⟨rfl, rfl⟩
  | y :: k, h, n, hj => by
    have e : y.1 ≠ h := fun e => hj 0 (by simp) (by rw [← e]; rfl)
    have ih := kput_new k h n (fun j hj' => by have := hj (j + 1) (by simpa using hj'); simpa [keys] using this)
    unfold kput
    rw [if_neg e]
    exact ⟨by show y.1 :: keys (kput k h n) = _; rw [ih.1]; rfl, by show y.2 :: nums (kput k h n) = _; rw [ih.2]; rfl⟩
/-- Rows that grew: where they were, or in new memory. -/
def KOld (W : World) (vh0 vn0 vh vn : Value) : Prop := ∀ j, (vh.ownBlock = some j ∨ vn.ownBlock = some j) → (vh0.ownBlock = some j ∨ vn0.ownBlock = some j) ∨ W.heap.size ≤ j
/-- Behind the statements' put. -/
def KPost (W : World) (B kb : Nat) (vh0 vn0 : Value) (k : En) (W' : World) : Prop := (∃ vh vn, KX W' B kb vh vn (keys k) (nums k) ∧ KOld W vh0 vn0 vh vn) ∧ Below B W W' ∧ Only (fun j => j = kb ∨ vh0.ownBlock = some j ∨ vn0.ownBlock = some j) W W'
theorem KX.setn {W : World} {B kb gn : Nat} {vh vn : Value} {k k' : En} {i : Nat} {n : Int} (H : KX W B kb vh vn (keys k) (nums k)) (hi : i < k.length) (hvn : vn.ownBlock = some gn) (hk : keys k' = keys k) (hn : nums k' = (nums k).set i n) (hB : B ≤ W.heap.size) : KPost W B kb vh vn k' (W.setCell ⟨gn, i, none⟩ (.int .i64 n)) := by
  have hl := nums_length k
  obtain ⟨g, cap, R, rfl, hb, hg, hc, hm, hR⟩ := nown_row H.ns (by omega)
  simp only [Value.ownBlock, Option.some.injEq] at hvn
  subst hvn
  have hg1 := cells_set (j := i) hg (.int .i64 n)
  have hset : (nvl (nums k) ++ R).set i (.int .i64 n) = nvl ((nums k).set i n) ++ R := by
    rw [List.set_append_left _ _ (by rw [nvl, List.length_map]; omega)]
    congr 1
    unfold nvl
    rw [List.map_set]
  rw [hset] at hg1
  have hne := H.nn (g := g) rfl
  refine ⟨⟨vh, .slice (some ⟨g, 0, none⟩) (nums k).length cap, ⟨?_, ?_, ?_, by rw [hk]; exact H.h32, H.ge⟩, fun j hj => .inl hj⟩, ((Only.refl (fun j => B ≤ j) W).setCell (p := ⟨g, i, none⟩) hb _).below hB (fun _ h => h), (Only.refl _ W).setCell (p := ⟨g, i, none⟩) (.inr (.inr rfl)) _⟩
  · rw [Below.heap_setCell _ _ _ _ (Ne.symm hne)]; exact H.cell
  · rw [hk]
    refine ⟨H.hs.1, ?_⟩
    rcases H.hs.2 with h1 | ⟨g2, cap2, cur, h1, h2, hg2, h3⟩
    · exact .inl h1
    · exact .inr ⟨g2, cap2, cur, h1, h2, by rw [Below.heap_setCell _ _ _ _ (H.hn (g := g2) (j := g) (by rw [h1]; rfl) rfl)]; exact hg2, h3⟩
  · have hll : ((nums k).set i n).length = (nums k).length := List.length_set ..
    rw [hn]
    exact nown_mk (by rw [hll]) hb hg1 (by rw [hll]; exact hc) hm (by rw [hll]; exact hR)
theorem KX.seth {W W1 w6 : World} {B kb gg cap6 : Nat} {vh vn : Value} {E : List (List UInt8)} {l : List Int} {h : List UInt8} {o : Obj} (H : KX W1 B kb vh vn E l) (hb : Below W.heap.size W W1) (hB : B ≤ W.heap.size) (hh : h.length = 32)
    (hg : (W1.alloc o).grownBy w6 vh.ownBlock) (ho : w6.ownsRow B 36 32 (.slice (some ⟨gg, 0, none⟩) (E.length + 1) cap6) (E.length + 1) (fl E ++ fl [h])) :
    w6.cell? ⟨kb, 0, none⟩ = some vh ∧ w6.frozen? ⟨kb, 0, none⟩ = false ∧ (Below B W (w6.setCell ⟨kb, 0, none⟩ (.slice (some ⟨gg, 0, none⟩) (E.length + 1) cap6)) ∧ Only (fun j => j = kb ∨ vh.ownBlock = some j) W (w6.setCell ⟨kb, 0, none⟩ (.slice (some ⟨gg, 0, none⟩) (E.length + 1) cap6))) ∧ KX (w6.setCell ⟨kb, 0, none⟩ (.slice (some ⟨gg, 0, none⟩) (E.length + 1) cap6)) B kb (.slice (some ⟨gg, 0, none⟩) (E.length + 1) cap6) vn (E ++ [h]) l := by
  have keep : ∀ j, j < W1.heap.size → vh.ownBlock ≠ some j → w6.heap[j]? = W1.heap[j]? := fun j hj hn => (hg.block j (by simp; omega) hn.symm).trans (Below.heap_alloc _ _ _ hj)
  have h1 : w6.heap[kb]? = some (.cells #[vh, vn] 52 (0, 0)) := (keep kb H.lt (fun e => H.nh e rfl)).trans H.cell
  have hgc : gg ≠ kb := fun e => by
    obtain ⟨cs, hcs⟩ := row_type9 ho (k := gg) rfl
    rw [e, h1] at hcs
    simp at hcs
  have e1 : (E ++ [h]).length = E.length + 1 := by simp
  refine ⟨by rw [cell_of_row _ kb 0 _ _ _ h1]; rfl, by simp [World.frozen?, h1], ?_, ?_, ⟨by rw [e1, fl_app]; exact ho.1, ?_⟩, ⟨H.ns.1, ?_⟩, H.h32.app (H32.one hh), H.ge⟩
  · have b1 : Below B W (W1.alloc o) := (hb.mono hB).alloc (Nat.le_trans hB hb.size) o
    have b2 : Below B W w6 := b1.grown hg (by simp; have := hb.size; omega) (fun k hk => (H.hs.lt k hk).1)
    have o1 : Only (fun k => B ≤ k) W w6 := ⟨b2.os, b2.tape, b2.output, b2.size, fun k hk hn => b2.block k (by omega)⟩
    refine ⟨(o1.setCell (p := ⟨kb, 0, none⟩) H.ge _).below hB (fun _ h => h), ?_⟩
    have o2 : Only (fun j => j = kb ∨ vh.ownBlock = some j) W w6 := Only.grown ((Only.of_below hb).alloc o) hg (fun k _ e => .inr e)
    exact o2.setCell (p := ⟨kb, 0, none⟩) (.inl rfl) _
  · have := cells_set (row := [vh, vn]) (j := 0) h1 (.slice (some ⟨gg, 0, none⟩) (E.length + 1) cap6)
    exact this
  · rw [e1, fl_app]
    rcases ho.2 with ⟨hs, _⟩ | ⟨g', cap', cur, hs, hbg, hg', rest⟩
    · cases hs
    · cases hs
      exact .inr ⟨gg, cap6, cur, rfl, hbg, by rw [Below.heap_setCell _ _ _ _ hgc]; exact hg', rest⟩
  · rcases H.ns.2 with h2 | ⟨g', cap', cur, hs, hbg, hg', rest⟩
    · exact .inl h2
    · have hj : vn.ownBlock = some g' := by rw [hs]; rfl
      refine .inr ⟨g', cap', cur, hs, hbg, ?_, rest⟩
      rw [Below.heap_setCell _ _ _ _ (H.nn hj), keep g' (Array.getElem?_eq_some_iff.1 hg').1 (fun e => H.hn e hj rfl)]
      exact hg'
theorem KX.setl {W W1 w6 : World} {B kb gg cap6 : Nat} {vh vn : Value} {E : List (List UInt8)} {l : List Int} {x : Int} {o : Obj} (H : KX W1 B kb vh vn E l) (hb : Below W.heap.size W W1) (hB : B ≤ W.heap.size)
    (hg : (W1.alloc o).grownBy w6 vn.ownBlock) (ho : w6.ownsRow B 3 1 (.slice (some ⟨gg, 0, none⟩) (l.length + 1) cap6) (l.length + 1) (nvl l ++ [.int .i64 x])) :
    w6.cell? ⟨kb, 1, none⟩ = some vn ∧ w6.frozen? ⟨kb, 1, none⟩ = false ∧ (Below B W (w6.setCell ⟨kb, 1, none⟩ (.slice (some ⟨gg, 0, none⟩) (l.length + 1) cap6)) ∧ Only (fun j => j = kb ∨ vn.ownBlock = some j) W (w6.setCell ⟨kb, 1, none⟩ (.slice (some ⟨gg, 0, none⟩) (l.length + 1) cap6))) ∧ KX (w6.setCell ⟨kb, 1, none⟩ (.slice (some ⟨gg, 0, none⟩) (l.length + 1) cap6)) B kb vh (.slice (some ⟨gg, 0, none⟩) (l.length + 1) cap6) E (l ++ [x]) := by
  have keep : ∀ j, j < W1.heap.size → vn.ownBlock ≠ some j → w6.heap[j]? = W1.heap[j]? := fun j hj hn => (hg.block j (by simp; omega) hn.symm).trans (Below.heap_alloc _ _ _ hj)
  have h1 : w6.heap[kb]? = some (.cells #[vh, vn] 52 (0, 0)) := (keep kb H.lt (fun e => H.nn e rfl)).trans H.cell
  have hgc : gg ≠ kb := fun e => by
    obtain ⟨cs, hcs⟩ := row_type9 ho (k := gg) rfl
    rw [e, h1] at hcs
    simp at hcs
  have e1 : (l ++ [x]).length = l.length + 1 := by simp
  have e2 : nvl (l ++ [x]) = nvl l ++ [.int .i64 x] := by simp [nvl]
  refine ⟨by rw [cell_of_row _ kb 1 _ _ _ h1]; rfl, by simp [World.frozen?, h1], ?_, ?_, ⟨H.hs.1, ?_⟩, ⟨by rw [e1, e2]; exact ho.1, ?_⟩, H.h32, H.ge⟩
  · have b1 : Below B W (W1.alloc o) := (hb.mono hB).alloc (Nat.le_trans hB hb.size) o
    have b2 : Below B W w6 := b1.grown hg (by simp; have := hb.size; omega) (fun k hk => (H.ns.lt k hk).1)
    have o1 : Only (fun k => B ≤ k) W w6 := ⟨b2.os, b2.tape, b2.output, b2.size, fun k hk hn => b2.block k (by omega)⟩
    refine ⟨(o1.setCell (p := ⟨kb, 1, none⟩) H.ge _).below hB (fun _ h => h), ?_⟩
    have o2 : Only (fun j => j = kb ∨ vn.ownBlock = some j) W w6 := Only.grown ((Only.of_below hb).alloc o) hg (fun k _ e => .inr e)
    exact o2.setCell (p := ⟨kb, 1, none⟩) (.inl rfl) _
  · have := cells_set (row := [vh, vn]) (j := 1) h1 (.slice (some ⟨gg, 0, none⟩) (l.length + 1) cap6)
    exact this
  · rcases H.hs.2 with h2 | ⟨g', cap', cur, hs, hbg, hg', rest⟩
    · exact .inl h2
    · have hj : vh.ownBlock = some g' := by rw [hs]; rfl
      refine .inr ⟨g', cap', cur, hs, hbg, ?_, rest⟩
      rw [Below.heap_setCell _ _ _ _ (H.nh hj), keep g' (Array.getElem?_eq_some_iff.1 hg').1 (fun e => H.hn hj e rfl)]
      exact hg'
  · rw [e1, e2]
    rcases ho.2 with ⟨hs, _⟩ | ⟨g', cap', cur, hs, hbg, hg', rest⟩
    · cases hs
    · cases hs
      exact .inr ⟨gg, cap6, cur, rfl, hbg, by rw [Below.heap_setCell _ _ _ _ hgc]; exact hg', rest⟩
section
variable {ops : Array Oper} {o : Oper} {a : Act} {w : World} {K : Act → World → Prop} {Q : Exit → Act → World → Prop} {X : Prop}
/-- A slice of hashes is made, at a step of a region that draws its order. -/
theorem step_build_hash {E : List (List UInt8)} {parts : Array (Nat × Operand)} {len : Nat} (hgd : o.guard = none) (ho : o.op = .buildSlice 46 len parts) (hE : H32 E) (hl : len = E.length) (h0 : 0 < E.length) (h1 : E.length ≤ 1000)
    (hv' : (parts.map fun (i, x) => (i, a.eval x)).toList = ((E.map fun h => Value.agg (hv h)).zipIdx 0).map fun x => (x.2, x.1))
    (h : K (a.put o.dst (.slice (some ⟨w.heap.size, 0, none⟩) len len)) (w.alloc (.cells (fl E).toArray 36))) :
    if Region.wanted o (yielded ops a.tmps) = true then Oper.wp Tryz.prog o a w K Q else X := by
  rw [if_pos (by simp [Region.wanted, hgd])]
  subst hl
  obtain ⟨i0, hi0, hz0, hz1, hz2⟩ := info_parts hzinfo
  refine wp_buildSlice 46 36 E.length parts ho (fl E).toArray i0 (.agg hzer) Tryz.underlying46 hi0 hz0 (by rw [hz1]; omega) (by rw [hz1]; omega) ?_ h
  rw [hv', hz1]
  have := Great.fill_whole (s := 32) (by decide) (E.map fun h => Value.agg (hv h)) ((Array.range (E.length * 32)).map ((Value.agg hzer).cells[· % (Value.agg hzer).cells.size]!)) (fun v hvm => by
    obtain ⟨h, hm, rfl⟩ := List.mem_map.1 hvm
    show (hv h).size = 32
    rw [hv_size, hE h hm]) (by simp)
  rw [fl_flat] at this
  exact this
theorem step_build_int {x : Int} {parts : Array (Nat × Operand)} (hgd : o.guard = none) (ho : o.op = .buildSlice 49 1 parts)
    (hv' : (parts.map fun (i, x) => (i, a.eval x)).toList = [(0, .int .i64 x)])
    (h : K (a.put o.dst (.slice (some ⟨w.heap.size, 0, none⟩) 1 1)) (w.alloc (.cells #[.int .i64 x] 3))) :
    if Region.wanted o (yielded ops a.tmps) = true then Oper.wp Tryz.prog o a w K Q else X := by
  rw [if_pos (by simp [Region.wanted, hgd])]
  obtain ⟨i0, hi0, hz0, hz1, hz2⟩ := info_parts ninfo9
  refine wp_buildSlice 49 3 1 parts ho #[.int .i64 x] i0 (.int .i64 0) Tryz.underlying49 hi0 hz0 (by rw [hz1]; decide) (by rw [hz1]; decide) ?_ h
  rw [hv', hz1]
  exact Great.fill_flat [.int .i64 x] _ (fun v hv => by rw [List.mem_singleton.1 hv]; rfl) (by simp)
end
end Go.Proofs.YtbpccbhlggcmfaaGreatDoor
namespace Go.Proofs.YtbpccbhlggcmfaaGreatDoor
open Go.RowKit
attribute [local go_sem ↓] hld_open heq_open hne_open

set_option maxRecDepth 20000 in
set_option maxHeartbeats 4000000 in
theorem kput_to (w : World) (B kb : Nat) (k : En) (h : List UInt8) (n : Int) (vh0 vn0 : Value) (hk : KX w B kb vh0 vn0 (keys k) (nums k)) (hh : h.length = 32) (hB : B ≤ w.heap.size) (hbig : k.length ≤ 1000000) :
    Calls Tryz.prog 21 #[.pointer (some ⟨kb, 0, none⟩), .agg (hv h), .int .i64 n] w fun e w' => e = .returned (.tuple #[]) ∧ KPost w B kb vh0 vn0 (kput k h n) w' := by
  obtain ⟨i0, hi0, hz0, hz1, hz2⟩ := info_parts hzinfo
  obtain ⟨j0, hj0, hy0, hy1, hy2⟩ := info_parts ninfo9
  have hlk := keys_length k
  have hln := nums_length k
  obtain ⟨p, cap, rfl⟩ := own_shape hk.hs
  obtain ⟨q, cq, rfl⟩ := nown_shape hk.ns
  rw [hlk] at hk ⊢
  rw [hln] at hk ⊢
  have b1 := (Below.refl w.heap.size w).alloc (Nat.le_refl _) (.cells (hv h) 36)
  have HB1 := Lib.hid b1
  have HK1 := Lib.hid (hk.below b1)
  have HH1 := Lib.hid (heap_alloc_last w (.cells (hv h) 36))
  have HH := Lib.hid hh
  have HBW := Lib.hid hB
  have HBIG := Lib.hid hbig
  have HLK := Lib.hid hlk
  have HLN := Lib.hid hln
  clear b1 hk hh hB hlk hln
  go_enter Tryz.func21, Tryz.ntmps21
  go_wp2
  generalize w.alloc (.cells (hv h) 36) = w0 at *
  go_loopw [6] (fun v wr => ∃ (i : Nat), i ≤ k.length ∧ v = .int .i64 i ∧ Hid (Below w.heap.size w wr) ∧ Hid (KX wr B kb (.slice p k.length cap) (.slice q k.length cq) (keys k) (nums k)) ∧ Hid (wr.heap[w.heap.size]? = some (.cells (hv h) 36 (0, 0))) ∧ Hid (∀ j, j < i → (keys k)[j]? ≠ some h)) (fun v _ => k.length - (intOf v).toNat)
  case atStart => exact ⟨0, by omega, rfl, HB1, HK1, HH1, Lib.hid (fun j hj => absurd hj (Nat.not_lt_zero j))⟩
  case round =>
    obtain ⟨i, hi, rfl, BW, HK, HR, HJ⟩ := hrel
    have c0 := HK.out.c0
    by_cases hlt : i < k.length
    · have hdc : decide ((i : Int) < k.length) = true := decide_eq_true (by omega)
      have hlk' : i < (keys k).length := by rw [HLK.out]; exact hlt
      obtain ⟨g, cap', R, hsl, hbg, hgr, hc1, hm1, hR1⟩ := HOwn.row HK.out.hs (by omega)
      have hp : p = some ⟨g, 0, none⟩ := by injection hsl
      subst hp
      have l1 := hld_at HK.out.h32 hlk' hgr 1
      have l3 := fun q => hld_at HK.out.h32 hlk' hgr q
      rw [show wr.drewN 1 = wr.drew from rfl] at l1
      have l2 := hld_row (w := wr.drew) HH.out HR.out
      have l4 := fun q => hld_row (w := wr.drewN q) HH.out HR.out
      have heq := heq_hv (HK.out.h32.at hlk') HH.out
      have HAT : Hid ((keys k)[i]? = some (keys k)[i]) := Lib.hid (List.getElem?_eq_getElem hlk')
      clear hsl hgr hR1 hm1 hc1 hbg
      generalize (keys k)[i] = hx at *
      by_cases hsame : hx = h
      · rw [decide_eq_true hsame] at heq
        subst hsame
        obtain ⟨hk1, hk2⟩ := kput_at k i hx n HAT.out HJ.out
        have HK12 := Lib.hid (And.intro hk1 hk2)
        clear hk1 hk2
        go_wp2_with fail
        go_quiet (fail)
        have HKq := Lib.hid (HK.out.below (below_drn (m := nq) (Below.refl wr.heap.size wr)))
        have BWq := Lib.hid (below_drn (m := nq) BW.out)
        clear l1 l2 l3 l4 heq c0 HR HK
        generalize wr.drewN nq = W at *
        obtain ⟨gn, cq', Rn, hsn, hbn, hgn, hcn, hmn, hRn⟩ := nown_row HKq.out.ns (by rw [HLN.out]; omega)
        have hq : q = some ⟨gn, 0, none⟩ := by injection hsn
        subst hq
        have c1 := HKq.out.c1
        have HS := Lib.hid (HKq.out.setn (k' := kput k hx n) (n := n) hlt rfl HK12.out.1 HK12.out.2 (Nat.le_trans HBW.out BWq.out.size))
        have hll : i < (nvl (nums k) ++ Rn).length := by rw [List.length_append, show (nvl (nums k)).length = (nums k).length from List.length_map _, HLN.out]; omega
        have tn : ∃ u, W.cell? ⟨gn, i, none⟩ = some u := by
          rw [cell_of_row W gn i _ _ _ hgn, List.getElem?_toArray, List.getElem?_eq_getElem hll]
          exact ⟨_, rfl⟩
        clear hll
        obtain ⟨u, hu⟩ := tn
        have fz : W.frozen? ⟨gn, i, none⟩ = false := by simp [World.frozen?, hgn]
        clear hsn hgn hRn hmn hcn hbn
        go_wp2_with fail
        refine bodyPost_ret (v := .tuple #[]) (results_none Tryz.results21 _ _ _) rfl ?_
        exact ⟨rfl, (let ⟨vh, vn, h1, h2⟩ := HS.out.1; ⟨vh, vn, h1, fun j hj => (h2 j hj).imp id (fun e => Nat.le_trans BWq.out.size e)⟩), (BWq.out.mono HBW.out).trans HS.out.2.1, (Only.of_below BWq.out).trans HS.out.2.2 (fun _ e => e) (fun _ _ e => e)⟩
      · rw [decide_eq_false hsame] at heq
        have HNE := Lib.hid hsame
        clear hsame
        go_wp2_with fail
        go_quiet (fail)
        have HKq := Lib.hid (HK.out.below (below_drn (m := nq) (Below.refl wr.heap.size wr)))
        have BWq := Lib.hid (below_drn (m := nq) BW.out)
        have HRq : Hid ((wr.drewN nq).heap[w.heap.size]? = some (.cells (hv h) 36 (0, 0))) := Lib.hid HR.out
        clear l1 l2 l3 l4 heq c0 HR HK
        generalize wr.drewN nq = W at *
        go_wp2_with fail
        go_round
        case rel => exact ⟨i + 1, by omega, by go_num, BWq, HKq, HRq, Lib.hid (fun j hj => by
          rcases (show j < i ∨ j = i from by omega) with e | rfl
          · exact HJ.out j e
          · rw [HAT.out]; intro e; exact HNE.out (Option.some.inj e))⟩
        case measure => simp [intOf]; omega
    · obtain rfl : i = k.length := by omega
      have hdc : decide (((k.length : Nat) : Int) < k.length) = false := decide_eq_false (by omega)
      obtain ⟨hk1, hk2⟩ := kput_new k h n HJ.out
      have HK12 := Lib.hid (And.intro hk1 hk2)
      have l2 := hld_row (w := wr.drew) HH.out HR.out
      have hf1 : k.length + 1 ≤ maxLen ∧ (k.length + 1) * 32 ≤ 140737488355328 := by unfold maxLen; omega
      have hf2 : k.length + 1 ≤ maxLen ∧ (k.length + 1) * 8 ≤ 140737488355328 := by unfold maxLen; omega
      have HF1 := Lib.hid hf1
      have HF2 := Lib.hid hf2
      have HKO : Hid (HOwn wr.drew B (.slice p k.length cap) (keys k)) := Lib.hid HK.out.hs
      have hko := HKO.out
      unfold HOwn at hko
      rw [HLK.out] at hko
      have HKO2 := Lib.hid hko
      have hbsz : B ≤ wr.drew.heap.size := Nat.le_trans HBW.out BW.out.size
      have HBS := Lib.hid hbsz
      clear hk1 hk2 hf1 hf2 hko hbsz HKO
      go_wp2_with fail
      have HX : Hid (KX wr.drew B kb (.slice p k.length cap) (.slice q k.length cq) (keys k) (nums k)) := Lib.hid (HK.out.below ⟨rfl, rfl, rfl, Nat.le_refl _, fun _ _ => rfl⟩)
      have c0d := HX.out.c0
      have c0a : (wr.drew.alloc (.cells (fl [h]).toArray 36)).cell? ⟨kb, 0, none⟩ = some (.slice p k.length cap) := (HX.out.below ((Below.refl _ wr.drew).alloc (Nat.le_refl _) _)).c0
      have c0b : (wr.alloc (.cells (fl [h]).toArray 36)).cell? ⟨kb, 0, none⟩ = some (.slice p k.length cap) := (HK.out.below ((Below.refl _ wr).alloc (Nat.le_refl _) _)).c0
      try simp only [List.append]
      refine wp_region_noPanic ?_
      refine wp_region_any_drew (by kernel_rfl) ?_
      refine wpAny_take (i := 0) (v := ?_) (by simp only [List.getElem?_toArray, List.getElem?_cons_zero]; rfl) (by kernel_rfl) (by kernel_rfl) (by kernel_rfl) (fun _ _ _ h => h) (Or.inl ⟨by rfl, ?_⟩) ?_
      rotate_left
      · intro w
        go_simp
        try with_reducible rfl
      try simp only [Act.put, List.setIfInBounds_toArray, List.set_cons_zero, List.set_cons_succ]
      refine wpAny_take (i := 1) (v := ?_) (by simp only [List.getElem?_toArray, List.getElem?_cons_succ, List.getElem?_cons_zero]; rfl) (by kernel_rfl) (by kernel_rfl) (by kernel_rfl) (fun _ _ _ h => h) (Or.inl ⟨by rfl, ?_⟩) ?_
      rotate_left
      · intro w
        go_simp
        try with_reducible rfl
      try simp only [Act.put, List.setIfInBounds_toArray, List.set_cons_zero, List.set_cons_succ]
      refine wpAny_take (i := 2) (v := ?_) (by simp only [List.getElem?_toArray, List.getElem?_cons_succ, List.getElem?_cons_zero]; rfl) (by kernel_rfl) (by kernel_rfl) (by kernel_rfl) (fun _ _ _ h => h) (Or.inl ⟨by rfl, ?_⟩) ?_
      rotate_left
      · intro w
        go_simp
        try with_reducible rfl
      try simp only [Act.put, List.setIfInBounds_toArray, List.set_cons_zero, List.set_cons_succ]
      refine wpAny_take (i := 3) (v := ?_) (by simp only [List.getElem?_toArray, List.getElem?_cons_succ, List.getElem?_cons_zero]; rfl) (by kernel_rfl) (by kernel_rfl) (by kernel_rfl) (fun _ _ _ h => h) (Or.inl ⟨by rfl, ?_⟩) ?_
      rotate_left
      · intro w
        go_simp
        try with_reducible rfl
      try simp only [Act.put, List.setIfInBounds_toArray, List.set_cons_zero, List.set_cons_succ]
      refine wpAny_ready (rs := [4, 5]) (by kernel_rfl) (by simp) ?_
      refine (AllReady.cons (by simp only [List.getElem?_toArray, List.getElem?_cons_succ, List.getElem?_cons_zero]; rfl) (fun K hK => ?_) (AllReady.cons (by simp only [List.getElem?_toArray, List.getElem?_cons_succ, List.getElem?_cons_zero]; rfl) (fun K hK => ?_) AllReady.nil))
      · have HK := Lib.hid hK
        clear hK
        go_simp
        refine HK.out _ _ ?_
        clear HK K
        try simp only [Act.put, List.setIfInBounds_toArray, List.set_cons_zero, List.set_cons_succ]
        refine wpAny_ready (rs := [5]) (by kernel_rfl) (by simp) ?_
        refine (AllReady.cons (by simp only [List.getElem?_toArray, List.getElem?_cons_succ, List.getElem?_cons_zero]; rfl) (fun K hK => ?_) AllReady.nil)
        have HK := Lib.hid hK
        clear hK
        go_simp
        refine HK.out _ _ ?_
        clear HK K
        try simp only [Act.put, List.setIfInBounds_toArray, List.set_cons_zero, List.set_cons_succ]
        refine wpAny_ready (rs := [6]) (by kernel_rfl) (by simp) ?_
        refine (AllReady.cons (by simp only [List.getElem?_toArray, List.getElem?_cons_succ, List.getElem?_cons_zero]; rfl) (fun K hK => ?_) AllReady.nil)
        have HK := Lib.hid hK
        clear hK
        refine step_build_hash (E := [h]) (by rfl) (by rfl) (H32.one HH.out) rfl (by simp) (by simp) ?hv ?_
        case hv => simp [Act.eval, hv]
        refine HK.out _ _ ?_
        clear HK K
        try simp only [Act.put, List.setIfInBounds_toArray, List.set_cons_zero, List.set_cons_succ]
        refine wpAny_ready (rs := [7]) (by kernel_rfl) (by simp) ?_
        refine (AllReady.cons (by simp only [List.getElem?_toArray, List.getElem?_cons_succ, List.getElem?_cons_zero]; rfl) (fun K hK => ?_) AllReady.nil)
        have HK := Lib.hid hK
        clear hK
        refine step_append_lies _ (by rfl) (.tmp 36) (.tmp 38) _ (by rfl) B 36 i0 _ 32 32 Tryz.underlying46 hi0 hz0 hz1 hz2 rfl (by omega) (.slice p k.length cap) k.length _ (by rfl) (HKO2.out.alloc _) ⟨wr.drew.heap.size, 0, none⟩ 1 1 (fl [h]) (by rfl) (by rw [fl_one, usn_length, HH.out]) (news_fl wr.drew [h]) (fl_one' [h]) (by decide) HF1.out.1 HF1.out.2 (Nat.le_trans HBS.out (by simp)) (wr.drew.heap.size + 1) (by simp) ?_
        intro gg cap6 w6 own6 grow6 at6 _
        have AT6 : Hid ((Value.slice p k.length cap).ownBlock = some gg ∨ w.heap.size ≤ gg) := Lib.hid (at6.imp id (fun e => by have := BW.out.size; rw [e]; show w.heap.size ≤ wr.drew.heap.size + 1; exact Nat.le_succ_of_le this))
        clear at6
        obtain ⟨t1, t2, t3, t4⟩ := KX.seth (W := wr) (W1 := wr.drew) (o := .cells (fl [h]).toArray 36) HX.out ⟨rfl, rfl, rfl, Nat.le_refl _, fun _ _ => rfl⟩ (Nat.le_trans HBW.out BW.out.size) HH.out grow6 (by rw [HLK.out]; exact own6)
        rw [HLK.out] at t3 t4
        have T3 := Lib.hid t3
        have T4 := Lib.hid t4
        clear own6 grow6 t3 t4
        refine HK.out _ _ ?_
        clear HK K
        try simp only [Act.put, List.setIfInBounds_toArray, List.set_cons_zero, List.set_cons_succ]
        refine wpAny_take (i := 8) (v := ?_) (by simp only [List.getElem?_toArray, List.getElem?_cons_succ, List.getElem?_cons_zero]; rfl) (by kernel_rfl) (by kernel_rfl) (by kernel_rfl) (fun _ _ _ h => h) (Or.inl ⟨by rfl, ?_⟩) ?_
        rotate_left
        · intro w
          go_simp
          try with_reducible rfl
        try simp only [Act.put, List.setIfInBounds_toArray, List.set_cons_zero, List.set_cons_succ]
        refine wpAny_take (i := 9) (v := ?_) (by simp only [List.getElem?_toArray, List.getElem?_cons_succ, List.getElem?_cons_zero]; rfl) (by kernel_rfl) (by kernel_rfl) (by kernel_rfl) (fun _ _ _ h => h) (Or.inl ⟨by rfl, ?_⟩) ?_
        rotate_left
        · intro w
          go_simp
          try with_reducible rfl
        try simp only [Act.put, List.setIfInBounds_toArray, List.set_cons_zero, List.set_cons_succ]
        refine wpAny_ready (rs := [10]) (by kernel_rfl) (by simp) ?_
        refine (AllReady.cons (by simp only [List.getElem?_toArray, List.getElem?_cons_succ, List.getElem?_cons_zero]; rfl) (fun K hK => ?_) AllReady.nil)
        have HK := Lib.hid hK
        clear hK
        go_simp
        refine HK.out _ _ ?_
        clear HK K
        try simp only [Act.put, List.setIfInBounds_toArray, List.set_cons_zero, List.set_cons_succ]
        refine wpAny_done (by kernel_rfl) ?_ _
        refine NoPanic.normal ?_
        clear c0 c0d c0a c0b l2 t1 t2
        obtain ⟨W1, hW1⟩ : ∃ W1, W1 = w6.setCell ⟨kb, 0, none⟩ (.slice (some ⟨gg, 0, none⟩) (k.length + 1) cap6) := ⟨_, rfl⟩
        rw [← hW1] at T3 T4 ⊢
        clear hW1
        have HB2 : Hid (Below B w W1) := Lib.hid ((BW.out.mono HBW.out).trans T3.out.1)
        have d0 := T4.out.c1
        have HNO : Hid (NOwn W1 B (.slice q k.length cq) (nums k)) := Lib.hid T4.out.ns
        have hno := HNO.out
        unfold NOwn at hno
        rw [HLN.out] at hno
        have HNO2 := Lib.hid hno
        have HBS2 : Hid (B ≤ W1.heap.size) := Lib.hid (Nat.le_trans HBW.out HB2.out.size)
        clear hno HNO
        go_wp2_with (at_builtin; refine wpList_append_lies _ (by rfl) (.tmp 46) (.tmp 48) _ (by rfl) B 3 j0 _ 1 8 Tryz.underlying49 hj0 hy0 hy1 hy2 rfl (by omega) (.slice q k.length cq) k.length _ (by rfl) (HNO2.out.alloc _) ⟨W1.heap.size, 0, none⟩ 1 1 [.int .i64 n] (by rfl) (by rfl) (World.news_of_block (cs := #[.int .i64 n]) (t := 3) (fr := (0, 0)) (heap_alloc_new W1 _)) (by simp [Value.oneCell']) (by decide) HF2.out.1 HF2.out.2 (Nat.le_trans HBS2.out (by simp)) (W1.heap.size + 1) (by simp) ?_; intro gl cap7 w7 own7 grow7 at7 _; have AT7 : Hid ((Value.slice q k.length cq).ownBlock = some gl ∨ w.heap.size ≤ gl) := Lib.hid (at7.imp id (fun e => by have := HB2.out.size; omega)); clear at7; obtain ⟨t1, t2, t3, t4⟩ := KX.setl (W := W1) (W1 := W1) (x := n) (o := .cells #[.int .i64 n] 3) T4.out (Below.refl _ _) (Nat.le_trans HBW.out HB2.out.size) grow7 (by rw [HLN.out]; exact own7); rw [HLN.out] at t3 t4; have T5 := Lib.hid t3; have T6 := Lib.hid t4; clear own7 grow7 t3 t4)
        go_end0
        exact ⟨rfl, ⟨_, _, by rw [HK12.out.1, HK12.out.2]; exact T6.out, fun j hj => by
          rcases hj with e | e
          · obtain rfl : gg = j := by simpa [Value.ownBlock] using e
            exact AT6.out.imp .inl id
          · obtain rfl : gl = j := by simpa [Value.ownBlock] using e
            exact AT7.out.imp .inr id⟩, HB2.out.trans T5.out.1, ((Only.of_below (S := fun _ => False) BW.out).trans T3.out.2 (U := fun j => j = kb ∨ (Value.slice p k.length cap).ownBlock = some j ∨ (Value.slice q k.length cq).ownBlock = some j) (fun _ e => e.elim) (fun _ _ e => e.imp id .inl)).trans T5.out.2 (fun _ e => e) (fun _ _ e => e.imp id .inr)⟩
      · have HK := Lib.hid hK
        clear hK
        go_simp
        refine HK.out _ _ ?_
        clear HK K
        try simp only [Act.put, List.setIfInBounds_toArray, List.set_cons_zero, List.set_cons_succ]
        refine wpAny_ready (rs := [4, 6]) (by kernel_rfl) (by simp) ?_
        refine (AllReady.cons (by simp only [List.getElem?_toArray, List.getElem?_cons_succ, List.getElem?_cons_zero]; rfl) (fun K hK => ?_) (AllReady.cons (by simp only [List.getElem?_toArray, List.getElem?_cons_succ, List.getElem?_cons_zero]; rfl) (fun K hK => ?_) AllReady.nil))
        · have HK := Lib.hid hK
          clear hK
          go_simp
          refine HK.out _ _ ?_
          clear HK K
          try simp only [Act.put, List.setIfInBounds_toArray, List.set_cons_zero, List.set_cons_succ]
          refine wpAny_ready (rs := [6]) (by kernel_rfl) (by simp) ?_
          refine (AllReady.cons (by simp only [List.getElem?_toArray, List.getElem?_cons_succ, List.getElem?_cons_zero]; rfl) (fun K hK => ?_) AllReady.nil)
          have HK := Lib.hid hK
          clear hK
          refine step_build_hash (E := [h]) (by rfl) (by rfl) (H32.one HH.out) rfl (by simp) (by simp) ?hv ?_
          case hv => simp [Act.eval, hv]
          refine HK.out _ _ ?_
          clear HK K
          try simp only [Act.put, List.setIfInBounds_toArray, List.set_cons_zero, List.set_cons_succ]
          refine wpAny_ready (rs := [7]) (by kernel_rfl) (by simp) ?_
          refine (AllReady.cons (by simp only [List.getElem?_toArray, List.getElem?_cons_succ, List.getElem?_cons_zero]; rfl) (fun K hK => ?_) AllReady.nil)
          have HK := Lib.hid hK
          clear hK
          refine step_append_lies _ (by rfl) (.tmp 36) (.tmp 38) _ (by rfl) B 36 i0 _ 32 32 Tryz.underlying46 hi0 hz0 hz1 hz2 rfl (by omega) (.slice p k.length cap) k.length _ (by rfl) (HKO2.out.alloc _) ⟨wr.drew.heap.size, 0, none⟩ 1 1 (fl [h]) (by rfl) (by rw [fl_one, usn_length, HH.out]) (news_fl wr.drew [h]) (fl_one' [h]) (by decide) HF1.out.1 HF1.out.2 (Nat.le_trans HBS.out (by simp)) (wr.drew.heap.size + 1) (by simp) ?_
          intro gg cap6 w6 own6 grow6 at6 _
          have AT6 : Hid ((Value.slice p k.length cap).ownBlock = some gg ∨ w.heap.size ≤ gg) := Lib.hid (at6.imp id (fun e => by have := BW.out.size; rw [e]; show w.heap.size ≤ wr.drew.heap.size + 1; exact Nat.le_succ_of_le this))
          clear at6
          obtain ⟨t1, t2, t3, t4⟩ := KX.seth (W := wr) (W1 := wr.drew) (o := .cells (fl [h]).toArray 36) HX.out ⟨rfl, rfl, rfl, Nat.le_refl _, fun _ _ => rfl⟩ (Nat.le_trans HBW.out BW.out.size) HH.out grow6 (by rw [HLK.out]; exact own6)
          rw [HLK.out] at t3 t4
          have T3 := Lib.hid t3
          have T4 := Lib.hid t4
          clear own6 grow6 t3 t4
          refine HK.out _ _ ?_
          clear HK K
          try simp only [Act.put, List.setIfInBounds_toArray, List.set_cons_zero, List.set_cons_succ]
          refine wpAny_take (i := 8) (v := ?_) (by simp only [List.getElem?_toArray, List.getElem?_cons_succ, List.getElem?_cons_zero]; rfl) (by kernel_rfl) (by kernel_rfl) (by kernel_rfl) (fun _ _ _ h => h) (Or.inl ⟨by rfl, ?_⟩) ?_
          rotate_left
          · intro w
            go_simp
            try with_reducible rfl
          try simp only [Act.put, List.setIfInBounds_toArray, List.set_cons_zero, List.set_cons_succ]
          refine wpAny_take (i := 9) (v := ?_) (by simp only [List.getElem?_toArray, List.getElem?_cons_succ, List.getElem?_cons_zero]; rfl) (by kernel_rfl) (by kernel_rfl) (by kernel_rfl) (fun _ _ _ h => h) (Or.inl ⟨by rfl, ?_⟩) ?_
          rotate_left
          · intro w
            go_simp
            try with_reducible rfl
          try simp only [Act.put, List.setIfInBounds_toArray, List.set_cons_zero, List.set_cons_succ]
          refine wpAny_ready (rs := [10]) (by kernel_rfl) (by simp) ?_
          refine (AllReady.cons (by simp only [List.getElem?_toArray, List.getElem?_cons_succ, List.getElem?_cons_zero]; rfl) (fun K hK => ?_) AllReady.nil)
          have HK := Lib.hid hK
          clear hK
          go_simp
          refine HK.out _ _ ?_
          clear HK K
          try simp only [Act.put, List.setIfInBounds_toArray, List.set_cons_zero, List.set_cons_succ]
          refine wpAny_done (by kernel_rfl) ?_ _
          refine NoPanic.normal ?_
          clear c0 c0d c0a c0b l2 t1 t2
          obtain ⟨W1, hW1⟩ : ∃ W1, W1 = w6.setCell ⟨kb, 0, none⟩ (.slice (some ⟨gg, 0, none⟩) (k.length + 1) cap6) := ⟨_, rfl⟩
          rw [← hW1] at T3 T4 ⊢
          clear hW1
          have HB2 : Hid (Below B w W1) := Lib.hid ((BW.out.mono HBW.out).trans T3.out.1)
          have d0 := T4.out.c1
          have HNO : Hid (NOwn W1 B (.slice q k.length cq) (nums k)) := Lib.hid T4.out.ns
          have hno := HNO.out
          unfold NOwn at hno
          rw [HLN.out] at hno
          have HNO2 := Lib.hid hno
          have HBS2 : Hid (B ≤ W1.heap.size) := Lib.hid (Nat.le_trans HBW.out HB2.out.size)
          clear hno HNO
          go_wp2_with (at_builtin; refine wpList_append_lies _ (by rfl) (.tmp 46) (.tmp 48) _ (by rfl) B 3 j0 _ 1 8 Tryz.underlying49 hj0 hy0 hy1 hy2 rfl (by omega) (.slice q k.length cq) k.length _ (by rfl) (HNO2.out.alloc _) ⟨W1.heap.size, 0, none⟩ 1 1 [.int .i64 n] (by rfl) (by rfl) (World.news_of_block (cs := #[.int .i64 n]) (t := 3) (fr := (0, 0)) (heap_alloc_new W1 _)) (by simp [Value.oneCell']) (by decide) HF2.out.1 HF2.out.2 (Nat.le_trans HBS2.out (by simp)) (W1.heap.size + 1) (by simp) ?_; intro gl cap7 w7 own7 grow7 at7 _; have AT7 : Hid ((Value.slice q k.length cq).ownBlock = some gl ∨ w.heap.size ≤ gl) := Lib.hid (at7.imp id (fun e => by have := HB2.out.size; omega)); clear at7; obtain ⟨t1, t2, t3, t4⟩ := KX.setl (W := W1) (W1 := W1) (x := n) (o := .cells #[.int .i64 n] 3) T4.out (Below.refl _ _) (Nat.le_trans HBW.out HB2.out.size) grow7 (by rw [HLN.out]; exact own7); rw [HLN.out] at t3 t4; have T5 := Lib.hid t3; have T6 := Lib.hid t4; clear own7 grow7 t3 t4)
          go_end0
          exact ⟨rfl, ⟨_, _, by rw [HK12.out.1, HK12.out.2]; exact T6.out, fun j hj => by
            rcases hj with e | e
            · obtain rfl : gg = j := by simpa [Value.ownBlock] using e
              exact AT6.out.imp .inl id
            · obtain rfl : gl = j := by simpa [Value.ownBlock] using e
              exact AT7.out.imp .inr id⟩, HB2.out.trans T5.out.1, ((Only.of_below (S := fun _ => False) BW.out).trans T3.out.2 (U := fun j => j = kb ∨ (Value.slice p k.length cap).ownBlock = some j ∨ (Value.slice q k.length cq).ownBlock = some j) (fun _ e => e.elim) (fun _ _ e => e.imp id .inl)).trans T5.out.2 (fun _ e => e) (fun _ _ e => e.imp id .inr)⟩
        · have HK := Lib.hid hK
          clear hK
          refine step_build_hash (E := [h]) (by rfl) (by rfl) (H32.one HH.out) rfl (by simp) (by simp) ?hv ?_
          case hv => simp [Act.eval, hv]
          refine HK.out _ _ ?_
          clear HK K
          try simp only [Act.put, List.setIfInBounds_toArray, List.set_cons_zero, List.set_cons_succ]
          refine wpAny_ready (rs := [4]) (by kernel_rfl) (by simp) ?_
          refine (AllReady.cons (by simp only [List.getElem?_toArray, List.getElem?_cons_succ, List.getElem?_cons_zero]; rfl) (fun K hK => ?_) AllReady.nil)
          have HK := Lib.hid hK
          clear hK
          go_simp
          refine HK.out _ _ ?_
          clear HK K
          try simp only [Act.put, List.setIfInBounds_toArray, List.set_cons_zero, List.set_cons_succ]
          refine wpAny_ready (rs := [7]) (by kernel_rfl) (by simp) ?_
          refine (AllReady.cons (by simp only [List.getElem?_toArray, List.getElem?_cons_succ, List.getElem?_cons_zero]; rfl) (fun K hK => ?_) AllReady.nil)
          have HK := Lib.hid hK
          clear hK
          refine step_append_lies _ (by rfl) (.tmp 36) (.tmp 38) _ (by rfl) B 36 i0 _ 32 32 Tryz.underlying46 hi0 hz0 hz1 hz2 rfl (by omega) (.slice p k.length cap) k.length _ (by rfl) (HKO2.out.alloc _) ⟨wr.drew.heap.size, 0, none⟩ 1 1 (fl [h]) (by rfl) (by rw [fl_one, usn_length, HH.out]) (news_fl wr.drew [h]) (fl_one' [h]) (by decide) HF1.out.1 HF1.out.2 (Nat.le_trans HBS.out (by simp)) (wr.drew.heap.size + 1) (by simp) ?_
          intro gg cap6 w6 own6 grow6 at6 _
          have AT6 : Hid ((Value.slice p k.length cap).ownBlock = some gg ∨ w.heap.size ≤ gg) := Lib.hid (at6.imp id (fun e => by have := BW.out.size; rw [e]; show w.heap.size ≤ wr.drew.heap.size + 1; exact Nat.le_succ_of_le this))
          clear at6
          obtain ⟨t1, t2, t3, t4⟩ := KX.seth (W := wr) (W1 := wr.drew) (o := .cells (fl [h]).toArray 36) HX.out ⟨rfl, rfl, rfl, Nat.le_refl _, fun _ _ => rfl⟩ (Nat.le_trans HBW.out BW.out.size) HH.out grow6 (by rw [HLK.out]; exact own6)
          rw [HLK.out] at t3 t4
          have T3 := Lib.hid t3
          have T4 := Lib.hid t4
          clear own6 grow6 t3 t4
          refine HK.out _ _ ?_
          clear HK K
          try simp only [Act.put, List.setIfInBounds_toArray, List.set_cons_zero, List.set_cons_succ]
          refine wpAny_take (i := 8) (v := ?_) (by simp only [List.getElem?_toArray, List.getElem?_cons_succ, List.getElem?_cons_zero]; rfl) (by kernel_rfl) (by kernel_rfl) (by kernel_rfl) (fun _ _ _ h => h) (Or.inl ⟨by rfl, ?_⟩) ?_
          rotate_left
          · intro w
            go_simp
            try with_reducible rfl
          try simp only [Act.put, List.setIfInBounds_toArray, List.set_cons_zero, List.set_cons_succ]
          refine wpAny_take (i := 9) (v := ?_) (by simp only [List.getElem?_toArray, List.getElem?_cons_succ, List.getElem?_cons_zero]; rfl) (by kernel_rfl) (by kernel_rfl) (by kernel_rfl) (fun _ _ _ h => h) (Or.inl ⟨by rfl, ?_⟩) ?_
          rotate_left
          · intro w
            go_simp
            try with_reducible rfl
          try simp only [Act.put, List.setIfInBounds_toArray, List.set_cons_zero, List.set_cons_succ]
          refine wpAny_ready (rs := [10]) (by kernel_rfl) (by simp) ?_
          refine (AllReady.cons (by simp only [List.getElem?_toArray, List.getElem?_cons_succ, List.getElem?_cons_zero]; rfl) (fun K hK => ?_) AllReady.nil)
          have HK := Lib.hid hK
          clear hK
          go_simp
          refine HK.out _ _ ?_
          clear HK K
          try simp only [Act.put, List.setIfInBounds_toArray, List.set_cons_zero, List.set_cons_succ]
          refine wpAny_done (by kernel_rfl) ?_ _
          refine NoPanic.normal ?_
          clear c0 c0d c0a c0b l2 t1 t2
          obtain ⟨W1, hW1⟩ : ∃ W1, W1 = w6.setCell ⟨kb, 0, none⟩ (.slice (some ⟨gg, 0, none⟩) (k.length + 1) cap6) := ⟨_, rfl⟩
          rw [← hW1] at T3 T4 ⊢
          clear hW1
          have HB2 : Hid (Below B w W1) := Lib.hid ((BW.out.mono HBW.out).trans T3.out.1)
          have d0 := T4.out.c1
          have HNO : Hid (NOwn W1 B (.slice q k.length cq) (nums k)) := Lib.hid T4.out.ns
          have hno := HNO.out
          unfold NOwn at hno
          rw [HLN.out] at hno
          have HNO2 := Lib.hid hno
          have HBS2 : Hid (B ≤ W1.heap.size) := Lib.hid (Nat.le_trans HBW.out HB2.out.size)
          clear hno HNO
          go_wp2_with (at_builtin; refine wpList_append_lies _ (by rfl) (.tmp 46) (.tmp 48) _ (by rfl) B 3 j0 _ 1 8 Tryz.underlying49 hj0 hy0 hy1 hy2 rfl (by omega) (.slice q k.length cq) k.length _ (by rfl) (HNO2.out.alloc _) ⟨W1.heap.size, 0, none⟩ 1 1 [.int .i64 n] (by rfl) (by rfl) (World.news_of_block (cs := #[.int .i64 n]) (t := 3) (fr := (0, 0)) (heap_alloc_new W1 _)) (by simp [Value.oneCell']) (by decide) HF2.out.1 HF2.out.2 (Nat.le_trans HBS2.out (by simp)) (W1.heap.size + 1) (by simp) ?_; intro gl cap7 w7 own7 grow7 at7 _; have AT7 : Hid ((Value.slice q k.length cq).ownBlock = some gl ∨ w.heap.size ≤ gl) := Lib.hid (at7.imp id (fun e => by have := HB2.out.size; omega)); clear at7; obtain ⟨t1, t2, t3, t4⟩ := KX.setl (W := W1) (W1 := W1) (x := n) (o := .cells #[.int .i64 n] 3) T4.out (Below.refl _ _) (Nat.le_trans HBW.out HB2.out.size) grow7 (by rw [HLN.out]; exact own7); rw [HLN.out] at t3 t4; have T5 := Lib.hid t3; have T6 := Lib.hid t4; clear own7 grow7 t3 t4)
          go_end0
          exact ⟨rfl, ⟨_, _, by rw [HK12.out.1, HK12.out.2]; exact T6.out, fun j hj => by
            rcases hj with e | e
            · obtain rfl : gg = j := by simpa [Value.ownBlock] using e
              exact AT6.out.imp .inl id
            · obtain rfl : gl = j := by simpa [Value.ownBlock] using e
              exact AT7.out.imp .inr id⟩, HB2.out.trans T5.out.1, ((Only.of_below (S := fun _ => False) BW.out).trans T3.out.2 (U := fun j => j = kb ∨ (Value.slice p k.length cap).ownBlock = some j ∨ (Value.slice q k.length cq).ownBlock = some j) (fun _ e => e.elim) (fun _ _ e => e.imp id .inl)).trans T5.out.2 (fun _ e => e) (fun _ _ e => e.imp id .inr)⟩
end Go.Proofs.YtbpccbhlggcmfaaGreatDoor
