/- What was put, as the statements keep it: their own put. Conditions: a list is no longer than a million. -/
import Derived.Test.YtbpccbhlggcmfaaDoorRadKa
namespace Go.Proofs.YtbpccbhlggcmfaaDoor
open Go.RowKit
attribute [local go_sem ↓] hld_open heq_open hne_open

def nvl (l : List Int) : List Value := l.map (Value.int .i64)
def nums (k : En) : List Int := k.map (·.2)
abbrev NOwn (w : World) (B : Nat) (v : Value) (l : List Int) : Prop := w.ownsRow B 3 1 v l.length (nvl l)
theorem ninfo9 : (Tryd.prog.info? 3).map (fun i => (i.zero, i.size, i.bytes)) = some (some (.int .i64 0), 1, 8) := by kernel_rfl
theorem nums_length (k : En) : (nums k).length = k.length := List.length_map _
/-- The entries in memory. -/
structure KX (W : World) (B kb : Nat) (vh vn : Value) (E : List (List UInt8)) (l : List Int) : Prop where
  cell : W.heap[kb]? = some (.cells #[vh, vn] 30 (0, 0))
  hs : HOwn W B vh E
  ns : NOwn W B vn l
  h32 : H32 E
  ge : B ≤ kb
section
variable {W W' : World} {B kb : Nat} {vh vn : Value} {E : List (List UInt8)} {l : List Int}
theorem KX.below (h : KX W B kb vh vn E l) (hb : Below W.heap.size W W') : KX W' B kb vh vn E l := by
  refine ⟨(hb.block kb (Array.getElem?_eq_some_iff.1 h.cell).1).trans h.cell, hown_kb h.hs hb, ⟨h.ns.1, ?_⟩, h.h32, h.ge⟩
  rcases h.ns.2 with h1 | ⟨g, cap, cur, h1, h2, hg, h3⟩
  · exact .inl h1
  · exact .inr ⟨g, cap, cur, h1, h2, (hb.block g (Array.getElem?_eq_some_iff.1 hg).1).trans hg, h3⟩
theorem KX.lt (h : KX W B kb vh vn E l) : kb < W.heap.size := (Array.getElem?_eq_some_iff.1 h.cell).1
theorem KX.c0 (h : KX W B kb vh vn E l) : W.cell? ⟨kb, 0, none⟩ = some vh := by rw [cell_of_row W kb 0 _ _ _ h.cell]; rfl
theorem KX.c1 (h : KX W B kb vh vn E l) : W.cell? ⟨kb, 1, none⟩ = some vn := by rw [cell_of_row W kb 1 _ _ _ h.cell]; rfl
theorem KX.fz (h : KX W B kb vh vn E l) (i : Nat) : W.frozen? ⟨kb, i, none⟩ = false := by simp [World.frozen?, h.cell]
theorem KX.nh (h : KX W B kb vh vn E l) {g : Nat} (hg : vh.ownBlock = some g) : g ≠ kb := fun e => by
  obtain ⟨cs, hcs⟩ := row_type9 h.hs hg
  rw [e, h.cell] at hcs
  simp at hcs
theorem KX.nn (h : KX W B kb vh vn E l) {g : Nat} (hg : vn.ownBlock = some g) : g ≠ kb := fun e => by
  obtain ⟨cs, hcs⟩ := row_type9 h.ns hg
  rw [e, h.cell] at hcs
  simp at hcs
theorem KX.hn (h : KX W B kb vh vn E l) {g j : Nat} (hg : vh.ownBlock = some g) (hj : vn.ownBlock = some j) : g ≠ j := fun e => by
  obtain ⟨cs, hcs⟩ := row_type9 h.hs hg
  obtain ⟨ds, hds⟩ := row_type9 h.ns hj
  rw [e, hds] at hcs
  simp at hcs
theorem nown_shape {w : World} {v : Value} (h : NOwn w B v l) : ∃ p cap, v = .slice p l.length cap := by
  rcases h.2 with ⟨rfl, h0⟩ | ⟨g, cap, cur, rfl, _⟩
  · exact ⟨none, 0, by rw [h0]⟩
  · exact ⟨_, _, rfl⟩
/-- The row of an owned list of numbers. -/
theorem nown_row {w : World} {v : Value} (h : NOwn w B v l) (h0 : 0 < l.length) : ∃ g cap R, v = .slice (some ⟨g, 0, none⟩) l.length cap ∧ B ≤ g ∧ w.heap[g]? = some (.cells (nvl l ++ R).toArray 3 (0, 0)) ∧ l.length ≤ cap ∧ cap ≤ maxLen ∧ R.length = cap - l.length := by
  rcases h.2 with ⟨_, hn⟩ | ⟨g, cap, cur, rfl, hb, hg, hn, hm, hs, ht⟩
  · omega
  · refine ⟨g, cap, cur.toList.drop (l.length * 1), rfl, hb, ?_, hn, hm, ?_⟩
    · rw [← ht, List.take_append_drop]; simpa using hg
    · rw [List.length_drop, Array.length_toList, hs]; omega
theorem nown_mk {w : World} {g cap n : Nat} {R : List Value} (hn : n = l.length) (hb : B ≤ g) (hg : w.heap[g]? = some (.cells (nvl l ++ R).toArray 3 (0, 0))) (hc : l.length ≤ cap) (hm : cap ≤ maxLen) (hR : R.length = cap - l.length) : NOwn w B (.slice (some ⟨g, 0, none⟩) n cap) l := by
  subst hn
  have hl : (nvl l).length = l.length := List.length_map _
  refine ⟨by rw [hl, Nat.mul_one], .inr ⟨g, cap, (nvl l ++ R).toArray, rfl, hb, hg, hc, hm, ?_, ?_⟩⟩
  · show (nvl l ++ R).length = cap * 1
    rw [List.length_append, hl, hR]; omega
  · rw [show (nvl l ++ R).toArray.toList = nvl l ++ R from rfl, Nat.mul_one, ← hl, List.take_left]
end
/-- A put of what is there, at its place. -/
theorem kput_at : ∀ (k : En) (i : Nat) (h : List UInt8) (n : Int), (keys k)[i]? = some h → (∀ j, j < i → (keys k)[j]? ≠ some h) → keys (kput k h n) = keys k ∧ nums (kput k h n) = (nums k).set i n
  | [], i, h, n, hi, _ => by simp [keys] at hi
  | y :: k, 0, h, n, hi, _ => by
    have e : y.1 = h := by simpa [keys] using hi
    unfold kput
    rw [if_pos e]
    exact ⟨rfl, rfl⟩
  | y :: k, i + 1, h, n, hi, hj => by
    have e : y.1 ≠ h := fun e => hj 0 (Nat.succ_pos i) (by rw [← e]; rfl)
    have ih := kput_at k i h n (by simpa [keys] using hi) (fun j hj' => by have := hj (j + 1) (Nat.succ_lt_succ hj'); simpa [keys] using this)
    unfold kput
    rw [if_neg e]
    exact ⟨by show y.1 :: keys (kput k h n) = _; rw [ih.1]; rfl, by show y.2 :: nums (kput k h n) = _; rw [ih.2]; rfl⟩
/-- A put of what is not there. -/
theorem kput_new : ∀ (k : En) (h : List UInt8) (n : Int), (∀ j, j < k.length → (keys k)[j]? ≠ some h) → keys (kput k h n) = keys k ++ [h] ∧ nums (kput k h n) = nums k ++ [n]
  | [], h, n, _ => ⟨rfl, rfl⟩
  | y :: k, h, n, hj => by
    have e : y.1 ≠ h := fun e => hj 0 (by simp) (by rw [← e]; rfl)
    have ih := kput_new k h n (fun j hj' => by have := hj (j + 1) (by simpa using hj'); simpa [keys] using this)
    unfold kput
    rw [if_neg e]
    exact ⟨by show y.1 :: keys (kput k h n) = _; rw [ih.1]; rfl, by show y.2 :: nums (kput k h n) = _; rw [ih.2]; rfl⟩
/-- Behind the statements' put. -/
def KPost (W : World) (B kb : Nat) (vh0 vn0 : Value) (k : En) (W' : World) : Prop := (∃ vh vn, KX W' B kb vh vn (keys k) (nums k)) ∧ Below B W W' ∧ Only (fun j => j = kb ∨ vh0.ownBlock = some j ∨ vn0.ownBlock = some j) W W'
theorem KX.setn {W : World} {B kb gn : Nat} {vh vn : Value} {k k' : En} {i : Nat} {n : Int} (H : KX W B kb vh vn (keys k) (nums k)) (hi : i < k.length) (hvn : vn.ownBlock = some gn) (hk : keys k' = keys k) (hn : nums k' = (nums k).set i n) (hB : B ≤ W.heap.size) : KPost W B kb vh vn k' (W.setCell ⟨gn, i, none⟩ (.int .i64 n)) := by
  have hl := nums_length k
  obtain ⟨g, cap, R, rfl, hb, hg, hc, hm, hR⟩ := nown_row H.ns (by omega)
  simp only [Value.ownBlock, Option.some.injEq] at hvn
  subst hvn
  have hg1 := cells_set (j := i) hg (.int .i64 n)
  have hset : (nvl (nums k) ++ R).set i (.int .i64 n) = nvl ((nums k).set i n) ++ R := by
    rw [List.set_append_left _ _ (by rw [nvl, List.length_map]; omega)]
    congr 1
    unfold nvl
    rw [List.map_set]
  rw [hset] at hg1
  have hne := H.nn (g := g) rfl
  refine ⟨⟨vh, .slice (some ⟨g, 0, none⟩) (nums k).length cap, ?_, ?_, ?_, by rw [hk]; exact H.h32, H.ge⟩, ((Only.refl (fun j => B ≤ j) W).setCell (p := ⟨g, i, none⟩) hb _).below hB (fun _ h => h), (Only.refl _ W).setCell (p := ⟨g, i, none⟩) (.inr (.inr rfl)) _⟩
  · rw [Below.heap_setCell _ _ _ _ (Ne.symm hne)]; exact H.cell
  · rw [hk]
    refine ⟨H.hs.1, ?_⟩
    rcases H.hs.2 with h1 | ⟨g2, cap2, cur, h1, h2, hg2, h3⟩
    · exact .inl h1
    · exact .inr ⟨g2, cap2, cur, h1, h2, by rw [Below.heap_setCell _ _ _ _ (H.hn (g := g2) (j := g) (by rw [h1]; rfl) rfl)]; exact hg2, h3⟩
  · have hll : ((nums k).set i n).length = (nums k).length := List.length_set ..
    rw [hn]
    exact nown_mk (by rw [hll]) hb hg1 (by rw [hll]; exact hc) hm (by rw [hll]; exact hR)
theorem KX.seth {W W1 w6 : World} {B kb gg cap6 : Nat} {vh vn : Value} {E : List (List UInt8)} {l : List Int} {h : List UInt8} {o : Obj} (H : KX W1 B kb vh vn E l) (hb : Below W.heap.size W W1) (hB : B ≤ W.heap.size) (hh : h.length = 32)
    (hg : (W1.alloc o).grownBy w6 vh.ownBlock) (ho : w6.ownsRow B 33 32 (.slice (some ⟨gg, 0, none⟩) (E.length + 1) cap6) (E.length + 1) (fl E ++ fl [h])) :
    w6.cell? ⟨kb, 0, none⟩ = some vh ∧ w6.frozen? ⟨kb, 0, none⟩ = false ∧ (Below B W (w6.setCell ⟨kb, 0, none⟩ (.slice (some ⟨gg, 0, none⟩) (E.length + 1) cap6)) ∧ Only (fun j => j = kb ∨ vh.ownBlock = some j) W (w6.setCell ⟨kb, 0, none⟩ (.slice (some ⟨gg, 0, none⟩) (E.length + 1) cap6))) ∧ KX (w6.setCell ⟨kb, 0, none⟩ (.slice (some ⟨gg, 0, none⟩) (E.length + 1) cap6)) B kb (.slice (some ⟨gg, 0, none⟩) (E.length + 1) cap6) vn (E ++ [h]) l := by
  have keep : ∀ j, j < W1.heap.size → vh.ownBlock ≠ some j → w6.heap[j]? = W1.heap[j]? := fun j hj hn => (hg.block j (by simp; omega) hn.symm).trans (Below.heap_alloc _ _ _ hj)
  have h1 : w6.heap[kb]? = some (.cells #[vh, vn] 30 (0, 0)) := (keep kb H.lt (fun e => H.nh e rfl)).trans H.cell
  have hgc : gg ≠ kb := fun e => by
    obtain ⟨cs, hcs⟩ := row_type9 ho (k := gg) rfl
    rw [e, h1] at hcs
    simp at hcs
  have e1 : (E ++ [h]).length = E.length + 1 := by simp
  refine ⟨by rw [cell_of_row _ kb 0 _ _ _ h1]; rfl, by simp [World.frozen?, h1], ?_, ?_, ⟨by rw [e1, fl_app]; exact ho.1, ?_⟩, ⟨H.ns.1, ?_⟩, H.h32.app (H32.one hh), H.ge⟩
  · have b1 : Below B W (W1.alloc o) := (hb.mono hB).alloc (Nat.le_trans hB hb.size) o
    have b2 : Below B W w6 := b1.grown hg (by simp; have := hb.size; omega) (fun k hk => (H.hs.lt k hk).1)
    have o1 : Only (fun k => B ≤ k) W w6 := ⟨b2.os, b2.tape, b2.output, b2.size, fun k hk hn => b2.block k (by omega)⟩
    refine ⟨(o1.setCell (p := ⟨kb, 0, none⟩) H.ge _).below hB (fun _ h => h), ?_⟩
    have o2 : Only (fun j => j = kb ∨ vh.ownBlock = some j) W w6 := Only.grown ((Only.of_below hb).alloc o) hg (fun k _ e => .inr e)
    exact o2.setCell (p := ⟨kb, 0, none⟩) (.inl rfl) _
  · have := cells_set (row := [vh, vn]) (j := 0) h1 (.slice (some ⟨gg, 0, none⟩) (E.length + 1) cap6)
    exact this
  · rw [e1, fl_app]
    rcases ho.2 with ⟨hs, _⟩ | ⟨g', cap', cur, hs, hbg, hg', rest⟩
    · cases hs
    · cases hs
      exact .inr ⟨gg, cap6, cur, rfl, hbg, by rw [Below.heap_setCell _ _ _ _ hgc]; exact hg', rest⟩
  · rcases H.ns.2 with h2 | ⟨g', cap', cur, hs, hbg, hg', rest⟩
    · exact .inl h2
    · have hj : vn.ownBlock = some g' := by rw [hs]; rfl
      refine .inr ⟨g', cap', cur, hs, hbg, ?_, rest⟩
      rw [Below.heap_setCell _ _ _ _ (H.nn hj), keep g' (Array.getElem?_eq_some_iff.1 hg').1 (fun e => H.hn e hj rfl)]
      exact hg'
theorem KX.setl {W W1 w6 : World} {B kb gg cap6 : Nat} {vh vn : Value} {E : List (List UInt8)} {l : List Int} {x : Int} {o : Obj} (H : KX W1 B kb vh vn E l) (hb : Below W.heap.size W W1) (hB : B ≤ W.heap.size)
    (hg : (W1.alloc o).grownBy w6 vn.ownBlock) (ho : w6.ownsRow B 3 1 (.slice (some ⟨gg, 0, none⟩) (l.length + 1) cap6) (l.length + 1) (nvl l ++ [.int .i64 x])) :
    w6.cell? ⟨kb, 1, none⟩ = some vn ∧ w6.frozen? ⟨kb, 1, none⟩ = false ∧ (Below B W (w6.setCell ⟨kb, 1, none⟩ (.slice (some ⟨gg, 0, none⟩) (l.length + 1) cap6)) ∧ Only (fun j => j = kb ∨ vn.ownBlock = some j) W (w6.setCell ⟨kb, 1, none⟩ (.slice (some ⟨gg, 0, none⟩) (l.length + 1) cap6))) ∧ KX (w6.setCell ⟨kb, 1, none⟩ (.slice (some ⟨gg, 0, none⟩) (l.length + 1) cap6)) B kb vh (.slice (some ⟨gg, 0, none⟩) (l.length + 1) cap6) E (l ++ [x]) := by
  have keep : ∀ j, j < W1.heap.size → vn.ownBlock ≠ some j → w6.heap[j]? = W1.heap[j]? := fun j hj hn => (hg.block j (by simp; omega) hn.symm).trans (Below.heap_alloc _ _ _ hj)
  have h1 : w6.heap[kb]? = some (.cells #[vh, vn] 30 (0, 0)) := (keep kb H.lt (fun e => H.nn e rfl)).trans H.cell
  have hgc : gg ≠ kb := fun e => by
    obtain ⟨cs, hcs⟩ := row_type9 ho (k := gg) rfl
    rw [e, h1] at hcs
    simp at hcs
  have e1 : (l ++ [x]).length = l.length + 1 := by simp
  have e2 : nvl (l ++ [x]) = nvl l ++ [.int .i64 x] := by simp [nvl]
  refine ⟨by rw [cell_of_row _ kb 1 _ _ _ h1]; rfl, by simp [World.frozen?, h1], ?_, ?_, ⟨H.hs.1, ?_⟩, ⟨by rw [e1, e2]; exact ho.1, ?_⟩, H.h32, H.ge⟩
  · have b1 : Below B W (W1.alloc o) := (hb.mono hB).alloc (Nat.le_trans hB hb.size) o
    have b2 : Below B W w6 := b1.grown hg (by simp; have := hb.size; omega) (fun k hk => (H.ns.lt k hk).1)
    have o1 : Only (fun k => B ≤ k) W w6 := ⟨b2.os, b2.tape, b2.output, b2.size, fun k hk hn => b2.block k (by omega)⟩
    refine ⟨(o1.setCell (p := ⟨kb, 1, none⟩) H.ge _).below hB (fun _ h => h), ?_⟩
    have o2 : Only (fun j => j = kb ∨ vn.ownBlock = some j) W w6 := Only.grown ((Only.of_below hb).alloc o) hg (fun k _ e => .inr e)
    exact o2.setCell (p := ⟨kb, 1, none⟩) (.inl rfl) _
  · have := cells_set (row := [vh, vn]) (j := 1) h1 (.slice (some ⟨gg, 0, none⟩) (l.length + 1) cap6)
    exact this
  · rcases H.hs.2 with h2 | ⟨g', cap', cur, hs, hbg, hg', rest⟩
    · exact .inl h2
    · have hj : vh.ownBlock = some g' := by rw [hs]; rfl
      refine .inr ⟨g', cap', cur, hs, hbg, ?_, rest⟩
      rw [Below.heap_setCell _ _ _ _ (H.nh hj), keep g' (Array.getElem?_eq_some_iff.1 hg').1 (fun e => H.hn hj e rfl)]
      exact hg'
  · rw [e1, e2]
    rcases ho.2 with ⟨hs, _⟩ | ⟨g', cap', cur, hs, hbg, hg', rest⟩
    · cases hs
    · cases hs
      exact .inr ⟨gg, cap6, cur, rfl, hbg, by rw [Below.heap_setCell _ _ _ _ hgc]; exact hg', rest⟩
section
variable {ops : Array Oper} {o : Oper} {a : Act} {w : World} {K : Act → World → Prop} {Q : Exit → Act → World → Prop} {X : Prop}
/-- A slice of hashes is made, at a step of a region that draws its order. -/
theorem step_build_hash {E : List (List UInt8)} {parts : Array (Nat × Operand)} {len : Nat} (hgd : o.guard = none) (ho : o.op = .buildSlice 28 len parts) (hE : H32 E) (hl : len = E.length) (h0 : 0 < E.length) (h1 : E.length ≤ 1000)
    (hv' : (parts.map fun (i, x) => (i, a.eval x)).toList = ((E.map fun h => Value.agg (hv h)).zipIdx 0).map fun x => (x.2, x.1))
    (h : K (a.put o.dst (.slice (some ⟨w.heap.size, 0, none⟩) len len)) (w.alloc (.cells (fl E).toArray 33))) :
    if Region.wanted o (yielded ops a.tmps) = true then Oper.wp Tryd.prog o a w K Q else X := by
  rw [if_pos (by simp [Region.wanted, hgd])]
  subst hl
  obtain ⟨i0, hi0, hz0, hz1, hz2⟩ := info_parts hzinfo
  refine wp_buildSlice 28 33 E.length parts ho (fl E).toArray i0 (.agg hzer) Tryd.underlying28 hi0 hz0 (by rw [hz1]; omega) (by rw [hz1]; omega) ?_ h
  rw [hv', hz1]
  have := Great.fill_whole (s := 32) (by decide) (E.map fun h => Value.agg (hv h)) ((Array.range (E.length * 32)).map ((Value.agg hzer).cells[· % (Value.agg hzer).cells.size]!)) (fun v hvm => by
    obtain ⟨h, hm, rfl⟩ := List.mem_map.1 hvm
    show (hv h).size = 32
    rw [hv_size, hE h hm]) (by simp)
  rw [fl_flat] at this
  exact this
theorem step_build_int {x : Int} {parts : Array (Nat × Operand)} (hgd : o.guard = none) (ho : o.op = .buildSlice 23 1 parts)
    (hv' : (parts.map fun (i, x) => (i, a.eval x)).toList = [(0, .int .i64 x)])
    (h : K (a.put o.dst (.slice (some ⟨w.heap.size, 0, none⟩) 1 1)) (w.alloc (.cells #[.int .i64 x] 3))) :
    if Region.wanted o (yielded ops a.tmps) = true then Oper.wp Tryd.prog o a w K Q else X := by
  rw [if_pos (by simp [Region.wanted, hgd])]
  obtain ⟨i0, hi0, hz0, hz1, hz2⟩ := info_parts ninfo9
  refine wp_buildSlice 23 3 1 parts ho #[.int .i64 x] i0 (.int .i64 0) Tryd.underlying23 hi0 hz0 (by rw [hz1]; decide) (by rw [hz1]; decide) ?_ h
  rw [hv', hz1]
  exact Great.fill_flat [.int .i64 x] _ (fun v hv => by rw [List.mem_singleton.1 hv]; rfl) (by simp)
end
end Go.Proofs.YtbpccbhlggcmfaaDoor
