/- maps.Keys of a map by hash, slices.Collect: the keys, each once, in some order. Conditions: hashes of 32 bytes; no more than a million entries. -/
import Derived.Test.YthfkmfepeafgjaaGphQ
import Derived.Test.YthfkmfepeafgjaaHexSo
import Derived.RangeFuncNested
import Derived.RangeFuncBound
import Derived.RangeFuncCalls
import Derived.RangeFuncLeaves
import Derived.RangeFuncBox
import Derived.Shelf.Abstract
import Derived.Shelf.RegionOpen
import Derived.OwnWalkIn
import Derived.TacticsInMore
import Derived.LoopNIn
import Derived.LoopIn
import Derived.Maps.AppendAt
namespace Go.Proofs.Ythfkmfepeafgjaa
open Go.RowKit Go.Shelf
open Go.Maps
attribute [local go_sem] Oper.semAt_some
attribute [local go_sem ↓] hld_open

/-- What has come, while some are left. -/
structure Col (M : Kv) (left : Lit → Bool) (ss : List Key) : Prop where
  left : ∀ k, left (.string k) = true ↔ k ∈ M.map (·.1) ∧ k ∉ ss
  nodup : ss.Nodup
  sub : ∀ k ∈ ss, k ∈ M.map (·.1)
theorem Col.start (M : Kv) : Col M (Maps.has (mapV M)) [] := ⟨fun k => by rw [mapV_has, aget_isSome]; simp, .nil, fun k h => by cases h⟩
theorem Col.step {M : Kv} {left : Lit → Bool} {ss : List Key} (h : Col M left ss) {k : Key} (hk : left (.string k) = true) : Col M (fun x => left x && !x.sameKey (.string k)) (ss ++ [k]) := by
  obtain ⟨k1, k2⟩ := (h.left k).1 hk
  refine ⟨fun x => ?_, List.nodup_append.2 ⟨h.nodup, by simp, fun a ha b hb => by rw [List.mem_singleton.1 hb]; exact fun e => k2 (e ▸ ha)⟩, fun x hx => ?_⟩
  · simp only [Bool.and_eq_true, Bool.not_eq_true', same_str, beq_eq_false_iff_ne, h.left, List.mem_append, List.mem_singleton]
    constructor
    · rintro ⟨⟨a, b⟩, c⟩; exact ⟨a, fun e => e.elim b c⟩
    · rintro ⟨a, b⟩; exact ⟨⟨a, fun e => b (.inl e)⟩, fun e => b (.inr e)⟩
  · rcases List.mem_append.1 hx with hx | hx
    · exact h.sub x hx
    · rw [List.mem_singleton.1 hx]; exact k1
theorem AAsc.nodup {α : Type} {M : List (Key × α)} (h : AAsc M) : (M.map (·.1)).Nodup := List.pairwise_map.2 (h.imp fun {a b} hab e => by rw [e, bb_irrefl] at hab; cases hab)
theorem Col.done {M : Kv} {left : Lit → Bool} {ss : List Key} (h : Col M left ss) (ha : AAsc M) (hl : ∀ k, left k = false) : ss.Perm (M.map (·.1)) := by
  refine (List.perm_ext_iff_of_nodup h.nodup ha.nodup).2 fun k => ⟨h.sub k, fun hk => Classical.byContradiction fun hn => ?_⟩
  have := (h.left k).2 ⟨hk, hn⟩
  rw [hl] at this; cases this
theorem ranges_key {w : World} {b r n : Nat} {M : Kv} {left : Lit → Bool} {cnt : Nat} (h : w.ranges Try.prog 28 rdv b r n (mapV M) left cnt) {kl : Lit} (hl : left kl = true) : ∃ k ∈ M.map (·.1), kl = .string k := by
  obtain ⟨es, clock, since, seen, c0, hb, F, hs, hD, hr, _, _, _, hl2, _⟩ := h
  obtain ⟨x, hx, rfl⟩ := hl2 kl hl
  have hm : WideElems.rg Try.prog 28 rdv x ∈ (es.toList.map (WideElems.rg Try.prog 28 rdv)).foldr DataW.insert [] := mem_sorted.2 (List.mem_map.2 ⟨x, hx, rfl⟩)
  unfold mapV at hD
  rw [← DataW.map.inj hD] at hm
  obtain ⟨p, hp, e⟩ := List.mem_map.1 hm
  exact ⟨p.1, List.mem_map.2 ⟨p, hp, rfl⟩, by rw [← e]⟩
/-- The key that has come is a hash of the map. -/
theorem came_key {M : Kv} (h32 : ∀ p ∈ M, p.1.length = 32) {key : Value} {k : Key} (hk : k ∈ M.map (·.1)) (h : keyOf Try.prog 28 key = some (.string k)) : k.length = 32 ∧ key = .agg (hv k) := by
  obtain ⟨p, hp, rfl⟩ := List.mem_map.1 hk
  exact ⟨h32 p hp, hkeyed.inj h (hkey p.1 (h32 p hp))⟩
theorem MpH.grown {w w' : World} {b : Nat} {M : Kv} {row : Option Nat} (h : MpH w b M) (hg : w.grownBy w' row) (hne : some b ≠ row) : MpH w' b M := h.same (hg.block b h.lt hne)
/-- Hashes as they are handed to a round. -/
abbrev Hx := { x : Key // x.length = 32 }

set_option maxRecDepth 100000 in
set_option maxHeartbeats 2000000 in
theorem keys1S_in (F : Fence) (n : Nat) (hf : F.fn 72) (hro : F.round = none) (hn : 1 ≤ n) (l Bm b : Nat) (M : Kv) (J Jx : List Hx → World → Prop)
    (W : World) (hJ : AbidesFrom W.heap.size J)
    (hY : ∀ pre x W1, J pre W1 → pre.length < M.length → YieldAt F (n - 1) Try.prog l #[.agg (hv x.1)] W1 fun e W' => (e = .returned (.bool true) ∧ J (pre ++ [x]) W' ∧ KeepsWalks W1 W') ∨ (e = .returned (.bool false) ∧ Jx (pre ++ [x]) W'))
    (hm : W.cell? ⟨Bm, 0, none⟩ = some (.map (some b))) (hown : MpH W b M) (h0 : J [] W) :
    CallsIn F n Try.prog 72 #[.func (.yield l) #[] #[], .pointer (some ⟨Bm, 0, none⟩)] W fun e W' => (∃ v, e = .returned v) ∧
      ((∃ ss : List Hx, (ss.map (·.1)).Perm (M.map (·.1)) ∧ J ss W') ∨ ∃ pre, Jx pre W') := by
  have ho := hown.own
  have hsz := hown.h32
  have hasc := hown.asc
  refine callsIn_of_wp Try.func72 rfl hf ?_ hro
  simp only [Try.ntmps72, List.size_toArray, List.length_cons, List.length_nil, Nat.reduceAdd, Nat.reduceSub, Array.replicate_succ, Array.replicate_zero, List.push_toArray, List.append_toArray, List.nil_append, List.cons_append]
  gi_wp2_with (first
    | (gi_at_range; refine wpListIn_range_own _ rfl _ 79 rfl 28 _ hkeyed Try.underlying79 _ b M.length _ rfl ho ?_; intro w0 hrg0 hg0 hs0)
    | gi_in)
  go_frame
  gi_loopw [3] (fun _ wr => ∃ (left : Lit → Bool) (cnt : Nat) (ss : List Hx), wr.ranges Try.prog 28 rdv b W.heap.size M.length (mapV M) left cnt ∧ ss.length + cnt ≤ M.length ∧ Col M left (ss.map (·.1)) ∧ J ss wr)
    (fun _ wr => wr.rangeLeft b W.heap.size)
  case atStart =>
    exact ⟨_, _, [], hrg0, by simp [mapV_size], Col.start M, hJ [] W w0 none h0 hg0 (fun r e => by cases e)⟩
  case round =>
    obtain ⟨left, cnt, ss, hrg, hcs, hC, hJs⟩ := hrel
    gi_wp2_with (first
      | (gi_at_next; refine wpListIn_next_ranges _ rfl _ rfl 28 hkeyed rdv id id (fun key _ _ => ⟨key, rfl⟩) (fun v _ _ => ⟨v, rfl⟩) b W.heap.size M.length _ _ _ rfl hrg ?_ ?_)
      | gi_in)
    · intro hc0 hl0
      gi_wp2
      go_end0
      exact ⟨⟨_, rfl⟩, .inl ⟨ss, hC.done hasc hl0, hJs⟩⟩
    · intro x c kl yd yp w2 cnt2 hkey hlk hv' hat hrg2 hlt hg2 hs2 hen
      obtain ⟨k, hkM, rfl⟩ := ranges_key hrg hlk
      obtain ⟨k32, rfl⟩ := came_key hsz hkM hkey
      have hJ2 : J ss w2 := hJ ss wr w2 (some W.heap.size) hJs hg2 (fun r e => by cases e; exact ⟨Nat.le_refl _, hrg.iter_walk⟩)
      clear hs2
      have st := hst_cells k k32 w2
      have hks : (hv k).size = 32 := by rw [hv_size, k32]
      have hJ3 : J ss (w2.alloc (.cells (hv k) 28)) := hJ ss w2 _ none hJ2 (World.grownBy_alloc _ _ _) (fun r e => by cases e)
      have hld3 : (hld ⟨w2.heap.size, 0, none⟩).run Try.prog (w2.alloc (.cells (hv k) 28)) = .ok (.agg (hv k)) (w2.alloc (.cells (hv k) 28)) := hld_row k32 (heap_alloc_last w2 _)
      have hrg3 := hrg2.alloc (.cells (hv k) 28)
      obtain ⟨fn, tmps, assign, body, hy, hR⟩ := hY ss ⟨k, k32⟩ _ hJ3 (by have := hlt; omega)
      dsimp only at hy
      have HRG := Lib.hid hrg3
      have HL := Lib.hid hrg.left_eq
      clear hrg2 hrg3 hJ2 hJ3 hrg
      generalize hv k = q at st hks hld3 hy hR HRG hen hat hkey
      gi_wp2
      refine hR.mono ?_
      rintro e W3 (⟨rfl, hJ4, hk4⟩ | ⟨rfl, hJx4⟩)
      · gi_wp2
        have hrg4 := HRG.out.of_walks hk4
        go_roundw
        case rel => exact ⟨_, cnt2, ss ++ [⟨k, k32⟩], hrg4, by simp; omega, by rw [List.map_append]; exact hC.step hlk, hJ4⟩
        case measure => rw [hrg4.left_eq, HL.out]; exact hlt
      · gi_wp2
        refine bodyPost_ret (results_none rfl _ _ _) rfl ?_
        exact ⟨⟨_, rfl⟩, .inr ⟨_, hJx4⟩⟩
set_option maxHeartbeats 1000000 in
/-- maps.Keys(m): the map is boxed; the function value captures the box. -/
theorem keysS_in (F : Fence) (n : Nat) (hf : F.fn 58) (hro : F.round = none) (mb : Option Nat) (w : World) :
    CallsIn F n Try.prog 58 #[.map mb] w fun e w' => e = .returned (.func (.func 72) #[] #[.pointer (some ⟨w.heap.size, 0, none⟩)]) ∧ w' = w.alloc (.cells #[.map mb] 79) := by
  refine callsIn_of_wp Try.func58 rfl hf ?_ hro
  simp only [Try.ntmps58, List.size_toArray, List.length_cons, List.length_nil, Nat.reduceAdd, Nat.reduceSub, Array.replicate_succ, Array.replicate_zero, List.push_toArray, List.append_toArray, List.nil_append, List.cons_append]
  gi_wp2
  go_ret
  exact ⟨rfl, rfl⟩
/-- The value that it hands back goes through all the keys, each once. -/
theorem keysS_gives (F : Fence) (n : Nat) (hf : F.fn 72) (hro : F.round = none) (hn : 1 ≤ n) (Bm b : Nat) (M : Kv) (w : World) (hm : w.cell? ⟨Bm, 0, none⟩ = some (.map (some b))) (hown : MpH w b M) :
    SeqStopsK F n Try.prog 72 #[.pointer (some ⟨Bm, 0, none⟩)] (fun x : Hx => #[.agg (hv x.1)]) KeepsWalks (fun ys => (ys.map (·.1)).Perm (M.map (·.1))) (fun _ => True) M.length w := fun l J Jx W hW hJ _ hY h0 => by
  have hlt := World.block_lt_of_cell? _ _ hm
  refine (keys1S_in F n hf hro hn l Bm b M J Jx W hJ hY ((hW.cell (p := ⟨Bm, 0, none⟩) hlt).trans hm) (hown.kb hW hown.lt) h0).mono fun e W' h => ⟨h.1, ?_⟩
  rcases h.2 with h | ⟨pre, h⟩
  · exact .inl h
  · exact .inr ⟨pre, trivial, h⟩

theorem coll_fits {k m : Nat} (h : m ≤ 1000000) (hk : k < m) : k + 1 ≤ maxLen ∧ (k + 1) * 32 ≤ 140737488355328 := by unfold maxLen; omega
/-- What has been collected. -/
def hxl (pre : List Hx) : List Key := pre.map (·.1)
theorem hxl_h32 (pre : List Hx) : H32 (hxl pre) := fun h hh => by
  obtain ⟨x, _, rfl⟩ := List.mem_map.1 hh
  exact x.2
theorem hxl_snoc (pre : List Hx) (x : Hx) : hxl (pre ++ [x]) = hxl pre ++ [x.1] := by simp [hxl]
theorem run_build_hash (w : World) (h : Key) (hh : h.length = 32) : (Instr.buildSlice 25 1 #[(0, .agg (hv h))]).run Try.prog w = .ok (.slice (some ⟨w.heap.size, 0, none⟩) 1 1) (w.alloc (.cells (hv h) 28)) := by
  obtain ⟨i0, hi0, hz0, hz1, hz2⟩ := info_parts hzinfo
  refine run_buildSlice w 25 28 1 _ (hv h) i0 (.agg hzer) Try.underlying25 hi0 hz0 (by rw [hz1]; decide) (by rw [hz1]; decide) ?_
  rw [hz1]
  have := Great.fill_whole (s := 32) (by decide) [Value.agg (hv h)] ((Array.range (1 * 32)).map ((Value.agg hzer).cells[· % (Value.agg hzer).cells.size]!)) (fun v hvm => by
    rw [List.mem_singleton.1 hvm]
    show (hv h).size = 32
    rw [hv_size, hh]) (by simp)
  have e := fl_flat [h]
  rw [fl_one] at e
  rw [List.map_cons, List.map_nil] at e
  rw [e, ← hv_list] at this
  exact this
theorem build_in {F : Fence} {n : Nat} {ops : Array Oper} {rest : List Oper} {a : Act} {w : World} {Q : Exit → Act → World → Prop} {dst : Option Tmp} {T : TypeId} {pos : String} {after : Array Edge} {x : Operand} (h : Key) (hh : h.length = 32) (hx : a.eval x = .agg (hv h))
    (hK : wpListIn F n Try.prog ops Q rest (a.put dst (.slice (some ⟨w.heap.size, 0, none⟩) 1 1)) (w.alloc (.cells (hv h) 28))) : wpListIn F n Try.prog ops Q (⟨dst, .buildSlice 25 1 #[(0, x)], T, pos, after, none⟩ :: rest) a w := by
  refine wpListIn_plain rfl fun K hK' => ?_
  unfold Oper.wpIn
  refine ⟨?_, ?_⟩
  · simp [Oper.about]
  · rw [Oper.semAt_plain F _ _ (by intro c hc'; cases hc')]
    simp [execOp, hx, run_build_hash w h hh, Result.andThen]
    exact hK' _ _ hK
theorem own_lower {w : World} {B B' : Nat} {v : Value} {E : List Key} (h : HOwn w B v E) (hB : B' ≤ B) : HOwn w B' v E := by
  refine ⟨h.1, ?_⟩
  rcases h.2 with h1 | ⟨g, cap, cur, h1, h2, h3⟩
  · exact .inl h1
  · exact .inr ⟨g, cap, cur, h1, Nat.le_trans hB h2, h3⟩
theorem belowW {n₀ : Nat} (W : World) (l : Nat) (o o' : Obj) (hl : n₀ ≤ l) (h : W.heap[l]? = some o) : Below n₀ W (W.putObj l o') :=
  (Below.refl n₀ W).grown (grownBy_putObj' W l o') (by have := (Array.getElem?_eq_some_iff.1 h).1; omega) (fun k e => by cases e; omega)
theorem own_noWalk {W : World} {B : Nat} {v : Value} {E : List Key} (h : HOwn W B v E) : ∀ (j : Nat) (o : Obj), v.ownBlock = some j → W.heap[j]? = some o → o.isWalk = false := fun j o hj ho => by
  rcases h.2 with ⟨rfl, _⟩ | ⟨g, cap, cur, rfl, _, hgb, _⟩
  · simp [Value.ownBlock] at hj
  · obtain rfl : g = j := by simpa [Value.ownBlock] using hj
    rw [hgb] at ho; cases ho; rfl
theorem own_isCells {W : World} {B : Nat} {v : Value} {E : List Key} (h : HOwn W B v E) : ∀ (j : Nat) (o : Obj), v.ownBlock = some j → W.heap[j]? = some o → o.isCells = true := fun j o hj ho => by
  rcases h.2 with ⟨rfl, _⟩ | ⟨g, cap, cur, rfl, _, hgb, _⟩
  · simp [Value.ownBlock] at hj
  · obtain rfl : g = j := by simpa [Value.ownBlock] using hj
    rw [hgb] at ho; cases ho; rfl
theorem coll_step {W w3 : World} {B n₀ g c : Nat} {u : Value} {E : List Key} {x : Key} {tmp : Obj} (hrow : HOwn W n₀ u E) (hgrow : (W.alloc tmp).grownBy w3 u.ownBlock)
    (hown : w3.ownsRow n₀ 28 32 (.slice (some ⟨g, 0, none⟩) (E.length + 1) c) (E.length + 1) (fl E ++ us (nmb x))) (hv1 : Boxed w3 B 25 u) :
    Boxed (w3.setCell ⟨B, 0, none⟩ (.slice (some ⟨g, 0, none⟩) (E.length + 1) c)) B 25 (.slice (some ⟨g, 0, none⟩) (E.length + 1) c) ∧ HOwn (w3.setCell ⟨B, 0, none⟩ (.slice (some ⟨g, 0, none⟩) (E.length + 1) c)) n₀ (.slice (some ⟨g, 0, none⟩) (E.length + 1) c) (E ++ [x]) ∧
      KeepsOthers W (w3.setCell ⟨B, 0, none⟩ (.slice (some ⟨g, 0, none⟩) (E.length + 1) c)) ∧ KeepsWalks W (w3.setCell ⟨B, 0, none⟩ (.slice (some ⟨g, 0, none⟩) (E.length + 1) c)) ∧ Only (fun k => k = B ∨ n₀ ≤ k) W (w3.setCell ⟨B, 0, none⟩ (.slice (some ⟨g, 0, none⟩) (E.length + 1) c)) := by
  have hk := hown.kept (grownBy_setCell' w3 B (.slice (some ⟨g, 0, none⟩) (E.length + 1) c)) (.inr (hv1.not_row (by decide) hown).symm)
  have hal : HOwn (W.alloc tmp) n₀ u E := World.ownsRow.alloc hrow tmp
  refine ⟨hv1.set _, ?_, ((KeepsOthers.alloc W tmp).trans (KeepsOthers.of_grownBy hgrow (own_isCells hal))).trans (KeepsOthers.setCell _ _ _), ((KeepsWalks.alloc W tmp).trans (KeepsWalks.of_grownBy hgrow (own_noWalk hal))).trans (KeepsWalks.setCell _ _ _), ?_⟩
  · unfold HOwn
    rw [List.length_append, fl_app, fl_one]
    exact hk
  · exact (((Only.refl (fun k => k = B ∨ n₀ ≤ k) W).alloc tmp).grown hgrow (fun k _ e => .inr (hrow.lt k e).1)).setCell (p := ⟨B, 0, none⟩) (.inl rfl) _
set_option maxRecDepth 100000 in
set_option maxHeartbeats 8000000 in
/-- slices.AppendSeq(nil, seq), for any iterator that gives hashes. -/
theorem append_seq (n : Nat) (hn : 2 ≤ n) (gf : Nat) (lb : Array Value) (eg : ∀ args w, (callFunc gf args).run Try.prog w = .ok (.enter gf args) w) (S Sp : List Hx → Prop) (N : Nat) (hN : N ≤ 1000000) (w : World)
    (hseq : SeqStopsK Fence.wide (n - 1) Try.prog gf lb (fun x : Hx => #[.agg (hv x.1)]) KeepsWalks S Sp N w) :
    CallsIn Fence.wide n Try.prog 71 #[.slice none 0 0, .func (.func gf) #[] lb] w fun e w' => ∃ (v : Value) (ss : List Hx), e = .returned v ∧ S ss ∧ HOwn w' w.heap.size v (hxl ss) ∧ Below w.heap.size w w' := by
  obtain ⟨i0, hi0, hz0, hz1, hz2⟩ := info_parts hzinfo
  have b0 := (Below.refl w.heap.size w).alloc (Nat.le_refl _) (.cells #[.slice none 0 0] 25)
  have hs0 : (w.alloc (.cells #[.slice none 0 0] 25)).heap.size = w.heap.size + 1 := by simp
  have bB := Boxed.new w 25 (.slice none 0 0)
  refine callsIn_of_wp_marks Try.func71 rfl trivial ?_ rfl
  simp only [Try.ntmps71, List.size_toArray, List.length_cons, List.length_nil, Nat.reduceAdd, Nat.reduceSub, Array.replicate_succ, Array.replicate_zero, List.push_toArray, List.append_toArray, List.nil_append, List.cons_append]
  gi_wp2
  generalize w.alloc (.cells #[.slice none 0 0] 25) = w2 at *
  refine wpIn_rangeFunc_ownH rfl (by omega) (gf := gf) (lb := lb) rfl trivial eg hseq KeepsWalks.trans (fun W l o o' h1 h2 h3 h4 => KeepsWalks.putObj _ h2 h4) (b0.mono (Nat.le_refl _)) (fun _ => rfl)
    (fun pre W => (∃ v, Boxed W w.heap.size 25 v ∧ W.ownsRow (w.heap.size + 1) 28 32 v (hxl pre).length (fl (hxl pre)) ∧ True) ∧ Below w.heap.size w W)
    (fun _ _ _ => False)
    (OwnFrom.and (Own.from (holdsRow_own (w.heap.size + 1) w.heap.size 25 28 32 (fun pre : List Hx => (hxl pre).length) (fun pre => fl (hxl pre)) (fun _ _ => True)) _) (ownFrom_below (Nat.le_refl _) (by omega)))
    (fun _ _ _ _ _ hs _ _ => hs)
    ⟨⟨_, bB, World.ownsRow_nil _ _ _ _, trivial⟩, b0⟩
    (fun x a' W => ∃ Bx, w.heap.size + 1 ≤ Bx ∧ W.heap[Bx]? = some (.cells (hv x.1) 28 (0, 0)) ∧ a' = { tmps := #[.slice none 0 0, .func (.func gf) #[] lb, .pointer (some ⟨w.heap.size, 0, none⟩), undef, .slice none 0 0, .pointer (some ⟨Bx, 0, none⟩), .func (.func gf) #[] lb, .agg (hv x.1), undef, undef, undef, undef, undef], defers := [] })
    (by
      rintro x a' _ W W' row ⟨Bx, h1, h2, h3⟩ hg hr
      refine ⟨Bx, h1, (hg.block Bx (Array.getElem?_eq_some_iff.1 h2).1 (fun e => ?_)).trans h2, h3⟩
      obtain ⟨_, o, ho, hoc⟩ := hr Bx e.symm
      rw [h2] at ho
      cases ho
      cases hoc)
    ?assign ?body ?done ?stop
  case assign =>
    rintro l' pre x W K ⟨⟨v, hv', hrow, _⟩, hB⟩ hK
    have hsz : w.heap.size < W.heap.size := (Array.getElem?_eq_some_iff.1 hv').1
    obtain ⟨x, hx⟩ := x
    dsimp only
    have st := hst_cells x hx W
    have hks : (hv x).size = 32 := by rw [hv_size, hx]
    have hK' := hK { tmps := #[.slice none 0 0, .func (.func gf) #[] lb, .pointer (some ⟨w.heap.size, 0, none⟩), undef, .slice none 0 0, .pointer (some ⟨W.heap.size, 0, none⟩), .func (.func gf) #[] lb, .agg (hv x), undef, undef, undef, undef, undef], defers := [] } _
      ((KeepsOthers.alloc W (.cells (hv x) 28)).from _) (KeepsWalks.alloc _ _) ⟨⟨v, hv'.alloc _, hrow.alloc _, trivial⟩, hB.alloc hB.size _⟩ ⟨W.heap.size, by omega, heap_alloc_last W _, rfl⟩
    have HK := Lib.hid hK'
    clear hK hK'
    generalize hv x = q at *
    gi_wp2
    exact HK.out
  case body =>
    rintro l' pre x a' W hl' ⟨r, hr⟩ ⟨⟨v, hv', hrow, _⟩, hB⟩ ⟨Bx, hBx, bX, rfl⟩ hlt
    obtain ⟨x, hx⟩ := x
    dsimp only at bX
    have hlen : (hxl pre).length = pre.length := List.length_map _
    have hft := coll_fits hN (show (hxl pre).length < N by omega)
    have hsn := Lib.hid (hxl_snoc pre ⟨x, hx⟩)
    have hrow' : HOwn W (w.heap.size + 1) v (hxl pre) := hrow
    clear hrow
    generalize hxl pre = E at *
    have hld1 := hld_row hx bX
    have hbs := fun w => run_build_hash w x hx
    have hc := hv'.cell
    have hsz := hB.size
    have hxn : (us (nmb x)).length = 1 * 32 := by rw [usn_length, hx]
    have hxc : ∀ j u, (us (nmb x))[j]? = some u → (W.alloc (.cells (hv x) 28)).cell? ((⟨W.heap.size, 0, none⟩ : Addr).add j) = some u := fun j u hj => by
      rw [Addr.add_lit]
      have := range_new' W x 28 j u hj
      simpa using this
    have hx1 : ∀ u ∈ us (nmb x), u.oneCell' = true := by
      have := fl_one' [x]
      rwa [fl_one] at this
    have HXC := Lib.hid hxc
    clear hxc bX hr hlen hlt
    gi_wp2_with (first | (refine build_in x hx rfl ?_) | (gi_at_builtin; go_must (refine wpListIn_append_own _ rfl _ _ 25 rfl (w.heap.size + 1) 28 i0 (.agg hzer) 32 32 Try.underlying25 hi0 hz0 hz1 hz2 rfl (by decide) _ _ _ rfl (World.ownsRow.alloc hrow' _) ⟨W.heap.size, 0, none⟩ 1 1 (us (nmb x)) rfl hxn HXC.out hx1 hft.1 hft.2 (by simp; omega) ?_); intro v' w3 hown' hgrow _; obtain ⟨g', cap', rfl⟩ := ownsRow_succ hown'; have hv1 : Boxed w3 w.heap.size 25 v := (hv'.alloc _).kept hgrow (hv'.not_row (by decide) hrow'); have hc1 := hv1.cell; have hf1 := hv1.frozen))
    obtain ⟨q1, q2, q3, q4, q5⟩ := coll_step (x := x) hrow' hgrow hown' hv1
    refine ⟨q3.from _, q4, ⟨_, q1, ?_⟩, hB.trans (Only.below (S := fun k => k = w.heap.size ∨ w.heap.size + 1 ≤ k) q5 hsz (fun j hj => by omega))⟩
    rw [hsn.out]
    exact q2
  case done =>
    rintro D ys W hD hys ⟨⟨v, hv', hrow, _⟩, hB⟩ hK
    have hc := hv'.cell
    gi_wp2
    refine ⟨by simp, .inl ⟨_, _, rfl, run_takeDeferred hK, ?_⟩⟩
    exact ⟨_, results_tmp rfl _ _ _, v, ys, rfl, hys, ownsRow_putObj (own_lower hrow (by omega)) _ hK rfl, hB.trans (belowW W D _ _ (by omega) hK)⟩
  case stop =>
    rintro D c pre W _ _ h _
    exact h.elim

theorem collect_in (n : Nat) (hn : 3 ≤ n) (gf : Nat) (lb : Array Value) (eg : ∀ args w, (callFunc gf args).run Try.prog w = .ok (.enter gf args) w) (S Sp : List Hx → Prop) (N : Nat) (hN : N ≤ 1000000) (w : World)
    (hseq : SeqStopsK Fence.wide (n - 2) Try.prog gf lb (fun x : Hx => #[.agg (hv x.1)]) KeepsWalks S Sp N w) :
    CallsIn Fence.wide n Try.prog 57 #[.func (.func gf) #[] lb] w fun e w' => ∃ (v : Value) (ss : List Hx), e = .returned v ∧ S ss ∧ HOwn w' w.heap.size v (hxl ss) ∧ Below w.heap.size w w' := by
  have HA := Lib.hid (append_seq (n - 1) (by omega) gf lb eg S Sp N hN w (by rw [show n - 1 - 1 = n - 2 by omega]; exact hseq))
  refine callsIn_of_wp Try.func57 rfl trivial ?_ rfl
  simp only [Try.ntmps57, List.size_toArray, List.length_cons, List.length_nil, Nat.reduceAdd, Nat.reduceSub, Array.replicate_succ, Array.replicate_zero, List.push_toArray, List.append_toArray, List.nil_append, List.cons_append]
  gi_wp2_with fail
  refine ⟨trivial, fun _ => by omega, ?_⟩
  refine HA.out.mono ?_
  rintro e w1 ⟨v1, ss, rfl, hS, o1, b1⟩
  gi_wp2
  go_ret
  exact ⟨_, ss, rfl, hS, o1, b1⟩

/-- maps.Keys and slices.Collect, one behind the other, as two calls. -/
theorem keysS_to (mb : Option Nat) (w : World) : Calls Try.prog 58 #[.map mb] w fun e w' => e = .returned (.func (.func 72) #[] #[.pointer (some ⟨w.heap.size, 0, none⟩)]) ∧ w' = w.alloc (.cells #[.map mb] 79) :=
  (callsIn_wide (n := 6)).1 (keysS_in Fence.wide 6 trivial rfl mb w)
theorem collectS_to (w : World) (b : Nat) (M : Kv) (hM : M.length ≤ 1000000) (hown : MpH w b M) (W : World) (hW : W = w.alloc (.cells #[.map (some b)] 79)) : Calls Try.prog 57 #[.func (.func 72) #[] #[.pointer (some ⟨w.heap.size, 0, none⟩)]] W fun e w' =>
    ∃ v E, e = .returned v ∧ H32 E ∧ E.Perm (M.map (·.1)) ∧ HOwn w' w.heap.size v E ∧ Below w.heap.size w w' := by
  subst hW
  have b1 := (Below.refl w.heap.size w).alloc (Nat.le_refl _) (.cells #[.map (some b)] 79)
  refine (callsIn_wide (n := 6)).1 ((collect_in 6 (by decide) 72 _ (enters_of Try.func72 (by kernel_rfl) rfl) _ _ M.length hM _
    (keysS_gives Fence.wide 4 trivial rfl (by decide) w.heap.size b M _ (by rw [cell_of_row _ w.heap.size 0 _ _ _ (heap_alloc_last w _)]; rfl) (hown.kb b1 hown.lt))).mono ?_)
  rintro e w' ⟨v, ss, rfl, h1, h2, h3⟩
  exact ⟨v, hxl ss, rfl, hxl_h32 ss, h1, own_lower h2 b1.size, b1.trans (h3.mono b1.size)⟩
end Go.Proofs.Ythfkmfepeafgjaa
