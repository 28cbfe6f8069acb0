/- IDs: the numbers of a set, the greatest first. Conditions: no more than a million spans, no more than a million numbers asked; no end above the largest number. -/
import Derived.Test.YtpjfgkjhhmfhkaaSpnI
namespace Go.Proofs.Ytpjfgkjhhmfhkaa
open Go.RowKit Go.Shelf
attribute [local go_sem] Oper.semAt_some

/-- A slice of numbers of the call's own. -/
abbrev NOwn (w : World) (B : Nat) (v : Value) (l : List Int) : Prop := w.ownsRow B 3 1 v l.length (l.map (Value.int .i64))
theorem NOwn.seen {w : World} {B : Nat} {v : Value} {l : List Int} (h : NOwn w B v l) : NSeen w v l := by
  rcases h.2 with ⟨rfl, h0⟩ | ⟨g, cap, cur, rfl, _, hg, hn, _, _, hc⟩
  · obtain rfl : l = [] := List.eq_nil_of_length_eq_zero h0
    exact ⟨none, 0, rfl, Nat.le_refl _, fun j s hj => by simp at hj⟩
  · refine ⟨_, cap, rfl, hn, fun j x hj => ⟨_, rfl, ?_⟩⟩
    exact h.cells (g := g) rfl j (.int .i64 x) (by rw [List.getElem?_map, hj]; rfl)
theorem intinfo10 : (Try.prog.info? 3).map (fun i => (i.zero, i.size, i.bytes)) = some (some (.int .i64 0), 1, 8) := by kernel_rfl
/-- What has been collected. -/
def idl (pre : List (Int × Sp)) : List Int := pre.flatMap fun x => (rng x.2.1 x.2.2).reverse
theorem idl_snoc (pre : List (Int × Sp)) (x : Int × Sp) : idl (pre ++ [x]) = idl pre ++ (rng x.2.1 x.2.2).reverse := by simp [idl]
theorem idl_bk : ∀ (L : List Sp) (k : Nat), k ≤ L.length → idl (bk L k) = (els (L.drop (L.length - k))).reverse
  | L, 0, _ => by simp [bk, idl, els]
  | L, k + 1, h => by
    have ih := idl_bk L k (by omega)
    have hd : L.drop (L.length - (k + 1)) = L[L.length - (k + 1)] :: L.drop (L.length - k) := by
      rw [List.drop_eq_getElem_cons (by omega)]
      congr 2
      omega
    rw [bk_succ, idl_snoc, ih, hd, els_cons, List.reverse_append]
    unfold bkf
    have e : L.length - 1 - k = L.length - (k + 1) := by omega
    simp only [e, List.getElem?_eq_getElem (show L.length - (k + 1) < L.length by omega), Option.getD_some]
theorem idl_all (L : List Sp) : idl (bk L L.length) = (els L).reverse := by rw [idl_bk L L.length (Nat.le_refl _), Nat.sub_self, List.drop_zero]
theorem rng_rev {lo hi : Int} {k : Nat} (hk : (k : Int) ≤ hi - lo) : (rng lo hi).reverse.take (k + 1) = (rng lo hi).reverse.take k ++ [hi - k] := by
  have hl : (rng lo hi).reverse.length = (hi - lo + 1).toNat := by rw [List.length_reverse, rng_len]
  rw [List.take_add_one]
  congr 1
  rw [List.getElem?_eq_getElem (by omega)]
  unfold rng
  simp only [List.getElem_reverse, List.getElem_map, List.getElem_range, List.length_map, List.length_range]
  show [_] = [_]
  congr 1
  omega
theorem rng_full {lo hi : Int} {k : Nat} (hk : (k : Int) = hi - lo + 1) : (rng lo hi).reverse.take k = (rng lo hi).reverse := List.take_of_length_le (by rw [List.length_reverse, rng_len]; omega)
theorem NOwn.mono {w : World} {B B' : Nat} {v : Value} {l : List Int} (h : NOwn w B v l) (hB : B' ≤ B) : NOwn w B' v l := by
  refine ⟨h.1, ?_⟩
  rcases h.2 with h1 | ⟨g, cap, cur, h1, h2, h3⟩
  · exact .inl h1
  · exact .inr ⟨g, cap, cur, h1, Nat.le_trans hB h2, h3⟩
theorem nown_ne {W : World} {B Bx : Nat} {v : Value} {l : List Int} {cs : Array Value} (h : NOwn W B v l) (hx : W.heap[Bx]? = some (.cells cs 23 (0, 0))) : ¬ v.ownBlock = some Bx := fun e => by
  rcases h.2 with ⟨rfl, _⟩ | ⟨g, cap, cur, rfl, _, hg, _⟩
  · simp [Value.ownBlock] at e
  · have : g = Bx := by simpa [Value.ownBlock] using e
    subst this
    rw [hg] at hx
    simp at hx
theorem idl_len {q : List Rnd} : (idl (q.map (·.1))).length ≤ q.length * 1000000 := by
  induction q with
  | nil => simp [idl]
  | cons x q ih =>
    have e : idl ((x :: q).map (·.1)) = (rng x.1.2.1 x.1.2.2).reverse ++ idl (q.map (·.1)) := rfl
    rw [e, List.length_append, List.length_reverse, rng_len, List.length_cons]
    have := x.2
    omega
theorem kpi_below {w wr W : World} {B n₀ : Nat} (h : Below B w wr) (hB : B ≤ w.heap.size) (k : KpI B n₀ wr W) (hn : B ≤ n₀) : Below B w W :=
  h.trans (Only.below k (Nat.le_trans hB h.size) (fun j hj => by omega))
theorem ids_fits {m k n : Nat} (h : m ≤ n * 1000000) (hn : n < 1000000) (hk : k < 1000000) : m + k + 1 ≤ maxLen ∧ (m + k + 1) * 8 ≤ 140737488355328 := by unfold maxLen; omega
theorem sfar_of {W0 W : World} {B5 n₀ c : Nat} {p : Option Addr} {L : List Sp} (h : SOwn W0 (B5 + 1) (.slice p L.length c) L) (hk : Below W0.heap.size W0 W) (hn : W0.heap.size ≤ n₀) : SFar B5 n₀ W (.slice p L.length c) L := by
  refine ⟨p, c, rfl, fun j s hj => ?_⟩
  obtain ⟨p', c', e, _, hs⟩ := h.seen
  injection e with e1 e2 e3
  subst e1
  obtain ⟨b, o, ep, h1, h2⟩ := hs j s hj
  have hb := World.block_lt_of_cell? _ _ h1
  have hg : B5 + 1 ≤ b := (h.lt b (by rw [ep]; rfl)).1
  simp only at hb
  exact ⟨b, o, ep, by omega, by omega, (hk.cell (p := ⟨b, o + j * 2, none⟩) hb).trans h1, (hk.cell (p := ⟨b, o + j * 2 + 1, none⟩) hb).trans h2⟩
theorem ownFrom_kpi {β : Type} {Bi n₀ : Nat} {w₀ : World} (h : n₀ ≤ w₀.heap.size) : OwnFrom w₀.heap.size (fun (_ : β) W => KpI Bi n₀ w₀ W) :=
  fun _ _ _ _ hs hg hr => Only.grown hs hg (fun k _ e => .inr (Nat.le_trans h (hr k e).1))
/-- A number more: what the walk owes. -/
theorem ids_step {wr w3 : World} {B5 n₀ Bx g c : Nat} {u : Value} {P : List Int} {x : Int} {tmp : Obj} {cs : Array Value} (hv : Boxed wr B5 29 u) (hrow : NOwn wr n₀ u P) (hgrow : (wr.alloc tmp).grownBy w3 u.ownBlock)
    (hown : w3.ownsRow n₀ 3 1 (.slice (some ⟨g, 0, none⟩) (P.length + 1) c) (P.length + 1) (P.map (Value.int .i64) ++ [.int .i64 x])) (hv1 : Boxed w3 B5 29 u) (bX : wr.heap[Bx]? = some (.cells cs 23 (0, 0))) (hne : Bx ≠ B5) :
    Boxed (w3.setCell ⟨B5, 0, none⟩ (.slice (some ⟨g, 0, none⟩) (P.length + 1) c)) B5 29 (.slice (some ⟨g, 0, none⟩) (P.length + 1) c) ∧ NOwn (w3.setCell ⟨B5, 0, none⟩ (.slice (some ⟨g, 0, none⟩) (P.length + 1) c)) n₀ (.slice (some ⟨g, 0, none⟩) (P.length + 1) c) (P ++ [x]) ∧
      KeepsOthers wr (w3.setCell ⟨B5, 0, none⟩ (.slice (some ⟨g, 0, none⟩) (P.length + 1) c)) ∧ KpI B5 n₀ wr (w3.setCell ⟨B5, 0, none⟩ (.slice (some ⟨g, 0, none⟩) (P.length + 1) c)) ∧ (w3.setCell ⟨B5, 0, none⟩ (.slice (some ⟨g, 0, none⟩) (P.length + 1) c)).heap[Bx]? = some (.cells cs 23 (0, 0)) := by
  have hk := hown.kept (grownBy_setCell' w3 B5 (.slice (some ⟨g, 0, none⟩) (P.length + 1) c)) (.inr (hv1.not_row (by decide) hown).symm)
  refine ⟨hv1.set _, ?_, ((KeepsOthers.alloc wr tmp).trans (KeepsOthers.of_grownBy hgrow fun j o ej hj => ?_)).trans (KeepsOthers.setCell _ _ _), ?_, ?_⟩
  · unfold NOwn
    rw [List.length_append, List.map_append]
    exact hk
  · rcases (World.ownsRow.alloc hrow tmp).2 with ⟨rfl, _⟩ | ⟨g, cap, cur, rfl, _, hgb, _⟩
    · simp [Value.ownBlock] at ej
    · obtain rfl : g = j := by simpa [Value.ownBlock] using ej
      rw [hgb] at hj; cases hj; rfl
  · exact (((Only.refl (fun k => k = B5 ∨ n₀ ≤ k) wr).alloc tmp).grown hgrow (fun k _ e => .inr (hrow.lt k e).1)).setCell (p := ⟨B5, 0, none⟩) (.inl rfl) _
  · have o : Only (fun k => u.ownBlock = some k ∨ k = B5) wr (w3.setCell ⟨B5, 0, none⟩ (.slice (some ⟨g, 0, none⟩) (P.length + 1) c)) := (((Only.refl (fun k => u.ownBlock = some k ∨ k = B5) wr).alloc tmp).grown hgrow (fun k _ e => .inl e)).setCell (p := ⟨B5, 0, none⟩) (.inr rfl) _
    exact (o.block Bx (Array.getElem?_eq_some_iff.1 bX).1 (fun e => e.elim (nown_ne hrow bX) hne)).trans bX
set_option maxRecDepth 100000 in
set_option maxHeartbeats 8000000 in
theorem ids_to (w : World) (v : Value) (l : List Sp) (n : Int) (hs : SSeen w v l) (hl : l.length ≤ 900000) (ht : Top topN l) (hn : n < 9223372036854775808) (hc : cnt (fir l n.toNat) ≤ 1000000) :
    Calls Try.prog 14 #[v, .int .i64 n] w fun e w' => ∃ v', e = .returned v' ∧ NOwn w' w.heap.size v' (els (fir l n.toNat)).reverse ∧ Below w.heap.size w w' := by
  have b0 := (Below.refl w.heap.size w).alloc (Nat.le_refl _) (.cells #[.slice none 0 0] 29)
  have HF := Lib.hid (first_to (w.alloc (.cells #[.slice none 0 0] 29)) v l n (hs.kb b0) (by omega) ht hn)
  have hfl : (fir l n.toNat).length ≤ 1000000 := by have := rest_len (mk_nrm l) (cnt (mk l) - min (cnt (mk l)) n.toNat); have := mk_len l; unfold fir; omega
  have hfn : Nrm (fir l n.toNat) := rest_nrm (mk_nrm l) _
  have ht2 : Top topN (fir l n.toNat) := top_of hfn fun z hz => top_has (mk_top ht) ((mem_els (mk_nrm l)).1 (List.mem_of_mem_drop (by have h := (mem_els hfn).2 hz; unfold fir at h; rw [rest_els (mk_nrm l)] at h; exact h)))
  obtain ⟨p, cap, rfl⟩ := hs.form
  generalize fir l n.toNat = L at *
  refine (callsIn_wide (n := 6)).1 ?_
  refine callsIn_of_wp_marks Try.func14 rfl trivial ?_ rfl
  simp only [Try.ntmps14, List.size_toArray, List.length_cons, List.length_nil, Nat.reduceAdd, Nat.reduceSub, Array.replicate_succ, Array.replicate_zero, List.push_toArray, List.append_toArray, List.nil_append, List.cons_append]
  gi_wp2_with (refine ⟨trivial, ?_⟩; gi_at_call 10; refine (callsIn_wide.2 HF.out).mono ?_; rintro e w1 ⟨v1, rfl, o1, b1⟩; obtain ⟨p1, c1, rfl⟩ := o1.shape)
  refine ⟨trivial, ?_⟩
  refine (backward_in Fence.wide 5 trivial rfl p1 L.length c1 w1).mono ?_
  rintro e w2 ⟨rfl, rfl⟩
  gi_wp2_with fail
  have hs0 : (w.alloc (.cells #[.slice none 0 0] 29)).heap.size = w.heap.size + 1 := by simp
  rw [hs0] at o1 b1
  have hw1 : w.heap.size + 1 ≤ w1.heap.size := by have := b1.size; rw [hs0] at this; exact this
  have bB : Boxed w1 w.heap.size 29 (.slice none 0 0) := (b1.block w.heap.size (by omega)).trans (Boxed.new w _ _)
  have b2 := (Below.refl w1.heap.size w1).alloc (Nat.le_refl _) (.cells #[.slice p1 L.length c1] 24)
  have hs2 : (w1.alloc (.cells #[.slice p1 L.length c1] 24)).heap.size = w1.heap.size + 1 := by simp
  have bS := Boxed.new w1 24 (.slice p1 L.length c1)
  have hfar := sfar_of (B5 := w.heap.size) (n₀ := w1.heap.size + 1) o1 b2 (Nat.le_succ _)
  have hbel : Below w.heap.size w (w1.alloc (.cells #[.slice p1 L.length c1] 24)) := (b0.trans (b1.mono (Nat.le_succ _))).trans (b2.mono (by omega))
  have bB2 := bB.alloc (.cells #[.slice p1 L.length c1] 24)
  obtain ⟨i0, hi0, hz0, hz1, hz2⟩ := info_parts intinfo10
  generalize w1.alloc (.cells #[.slice p1 L.length c1] 24) = w2 at *
  refine wpIn_rangeFunc_ownH rfl (by decide) (gf := 52) (lb := #[.pointer (some ⟨w1.heap.size, 0, none⟩)]) rfl trivial (enters_of Try.func52 (by kernel_rfl) rfl)
    (back_stops Fence.wide 5 trivial rfl (by decide) w1.heap.size w.heap.size (w1.heap.size + 1) (.slice p1 L.length c1) L hfl hfn ht2 hc w2 (by omega) (by omega) (by omega) bS.cell hfar) KpI.t
    (fun W l o o' h1 h2 h3 h4 => KpI.of (belowK_b (w := w2) (by omega) W l o o' h1 h2 h3 h4)) (Below.refl _ _) (fun _ => rfl)
    (fun pre W => (∃ v, Boxed W w.heap.size 29 v ∧ W.ownsRow (w1.heap.size + 1) 3 1 v (idl (pre.map (·.1))).length ((idl (pre.map (·.1))).map (Value.int .i64)) ∧ True) ∧ Below w.heap.size w W ∧ KpI w.heap.size (w1.heap.size + 1) w2 W)
    (fun _ _ _ => False)
    (OwnFrom.and (Own.from (holdsRow_own (w1.heap.size + 1) w.heap.size 29 3 1 (fun pre : List Rnd => (idl (pre.map (·.1))).length) (fun pre => (idl (pre.map (·.1))).map (Value.int .i64)) (fun _ _ => True)) _) (OwnFrom.and (ownFrom_below (Nat.le_refl _) (by omega)) (ownFrom_kpi (by omega))))
    (fun _ _ _ _ _ hs _ _ => hs)
    ⟨⟨_, bB2, World.ownsRow_nil _ _ _ _, trivial⟩, hbel, KpI.refl _ _ _⟩
    (fun x a' W => ∃ Bx, w1.heap.size + 1 ≤ Bx ∧ W.heap[Bx]? = some (.cells #[.int .i64 x.1.2.1, .int .i64 x.1.2.2] 23 (0, 0)) ∧ a' = { tmps := #[.slice p l.length cap, .int .i64 n, undef, undef, .slice none 0 0, .pointer (some ⟨w.heap.size, 0, none⟩), undef, .pointer (some ⟨Bx, 0, none⟩), undef, .slice p l.length cap, .int .i64 n, .slice p1 L.length c1, .func (.func 52) #[] #[.pointer (some ⟨w1.heap.size, 0, none⟩)], .int .i64 x.1.1, spv x.1.2, undef, undef, undef, undef, undef, undef, undef, undef, undef, undef, undef, undef, undef], defers := [] })
    (by
      rintro x a' _ W W' row ⟨Bx, h1, h2, h3⟩ hg hr
      refine ⟨Bx, h1, (hg.block Bx (Array.getElem?_eq_some_iff.1 h2).1 (fun e => ?_)).trans h2, h3⟩
      obtain ⟨_, o, ho, hoc⟩ := hr Bx e.symm
      rw [h2] at ho
      cases ho
      cases hoc)
    ?assign ?body ?done ?stop
  case assign =>
    rintro l' pre x W K ⟨⟨v, hv, hrow, _⟩, hB, hK2⟩ hK
    have hsz := hK2.size
    gi_wp2
    exact hK _ _ ((KeepsOthers.alloc _ _).from _) (KpI.of ((Below.refl _ W).alloc (by omega) _)) ⟨⟨v, hv.alloc _, hrow.alloc _, trivial⟩, hB.alloc hB.size _, hK2.t (KpI.of ((Below.refl _ W).alloc (by omega) _))⟩ ⟨W.heap.size, by omega, heap_alloc_last W _, rfl⟩
  case body =>
    rintro l' pre x a' W hl' ⟨r, hr⟩ ⟨⟨v, hv, hrow, _⟩, hB, hK2⟩ ⟨Bx, hBx, bX, rfl⟩ hlt
    obtain ⟨⟨xi, lo, hi⟩, g0, g1, g2, g3⟩ := x
    simp only at g0 g1 g2 g3 bX
    unfold topN at g2
    have hpl := idl_len (q := pre)
    have hidl : idl ((pre ++ [(⟨(xi, lo, hi), g0, g1, by unfold topN; exact g2, g3⟩ : Rnd)]).map (·.1)) = idl (pre.map (·.1)) ++ (rng lo hi).reverse := by rw [List.map_append]; exact idl_snoc _ _
    have hsz := hK2.size
    have hBS := hB.size
    obtain ⟨A, hA⟩ : ∃ A, A = idl (pre.map (·.1)) := ⟨_, rfl⟩
    rw [← hA] at hrow hpl hidl
    have HIDL := Lib.hid hidl
    clear hA hidl
    obtain ⟨z1, z2⟩ := sp_cells bX
    gi_wp2
    gi_loopw [8] (fun i wr => ∃ (k : Nat) (u : Value), i = .int .i64 (hi - k) ∧ (k : Int) ≤ hi - lo + 1 ∧ Boxed wr w.heap.size 29 u ∧ NOwn wr (w1.heap.size + 1) u (A ++ (rng lo hi).reverse.take k) ∧ KeepsFrom w2.heap.size W wr ∧ KpI w.heap.size (w1.heap.size + 1) W wr ∧ Below w.heap.size w wr ∧ wr.heap[Bx]? = some (.cells #[.int .i64 lo, .int .i64 hi] 23 (0, 0)))
      (fun i _ => (intOf i - lo + 1).toNat)
    case atStart => exact ⟨0, v, by simp, by omega, hv, by simpa using hrow, KeepsFrom.refl _ _, KpI.refl _ _ _, hB, bX⟩
    case round =>
      clear hv hrow hB bX z1 z2
      obtain ⟨k, u, rfl, hk, hv, hrow, hkf, hkp, hB, bX⟩ := hrel
      obtain ⟨z1, z2⟩ := sp_cells bX
      have hszr := hkp.size
      have hc := hv.cell
      by_cases c : (k : Int) ≤ hi - lo
      · have d1 : decide (hi - (k : Int) ≥ lo) = true := by simp; omega
        have d2 : decide (lo ≤ hi - (k : Int)) = true := by simp; omega
        have hw : wrap64 (hi - (k : Int) - 1) = hi - (k : Int) - 1 := by unfold wrap64; omega
        have hlk : (A ++ (rng lo hi).reverse.take k).length ≤ A.length + k := by rw [List.length_append, List.length_take]; omega
        have hft := ids_fits (m := A.length) (k := k) hpl (show pre.length < 1000000 by omega) (by omega)
        have HRR := Lib.hid (rng_rev c)
        have hlen1 : (A ++ (rng lo hi).reverse.take k).length + 1 ≤ maxLen ∧ ((A ++ (rng lo hi).reverse.take k).length + 1) * 8 ≤ 140737488355328 := by omega
        obtain ⟨P, hP⟩ : ∃ P, P = A ++ (rng lo hi).reverse.take k := ⟨_, rfl⟩
        rw [← hP] at hrow hlen1
        have HP := Lib.hid hP
        clear hP hlk hft
        gi_wp2_with (gi_at_builtin; refine wpListIn_append_own _ rfl _ _ 29 rfl (w1.heap.size + 1) 3 i0 (.int .i64 0) 1 8 Try.underlying29 hi0 hz0 hz1 hz2 rfl (by decide) _ _ _ rfl (hrow.alloc _) ⟨wr.heap.size, 0, none⟩ 1 1 [.int .i64 (hi - (k : Int))] rfl rfl (cell_one_new _ _ _) (by simp [Value.oneCell']) hlen1.1 hlen1.2 (by simp; omega) ?_; intro v' w3 hown' hgrow _; obtain ⟨g', cap', rfl⟩ := ownsRow_succ hown'; have hv1 : Boxed w3 w.heap.size 29 u := (hv.alloc _).kept hgrow (hv.not_row (by decide) hrow); have hc1 := hv1.cell; have hf1 := hv1.frozen)
        obtain ⟨q1, q2, q3, q4, q5⟩ := ids_step (x := hi - (k : Int)) hv hrow hgrow hown' hv1 bX (by omega)
        exact ⟨⟨k + 1, _, by rw [show hi - ((k + 1 : Nat) : Int) = hi - (k : Int) - 1 by omega], by omega, q1, (by rw [HRR.out, ← List.append_assoc, ← HP.out]; exact q2), hkf.trans (q3.from _), hkp.t q4, kpi_below hB (Nat.le_refl _) q4 (by omega), q5⟩, by simp [intOf]; omega⟩
      · have d1 : decide (hi - (k : Int) ≥ lo) = false := by simp; omega
        have d2 : decide (lo ≤ hi - (k : Int)) = false := by simp; omega
        have HRF := Lib.hid (rng_full (lo := lo) (hi := hi) (k := k) (by omega))
        gi_wp2
        refine ⟨by first | exact hkf | (rw [← hs2]; exact hkf), hkp, ⟨u, hv, ?_⟩, hB, hK2.t hkp⟩
        rw [HIDL.out, ← HRF.out]
        exact hrow
  case done =>
    rintro D ys W hD hys ⟨⟨v, hv, hrow, _⟩, hB, hK2⟩ hK
    rw [hys, idl_all] at hrow
    have hc := hv.cell
    gi_wp2
    refine ⟨by simp, .inl ⟨_, _, rfl, run_takeDeferred hK, ?_⟩⟩
    exact ⟨_, results_tmp rfl _ _ _, v, rfl, ownsRow_putObj (NOwn.mono hrow (by omega)) _ hK rfl, hB.trans (belowK_b (w := w) (Nat.le_refl _) W D _ _ (by omega) hK rfl rfl)⟩
  case stop =>
    rintro D c pre W _ _ h _
    exact h.elim
end Go.Proofs.Ytpjfgkjhhmfhkaa
