/- FlatGrows' walk. No condition. -/
import Derived.Test.YtadglppplgeldaaFltN
import Derived.Test.YtadglppplgeldaaFltE
import Derived.Test.YtadglppplgeldaaGenRow
import Derived.Deep.CutRange
namespace Go.Proofs.Ytadglppplgeldaa
open Go.RowKit
set_option maxRecDepth 20000

/-- What append does with numbers of the call's own and some that are read. -/
theorem run_push_ints (w : World) (ty : TypeId) (B : Nat) (v u : Value) (l m : List Int) (G : JOwn w B v l) (hu : NSeen w u m) (hl : l.length + m.length ≤ 2000000) (hB : B ≤ w.heap.size) :
    ∃ v' w', (Builtin.append_ #[22, 22] ty #[v, u]).run Try.prog w = .ok v' w' ∧ JOwn w' B v' (l ++ m) ∧ Only (fun k => v.ownBlock = some k) w w' ∧ (∀ j, v'.ownBlock = some j → v.ownBlock = some j ∨ w.heap.size ≤ j) := by
  obtain ⟨i0, hi0, hz0, hz1, hz2⟩ := info_parts iinfo
  have hf : l.length + m.length ≤ maxLen ∧ (l.length + m.length) * 8 ≤ 140737488355328 := by unfold maxLen; omega
  obtain ⟨p, cap, rfl, hc, hs⟩ := hu
  cases p with
  | none =>
    obtain rfl : m = [] := by
      cases m with
      | nil => rfl
      | cons x m => obtain ⟨a, e, _⟩ := hs 0 x rfl; cases e
    have hr : (Builtin.append_ #[22, 22] ty #[v, .slice none 0 cap]).run Try.prog w = .ok v w := by
      rcases G.2 with ⟨rfl, h0⟩ | ⟨g, cap', cur, rfl, _, _, hnc, _⟩
      · simp [Builtin.append_, run_underlying Try.underlying22, sizeOf, typeInfo, hi0, Builtin.lenOf, Builtin.firstCells]
      · simp [Builtin.append_, run_underlying Try.underlying22, sizeOf, typeInfo, hi0, Builtin.lenOf, Builtin.firstCells, hnc, storeCells]
    exact ⟨v, w, hr, by rw [List.append_nil]; exact G, Only.refl _ _, fun j h => .inl h⟩
  | some a =>
    obtain ⟨v', w', hr, h2, h3, _, h5⟩ := run_append_own_at (P := Try.prog) (w := w) B 22 ty 3 i0 _ 1 8 Try.underlying22 hi0 hz0 hz1 hz2 rfl (by decide) v l.length _ G a m.length cap (m.map (Value.int .i64)) (by simp) (fun j u hj => by
      rw [List.getElem?_map] at hj
      cases hx : m[j]? with
      | none => rw [hx] at hj; cases hj
      | some x =>
        rw [hx] at hj
        obtain rfl : Value.int .i64 x = u := by simpa using hj
        obtain ⟨a', e, h1⟩ := hs j x hx
        injection e with e
        subst e
        exact h1) (ints_one m) hf.1 hf.2 hB
    have hO := (Only.refl (fun k => v.ownBlock = some k) w).grown h3 (fun k _ e => e)
    refine ⟨v', w', hr, by unfold JOwn; rw [List.length_append, List.map_append]; exact h2, hO, fun j hj => ?_⟩
    rcases h5 with h5 | h5
    · rw [h5] at hj; exact .inl hj
    · rw [h5] at hj
      injection hj with hj
      exact .inr (by omega)
section
variable {ops : Array Oper} {o : Oper} {a : Act} {w : World} {K : Act → World → Prop} {Q : Exit → Act → World → Prop} {X : Prop}
theorem step_push_ints (hgd : o.guard = none) (s x : Operand) (ho : o.op = .call { callee := .builtin .append, args := #[s, x], argTypes := #[22, 22] })
    (B : Nat) (v u : Value) (l m : List Int) (hs : a.eval s = v) (G : JOwn w B v l) (hx : a.eval x = u) (hu : NSeen w u m) (hl : l.length + m.length ≤ 2000000) (hB : B ≤ w.heap.size)
    (h : ∀ v' w', JOwn w' B v' (l ++ m) → Only (fun k => v.ownBlock = some k) w w' → (∀ j, v'.ownBlock = some j → v.ownBlock = some j ∨ w.heap.size ≤ j) → K (a.put o.dst v') w') :
    if Region.wanted o (yielded ops a.tmps) = true then Oper.wp Try.prog o a w K Q else X := by
  have hw : Region.wanted o (yielded ops a.tmps) = true := by simp [Region.wanted, hgd]
  rw [if_pos hw]
  obtain ⟨v', w', hr, h1, h2, h3⟩ := run_push_ints w o.type B v u l m G hu hl hB
  unfold Oper.wp execOp
  simp only [ho, resolve, invoke, builtin, Sem.run_bind, Sem.run_pure, Result.andThen_ok, List.map_toArray, List.map_cons, List.map_nil, hs, hx, hr]
  exact h v' w' h1 h2 h3
theorem push_ints {rest : List Oper} (hgd : o.guard = none) (s x : Operand) (ho : o.op = .call { callee := .builtin .append, args := #[s, x], argTypes := #[22, 22] })
    (B : Nat) (v u : Value) (l m : List Int) (hs : a.eval s = v) (G : JOwn w B v l) (hx : a.eval x = u) (hu : NSeen w u m) (hl : l.length + m.length ≤ 2000000) (hB : B ≤ w.heap.size)
    (h : ∀ v' w', JOwn w' B v' (l ++ m) → Only (fun k => v.ownBlock = some k) w w' → (∀ j, v'.ownBlock = some j → v.ownBlock = some j ∨ w.heap.size ≤ j) → wpList Try.prog ops Q rest (a.put o.dst v') w') : wpList Try.prog ops Q (o :: rest) a w := by
  refine wpList_plain hgd fun K hK => ?_
  have h9 := step_push_ints (K := K) (Q := Q) (X := True) (ops := ops) hgd s x ho B v u l m hs G hx hu hl hB (fun v' w' a1 a2 a3 => hK _ _ (h v' w' a1 a2 a3))
  rwa [if_pos (by simp [Region.wanted, hgd])] at h9
end
/-- How the segments grow. -/
def Grw (oth : Bool) (A C : List Sg) : Prop := (∃ G s, A = G ++ [s] ∧ C = G ++ [({ s with hi := s.hi + 1 } : Sg)] ∧ -1000 ≤ s.hi ∧ s.hi ≤ 2199023255552) ∨ (∃ s, C = A ++ [s] ∧ s.lo = s.hi ∧ (s.lo < spl ∨ oth = true))
theorem grw_sgs (low : Int) (hlow : low = 0 ∨ low = spl) (L : List (List Int)) (hL : L.length ≤ 1000) (p : List Int) : (∃ G s, sgs low L = G ++ [s] ∧ sgs low (L ++ [p]) = G ++ [({ s with hi := s.hi + 1 } : Sg)] ∧ -1000 ≤ s.hi ∧ s.hi ≤ 2199023255552) ∨ (∃ s, sgs low (L ++ [p]) = sgs low L ++ [s] ∧ s.lo = s.hi ∧ s.lo = low + L.length) := by
  rw [sgs_snoc]
  by_cases hc : 0 < L.length ∧ p = [low + (L.length : Int) - 1]
  · rw [if_pos hc]
    rcases List.eq_nil_or_concat (sgs low L) with h | ⟨G, s, h⟩
    · exact absurd h (sgs_ne hc.1)
    · rw [List.concat_eq_append] at h
      refine .inl ⟨G, s, h, ?_⟩
      have h1 := cov_sgs low L
      rw [h] at h1 ⊢
      obtain ⟨c, _, d, h2, h3⟩ := cov_app.1 h1
      cases h3
      rw [setHi_snoc]
      have h4 := h2.hi
      refine ⟨by rw [show low + (L.length : Int) = s.hi + 1 by omega], ?_, ?_⟩ <;> (unfold spl at hlow; omega)
  · rw [if_neg hc]
    exact .inr ⟨_, rfl, rfl, rfl⟩
theorem grw_o (M O : List (List Int)) (hO : O.length ≤ 1000) (p : List Int) : Grw true (flt M O) (flt M (O ++ [p])) := by
  unfold flt
  rcases grw_sgs spl (.inr rfl) O hO p with ⟨G, s, h1, h2, h3⟩ | ⟨s, h1, h2, _⟩
  · exact .inl ⟨sgs 0 M ++ G, s, by rw [h1, List.append_assoc], by rw [h2, List.append_assoc], h3⟩
  · exact .inr ⟨s, by rw [h1, List.append_assoc], h2, .inr rfl⟩
theorem grw_m (M : List (List Int)) (p : List Int) (hm : M.length ≤ 1000) : Grw false (flt M []) (flt (M ++ [p]) []) := by
  unfold flt
  rw [show sgs spl [] = [] from rfl, List.append_nil, List.append_nil]
  rcases grw_sgs 0 (.inl rfl) M hm p with ⟨G, s, h1, h2⟩ | ⟨s, h1, h2, h3⟩
  · exact .inl ⟨G, s, h1, h2⟩
  · exact .inr ⟨s, h1, h2, .inl (by unfold spl; omega)⟩
/-- What the two raw tables are behind their making. -/
def GrR (w W : World) (xb yb : Nat) (oth : Bool) (z : Int) : Prop := ∃ p1 n1 c1 q1 m1 d1 p2 n2 c2 q2 m2 d2 xs1 ys1 xs2 ys2,
  W.heap[xb]? = some (.cells #[.slice p1 n1 c1, .slice q1 m1 d1] 39 (0, 0)) ∧ W.heap[yb]? = some (.cells #[.slice p2 n2 c2, .slice q2 m2 d2] 39 (0, 0)) ∧
  RawN W p1 n1 c1 xs1 ∧ RawN W q1 m1 d1 ys1 ∧ RawN W p2 n2 c2 xs2 ∧ RawN W q2 m2 d2 ys2 ∧ Below w.heap.size w W ∧
  ((oth = true ∧ xs2 = xs1 ∧ ys2 = ys1 ++ [z] ∧ ys1.length ≤ 24) ∨ (oth = false ∧ ys1 = [] ∧ ys2 = [] ∧ xs2 = xs1 ++ [z] ∧ xs1.length ≤ 24))
theorem RawN.kb {w W : World} {p : Option Addr} {n c : Nat} {xs : List Int} (h : RawN w p n c xs) (k : Below w.heap.size w W) : RawN W p n c xs := ⟨h.1, h.2.1.kb k, h.2.2⟩
theorem RawN.take {w : World} {p : Option Addr} {n c k : Nat} {xs : List Int} (h : RawN w p n c xs) (hk : k ≤ n) : RawN w p k c (xs.take k) := by
  refine ⟨by rw [List.length_take]; have := h.1; omega, h.2.1.take (by have := h.1; omega), fun x hx => h.2.2 x (List.mem_of_mem_take hx)⟩
theorem RawN.cap {w : World} {p : Option Addr} {n c : Nat} {xs : List Int} (h : RawN w p n c xs) : n ≤ c := by
  obtain ⟨p', c', e, hc, _⟩ := h.2.1
  injection e with _ _ e
  have := h.1
  omega
theorem RawN.nil (w : World) : RawN w none 0 0 [] := ⟨rfl, ⟨none, 0, rfl, Nat.le_refl _, fun j x hj => by simp at hj⟩, fun x h => by cases h⟩
theorem RawN.own {w : World} {B : Nat} {p : Option Addr} {n c : Nat} {l : List Int} (h : JOwn w B (.slice p n c) l) (hb : ∀ x ∈ l, -9223372036854775808 ≤ x ∧ x < 9223372036854775808) : RawN w p n c l := by
  have hs := JOwn.seen h
  refine ⟨?_, hs, hb⟩
  obtain ⟨p', c', e, _⟩ := hs
  injection e
/-- Two tables beside one another. -/
structure TwoR (w W : World) (R : Nat) (u1 u2 v1 v2 : Value) : Prop where
  xc : W.heap[R]? = some (.cells #[u1, u2] 39 (0, 0))
  yc : W.heap[R + 1]? = some (.cells #[v1, v2] 39 (0, 0))
  bel : Below R w W
  size : R + 2 ≤ W.heap.size
theorem TwoR.kb {w W W' : World} {R : Nat} {u1 u2 v1 v2 : Value} (h : TwoR w W R u1 u2 v1 v2) (k : Below (R + 2) W W') : TwoR w W' R u1 u2 v1 v2 :=
  ⟨(k.block R (by omega)).trans h.xc, (k.block (R + 1) (by omega)).trans h.yc, h.bel.trans (k.mono (by omega)), Nat.le_trans h.size k.size⟩
theorem TwoR.new (w : World) (u1 u2 v1 v2 : Value) : TwoR w ((w.alloc (.cells #[u1, u2] 39)).alloc (.cells #[v1, v2] 39)) w.heap.size u1 u2 v1 v2 := by
  have h1 := heap_alloc_last (w.alloc (.cells #[u1, u2] 39)) (.cells #[v1, v2] 39)
  rw [show (w.alloc (.cells #[u1, u2] 39)).heap.size = w.heap.size + 1 by simp] at h1
  exact ⟨by rw [heap_alloc_old _ _ (by simp)]; exact heap_alloc_last _ _, h1, ((Below.refl _ w).alloc (Nat.le_refl _) _).alloc (by simp) _, by simp⟩
theorem set_cell2 {W : World} {b : Nat} {u v x : Value} {t : TypeId} (h : W.heap[b]? = some (.cells #[u, v] t (0, 0))) : (W.setCell ⟨b, 0, none⟩ x).heap[b]? = some (.cells #[x, v] t (0, 0)) ∧ (W.setCell ⟨b, 1, none⟩ x).heap[b]? = some (.cells #[u, x] t (0, 0)) :=
  ⟨cells_set (j := 0) (row := [u, v]) h x, cells_set (j := 1) (row := [u, v]) h x⟩
theorem TwoR.setY {w W : World} {R : Nat} {u1 u2 v1 v2 : Value} (h : TwoR w W R u1 u2 v1 v2) (x : Value) : TwoR w (W.setCell ⟨R + 1, 1, none⟩ x) R u1 u2 v1 x ∧ TwoR w (W.setCell ⟨R + 1, 0, none⟩ x) R u1 u2 x v2 :=
  ⟨⟨(Below.heap_setCell _ _ _ _ (show R ≠ R + 1 by omega)).trans h.xc, (set_cell2 h.yc).2, h.bel.setCell (p := ⟨R + 1, 1, none⟩) (show R ≤ R + 1 by omega) _, by have := h.size; simpa using this⟩,
   ⟨(Below.heap_setCell _ _ _ _ (show R ≠ R + 1 by omega)).trans h.xc, (set_cell2 h.yc).1, h.bel.setCell (p := ⟨R + 1, 0, none⟩) (show R ≤ R + 1 by omega) _, by have := h.size; simpa using this⟩⟩
theorem TwoR.setX {w W : World} {R : Nat} {u1 u2 v1 v2 : Value} (h : TwoR w W R u1 u2 v1 v2) (x : Value) : TwoR w (W.setCell ⟨R, 1, none⟩ x) R u1 x v1 v2 ∧ TwoR w (W.setCell ⟨R, 0, none⟩ x) R x u2 v1 v2 :=
  ⟨⟨(set_cell2 h.xc).2, (Below.heap_setCell _ _ _ _ (show R + 1 ≠ R by omega)).trans h.yc, h.bel.setCell (p := ⟨R, 1, none⟩) (Nat.le_refl _) _, by have := h.size; simpa using this⟩,
   ⟨(set_cell2 h.xc).1, (Below.heap_setCell _ _ _ _ (show R + 1 ≠ R by omega)).trans h.yc, h.bel.setCell (p := ⟨R, 0, none⟩) (Nat.le_refl _) _, by have := h.size; simpa using this⟩⟩
theorem TwoR.c {w W : World} {R : Nat} {u1 u2 v1 v2 : Value} (h : TwoR w W R u1 u2 v1 v2) : W.cell? ⟨R, 0, none⟩ = some u1 ∧ W.cell? ⟨R, 1, none⟩ = some u2 ∧ W.cell? ⟨R + 1, 0, none⟩ = some v1 ∧ W.cell? ⟨R + 1, 1, none⟩ = some v2 ∧ W.frozen? ⟨R, 0, none⟩ = false ∧ W.frozen? ⟨R, 1, none⟩ = false ∧ W.frozen? ⟨R + 1, 0, none⟩ = false ∧ W.frozen? ⟨R + 1, 1, none⟩ = false :=
  ⟨cell_ob5 h.xc 0 rfl, cell_ob5 h.xc 1 rfl, cell_ob5 h.yc 0 rfl, cell_ob5 h.yc 1 rfl, frozen_of_row _ _ _ _ _ h.xc, frozen_of_row _ _ _ _ _ h.xc, frozen_of_row _ _ _ _ _ h.yc, frozen_of_row _ _ _ _ _ h.yc⟩
theorem JOwn.far {w : World} {B b i : Nat} {v u : Value} {l : List Int} (h : JOwn w B v l) (hb : b < B) : JOwn (w.setCell ⟨b, i, none⟩ u) B v l :=
  h.kept (gb_set w b i u) (.inr (fun e => by have := (h.lt b e).1; omega))
theorem bnd_snoc {zs : List Int} {z : Int} (h : ∀ x ∈ zs, -9223372036854775808 ≤ x ∧ x < 9223372036854775808) (hz : -9223372036854775808 ≤ z ∧ z < 9223372036854775808) : ∀ x ∈ zs ++ [z], -9223372036854775808 ≤ x ∧ x < 9223372036854775808 := fun x hx => by
  rcases List.mem_append.1 hx with h1 | h1
  · exact h x h1
  · rw [List.mem_singleton.1 h1]; exact hz
theorem raw_fit {xs ys : List Int} {X Z : List (Value × List Int)} {n m : Nat} (h1 : X.map (·.2) = tbG (fun j => alls j 0) (xs.take 25)) (h2 : Z.map (·.2) = tbG (alls X.length) (ys.take 25)) (h3 : n = (X.map (·.2)).length) (h4 : m = (Z.map (·.2)).length) : n ≤ 400000 ∧ m ≤ 400000 := by
  rw [h3, h4, h1, h2, tbG_len, tbG_len, List.length_take, List.length_take]; omega
theorem raw_ok' {xs ys : List Int} {X Z : List (Value × List Int)} (h1 : X.map (·.2) = tbG (fun j => alls j 0) (xs.take 25)) (h2 : Z.map (·.2) = tbG (alls X.length) (ys.take 25)) : okt (X.map (·.2)) (Z.map (·.2)) := by
  have h3 : X.length = (xs.take 25).length := by have := congrArg List.length h1; rwa [List.length_map, tbG_len] at this
  rw [h1, h2, h3]
  exact raw_ok _ _ (by rw [List.length_take]; omega)
theorem flt_fit {xs ys : List Int} {X Z : List (Value × List Int)} (h1 : X.map (·.2) = tbG (fun j => alls j 0) (xs.take 25)) (h2 : Z.map (·.2) = tbG (alls X.length) (ys.take 25)) : (flt (X.map (·.2)) (Z.map (·.2))).length ≤ 50 := by
  unfold flt
  rw [List.length_append]
  have e1 := sgs_len 0 (X.map (·.2))
  have e2 := sgs_len spl (Z.map (·.2))
  rw [h1, tbG_len, List.length_take] at e1
  rw [h2, tbG_len, List.length_take] at e2
  rw [h1, h2]
  omega
theorem grw_tab {oth : Bool} {z : Int} {xs1 ys1 xs2 ys2 : List Int} {X1 Z1 X2 Z2 : List (Value × List Int)} (hc : (oth = true ∧ xs2 = xs1 ∧ ys2 = ys1 ++ [z] ∧ ys1.length ≤ 24) ∨ (oth = false ∧ ys1 = [] ∧ ys2 = [] ∧ xs2 = xs1 ++ [z] ∧ xs1.length ≤ 24))
    (a1 : X1.map (·.2) = tbG (fun j => alls j 0) (xs1.take 25)) (a2 : Z1.map (·.2) = tbG (alls X1.length) (ys1.take 25)) (b1 : X2.map (·.2) = tbG (fun j => alls j 0) (xs2.take 25)) (b2 : Z2.map (·.2) = tbG (alls X2.length) (ys2.take 25)) : Grw oth (flt (X1.map (·.2)) (Z1.map (·.2))) (flt (X2.map (·.2)) (Z2.map (·.2))) := by
  rcases hc with ⟨rfl, rfl, rfl, h⟩ | ⟨rfl, rfl, rfl, rfl, h⟩
  · have e : X2.length = X1.length := by have e1 := congrArg List.length a1; have e2 := congrArg List.length b1; rw [List.length_map, tbG_len] at e1 e2; omega
    rw [e, List.take_of_length_le (by simp; omega), tbG_snoc] at b2
    rw [List.take_of_length_le (by omega)] at a2
    rw [b2, ← a2, b1, ← a1]
    exact grw_o _ _ (by rw [a2, tbG_len]; omega) _
  · rw [List.take_of_length_le (by simp; omega), tbG_snoc] at b1
    rw [List.take_of_length_le (by omega)] at a1
    rw [show (Z1.map (·.2)) = [] from a2, show (Z2.map (·.2)) = [] from b2, b1, ← a1]
    exact grw_m _ _ (by rw [a1, tbG_len]; omega)
theorem grw_len {oth : Bool} {A C : List Sg} (h : Grw oth A C) : C.length = A.length ∨ C.length = A.length + 1 := by
  rcases h with ⟨G, s, rfl, rfl, _⟩ | ⟨s, rfl, _⟩
  · left; simp
  · right; simp
theorem grw_nil {oth : Bool} {A C : List Sg} (h : Grw oth A C) (h0 : A.length = 0) : C.length = A.length + 1 := by
  rcases h with ⟨G, s, rfl, rfl, _⟩ | ⟨s, rfl, _⟩
  · simp at h0
  · simp
theorem grw_line {oth : Bool} {A C : List Sg} (h : Grw oth A C) {i : Nat} (hl : C.length = A.length) (hi : i + 1 = A.length) : ∃ s, A[i]? = some s ∧ C[i]? = some { s with hi := s.hi + 1 } ∧ -1000 ≤ s.hi ∧ s.hi ≤ 2199023255552 := by
  rcases h with ⟨G, s, rfl, rfl, h⟩ | ⟨s, rfl, _⟩
  · have : i = G.length := by simp at hi; omega
    subst this
    exact ⟨s, by simp, by simp, h⟩
  · simp at hl
theorem grw_same {oth : Bool} {A C : List Sg} (h : Grw oth A C) {i : Nat} (hi : i < A.length) (hc : C.length ≠ A.length ∨ i + 1 ≠ A.length) : ∃ s, A[i]? = some s ∧ C[i]? = some s := by
  refine ⟨A[i], List.getElem?_eq_getElem hi, ?_⟩
  rcases h with ⟨G, s, rfl, rfl, h⟩ | ⟨s, rfl, _⟩
  · have hiG : i < G.length := by
      simp at hi
      rcases hc with hc | hc
      · simp at hc
      · simp at hc; omega
    rw [List.getElem?_append_left hiG, List.getElem_append_left hiG, List.getElem?_eq_getElem hiG]
  · rw [List.getElem?_append_left hi, List.getElem?_eq_getElem hi]
theorem grw_last {oth : Bool} {A C : List Sg} (h : Grw oth A C) (hl : C.length = A.length + 1) : ∃ s, C[A.length]? = some s ∧ s.lo = s.hi ∧ (s.lo < spl ∨ oth = true) := by
  rcases h with ⟨G, s, rfl, rfl, _⟩ | ⟨s, rfl, h⟩
  · simp at hl
  · exact ⟨s, by simp, h⟩
theorem drewN_below (w : World) (n : Nat) : Below w.heap.size w (w.drewN n) := ⟨rfl, rfl, rfl, Nat.le_refl _, fun _ _ => rfl⟩
theorem flt_par {M O : List (List Int)} (ok : okt M O) : ∀ s ∈ flt M O, s.par.length ≤ 1000000 := fun s hs => by
  obtain ⟨i, hi⟩ := List.mem_iff_getElem?.1 hs
  obtain ⟨low, L, base, a, b, g, so, _⟩ := flt_at hi
  have hok : okl M.length O.length low L := by
    rcases g with ⟨rfl, rfl, rfl⟩ | ⟨rfl, rfl, rfl⟩
    · exact ok.1
    · exact ok.2
  exact Nat.le_trans (hok _ _ so.par).1 (by decide)
set_option maxHeartbeats 16000000 in
theorem grows_to (w : World) (pm : Option Addr) (nm cm : Nat) (po : Option Addr) (no co : Nat) (xs ys : List Int) (hx : RawN w pm nm cm xs) (hy : RawN w po no co ys) (oth : Bool) (z : Int) (hz : -9223372036854775808 ≤ z ∧ z < 9223372036854775808) :
    Calls Try.prog 7 #[tv pm nm cm po no co, .bool oth, .int .i64 z] w fun e w' => e = .returned (.bool true) ∧ Below w.heap.size w w' := by
  have HX := Lib.hid hx
  have HY := Lib.hid hy
  have HZ := Lib.hid hz
  have hco := hy.cap
  have hcm := hx.cap
  have T0 := Lib.hid (TwoR.new w (.slice pm nm cm) (.slice po no co) (.slice pm nm cm) (.slice po no co))
  obtain ⟨R, hR⟩ : ∃ R, R = w.heap.size := ⟨_, rfl⟩
  rw [← hR] at T0
  have HR := Lib.hid hR
  clear hx hy hz hR
  go_enter Try.func7, Try.ntmps7
  go_upto_if 12 with fail
  rw [← HR.out]
  generalize ((w.alloc (.cells #[.slice pm nm cm, .slice po no co] 39)).alloc (.cells #[.slice pm nm cm, .slice po no co] 39)) = w2 at *
  go_cut [] from 13 to 56 (fun wx => GrR w wx R (R + 1) oth z)
  case first =>
    obtain ⟨c1, c2, c3, c4, f1, f2, f3, f4⟩ := T0.out.c
    cases oth with
    | true =>
      by_cases hle : no ≤ 24
      · have hli : (no : Int) ≤ 24 := by omega
        have HYW := Lib.hid (fun (W : World) (b : Below R w W) => (HY.out.kb (HR.out ▸ b)).take (k := no) (Nat.le_refl _))
        have HZL : Hid ((ys.take no).length = no) := Lib.hid (by rw [List.length_take]; have := HY.out.1; omega)
        have HK24 : Hid (no ≤ 24) := Lib.hid (by omega)
        obtain ⟨zs, hzs⟩ : ∃ zs, zs = (ys.take no) := ⟨_, rfl⟩
        rw [← hzs] at HYW HZL
        have HZS := Lib.hid hzs
        clear hzs
        have AL := (Below.refl (R + 2) w2).alloc T0.out.size (.cells #[] 3)
        have T2 := Lib.hid (T0.out.kb AL)
        have J2 : Hid (JOwn (w2.alloc (.cells #[] 3)) (R + 2) (.slice (some ⟨w2.heap.size, 0, none⟩) 0 0) []) := Lib.hid (by have h := own_empty w2 3 1 T0.out.size; exact h)
        obtain ⟨t1, t2, t3, t4, t5, t6, t7, t8⟩ := T2.out.c
        clear AL
        go_wp2_with (first
          | (at_builtin; refine push_ints (by rfl) (.tmp 13) (.tmp 20) (by rfl) (R + 2) _ _ [] zs (by rfl) J2.out (by rfl) (HYW.out _ T2.out.bel).2.1 (by have := HZL.out; have := HK24.out; rw [List.length_nil]; omega) T2.out.size ?_; intro v5 w5 j5 o5 l5; obtain ⟨p5, n5, c5, rfl, hn5⟩ := j5.shape; have J5 := Lib.hid j5; have T5 := Lib.hid (T2.out.kb (o5.below T2.out.size (fun k e => (J2.out.lt k e).1))); have AL5 := (Below.refl (R + 2) w5).alloc T5.out.size (.cells #[.int .i64 z] 3); have T6 := Lib.hid (T5.out.kb AL5); have J6 := Lib.hid (J5.out.alloc (.cells #[.int .i64 z] 3)); have HB6 := Lib.hid (heap_alloc_last w5 (.cells #[.int .i64 z] 3)); clear j5 o5 l5 AL5 hn5)
          | (at_builtin; refine push_int (by rfl) (.tmp 21) (.tmp 23) (by rfl) (R + 2) _ _ (by rfl) J6.out w5.heap.size (by rfl) z HB6.out T6.out.size (by have := HZL.out; have := HK24.out; rw [List.nil_append]; omega) ?_; intro g7 cap7 w7 j7 o7; have J7 := Lib.hid j7; have T7 := Lib.hid (T6.out.kb (o7.below T6.out.size (fun k e => (J6.out.lt k e).1))); obtain ⟨h1, h2, h3, h4, k1, k2, k3, k4⟩ := T7.out.c; obtain ⟨m1, m2, m3, m4, r1, r2, r3, r4⟩ := ((T7.out.setY (.slice (some ⟨g7, 0, none⟩) (([] ++ zs).length + 1) cap7)).1).c; clear j7 o7))
        go_meet
        case rel =>
          exact ⟨pm, nm, cm, po, no, co, pm, nm, cm, some ⟨g7, 0, none⟩, _, cap7, xs, zs, xs, zs ++ [z], (((T7.out.setY _).1).setX _).1.xc, (((T7.out.setY _).1).setX _).1.yc, HX.out.kb (HR.out ▸ (((T7.out.setY _).1).setX _).1.bel), HYW.out _ (((T7.out.setY _).1).setX _).1.bel, HX.out.kb (HR.out ▸ (((T7.out.setY _).1).setX _).1.bel), RawN.own ((J7.out.far (by omega)).far (by omega)) (bnd_snoc (HYW.out w7 T7.out.bel).2.2 HZ.out), HR.out ▸ (((T7.out.setY _).1).setX _).1.bel, .inl ⟨rfl, rfl, rfl, by rw [HZL.out]; exact HK24.out⟩⟩
      · have hli : ¬ (no : Int) ≤ 24 := by omega
        have hc24 : 24 ≤ co := by omega
        have HYW := Lib.hid (fun (W : World) (b : Below R w W) => (HY.out.kb (HR.out ▸ b)).take (k := 24) (by omega))
        have HZL : Hid ((ys.take 24).length = 24) := Lib.hid (by rw [List.length_take]; have := HY.out.1; omega)
        have HK24 : Hid (24 ≤ 24) := Lib.hid (by omega)
        obtain ⟨zs, hzs⟩ : ∃ zs, zs = (ys.take 24) := ⟨_, rfl⟩
        rw [← hzs] at HYW HZL
        have HZS := Lib.hid hzs
        clear hzs
        have AL := (Below.refl (R + 2) w2).alloc T0.out.size (.cells #[] 3)
        have T2 := Lib.hid (T0.out.kb AL)
        have J2 : Hid (JOwn (w2.alloc (.cells #[] 3)) (R + 2) (.slice (some ⟨w2.heap.size, 0, none⟩) 0 0) []) := Lib.hid (by have h := own_empty w2 3 1 T0.out.size; exact h)
        obtain ⟨t1, t2, t3, t4, t5, t6, t7, t8⟩ := T2.out.c
        clear AL
        go_wp2_with (first
          | (at_builtin; refine push_ints (by rfl) (.tmp 13) (.tmp 20) (by rfl) (R + 2) _ _ [] zs (by rfl) J2.out (by rfl) (HYW.out _ T2.out.bel).2.1 (by have := HZL.out; have := HK24.out; rw [List.length_nil]; omega) T2.out.size ?_; intro v5 w5 j5 o5 l5; obtain ⟨p5, n5, c5, rfl, hn5⟩ := j5.shape; have J5 := Lib.hid j5; have T5 := Lib.hid (T2.out.kb (o5.below T2.out.size (fun k e => (J2.out.lt k e).1))); have AL5 := (Below.refl (R + 2) w5).alloc T5.out.size (.cells #[.int .i64 z] 3); have T6 := Lib.hid (T5.out.kb AL5); have J6 := Lib.hid (J5.out.alloc (.cells #[.int .i64 z] 3)); have HB6 := Lib.hid (heap_alloc_last w5 (.cells #[.int .i64 z] 3)); clear j5 o5 l5 AL5 hn5)
          | (at_builtin; refine push_int (by rfl) (.tmp 21) (.tmp 23) (by rfl) (R + 2) _ _ (by rfl) J6.out w5.heap.size (by rfl) z HB6.out T6.out.size (by have := HZL.out; have := HK24.out; rw [List.nil_append]; omega) ?_; intro g7 cap7 w7 j7 o7; have J7 := Lib.hid j7; have T7 := Lib.hid (T6.out.kb (o7.below T6.out.size (fun k e => (J6.out.lt k e).1))); obtain ⟨h1, h2, h3, h4, k1, k2, k3, k4⟩ := T7.out.c; obtain ⟨m1, m2, m3, m4, r1, r2, r3, r4⟩ := ((T7.out.setY (.slice (some ⟨g7, 0, none⟩) (([] ++ zs).length + 1) cap7)).1).c; clear j7 o7))
        go_meet
        case rel =>
          exact ⟨pm, nm, cm, po, 24, co, pm, nm, cm, some ⟨g7, 0, none⟩, _, cap7, xs, zs, xs, zs ++ [z], (((T7.out.setY _).1).setX _).1.xc, (((T7.out.setY _).1).setX _).1.yc, HX.out.kb (HR.out ▸ (((T7.out.setY _).1).setX _).1.bel), HYW.out _ (((T7.out.setY _).1).setX _).1.bel, HX.out.kb (HR.out ▸ (((T7.out.setY _).1).setX _).1.bel), RawN.own ((J7.out.far (by omega)).far (by omega)) (bnd_snoc (HYW.out w7 T7.out.bel).2.2 HZ.out), HR.out ▸ (((T7.out.setY _).1).setX _).1.bel, .inl ⟨rfl, rfl, rfl, by rw [HZL.out]; exact HK24.out⟩⟩
    | false =>
      by_cases hle : nm ≤ 24
      · have hli : (nm : Int) ≤ 24 := by omega
        have HYW := Lib.hid (fun (W : World) (b : Below R w W) => (HX.out.kb (HR.out ▸ b)).take (k := nm) (Nat.le_refl _))
        have HZL : Hid ((xs.take nm).length = nm) := Lib.hid (by rw [List.length_take]; have := HX.out.1; omega)
        have HK24 : Hid (nm ≤ 24) := Lib.hid (by omega)
        obtain ⟨zs, hzs⟩ : ∃ zs, zs = (xs.take nm) := ⟨_, rfl⟩
        rw [← hzs] at HYW HZL
        have HZS := Lib.hid hzs
        clear hzs
        have T1 := Lib.hid ((T0.out.setX (.slice none 0 0)).1.setY (.slice none 0 0)).1
        obtain ⟨g1, g2, g3, g4, g5, g6, g7, g8⟩ := T1.out.c
        have gg := (T0.out.setX (.slice none 0 0)).1.c
        have AL := (Below.refl (R + 2) ((w2.setCell ⟨R, 1, none⟩ (.slice none 0 0)).setCell ⟨R + 1, 1, none⟩ (.slice none 0 0))).alloc T1.out.size (.cells #[] 3)
        have T2 := Lib.hid (T1.out.kb AL)
        have J2 : Hid (JOwn (((w2.setCell ⟨R, 1, none⟩ (.slice none 0 0)).setCell ⟨R + 1, 1, none⟩ (.slice none 0 0)).alloc (.cells #[] 3)) (R + 2) (.slice (some ⟨w2.heap.size, 0, none⟩) 0 0) []) := Lib.hid (by have h := own_empty ((w2.setCell ⟨R, 1, none⟩ (.slice none 0 0)).setCell ⟨R + 1, 1, none⟩ (.slice none 0 0)) 3 1 T1.out.size; rw [show ((w2.setCell ⟨R, 1, none⟩ (.slice none 0 0)).setCell ⟨R + 1, 1, none⟩ (.slice none 0 0)).heap.size = w2.heap.size by simp] at h; exact h)
        obtain ⟨t1, t2, t3, t4, t5, t6, t7, t8⟩ := T2.out.c
        clear AL
        go_wp2_with (first
          | (at_builtin; refine push_ints (by rfl) (.tmp 36) (.tmp 43) (by rfl) (R + 2) _ _ [] zs (by rfl) J2.out (by rfl) (HYW.out _ T2.out.bel).2.1 (by have := HZL.out; have := HK24.out; rw [List.length_nil]; omega) T2.out.size ?_; intro v5 w5 j5 o5 l5; obtain ⟨p5, n5, c5, rfl, hn5⟩ := j5.shape; have J5 := Lib.hid j5; have T5 := Lib.hid (T2.out.kb (o5.below T2.out.size (fun k e => (J2.out.lt k e).1))); have AL5 := (Below.refl (R + 2) w5).alloc T5.out.size (.cells #[.int .i64 z] 3); have T6 := Lib.hid (T5.out.kb AL5); have J6 := Lib.hid (J5.out.alloc (.cells #[.int .i64 z] 3)); have HB6 := Lib.hid (heap_alloc_last w5 (.cells #[.int .i64 z] 3)); clear j5 o5 l5 AL5 hn5)
          | (at_builtin; refine push_int (by rfl) (.tmp 44) (.tmp 46) (by rfl) (R + 2) _ _ (by rfl) J6.out w5.heap.size (by rfl) z HB6.out T6.out.size (by have := HZL.out; have := HK24.out; rw [List.nil_append]; omega) ?_; intro g7 cap7 w7 j7 o7; have J7 := Lib.hid j7; have T7 := Lib.hid (T6.out.kb (o7.below T6.out.size (fun k e => (J6.out.lt k e).1))); obtain ⟨h1, h2, h3, h4, k1, k2, k3, k4⟩ := T7.out.c; obtain ⟨m1, m2, m3, m4, r1, r2, r3, r4⟩ := ((T7.out.setY (.slice (some ⟨g7, 0, none⟩) (([] ++ zs).length + 1) cap7)).2).c; clear j7 o7))
        go_meet
        case rel =>
          exact ⟨pm, nm, cm, none, 0, 0, some ⟨g7, 0, none⟩, _, cap7, none, 0, 0, zs, [], zs ++ [z], [], (((T7.out.setY _).2).setX _).2.xc, (((T7.out.setY _).2).setX _).2.yc, HYW.out _ (((T7.out.setY _).2).setX _).2.bel, RawN.nil _, RawN.own ((J7.out.far (by omega)).far (by omega)) (bnd_snoc (HYW.out w7 T7.out.bel).2.2 HZ.out), RawN.nil _, HR.out ▸ (((T7.out.setY _).2).setX _).2.bel, .inr ⟨rfl, rfl, rfl, rfl, by rw [HZL.out]; exact HK24.out⟩⟩
      · have hli : ¬ (nm : Int) ≤ 24 := by omega
        have hc24 : 24 ≤ cm := by omega
        have HYW := Lib.hid (fun (W : World) (b : Below R w W) => (HX.out.kb (HR.out ▸ b)).take (k := 24) (by omega))
        have HZL : Hid ((xs.take 24).length = 24) := Lib.hid (by rw [List.length_take]; have := HX.out.1; omega)
        have HK24 : Hid (24 ≤ 24) := Lib.hid (by omega)
        obtain ⟨zs, hzs⟩ : ∃ zs, zs = (xs.take 24) := ⟨_, rfl⟩
        rw [← hzs] at HYW HZL
        have HZS := Lib.hid hzs
        clear hzs
        have T1 := Lib.hid ((T0.out.setX (.slice none 0 0)).1.setY (.slice none 0 0)).1
        obtain ⟨g1, g2, g3, g4, g5, g6, g7, g8⟩ := T1.out.c
        have gg := (T0.out.setX (.slice none 0 0)).1.c
        have AL := (Below.refl (R + 2) ((w2.setCell ⟨R, 1, none⟩ (.slice none 0 0)).setCell ⟨R + 1, 1, none⟩ (.slice none 0 0))).alloc T1.out.size (.cells #[] 3)
        have T2 := Lib.hid (T1.out.kb AL)
        have J2 : Hid (JOwn (((w2.setCell ⟨R, 1, none⟩ (.slice none 0 0)).setCell ⟨R + 1, 1, none⟩ (.slice none 0 0)).alloc (.cells #[] 3)) (R + 2) (.slice (some ⟨w2.heap.size, 0, none⟩) 0 0) []) := Lib.hid (by have h := own_empty ((w2.setCell ⟨R, 1, none⟩ (.slice none 0 0)).setCell ⟨R + 1, 1, none⟩ (.slice none 0 0)) 3 1 T1.out.size; rw [show ((w2.setCell ⟨R, 1, none⟩ (.slice none 0 0)).setCell ⟨R + 1, 1, none⟩ (.slice none 0 0)).heap.size = w2.heap.size by simp] at h; exact h)
        obtain ⟨t1, t2, t3, t4, t5, t6, t7, t8⟩ := T2.out.c
        clear AL
        go_wp2_with (first
          | (at_builtin; refine push_ints (by rfl) (.tmp 36) (.tmp 43) (by rfl) (R + 2) _ _ [] zs (by rfl) J2.out (by rfl) (HYW.out _ T2.out.bel).2.1 (by have := HZL.out; have := HK24.out; rw [List.length_nil]; omega) T2.out.size ?_; intro v5 w5 j5 o5 l5; obtain ⟨p5, n5, c5, rfl, hn5⟩ := j5.shape; have J5 := Lib.hid j5; have T5 := Lib.hid (T2.out.kb (o5.below T2.out.size (fun k e => (J2.out.lt k e).1))); have AL5 := (Below.refl (R + 2) w5).alloc T5.out.size (.cells #[.int .i64 z] 3); have T6 := Lib.hid (T5.out.kb AL5); have J6 := Lib.hid (J5.out.alloc (.cells #[.int .i64 z] 3)); have HB6 := Lib.hid (heap_alloc_last w5 (.cells #[.int .i64 z] 3)); clear j5 o5 l5 AL5 hn5)
          | (at_builtin; refine push_int (by rfl) (.tmp 44) (.tmp 46) (by rfl) (R + 2) _ _ (by rfl) J6.out w5.heap.size (by rfl) z HB6.out T6.out.size (by have := HZL.out; have := HK24.out; rw [List.nil_append]; omega) ?_; intro g7 cap7 w7 j7 o7; have J7 := Lib.hid j7; have T7 := Lib.hid (T6.out.kb (o7.below T6.out.size (fun k e => (J6.out.lt k e).1))); obtain ⟨h1, h2, h3, h4, k1, k2, k3, k4⟩ := T7.out.c; obtain ⟨m1, m2, m3, m4, r1, r2, r3, r4⟩ := ((T7.out.setY (.slice (some ⟨g7, 0, none⟩) (([] ++ zs).length + 1) cap7)).2).c; clear j7 o7))
        go_meet
        case rel =>
          exact ⟨pm, 24, cm, none, 0, 0, some ⟨g7, 0, none⟩, _, cap7, none, 0, 0, zs, [], zs ++ [z], [], (((T7.out.setY _).2).setX _).2.xc, (((T7.out.setY _).2).setX _).2.yc, HYW.out _ (((T7.out.setY _).2).setX _).2.bel, RawN.nil _, RawN.own ((J7.out.far (by omega)).far (by omega)) (bnd_snoc (HYW.out w7 T7.out.bel).2.2 HZ.out), RawN.nil _, HR.out ▸ (((T7.out.setY _).2).setX _).2.bel, .inr ⟨rfl, rfl, rfl, rfl, by rw [HZL.out]; exact HK24.out⟩⟩
  case rest =>
    obtain ⟨p1, n1, c1, q1, m1, d1, p2, n2, c2, q2, m2, d2, xs1, ys1, xs2, ys2, e1, e2, r1, r2, r3, r4, bel, hcase⟩ := hcut
    have HR1 := Lib.hid r1
    have HR2 := Lib.hid r2
    have HR3 := Lib.hid r3
    have HR4 := Lib.hid r4
    have BE := Lib.hid bel
    have HCA := Lib.hid hcase
    have HE2 := Lib.hid e2
    have hl0 := cell_ob5 e1 0 rfl
    have hl1 := cell_ob5 e1 1 rfl
    clear e1 e2 r1 r2 r3 r4 bel hcase T0 HX HY hco hcm
    go_wp2_with fail
    refine (table_to _ 0 (Nat.zero_le _) p1 n1 c1 q1 m1 d1 xs1 ys1 HR1.out HR2.out).mono ?_
    rintro e w3 ⟨pA, nA, cA, qA, mA, dA, XA, ZA, rfl, la1, la2, hA1, hA2, b3⟩
    have HA1 := Lib.hid hA1
    have HA2 := Lib.hid hA2
    have SA1 := Lib.hid la1.seen
    have SA2 := Lib.hid la2.seen
    have HR3' := Lib.hid (HR3.out.kb b3)
    have HR4' := Lib.hid (HR4.out.kb b3)
    have B3 := Lib.hid (BE.out.trans (b3.mono BE.out.size))
    have HE3 := Lib.hid ((b3.block _ (Array.getElem?_eq_some_iff.1 HE2.out).1).trans HE2.out)
    clear la1 la2 hA1 hA2 b3 HR1 HR2 HR3 HR4 BE HE2 hl0 hl1
    go_wp2_with fail
    refine (plain_to w3 pA qA nA cA mA dA).mono ?_
    rintro e w4 ⟨rfl, b4⟩
    have SA14 := Lib.hid (SA1.out.kb b4)
    have SA24 := Lib.hid (SA2.out.kb b4)
    have HR34 := Lib.hid (HR3'.out.kb b4)
    have HR44 := Lib.hid (HR4'.out.kb b4)
    have B4 := Lib.hid (B3.out.trans (b4.mono B3.out.size))
    have HE4 := Lib.hid ((b4.block _ (Array.getElem?_eq_some_iff.1 HE3.out).1).trans HE3.out)
    clear b4 SA1 SA2 HR3' HR4' B3 HE3
    go_wp2_with fail
    have FA := Lib.hid (raw_fit HA1.out HA2.out SA14.out.len.1 SA24.out.len.1)
    refine (build_to5 w4 0 (Nat.zero_le _) _ _ pA qA nA cA mA dA SA14.out SA24.out FA.out.1 FA.out.2).mono ?_
    rintro e w5 ⟨v5, YA, rfl, g5, hy5, hyn5, b5⟩
    have GA := Lib.hid (hy5 (raw_ok' HA1.out HA2.out) ▸ g5.seen)
    obtain ⟨pa, na, ca, rfl, hna⟩ := g5.shape
    have HNA : Hid (na = (flt (XA.map (·.2)) (ZA.map (·.2))).length) := Lib.hid (by obtain ⟨_, _, e, _⟩ := GA.out; injection e)
    have HR35 := Lib.hid (HR34.out.kb b5)
    have HR45 := Lib.hid (HR44.out.kb b5)
    have B5 := Lib.hid (B4.out.trans (b5.mono B4.out.size))
    have he5 := (b5.block _ (Array.getElem?_eq_some_iff.1 HE4.out).1).trans HE4.out
    have hl0 := cell_ob5 he5 0 rfl
    have hl1 := cell_ob5 he5 1 rfl
    clear g5 hy5 hyn5 b5 hna SA14 SA24 HR34 HR44 B4 HE4 he5
    go_wp2_with fail
    refine (table_to _ 0 (Nat.zero_le _) p2 n2 c2 q2 m2 d2 xs2 ys2 HR35.out HR45.out).mono ?_
    rintro e w6 ⟨pB, nB, cB, qB, mB, dB, XB, ZB, rfl, lb1, lb2, hB1, hB2, b6⟩
    have HB1 := Lib.hid hB1
    have HB2 := Lib.hid hB2
    have SB1 := Lib.hid lb1.seen
    have SB2 := Lib.hid lb2.seen
    have GA6 := Lib.hid (GA.out.kb b6)
    have B6 := Lib.hid (B5.out.trans (b6.mono B5.out.size))
    clear lb1 lb2 hB1 hB2 b6 HR35 HR45 B5 hl0 hl1 GA
    go_wp2_with fail
    refine (plain_to w6 pB qB nB cB mB dB).mono ?_
    rintro e w7 ⟨rfl, b7⟩
    have SB17 := Lib.hid (SB1.out.kb b7)
    have SB27 := Lib.hid (SB2.out.kb b7)
    have GA7 := Lib.hid (GA6.out.kb b7)
    have B7 := Lib.hid (B6.out.trans (b7.mono B6.out.size))
    clear b7 SB1 SB2 B6 GA6
    go_wp2_with fail
    have FB := Lib.hid (raw_fit HB1.out HB2.out SB17.out.len.1 SB27.out.len.1)
    refine (build_to5 w7 0 (Nat.zero_le _) _ _ pB qB nB cB mB dB SB17.out SB27.out FB.out.1 FB.out.2).mono ?_
    rintro e w8 ⟨v8, YB, rfl, g8, hy8, hyn8, b8⟩
    have GB := Lib.hid (hy8 (raw_ok' HB1.out HB2.out) ▸ g8.seen)
    obtain ⟨pb, nb, cb, rfl, hnb⟩ := g8.shape
    have HNB : Hid (nb = (flt (XB.map (·.2)) (ZB.map (·.2))).length) := Lib.hid (by obtain ⟨_, _, e, _⟩ := GB.out; injection e)
    have GA8 := Lib.hid (GA7.out.kb b8)
    have B8 := Lib.hid (B7.out.trans (b8.mono B7.out.size))
    have HG := Lib.hid (grw_tab HCA.out HA1.out HA2.out HB1.out HB2.out)
    have HFA := Lib.hid (flt_fit HA1.out HA2.out)
    have HPL := Lib.hid (flt_par (raw_ok' HA1.out HA2.out))
    generalize flt (XA.map (·.2)) (ZA.map (·.2)) = A at *
    generalize flt (XB.map (·.2)) (ZB.map (·.2)) = C at *
    clear g8 hy8 hyn8 b8 hnb SB17 SB27 B7 GA7 FA FB HA1 HA2 HB1 HB2 HCA
    go_wp2_with fail
    refine (known14_to w8).mono ?_
    rintro e w9 ⟨rfl, b9⟩
    have HS : Hid (GS 0 w9 (.slice pa na ca) A ∧ GS 0 w9 (.slice pb nb cb) C ∧ Below w.heap.size w w9) := Lib.hid ⟨GA8.out.kb b9, GB.out.kb b9, B8.out.trans (b9.mono B8.out.size)⟩
    clear b9 GA8 GB B8
    have hlen := grw_len HG.out
    rw [← HNA.out, ← HNB.out] at hlen
    have HLEN := Lib.hid hlen
    have HNF : Hid (na ≤ 50) := Lib.hid (by rw [HNA.out]; exact HFA.out)
    have d1 : decide ((nb : Int) < na) = false := by simp; omega
    have d1' : decide (nb < na) = false := by simp; omega
    have hw1 : wrap64 ((na : Int) + 1) = ((na + 1 : Nat) : Int) := by have := HNF.out; unfold wrap64; omega
    have d2 : decide ((nb : Int) > ((na + 1 : Nat) : Int)) = false := by simp; omega
    have d2' : decide (((na + 1 : Nat) : Int) < (nb : Int)) = false := by simp; omega
    have d2'' : decide ((na : Int) + 1 < (nb : Int)) = false := by simp; omega
    have d2q : decide (na + 1 < nb) = false := by simp; omega
    clear hlen
    go_wp2_with fail
    clear d1 d1' d2 d2' d2'' d2q hw1
    go_loopw [10] (fun v10 wr => ∃ i : Nat, i ≤ na ∧ v10 = .int .i64 i ∧ Hid (i = na → nb = na + 1) ∧ Hid (GS 0 wr (.slice pa na ca) A ∧ GS 0 wr (.slice pb nb cb) C ∧ Below w.heap.size w wr)) (fun v10 _ => na - (intOf v10).toNat)
    case atStart => exact ⟨0, Nat.zero_le _, rfl, Lib.hid (fun h => by rw [HNA.out, HNB.out]; exact grw_nil HG.out (by rw [← HNA.out]; exact h.symm)), HS⟩
    case round =>
      clear HS
      obtain ⟨i, hi, rfl, HNI, HS⟩ := hrel
      by_cases hlt : i < na
      · obtain ⟨j1, j2, j3⟩ := next5 hlt (Nat.le_trans HNF.out (by decide))
        obtain ⟨m1, hm1⟩ : ∃ m1, na = m1 + 1 := ⟨na - 1, by omega⟩
        have hw2 : wrap64 ((na : Int) - 1) = (m1 : Int) := by have := HNF.out; unfold wrap64; omega
        have hiA : i < A.length := by rw [← HNA.out]; exact hlt
        have hiC : i < C.length := by rw [← HNB.out]; have := HLEN.out; omega
        have j4 : (i : Int) < nb := by have := HLEN.out; omega
        have HLT := Lib.hid hlt
        have hpa : ∃ g o, pa = some ⟨g, o, none⟩ := by obtain ⟨b0, o0, _, e, _⟩ := HS.out.1.at hiA; exact ⟨b0, o0, e⟩
        have hpb : ∃ g o, pb = some ⟨g, o, none⟩ := by obtain ⟨b0, o0, _, e, _⟩ := HS.out.2.1.at hiC; exact ⟨b0, o0, e⟩
        have hgs := gsize
        by_cases him : i = m1
        · have e1 : ((i : Int) == (m1 : Int)) = true := by simp; omega
          have e1' : (i == m1) = true := by simp; omega
          by_cases hnn : nb = na
          · have e2 : ((nb : Int) == (na : Int)) = true := by simp; omega
            have e2' : (nb == na) = true := by simp; omega
            obtain ⟨s, HSA, HSC, hbd⟩ := grw_line HG.out (i := i) (by rw [← HNA.out, ← HNB.out]; exact hnn) (by rw [← HNA.out]; omega)
            obtain ⟨ba, oa, xa, rfl, ra, ja⟩ := HS.out.1.at (j := i) hiA
            obtain ⟨bb, ob, xb, rfl, rb, jb⟩ := HS.out.2.1.at (j := i) hiC
            rw [(List.getElem?_eq_some_iff.1 HSA).2] at ra
            rw [(List.getElem?_eq_some_iff.1 HSC).2] at rb
            have hwh : wrap64 (s.hi + 1) = s.hi + 1 := by unfold wrap64; omega
            have za := fun m => sg_cells (show (wr.drewN m).rangeAt ba (oa + i * 5) (s.row xa) from ra)
            have zb := fun m => sg_cells (show (wr.drewN m).rangeAt bb (ob + i * 5) (Sg.row xb { s with hi := s.hi + 1 }) from rb)
            have a0 := fun m => (za m).1
            have a1 := fun m => (za m).2.1
            have a3 := fun m => (za m).2.2.2.1
            have a4 := fun m => (za m).2.2.2.2
            have b0 := fun m => (zb m).1
            have b1 := fun m => (zb m).2.1
            have b3 := fun m => (zb m).2.2.2.1
            have b4 := fun m => (zb m).2.2.2.2
            simp only at b0 b1 b3 b4
            clear hnn him hm1 HSA HSC hbd ra rb ja jb za zb hiA hiC hpa hpb hlt hi
            go_wp2_with fail
            go_quiet (fail)
            go_wp2_with fail
            go_ret
            exact ⟨by first | rfl | simp, HS.out.2.2.trans ((drewN_below wr _).mono HS.out.2.2.size)⟩
          · have e2 : ((nb : Int) == (na : Int)) = false := by simp; omega
            have e2' : (nb == na) = false := by simp; omega
            obtain ⟨s, hsA, hsC⟩ := grw_same HG.out (i := i) hiA (.inl (by rw [← HNA.out, ← HNB.out]; exact hnn))
            have HSA := Lib.hid hsA
            have HSC := Lib.hid hsC
            have HNEXT : Hid (i + 1 = na → nb = na + 1) := Lib.hid (fun _ => by have := HLEN.out; omega)
            clear hsA hsC hnn him hm1 hpa hpb hi hlt
            obtain ⟨ba, oa, xa, ea, ra, ja⟩ := HS.out.1.at (j := i) hiA
            obtain ⟨bb, ob, xb, eb, rb, jb⟩ := HS.out.2.1.at (j := i) hiC
            have hsa : A[i] = s := (List.getElem?_eq_some_iff.1 HSA.out).2
            have hsb : C[i] = s := (List.getElem?_eq_some_iff.1 HSC.out).2
            rw [hsa] at ra ja
            rw [hsb] at rb jb
            subst ea eb
            obtain ⟨pxa, cxa, rfl⟩ := ja.form
            obtain ⟨pxb, cxb, rfl⟩ := jb.form
            obtain ⟨np, hnp⟩ : ∃ np, np = s.par.length := ⟨_, rfl⟩
            rw [← hnp] at ra ja rb jb
            have bq : Below wr.heap.size wr wr.drew := drew_below wr
            have HSq := Lib.hid (show GS 0 wr.drew _ A ∧ GS 0 wr.drew _ C ∧ Below w.heap.size w wr.drew from ⟨HS.out.1.kb bq, HS.out.2.1.kb bq, HS.out.2.2.trans (bq.mono HS.out.2.2.size)⟩)
            have JA := Lib.hid (ja.kb bq)
            have JB := Lib.hid (jb.kb bq)
            have RA := Lib.hid (rng_kb5 ra bq)
            have RB := Lib.hid (rng_kb5 rb bq)
            have HNP := Lib.hid hnp
            clear hsa hsb ra ja rb jb hnp bq hiA hiC
            go_wp2_with fail
            try simp only [List.append]
            refine wp_region_noPanic ?_
            refine wp_region_held_drew (S := (fun V => (V.cell? ⟨ba, oa + i * 5, none⟩ = some (.int .i64 s.lo) ∧ V.cell? ⟨ba, oa + i * 5 + 1, none⟩ = some (.int .i64 s.hi) ∧ V.cell? ⟨ba, oa + i * 5 + 2, none⟩ = some (.slice pxa np cxa) ∧ V.cell? ⟨ba, oa + i * 5 + 3, none⟩ = some (.bool s.root) ∧ V.cell? ⟨ba, oa + i * 5 + 4, none⟩ = some (.bool s.head)) ∧ (V.cell? ⟨bb, ob + i * 5, none⟩ = some (.int .i64 s.lo) ∧ V.cell? ⟨bb, ob + i * 5 + 1, none⟩ = some (.int .i64 s.hi) ∧ V.cell? ⟨bb, ob + i * 5 + 2, none⟩ = some (.slice pxb np cxb) ∧ V.cell? ⟨bb, ob + i * 5 + 3, none⟩ = some (.bool s.root) ∧ V.cell? ⟨bb, ob + i * 5 + 4, none⟩ = some (.bool s.head)))) (by kernel_rfl) ⟨sg_cells RA.out, sg_cells RB.out⟩ (fun hHeld => ?_)
            generalize wr.drew = cw at *
            refine wpAnyH_take (i := 0) (v := ?_) (by simp only [List.getElem?_toArray, List.getElem?_cons_zero]; rfl) (by kernel_rfl) (by kernel_rfl) (by kernel_rfl) (fun _ _ _ h => h) (Or.inl ⟨by rfl, ?_⟩) (by assumption) ?_
            rotate_left
            · intro w hSw
              try dsimp only at hSw
              go_simp
              try with_reducible rfl
            try simp only [Act.put, List.setIfInBounds_toArray, List.set_cons_zero, List.set_cons_succ]
            refine wpAnyH_take (i := 1) (v := ?_) (by simp only [List.getElem?_toArray, List.getElem?_cons_succ, List.getElem?_cons_zero]; rfl) (by kernel_rfl) (by kernel_rfl) (by kernel_rfl) (fun _ _ _ h => h) (Or.inl ⟨by rfl, ?_⟩) (by assumption) ?_
            rotate_left
            · intro w hSw
              try dsimp only at hSw
              go_simp
              try with_reducible rfl
            try simp only [Act.put, List.setIfInBounds_toArray, List.set_cons_zero, List.set_cons_succ]
            refine wpAnyH_take (i := 2) (v := ?_) (by simp only [List.getElem?_toArray, List.getElem?_cons_succ, List.getElem?_cons_zero]; rfl) (by kernel_rfl) (by kernel_rfl) (by kernel_rfl) (fun _ _ _ h => h) (Or.inl ⟨by rfl, ?_⟩) (by assumption) ?_
            rotate_left
            · intro w hSw
              try dsimp only at hSw
              go_simp
              try with_reducible rfl
            try simp only [Act.put, List.setIfInBounds_toArray, List.set_cons_zero, List.set_cons_succ]
            refine wpAnyH_take (i := 3) (v := ?_) (by simp only [List.getElem?_toArray, List.getElem?_cons_succ, List.getElem?_cons_zero]; rfl) (by kernel_rfl) (by kernel_rfl) (by kernel_rfl) (fun _ _ _ h => h) (Or.inl ⟨by rfl, ?_⟩) (by assumption) ?_
            rotate_left
            · intro w hSw
              try dsimp only at hSw
              go_simp
              try with_reducible rfl
            try simp only [Act.put, List.setIfInBounds_toArray, List.set_cons_zero, List.set_cons_succ]
            refine wpAnyH_take (i := 4) (v := ?_) (by simp only [List.getElem?_toArray, List.getElem?_cons_succ, List.getElem?_cons_zero]; rfl) (by kernel_rfl) (by kernel_rfl) (by kernel_rfl) (fun _ _ _ h => h) (Or.inl ⟨by rfl, ?_⟩) (by assumption) ?_
            rotate_left
            · intro w hSw
              try dsimp only at hSw
              go_simp
              try with_reducible rfl
            try simp only [Act.put, List.setIfInBounds_toArray, List.set_cons_zero, List.set_cons_succ]
            refine wpAnyH_take (i := 5) (v := ?_) (by simp only [List.getElem?_toArray, List.getElem?_cons_succ, List.getElem?_cons_zero]; rfl) (by kernel_rfl) (by kernel_rfl) (by kernel_rfl) (fun _ _ _ h => h) (Or.inl ⟨by rfl, ?_⟩) (by assumption) ?_
            rotate_left
            · intro w hSw
              try dsimp only at hSw
              go_simp
              try with_reducible rfl
            try simp only [Act.put, List.setIfInBounds_toArray, List.set_cons_zero, List.set_cons_succ]
            refine wpAnyH_take (i := 6) (v := ?_) (by simp only [List.getElem?_toArray, List.getElem?_cons_succ, List.getElem?_cons_zero]; rfl) (by kernel_rfl) (by kernel_rfl) (by kernel_rfl) (fun _ _ _ h => h) (Or.inl ⟨by rfl, ?_⟩) (by assumption) ?_
            rotate_left
            · intro w hSw
              try dsimp only at hSw
              go_simp
              try with_reducible rfl
            try simp only [Act.put, List.setIfInBounds_toArray, List.set_cons_zero, List.set_cons_succ]
            refine wpAnyH_take (i := 7) (v := ?_) (by simp only [List.getElem?_toArray, List.getElem?_cons_succ, List.getElem?_cons_zero]; rfl) (by kernel_rfl) (by kernel_rfl) (by kernel_rfl) (fun _ _ _ h => h) (Or.inl ⟨by rfl, ?_⟩) (by assumption) ?_
            rotate_left
            · intro w hSw
              try dsimp only at hSw
              go_simp
              try with_reducible rfl
            try simp only [Act.put, List.setIfInBounds_toArray, List.set_cons_zero, List.set_cons_succ]
            refine wpAnyH_ready (rs := [8]) (by kernel_rfl) (by simp) ?_
            refine AllReadyH.cons (by simp only [List.getElem?_toArray, List.getElem?_cons_succ, List.getElem?_cons_zero]; rfl) (fun K hK => ?_) AllReadyH.nil
            go_simp
            refine (sameSeg_to cw _ _ s s JA.out.1 JB.out.1 (HPL.out s (List.mem_of_getElem? HSA.out))).mono ?_
            rintro e w11 ⟨⟨r, rfl, hr⟩, b11⟩
            obtain rfl : r = true := by simpa using hr
            have HS11 := Lib.hid (show GS 0 w11 _ A ∧ GS 0 w11 _ C ∧ Below w.heap.size w w11 from ⟨HSq.out.1.kb b11, HSq.out.2.1.kb b11, HSq.out.2.2.trans (b11.mono HSq.out.2.2.size)⟩)
            have RA1 := rng_kb5 RA.out b11
            have RB1 := rng_kb5 RB.out b11
            clear hr b11
            go_wp2_with fail
            refine hK.out _ _ ⟨sg_cells RA1, sg_cells RB1⟩ (fun hHeld => ?_)
            clear hK K
            try simp only [Act.put, List.setIfInBounds_toArray, List.set_cons_zero, List.set_cons_succ]
            refine wpAnyH_take (i := 9) (v := ?_) (by simp only [List.getElem?_toArray, List.getElem?_cons_succ, List.getElem?_cons_zero]; rfl) (by kernel_rfl) (by kernel_rfl) (by kernel_rfl) (fun _ _ _ h => h) (Or.inl ⟨by rfl, ?_⟩) (by assumption) ?_
            rotate_left
            · intro w hSw
              try dsimp only at hSw
              go_simp
              try with_reducible rfl
            try simp only [Act.put, List.setIfInBounds_toArray, List.set_cons_zero, List.set_cons_succ]
            refine wpAnyH_done (by kernel_rfl) ?_ _
            refine NoPanic.normal ?_
            clear hHeld RA1 RB1
            go_wp2_with fail
            refine ⟨⟨i + 1, HLT.out, by first | rw [j1] | rfl, HNEXT, HS11⟩, ?_⟩
            first | (rw [j1]; exact meas5 HLT.out) | exact meas5 HLT.out
        · have e1 : ((i : Int) == (m1 : Int)) = false := by simp; omega
          have e1' : (i == m1) = false := by simp; omega
          obtain ⟨s, hsA, hsC⟩ := grw_same HG.out (i := i) hiA (.inr (by rw [← HNA.out]; omega))
          have HSA := Lib.hid hsA
          have HSC := Lib.hid hsC
          have HNEXT : Hid (i + 1 = na → nb = na + 1) := Lib.hid (fun h => by omega)
          clear hsA hsC him hm1 hpa hpb hi hlt
          obtain ⟨ba, oa, xa, ea, ra, ja⟩ := HS.out.1.at (j := i) hiA
          obtain ⟨bb, ob, xb, eb, rb, jb⟩ := HS.out.2.1.at (j := i) hiC
          have hsa : A[i] = s := (List.getElem?_eq_some_iff.1 HSA.out).2
          have hsb : C[i] = s := (List.getElem?_eq_some_iff.1 HSC.out).2
          rw [hsa] at ra ja
          rw [hsb] at rb jb
          subst ea eb
          obtain ⟨pxa, cxa, rfl⟩ := ja.form
          obtain ⟨pxb, cxb, rfl⟩ := jb.form
          obtain ⟨np, hnp⟩ : ∃ np, np = s.par.length := ⟨_, rfl⟩
          rw [← hnp] at ra ja rb jb
          have bq : Below wr.heap.size wr wr.drew := drew_below wr
          have HSq := Lib.hid (show GS 0 wr.drew _ A ∧ GS 0 wr.drew _ C ∧ Below w.heap.size w wr.drew from ⟨HS.out.1.kb bq, HS.out.2.1.kb bq, HS.out.2.2.trans (bq.mono HS.out.2.2.size)⟩)
          have JA := Lib.hid (ja.kb bq)
          have JB := Lib.hid (jb.kb bq)
          have RA := Lib.hid (rng_kb5 ra bq)
          have RB := Lib.hid (rng_kb5 rb bq)
          have HNP := Lib.hid hnp
          clear hsa hsb ra ja rb jb hnp bq hiA hiC
          go_wp2_with fail
          try simp only [List.append]
          refine wp_region_noPanic ?_
          refine wp_region_held_drew (S := (fun V => (V.cell? ⟨ba, oa + i * 5, none⟩ = some (.int .i64 s.lo) ∧ V.cell? ⟨ba, oa + i * 5 + 1, none⟩ = some (.int .i64 s.hi) ∧ V.cell? ⟨ba, oa + i * 5 + 2, none⟩ = some (.slice pxa np cxa) ∧ V.cell? ⟨ba, oa + i * 5 + 3, none⟩ = some (.bool s.root) ∧ V.cell? ⟨ba, oa + i * 5 + 4, none⟩ = some (.bool s.head)) ∧ (V.cell? ⟨bb, ob + i * 5, none⟩ = some (.int .i64 s.lo) ∧ V.cell? ⟨bb, ob + i * 5 + 1, none⟩ = some (.int .i64 s.hi) ∧ V.cell? ⟨bb, ob + i * 5 + 2, none⟩ = some (.slice pxb np cxb) ∧ V.cell? ⟨bb, ob + i * 5 + 3, none⟩ = some (.bool s.root) ∧ V.cell? ⟨bb, ob + i * 5 + 4, none⟩ = some (.bool s.head)))) (by kernel_rfl) ⟨sg_cells RA.out, sg_cells RB.out⟩ (fun hHeld => ?_)
          generalize wr.drew = cw at *
          refine wpAnyH_take (i := 0) (v := ?_) (by simp only [List.getElem?_toArray, List.getElem?_cons_zero]; rfl) (by kernel_rfl) (by kernel_rfl) (by kernel_rfl) (fun _ _ _ h => h) (Or.inl ⟨by rfl, ?_⟩) (by assumption) ?_
          rotate_left
          · intro w hSw
            try dsimp only at hSw
            go_simp
            try with_reducible rfl
          try simp only [Act.put, List.setIfInBounds_toArray, List.set_cons_zero, List.set_cons_succ]
          refine wpAnyH_take (i := 1) (v := ?_) (by simp only [List.getElem?_toArray, List.getElem?_cons_succ, List.getElem?_cons_zero]; rfl) (by kernel_rfl) (by kernel_rfl) (by kernel_rfl) (fun _ _ _ h => h) (Or.inl ⟨by rfl, ?_⟩) (by assumption) ?_
          rotate_left
          · intro w hSw
            try dsimp only at hSw
            go_simp
            try with_reducible rfl
          try simp only [Act.put, List.setIfInBounds_toArray, List.set_cons_zero, List.set_cons_succ]
          refine wpAnyH_take (i := 2) (v := ?_) (by simp only [List.getElem?_toArray, List.getElem?_cons_succ, List.getElem?_cons_zero]; rfl) (by kernel_rfl) (by kernel_rfl) (by kernel_rfl) (fun _ _ _ h => h) (Or.inl ⟨by rfl, ?_⟩) (by assumption) ?_
          rotate_left
          · intro w hSw
            try dsimp only at hSw
            go_simp
            try with_reducible rfl
          try simp only [Act.put, List.setIfInBounds_toArray, List.set_cons_zero, List.set_cons_succ]
          refine wpAnyH_take (i := 3) (v := ?_) (by simp only [List.getElem?_toArray, List.getElem?_cons_succ, List.getElem?_cons_zero]; rfl) (by kernel_rfl) (by kernel_rfl) (by kernel_rfl) (fun _ _ _ h => h) (Or.inl ⟨by rfl, ?_⟩) (by assumption) ?_
          rotate_left
          · intro w hSw
            try dsimp only at hSw
            go_simp
            try with_reducible rfl
          try simp only [Act.put, List.setIfInBounds_toArray, List.set_cons_zero, List.set_cons_succ]
          refine wpAnyH_take (i := 4) (v := ?_) (by simp only [List.getElem?_toArray, List.getElem?_cons_succ, List.getElem?_cons_zero]; rfl) (by kernel_rfl) (by kernel_rfl) (by kernel_rfl) (fun _ _ _ h => h) (Or.inl ⟨by rfl, ?_⟩) (by assumption) ?_
          rotate_left
          · intro w hSw
            try dsimp only at hSw
            go_simp
            try with_reducible rfl
          try simp only [Act.put, List.setIfInBounds_toArray, List.set_cons_zero, List.set_cons_succ]
          refine wpAnyH_take (i := 5) (v := ?_) (by simp only [List.getElem?_toArray, List.getElem?_cons_succ, List.getElem?_cons_zero]; rfl) (by kernel_rfl) (by kernel_rfl) (by kernel_rfl) (fun _ _ _ h => h) (Or.inl ⟨by rfl, ?_⟩) (by assumption) ?_
          rotate_left
          · intro w hSw
            try dsimp only at hSw
            go_simp
            try with_reducible rfl
          try simp only [Act.put, List.setIfInBounds_toArray, List.set_cons_zero, List.set_cons_succ]
          refine wpAnyH_take (i := 6) (v := ?_) (by simp only [List.getElem?_toArray, List.getElem?_cons_succ, List.getElem?_cons_zero]; rfl) (by kernel_rfl) (by kernel_rfl) (by kernel_rfl) (fun _ _ _ h => h) (Or.inl ⟨by rfl, ?_⟩) (by assumption) ?_
          rotate_left
          · intro w hSw
            try dsimp only at hSw
            go_simp
            try with_reducible rfl
          try simp only [Act.put, List.setIfInBounds_toArray, List.set_cons_zero, List.set_cons_succ]
          refine wpAnyH_take (i := 7) (v := ?_) (by simp only [List.getElem?_toArray, List.getElem?_cons_succ, List.getElem?_cons_zero]; rfl) (by kernel_rfl) (by kernel_rfl) (by kernel_rfl) (fun _ _ _ h => h) (Or.inl ⟨by rfl, ?_⟩) (by assumption) ?_
          rotate_left
          · intro w hSw
            try dsimp only at hSw
            go_simp
            try with_reducible rfl
          try simp only [Act.put, List.setIfInBounds_toArray, List.set_cons_zero, List.set_cons_succ]
          refine wpAnyH_ready (rs := [8]) (by kernel_rfl) (by simp) ?_
          refine AllReadyH.cons (by simp only [List.getElem?_toArray, List.getElem?_cons_succ, List.getElem?_cons_zero]; rfl) (fun K hK => ?_) AllReadyH.nil
          go_simp
          refine (sameSeg_to cw _ _ s s JA.out.1 JB.out.1 (HPL.out s (List.mem_of_getElem? HSA.out))).mono ?_
          rintro e w11 ⟨⟨r, rfl, hr⟩, b11⟩
          obtain rfl : r = true := by simpa using hr
          have HS11 := Lib.hid (show GS 0 w11 _ A ∧ GS 0 w11 _ C ∧ Below w.heap.size w w11 from ⟨HSq.out.1.kb b11, HSq.out.2.1.kb b11, HSq.out.2.2.trans (b11.mono HSq.out.2.2.size)⟩)
          have RA1 := rng_kb5 RA.out b11
          have RB1 := rng_kb5 RB.out b11
          clear hr b11
          go_wp2_with fail
          refine hK.out _ _ ⟨sg_cells RA1, sg_cells RB1⟩ (fun hHeld => ?_)
          clear hK K
          try simp only [Act.put, List.setIfInBounds_toArray, List.set_cons_zero, List.set_cons_succ]
          refine wpAnyH_take (i := 9) (v := ?_) (by simp only [List.getElem?_toArray, List.getElem?_cons_succ, List.getElem?_cons_zero]; rfl) (by kernel_rfl) (by kernel_rfl) (by kernel_rfl) (fun _ _ _ h => h) (Or.inl ⟨by rfl, ?_⟩) (by assumption) ?_
          rotate_left
          · intro w hSw
            try dsimp only at hSw
            go_simp
            try with_reducible rfl
          try simp only [Act.put, List.setIfInBounds_toArray, List.set_cons_zero, List.set_cons_succ]
          refine wpAnyH_done (by kernel_rfl) ?_ _
          refine NoPanic.normal ?_
          clear hHeld RA1 RB1
          go_wp2_with fail
          refine ⟨⟨i + 1, HLT.out, by first | rw [j1] | rfl, HNEXT, HS11⟩, ?_⟩
          first | (rw [j1]; exact meas5 HLT.out) | exact meas5 HLT.out
      · obtain rfl : i = na := Nat.le_antisymm hi (Nat.le_of_not_lt hlt)
        obtain rfl : nb = i + 1 := HNI.out rfl
        obtain ⟨s, HSC, hse, hsp⟩ := grw_last HG.out (by rw [← HNA.out, ← HNB.out])
        rw [← HNA.out] at HSC
        have hiC : i < C.length := (List.getElem?_eq_some_iff.1 HSC).1
        obtain ⟨bb, ob, xb, rfl, rb, jb⟩ := HS.out.2.1.at (j := i) hiC
        rw [(List.getElem?_eq_some_iff.1 HSC).2] at rb
        have hgs := gsize
        have hw3 : wrap64 (((i + 1 : Nat) : Int) - 1) = (i : Int) := by have := HNF.out; unfold wrap64; omega
        have hw4 : wrap64 (i : Int) = (i : Int) := by have := HNF.out; unfold wrap64; omega
        have hw5 : wrap64 ((i : Int) + 1) = (i : Int) + 1 := by have := HNF.out; unfold wrap64; omega
        have j4 : (i : Int) < ((i + 1 : Nat) : Int) := by omega
        have j4' : (i : Int) < (i : Int) + 1 := by omega
        have j2 : (0 : Int) ≤ i := Int.natCast_nonneg _
        have zb := fun m => sg_cells (show (wr.drewN m).rangeAt bb (ob + i * 5) (s.row xb) from rb)
        have b0 := fun m => (zb m).1
        have b1 := fun m => (zb m).2.1
        have hse' : (s.lo == s.hi) = true := by simpa using hse
        have HSP := Lib.hid hsp
        clear hse zb rb jb hiC HSC hlt hi hsp
        rcases HSP.out with hsp | hsp
        · have d5 : decide (s.lo < 1099511627776) = true := by simpa [spl] using hsp
          clear hsp
          go_wp2_with fail
          go_quiet (fail)
          go_wp2_with fail
          go_ret
          exact ⟨by first | rfl | simp, HS.out.2.2.trans ((drewN_below wr _).mono HS.out.2.2.size)⟩
        · subst hsp
          by_cases hsp : s.lo < 1099511627776
          · have d5 : decide (s.lo < 1099511627776) = true := by simpa using hsp
            clear hsp
            go_wp2_with fail
            go_quiet (fail)
            go_wp2_with fail
            go_ret
            exact ⟨by first | rfl | simp, HS.out.2.2.trans ((drewN_below wr _).mono HS.out.2.2.size)⟩
          · have d5 : decide (s.lo < 1099511627776) = false := by simpa using hsp
            clear hsp
            go_wp2_with fail
            go_quiet (fail)
            go_wp2_with fail
            go_ret
            exact ⟨by first | rfl | simp, HS.out.2.2.trans ((drewN_below wr _).mono HS.out.2.2.size)⟩
end Go.Proofs.Ytadglppplgeldaa
