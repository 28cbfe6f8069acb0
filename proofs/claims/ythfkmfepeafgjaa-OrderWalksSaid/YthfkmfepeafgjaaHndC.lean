/- What the hand's Request puts together: a commit, the request, what lies beside them. No condition. -/
import Derived.Test.YthfkmfepeafgjaaGphKn
import Derived.Test.YthfkmfepeafgjaaHexSm
import Derived.Test.YthfkmfepeafgjaaHndI
namespace Go.Proofs.Ythfkmfepeafgjaa
open Go.RowKit
open Go.Maps

/-- A commit that is being put together. -/
structure CI (W : World) (B cb : Nat) (h : Key) (u : Value) (ps : List Key) : Prop where
  cell : W.heap[cb]? = some (.cells (cmv h u) 49 (0, 0))
  own : HOwn W B u ps
  lo : B ≤ cb
  p32 : H32 ps
  hh : h.length = 32
theorem own_type {W : World} {B : Nat} {e : TypeId} {s : Nat} {v : Value} {n : Nat} {xs : List Value} (h : W.ownsRow B e s v n xs) {j : Nat} (hj : v.ownBlock = some j) : ∃ cs, W.heap[j]? = some (.cells cs e (0, 0)) ∧ B ≤ j := by
  rcases h.2 with ⟨rfl, _⟩ | ⟨g, cap, cur, rfl, hb, hg, _⟩
  · cases hj
  · injection hj with hj; subst hj; exact ⟨cur, hg, hb⟩
theorem own_apart {W : World} {B : Nat} {e t : TypeId} {s : Nat} {v : Value} {n : Nat} {xs : List Value} {b : Nat} {cs : Array Value} {f : Nat × Nat} (h : W.ownsRow B e s v n xs) (hb : W.heap[b]? = some (.cells cs t f)) (hne : t ≠ e) : v.ownBlock ≠ some b := fun hj => by
  obtain ⟨cs', h1, _⟩ := own_type h hj
  rw [h1] at hb
  injection hb with hb
  injection hb with _ hb _
  exact hne hb.symm
theorem own_keep {w w' : World} {B : Nat} {e : TypeId} {s : Nat} {v : Value} {n : Nat} {xs : List Value} {S : Nat → Prop} (h : w.ownsRow B e s v n xs) (ho : Only S w w') (hs : ∀ j, v.ownBlock = some j → ¬ S j) : w'.ownsRow B e s v n xs := by
  refine ⟨h.1, ?_⟩
  rcases h.2 with h1 | ⟨g, cap, cur, rfl, hb, hg, h3⟩
  · exact .inl h1
  · exact .inr ⟨g, cap, cur, rfl, hb, (ho.block g (Array.getElem?_eq_some_iff.1 hg).1 (hs g rfl)).trans hg, h3⟩
theorem own_below {w w' : World} {B : Nat} {e : TypeId} {s : Nat} {v : Value} {n : Nat} {xs : List Value} (h : w.ownsRow B e s v n xs) (k : Below w.heap.size w w') : w'.ownsRow B e s v n xs := own_keep (S := fun _ => False) h (Only.of_below k) (fun _ _ h => h)
theorem CI.kb {W W' : World} {B cb : Nat} {h : Key} {u : Value} {ps : List Key} (H : CI W B cb h u ps) (k : Below W.heap.size W W') : CI W' B cb h u ps :=
  ⟨(mild_below k).cells H.cell, own_below H.own k, H.lo, H.p32, H.hh⟩
theorem CI.par {W : World} {B cb : Nat} {h : Key} {u : Value} {ps : List Key} (H : CI W B cb h u ps) : W.cell? ⟨cb, 32, none⟩ = some u := cm_cell H.hh H.cell
theorem CI.free {W : World} {B cb : Nat} {h : Key} {u : Value} {ps : List Key} (H : CI W B cb h u ps) : W.frozen? ⟨cb, 32, none⟩ = false := frozen_of_row _ _ _ _ _ H.cell
theorem cmv_set {h : Key} (hh : h.length = 32) (u v : Value) : (cmv h u).setIfInBounds 32 v = cmv h v := by
  unfold cmv
  apply Array.ext_getElem?
  intro i
  have hs : (hv h).size = 32 := by rw [hv_size, hh]
  rw [Array.getElem?_setIfInBounds, Array.getElem?_push, Array.getElem?_push, hs, Array.size_push, hs]
  by_cases h1 : i = 32
  · subst h1; simp
  · simp [h1, show ¬ 32 = i from fun e => h1 e.symm]
/-- Its parents are set anew. -/
theorem CI.set {W : World} {B cb : Nat} {h : Key} {u v : Value} {ps qs : List Key} (H : CI W B cb h u ps) (o : HOwn W B v qs) (h32 : H32 qs) : CI (W.setCell ⟨cb, 32, none⟩ v) B cb h v qs := by
  refine ⟨?_, ?_, H.lo, h32, H.hh⟩
  · rw [heap_setCell_same W cb 32 _ _ _ H.cell, cmv_set H.hh]
  · exact own_keep (S := fun j => j = cb) o ((Only.refl (fun j => j = cb) W).setCell (p := ⟨cb, 32, none⟩) rfl _) (fun j hj e => own_apart o H.cell (by decide) (by rw [hj, e]))
theorem CI.mid {W W1 : World} {B cb : Nat} {h : Key} {u : Value} {ps : List Key} (H : CI W B cb h u ps) (oth : Only (fun j => u.ownBlock = some j) W W1) : W1.heap[cb]? = some (.cells (cmv h u) 49 (0, 0)) :=
  (oth.block cb (Array.getElem?_eq_some_iff.1 H.cell).1 (fun e => own_apart H.own H.cell (by decide) e)).trans H.cell
/-- A parent more. -/
theorem CI.push {W W1 : World} {B cb : Nat} {h : Key} {u v : Value} {ps : List Key} {x : Key} (H : CI W B cb h u ps) (o : HOwn W1 B v (ps ++ [x])) (oth : Only (fun j => u.ownBlock = some j) W W1) (hx : x.length = 32) :
    CI (W1.setCell ⟨cb, 32, none⟩ v) B cb h v (ps ++ [x]) ∧ Only (fun j => j = cb ∨ u.ownBlock = some j) W (W1.setCell ⟨cb, 32, none⟩ v) := by
  have h1 := H.mid oth
  refine ⟨⟨?_, ?_, H.lo, H.p32.app (H32.one hx), H.hh⟩, (oth.mono (T := fun j => j = cb ∨ u.ownBlock = some j) fun j _ hj => .inr hj).setCell (p := ⟨cb, 32, none⟩) (.inl rfl) _⟩
  · rw [heap_setCell_same W1 cb 32 _ _ _ h1, cmv_set H.hh]
  · exact own_keep (S := fun j => j = cb) o ((Only.refl (fun j => j = cb) W1).setCell (p := ⟨cb, 32, none⟩) rfl _) (fun j hj e => own_apart o h1 (by decide) (by rw [hj, e]))
/-- What lies beside: all that was there at W0; a block of another type; numbers. -/
structure YB (W W0 : World) (yb : Nat) (yc : Array Value) (yt : TypeId) (B8 : Nat) (v8 : Value) (l8 : List Int) : Prop where
  bel : Below W0.heap.size W0 W
  y : W.heap[yb]? = some (.cells yc yt (0, 0))
  yt : yt ≠ 28 ∧ yt ≠ 49
  p : IOwns W B8 v8 l8
theorem YB.kb {W W' W0 : World} {yb : Nat} {yc : Array Value} {yt : TypeId} {B8 : Nat} {v8 : Value} {l8 : List Int} (H : YB W W0 yb yc yt B8 v8 l8) (k : Below W.heap.size W W') : YB W' W0 yb yc yt B8 v8 l8 :=
  ⟨H.bel.trans (k.mono H.bel.size), (mild_below k).cells H.y, H.yt, own_below H.p k⟩
theorem YB.far {W W' W0 : World} {yb : Nat} {yc : Array Value} {yt : TypeId} {B8 : Nat} {v8 : Value} {l8 : List Int} {cb : Nat} {h : Key} {u : Value} {ps : List Key} (H : YB W W0 yb yc yt B8 v8 l8) (C : CI W W0.heap.size cb h u ps) (o : Only (fun j => j = cb ∨ u.ownBlock = some j) W W') : YB W' W0 yb yc yt B8 v8 l8 := by
  refine ⟨H.bel.trans (o.below H.bel.size (fun k hk => ?_)), ?_, H.yt, own_keep H.p o (fun j hj hs => ?_)⟩
  · rcases hk with rfl | hk
    · exact C.lo
    · exact (own_type C.own hk).choose_spec.2
  · refine (o.block yb (Array.getElem?_eq_some_iff.1 H.y).1 (fun e => ?_)).trans H.y
    rcases e with e | e
    · have := H.y; rw [e, C.cell] at this; injection this with this; injection this with _ this _; exact H.yt.2 this.symm
    · exact own_apart C.own H.y H.yt.1 e
  · rcases hs with e | e
    · exact own_apart H.p C.cell (by decide) (by rw [hj, e])
    · obtain ⟨cs, h1, _⟩ := own_type H.p hj
      exact own_apart C.own h1 (by decide) e
theorem YB.half {W W' W0 : World} {yb : Nat} {yc : Array Value} {yt : TypeId} {B8 : Nat} {v8 : Value} {l8 : List Int} {cb : Nat} {h : Key} {u : Value} {ps : List Key} (H : YB W W0 yb yc yt B8 v8 l8) (C : CI W W0.heap.size cb h u ps) (o : Only (fun j => u.ownBlock = some j) W W') : YB W' W0 yb yc yt B8 v8 l8 := H.far C (o.mono fun _ _ h => .inr h)
section
variable {ops : Array Oper} {a : Act} {Q : Exit → Act → World → Prop} {o : Oper} {w : World} {K : Act → World → Prop} {X : Prop}
theorem step_sl1 {dst : Option Tmp} {T : TypeId} {pos : String} {after : Array Edge} {gd : Option (Nat × Bool)} {x : Operand} (h : Key) (hh : h.length = 32) (hx : a.eval x = .agg (hv h)) (hw : Region.wanted ⟨dst, .buildSlice 25 1 #[(0, x)], T, pos, after, gd⟩ (yielded ops a.tmps) = true)
    (hK : K (a.put dst (.slice (some ⟨w.heap.size, 0, none⟩) 1 1)) (w.alloc (.cells (hv h) 28))) :
    if Region.wanted ⟨dst, .buildSlice 25 1 #[(0, x)], T, pos, after, gd⟩ (yielded ops a.tmps) = true then Oper.wp Try.prog ⟨dst, .buildSlice 25 1 #[(0, x)], T, pos, after, gd⟩ a w K Q else X := by
  rw [if_pos hw]
  unfold Oper.wp execOp
  simp only [Sem.run_bind, Sem.run_pure, Result.andThen_ok, List.map_toArray, List.map_cons, List.map_nil, hx, run_build_hash w h hh]
  exact hK
/-- append of one hash, in a region that draws. -/
theorem step_pushh (hgd : o.guard = none) (s x : Operand) (ho : o.op = .call { callee := .builtin .append, args := #[s, x], argTypes := #[25, 25] })
    (B : Nat) (v : Value) (l : List Key) (b : Nat) (k : Key) (hk : k.length = 32) (hs : a.eval s = v) (hown : HOwn w B v l) (hx : a.eval x = .slice (some ⟨b, 0, none⟩) 1 1) (hu : w.heap[b]? = some (.cells (hv k) 28 (0, 0))) (hl : l.length + 1 ≤ 1000000) (hB : B ≤ w.heap.size)
    (m : Nat) (hm : m = l.length + 1)
    (h : ∀ (p : Option Addr) (c : Nat) (w' : World), HOwn w' B (.slice p m c) (l ++ [k]) → Only (fun j => v.ownBlock = some j) w w' → (∀ j, (Value.slice p m c).ownBlock = some j → v.ownBlock = some j ∨ w.heap.size ≤ j) → K (a.put o.dst (.slice p m c)) w') :
    if Region.wanted o (yielded ops a.tmps) = true then Oper.wp Try.prog o a w K Q else X := by
  have hw : Region.wanted o (yielded ops a.tmps) = true := by simp [Region.wanted, hgd]
  rw [if_pos hw]
  obtain ⟨v', w', hr, h1, h2, h3⟩ := run_push_loc w o.type B v l b k hk hown (by have := range_row hu; rwa [hv_list] at this) (by omega) hB
  obtain ⟨p, c, rfl⟩ := own_shape h1
  rw [List.length_append, List.length_singleton, ← hm] at h1 h3 hr
  unfold Oper.wp execOp
  simp only [ho, resolve, invoke, builtin, Sem.run_bind, Sem.run_pure, Result.andThen_ok, List.map_toArray, List.map_cons, List.map_nil, hs, hx, hr]
  exact h p c w' h1 h2 h3
end
end Go.Proofs.Ythfkmfepeafgjaa
