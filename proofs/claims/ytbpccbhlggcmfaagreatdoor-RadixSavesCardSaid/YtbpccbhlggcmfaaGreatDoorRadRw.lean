/- append of rows of any element at a step of a region that draws; a slice of pairs of the call's own. No condition. -/
import Derived.Test.YtbpccbhlggcmfaaGreatDoorRadOm
namespace Go.Proofs.YtbpccbhlggcmfaaGreatDoor
open Go.RowKit
open Go.Maps

section
variable {ops : Array Oper} {o : Oper} {a : Act} {w : World} {K : Act → World → Prop} {Q : Exit → Act → World → Prop} {X : Prop}
theorem step_append_row {t e : TypeId} {i : TypeInfo} {z : Value} {size bytes : Nat} (hgd : o.guard = none) (s x : Operand)
    (ho : o.op = .call { callee := .builtin .append, args := #[s, x], argTypes := #[t, t] }) (ht : Tryz.prog.underlying t = some (.slice e)) (hi : Tryz.prog.info? e = some i) (hz : i.zero = some z)
    (hsize : i.size = size) (hby : i.bytes = bytes) (hzs : z.cells.size = size) (hsz : 0 < size) (base : Nat)
    (v : Value) (n : Nat) (xs : List Value) (hv : v ≠ .slice none 0 0) (hs : a.eval s = v) (hown : w.ownsRow base e size v n xs)
    (u : Value) (m : Nat) (news : List Value) (hx : a.eval x = u) (hu : (u = .slice none 0 0 ∧ m = 0 ∧ news = []) ∨ ∃ ad c, u = .slice (some ad) m c ∧ ∀ j y, news[j]? = some y → w.cell? (ad.add j) = some y)
    (hl : news.length = m * size) (h1 : ∀ u ∈ news, u.oneCell' = true) (h63 : n + m ≤ maxLen) (hbytes : (n + m) * bytes ≤ 140737488355328) (hbase : base ≤ w.heap.size)
    (h : ∀ g cap w', w'.ownsRow base e size (.slice (some ⟨g, 0, none⟩) (n + m) cap) (n + m) (xs ++ news) → w.grownBy w' v.ownBlock → (v.ownBlock = some g ∨ g = w.heap.size) → K (a.put o.dst (.slice (some ⟨g, 0, none⟩) (n + m) cap)) w') :
    if Region.wanted o (yielded ops a.tmps) = true then Oper.wp Tryz.prog o a w K Q else X := by
  have hw : Region.wanted o (yielded ops a.tmps) = true := by simp [Region.wanted, hgd]
  rw [if_pos hw]
  rcases hu with ⟨rfl, rfl, rfl⟩ | ⟨ad, cap, rfl, hu⟩
  · have hrun := run_append_owned_none (P := Tryz.prog) (w := w) base t o.type e i size ht hi v n xs hown
    unfold Oper.wp
    simp [execOp, ho, resolve, invoke, builtin, hs, hx, hrun, Result.andThen]
    rcases hown.2 with ⟨h2, _⟩ | ⟨g, cap, cur, rfl, _⟩
    · exact absurd h2 hv
    · exact h g cap w (by rw [List.append_nil]; exact hown) ⟨rfl, rfl, rfl, Nat.le_refl _, fun _ _ _ => rfl⟩ (.inl rfl)
  · obtain ⟨v', w', hr, h2, h3, h4, h5⟩ := run_append_own_at (P := Tryz.prog) w base t o.type e i z size bytes ht hi hz hsize hby hzs hsz v n xs hown ad m cap news hl hu h1 h63 hbytes hbase
    unfold Oper.wp execOp
    simp only [ho, resolve, invoke, builtin, Sem.run_bind, Sem.run_pure, Result.andThen_ok, List.map_toArray, List.map_cons, List.map_nil, hs, hx, hr]
    rcases h2.2 with ⟨h6, _⟩ | ⟨g, cap', cur, rfl, _⟩
    · exact absurd (h4.1 h6).1 hv
    · refine h g cap' w' h2 h3 ?_
      rcases h5 with h5 | h5
      · exact .inl (by rw [← h5]; rfl)
      · exact .inr (by simpa [Value.ownBlock] using h5)
/-- An empty slice is made. -/
theorem run_build_empty (w : World) {t e : TypeId} {parts : Array (Nat × Value)} (hp : parts = #[]) (ht : Tryz.prog.underlying t = some (.slice e)) {i : TypeInfo} (hi : Tryz.prog.info? e = some i) :
    (Instr.buildSlice t 0 parts).run Tryz.prog w = .ok (.slice (some ⟨w.heap.size, 0, none⟩) 0 0) (w.alloc (.cells #[] e)) := by
  subst hp
  simp [Instr.buildSlice, run_underlying ht, sizeOf, typeInfo, hi, newRow, Instr.fill]
  rw [show Array.map (fun _ : Nat => (default : Value)) (Array.range 0) = #[] from Array.eq_empty_of_size_eq_zero (by simp)]
theorem step_build_empty {t e : TypeId} (hgd : o.guard = none) (ho : o.op = .buildSlice t 0 #[]) (ht : Tryz.prog.underlying t = some (.slice e)) {i : TypeInfo} (hi : Tryz.prog.info? e = some i)
    (h : K (a.put o.dst (.slice (some ⟨w.heap.size, 0, none⟩) 0 0)) (w.alloc (.cells #[] e))) :
    if Region.wanted o (yielded ops a.tmps) = true then Oper.wp Tryz.prog o a w K Q else X := by
  have hw : Region.wanted o (yielded ops a.tmps) = true := by simp [Region.wanted, hgd]
  rw [if_pos hw]
  unfold Oper.wp execOp
  simp only [ho, Sem.run_bind, run_build_empty w (parts := (#[] : Array (Nat × Operand)).map fun (i, x) => (i, a.eval x)) (by simp) ht hi, Result.andThen_ok]
  exact h
end
theorem own_empty (w : World) {B : Nat} (e size : Nat) (hB : B ≤ w.heap.size) : (w.alloc (.cells #[] e)).ownsRow B e size (.slice (some ⟨w.heap.size, 0, none⟩) 0 0) 0 [] :=
  ⟨by simp, .inr ⟨w.heap.size, 0, #[], rfl, hB, heap_alloc_last w _, Nat.le_refl _, by simp [maxLen], by simp, by simp⟩⟩
def pzer : Array Value := #[.int .i64 0, .int .i64 0, .int .u8 0, .int .u8 0, .int .u8 0, .int .u8 0, .int .u8 0, .int .u8 0, .int .u8 0, .int .u8 0, .int .u8 0, .int .u8 0, .int .u8 0, .int .u8 0, .int .u8 0, .int .u8 0, .int .u8 0, .int .u8 0, .int .u8 0, .int .u8 0, .int .u8 0, .int .u8 0, .int .u8 0, .int .u8 0, .int .u8 0, .int .u8 0, .int .u8 0, .int .u8 0, .int .u8 0, .int .u8 0, .int .u8 0, .int .u8 0, .int .u8 0, .int .u8 0, .bool false]
theorem pzinfo : (Tryz.prog.info? 57).map (fun i => (i.zero, i.size, i.bytes)) = some (some (.agg pzer), 35, 56) := by kernel_rfl
theorem pr_size {x : Pr} (h : x.h.length = 32) : x.row.toArray.size = 35 := by rw [List.size_toArray, Pr.row_length h]
theorem pr_one (x : Pr) : x.row.toArray.all (·.oneCell') = true := by
  rw [List.all_toArray, List.all_eq_true]
  exact fun u hu => Pr.row_one u hu
theorem prinfo {x : Pr} (h : x.h.length = 32) : (Tryz.prog.info? 57).map (·.size) = some x.row.toArray.size := by rw [pr_size h]; kernel_rfl
/-- A pair is laid in a new variable. -/
theorem pst_cells {x : Pr} (h : x.h.length = 32) (w : World) :
    (storeCells ⟨w.heap.size, 0, none⟩ x.row.toArray.toList).run Tryz.prog (w.alloc (.cells #[.int .i64 0, .int .i64 0, .int .u8 0, .int .u8 0, .int .u8 0, .int .u8 0, .int .u8 0, .int .u8 0, .int .u8 0, .int .u8 0, .int .u8 0, .int .u8 0, .int .u8 0, .int .u8 0, .int .u8 0, .int .u8 0, .int .u8 0, .int .u8 0, .int .u8 0, .int .u8 0, .int .u8 0, .int .u8 0, .int .u8 0, .int .u8 0, .int .u8 0, .int .u8 0, .int .u8 0, .int .u8 0, .int .u8 0, .int .u8 0, .int .u8 0, .int .u8 0, .int .u8 0, .int .u8 0, .bool false] 57)) = .ok () (w.alloc (.cells x.row.toArray 57)) :=
  run_storeCells_new (P := Tryz.prog) w 57 pzer x.row.toArray (prinfo h) (by rw [pr_size h]; rfl) (pr_one x)
theorem fix_row (x : Pr) : x.fix.row = x.row.set 1 (.int .i64 (val9 x.hash)) := rfl
/-- The rows of pairs. -/
def prs (l : List Pr) : List Value := l.flatMap Pr.row
theorem prs_app (l m : List Pr) : prs (l ++ m) = prs l ++ prs m := List.flatMap_append ..
theorem prs_one (x : Pr) : prs [x] = x.row := by simp [prs]
theorem prs_length : ∀ {l : List Pr}, (∀ x ∈ l, x.h.length = 32) → (prs l).length = l.length * 35
  | [], _ => rfl
  | x :: l, h => by
    have ih := prs_length (l := l) fun y hy => h y (List.mem_cons_of_mem _ hy)
    unfold prs at ih ⊢
    rw [List.flatMap_cons, List.length_append, ih, Pr.row_length (h x List.mem_cons_self), List.length_cons]
    omega
theorem prs_cell (l : List Pr) : ∀ u ∈ prs l, u.oneCell' = true := fun u hu => by
  obtain ⟨x, _, hx⟩ := List.mem_flatMap.1 hu
  exact Pr.row_one u hx
theorem prs_at : ∀ {l : List Pr}, (∀ x ∈ l, x.h.length = 32) → ∀ {i : Nat} {x : Pr}, l[i]? = some x → ∀ (j : Nat) (v : Value), x.row[j]? = some v → (prs l)[i * 35 + j]? = some v
  | [], _, i, x, hx, _, _, _ => by simp at hx
  | y :: l, h, 0, x, hx, j, v, hv => by
    obtain rfl : y = x := by simpa using hx
    unfold prs
    rw [List.flatMap_cons, Nat.zero_mul, Nat.zero_add, List.getElem?_append_left (List.getElem?_eq_some_iff.1 hv).1]
    exact hv
  | y :: l, h, i + 1, x, hx, j, v, hv => by
    have ih := prs_at (l := l) (fun z hz => h z (List.mem_cons_of_mem _ hz)) (i := i) (by simpa using hx) j v hv
    have hy := Pr.row_length (h y List.mem_cons_self)
    unfold prs at ih ⊢
    rw [List.flatMap_cons, List.getElem?_append_right (by omega), hy, show (i + 1) * 35 + j - 35 = i * 35 + j from by omega]
    exact ih
theorem prs_take {l : List Pr} (h : ∀ x ∈ l, x.h.length = 32) (j : Nat) : prs (l.take j) = (prs l).take (j * 35) := by
  by_cases hj : j ≤ l.length
  · have h1 : (prs (l.take j)).length = j * 35 := by rw [prs_length fun x hx => h x (List.mem_of_mem_take hx), List.length_take]; omega
    have h2 : prs l = prs (l.take j) ++ prs (l.drop j) := by rw [← prs_app, List.take_append_drop]
    rw [h2]
    exact (List.take_left' h1).symm
  · rw [List.take_of_length_le (i := j) (l := l) (by omega), List.take_of_length_le (i := j * 35) (l := prs l) (by rw [prs_length h]; omega)]
theorem prs_drop {l : List Pr} (h : ∀ x ∈ l, x.h.length = 32) {j : Nat} (hj : j ≤ l.length) : prs (l.drop j) = (prs l).drop (j * 35) := by
  have h1 : (prs (l.take j)).length = j * 35 := by rw [prs_length fun x hx => h x (List.mem_of_mem_take hx), List.length_take]; omega
  have h2 : prs l = prs (l.take j) ++ prs (l.drop j) := by rw [← prs_app, List.take_append_drop]
  rw [h2, ← h1, List.drop_left]
/-- A slice of pairs of the call's own. -/
abbrev LOwn (w : World) (B : Nat) (v : Value) (l : List Pr) : Prop := w.ownsRow B 57 35 v l.length (prs l)
theorem LOwn.at {w : World} {B p c : Nat} {n : Nat} {l : List Pr} (h : LOwn w B (.slice (some ⟨p, 0, none⟩) n c) l) (h32 : ∀ x ∈ l, x.h.length = 32) {j : Nat} (hj : j < l.length) : w.rangeAt p (j * 35) l[j].row := fun i v hi => by
  have h1 := h.cells (g := p) rfl (j * 35 + i) v (prs_at h32 (List.getElem?_eq_getElem hj) i v hi)
  rwa [Addr.add_lit, Nat.zero_add] at h1
theorem pr_1 {W : World} {b : Nat} {x : Pr} {t : TypeId} (hb : W.heap[b]? = some (.cells x.row.toArray t (0, 0))) : W.cell? ⟨b, 1, none⟩ = some (.int .i64 x.v) := by
  rw [cell_of_row W b 1 _ _ _ hb, List.getElem?_toArray]; rfl
/-- A pair is loaded: one step. -/
noncomputable def pld (a : Addr) : Sem Value := loadVar 57 a
theorem pld_open (a : Addr) : loadVar 57 a = pld a := rfl
theorem pld_range {w : World} {p o : Nat} {x : Pr} (hx : x.h.length = 32) (hp : w.rangeAt p o x.row) : (pld ⟨p, o, none⟩).run Tryz.prog w = .ok (.agg x.row.toArray) w :=
  run_loadVar_mid (P := Tryz.prog) w p o 57 x.row _ hp Tryz.underlying57 rfl (by rw [Pr.row_length hx]; kernel_rfl)
theorem pld_row {w : World} {p : Nat} {x : Pr} (hx : x.h.length = 32) (hp : w.heap[p]? = some (.cells x.row.toArray 57 (0, 0))) : (pld ⟨p, 0, none⟩).run Tryz.prog w = .ok (.agg x.row.toArray) w :=
  pld_range hx (by have := range_row hp; simpa using this)
section
variable {ops : Array Oper} {rest : List Oper} {a : Act} {w : World} {Q : Exit → Act → World → Prop} {dst : Option Tmp} {T : TypeId} {pos : String} {after : Array Edge}
theorem build_pair {x : Pr} {parts : Array (Nat × Operand)} (hx : x.h.length = 32) (hv' : (parts.map fun (i, x) => (i, a.eval x)).toList = [(0, Value.agg x.row.toArray)])
    (h : wpList Tryz.prog ops Q rest (a.put dst (.slice (some ⟨w.heap.size, 0, none⟩) 1 1)) (w.alloc (.cells x.row.toArray 57))) : wpList Tryz.prog ops Q (⟨dst, .buildSlice 54 1 parts, T, pos, after, none⟩ :: rest) a w := by
  obtain ⟨i0, hi0, hz0, hz1, hz2⟩ := info_parts pzinfo
  refine wpList_buildSlice rfl 54 57 1 parts rfl x.row.toArray i0 (.agg pzer) Tryz.underlying54 hi0 hz0 (by rw [hz1]; decide) (by rw [hz1]; decide) ?_ h
  rw [hv', hz1]
  have := Great.fill_whole (s := 35) (by decide) [Value.agg x.row.toArray] ((Array.range (1 * 35)).map ((Value.agg pzer).cells[· % (Value.agg pzer).cells.size]!)) (fun v hvm => by
    rw [List.mem_singleton.1 hvm]
    exact pr_size hx) (by simp)
  simp at this ⊢
  exact this
end
/-- What is of another type is none of a tree's, or of what was put. -/
theorem CT.no {W : World} {B tb : Nat} {T : Nd} {ρ : Nat → Nat} {k : En} (H : CT W B tb T ρ k) {j : Nat} {cs : Array Value} {t : TypeId} (hj : W.heap[j]? = some (.cells cs t (0, 0))) (h1 : t ≠ 91) (h2 : t ≠ 168) (h3 : t ≠ 66) : ¬ (j = tb ∨ T.Bl j) := by
  rintro (rfl | h)
  · have := H.tt.top
    rw [hj] at this
    injection this with this
    injection this with _ this
    exact h3 this
  · obtain ⟨cs', t', e1, e2⟩ := H.tt.ta.ty j h
    rw [hj] at e1
    injection e1 with e1
    injection e1 with _ e1
    subst e1
    exact e2.elim h1 h2
theorem KX.no {W : World} {B kb : Nat} {vh vn : Value} {E : List (List UInt8)} {l : List Int} (K : KX W B kb vh vn E l) {j : Nat} {cs : Array Value} {t : TypeId} (hj : W.heap[j]? = some (.cells cs t (0, 0))) (h1 : t ≠ 52) (h2 : t ≠ 36) (h3 : t ≠ 3) : ¬ (j = kb ∨ vh.ownBlock = some j ∨ vn.ownBlock = some j) := by
  rintro (rfl | h | h)
  · have := K.cell
    rw [hj] at this
    injection this with this
    injection this with _ this
    exact h1 this
  · obtain ⟨ds, hds⟩ := row_type9 K.hs h
    rw [hj] at hds
    injection hds with hds
    injection hds with _ hds
    exact h2 hds
  · obtain ⟨ds, hds⟩ := row_type9 K.ns h
    rw [hj] at hds
    injection hds with hds
    injection hds with _ hds
    exact h3 hds
section
variable {w W W' : World} {B d l tb kb : Nat} {S S' : Nat → Prop} {s s' : St} {nm : Key} {R R' : List Rc} {T : Nd} {ρ : Nat → Nat} {k k2 : En} {vh vn v : Value} {L : List Pr}
/-- Other blocks have turned. -/
theorem Sst.keep {U : Nat → Prop} (H : Sst w W B d l S s nm R tb T ρ k kb vh vn k2) (ho : Only U W W') (hS : ∀ j, S j → ¬ U j) (hT : ∀ j, (j = tb ∨ T.Bl j) → ¬ U j) (hK : ∀ j, (j = kb ∨ vh.ownBlock = some j ∨ vn.ownBlock = some j) → ¬ U j) (hU : ∀ j, U j → w.heap.size ≤ j) : Sst w W' B d l S s nm R tb T ρ k kb vh vn k2 :=
  ⟨⟨{ H.tl.ct with tt := H.tl.ct.tt.kept ho hT }, ⟨H.tl.cl.dl.kept ho hS, H.tl.cl.bel.trans (ho.below H.tl.cl.bel.size hU), H.tl.cl.ge⟩, H.tl.ty.keep ho hS, H.tl.sv⟩, H.kx.keep ho hK⟩
/-- With a slice of pairs beside it. -/
structure OrI (w W : World) (B d l : Nat) (S : Nat → Prop) (s : St) (nm : Key) (R : List Rc) (tb : Nat) (T : Nd) (ρ : Nat → Nat) (k : En) (kb : Nat) (vh vn : Value) (k2 : En) (v : Value) (L : List Pr) : Prop where
  sst : Sst w W B d l S s nm R tb T ρ k kb vh vn k2
  left : LOwn W w.heap.size v L
theorem lown_kb (h : LOwn W B v L) (hb : Below W.heap.size W W') : LOwn W' B v L := own_kept h (S := fun _ => False) (Only.of_below hb) (fun _ _ e => e)
theorem OrI.below (h : OrI w W B d l S s nm R tb T ρ k kb vh vn k2 v L) (hb : Below W.heap.size W W') : OrI w W' B d l S s nm R tb T ρ k kb vh vn k2 v L := ⟨h.sst.below hb, lown_kb h.left hb⟩
theorem OrI.put {h : List UInt8} {m : Int} (H : OrI w W B d l S s nm R tb T ρ k kb vh vn k2 v L) (hh : h.length = 32) (hp : TPut W tb T ρ h m W') : ∃ T' σ, OrI w W' B d l S s nm R tb T' σ (kput k h m) kb vh vn k2 v L ∧ PutS [] h m ρ σ T T' := by
  obtain ⟨T', σ, h1, h3⟩ := H.sst.put hh hp
  obtain ⟨_, _, _, _, _, h4⟩ := hp
  exact ⟨T', σ, ⟨h1, own_kept H.left h4 (fun j hj e => by obtain ⟨cs, hcs⟩ := own_type H.left hj; exact H.sst.tl.ct.no hcs (by decide) (by decide) (by decide) e)⟩, h3⟩
theorem OrI.kput {h : List UInt8} {m : Int} (H : OrI w W B d l S s nm R tb T ρ k kb vh vn k2 v L) (hp : KPost W w.heap.size kb vh vn (Go.Proofs.YtbpccbhlggcmfaaGreatDoor.kput k2 h m) W') : ∃ vh' vn', OrI w W' B d l S s nm R tb T ρ k kb vh' vn' (Go.Proofs.YtbpccbhlggcmfaaGreatDoor.kput k2 h m) v L := by
  obtain ⟨vh', vn', h1, _⟩ := H.sst.kput hp
  obtain ⟨_, _, h4⟩ := hp
  exact ⟨vh', vn', ⟨h1, own_kept H.left h4 (fun j hj e => by obtain ⟨cs, hcs⟩ := own_type H.left hj; exact H.sst.kx.no hcs (by decide) (by decide) (by decide) e)⟩⟩
theorem pair_no : ¬ TyS 57 := by unfold TyS; decide
theorem OrI.saved {S2 : Nat → Prop} {σ : Nat → Nat} (H : OrI w W B d l S s nm R tb T ρ k kb vh vn k2 v L) (h : Sst w W' B d l S2 s' nm R' tb T σ k kb vh vn k2) (ho : Only (fun j => S j ∨ T.Bl j) W W') : OrI w W' B d l S2 s' nm R' tb T σ k kb vh vn k2 v L :=
  ⟨h, own_kept H.left ho (fun j hj e => by
    obtain ⟨cs, hcs⟩ := own_type H.left hj
    exact e.elim (H.sst.tl.ty.no hcs pair_no) (fun e => H.sst.tl.ct.no hcs (by decide) (by decide) (by decide) (.inr e)))⟩
/-- The slice of pairs has grown, or lies elsewhere. -/
theorem OrI.grow {v' : Value} {L' : List Pr} (H : OrI w W B d l S s nm R tb T ρ k kb vh vn k2 v L) (ho : Only (fun j => v.ownBlock = some j) W W') (hl : LOwn W' w.heap.size v' L') : OrI w W' B d l S s nm R tb T ρ k kb vh vn k2 v' L' := by
  have hp : ∀ j, v.ownBlock = some j → ∃ cs, W.heap[j]? = some (.cells cs 57 (0, 0)) := fun j hj => own_type H.left hj
  refine ⟨H.sst.keep ho (fun j hj e => ?_) (fun j hj e => ?_) (fun j hj e => ?_) (fun j hj => (H.left.lt j hj).1), hl⟩
  · obtain ⟨cs, hcs⟩ := hp j e
    exact H.sst.tl.ty.no hcs pair_no hj
  · obtain ⟨cs, hcs⟩ := hp j e
    exact H.sst.tl.ct.no hcs (by decide) (by decide) (by decide) hj
  · obtain ⟨cs, hcs⟩ := hp j e
    exact H.sst.kx.no hcs (by decide) (by decide) (by decide) hj
end
/-- Bools that came in. -/
def TSeen (w : World) (v : Value) (l : List Bool) : Prop := (v = .slice none 0 0 ∧ l = []) ∨ ∃ a cap, v = .slice (some a) l.length cap ∧ l.length ≤ cap ∧ ∀ j x, l[j]? = some x → w.cell? (a.add j) = some (.bool x)
open Go.ChangeShapes Go.WideShapes Go.Deep in
theorem bools_in {H : Type} {enc : TypeId × Value → H} {w : World} {base : Nat} {spare : Nat → Bool} {held : Bool} {a0 : Option Addr} {len cap fuel : Nat} {d : DataW H} {p : List MemPlace}
    (h : DataW.trod enc Tryz.prog w base spare held fuel 62 [.slice a0 len cap] = some (d, p)) : ∃ l : List Bool, l.length = len ∧ TSeen w (.slice a0 len cap) l := by
  rcases open_slice Tryz.underlying62 h with ⟨h1, h2⟩ | ⟨a, len', cap', m, n, D, Pl, hcs, hb0, hl, hm, hmm, hx, hi⟩
  · simp at h1
    obtain ⟨rfl, rfl, rfl⟩ := h1
    exact ⟨[], rfl, .inl ⟨rfl, rfl⟩⟩
  · simp at hcs
    obtain ⟨rfl, rfl, rfl⟩ := hcs
    obtain ⟨f, hf⟩ := choose_lt (n := len) (α := Bool) (p := fun i b => w.cell? (a.add i) = some (.bool b)) (fun i hil => by
      have him : i < m := by rw [hmm]; split <;> omega
      obtain ⟨cs, h3, h4⟩ := hi i him
      rw [boolCells9] at h3
      obtain ⟨_, hcl, hat⟩ := World.cells?_some h3
      obtain ⟨b, rfl, _⟩ := DataW.trod_bool Tryz.underlying4 h4
      refine ⟨b, ?_⟩
      have g := hat 0 (by decide)
      rw [add_add] at g
      simpa using g)
    refine ⟨(List.range len).map f, by simp, .inr ⟨a, cap, by simp, by simpa using hl, fun j x hj => ?_⟩⟩
    have hjl := (List.getElem?_eq_some_iff.1 hj).1
    simp only [List.length_map, List.length_range] at hjl
    simp [hjl] at hj
    subst hj
    exact hf j hjl
theorem lown_form {w : World} {B n c : Nat} {p : Option Addr} {L : List Pr} (h : LOwn w B (.slice p n c) L) (hn : L.length = n) (h0 : 0 < n) : ∃ g, p = some ⟨g, 0, none⟩ ∧ n ≤ c ∧ c ≤ maxLen ∧ g < w.heap.size := by
  rcases h.2 with ⟨h1, _⟩ | ⟨g, cap, cur, h1, _, hg, h3, h4, _⟩
  · injection h1; omega
  · injection h1 with e1 e2 e3
    subst e1 e3
    exact ⟨g, rfl, by omega, h4, (Array.getElem?_eq_some_iff.1 hg).1⟩
theorem iseen_at {w : World} {p : Option Addr} {c : Nat} {l : List Int} (h : ISeen w (.slice p l.length c) l) {n : Nat} (hn : n < l.length) : ∃ a, p = some a ∧ w.cell? (a.add n) = some (.int .i64 l[n]) := by
  rcases h with ⟨_, h2⟩ | ⟨a, c', h1, _, h3⟩
  · rw [h2] at hn; simp at hn
  · injection h1 with e1 _ _
    exact ⟨a, e1, h3 n _ (List.getElem?_eq_getElem hn)⟩
theorem tseen_at {w : World} {p : Option Addr} {c : Nat} {l : List Bool} (h : TSeen w (.slice p l.length c) l) {n : Nat} (hn : n < l.length) : ∃ a, p = some a ∧ w.cell? (a.add n) = some (.bool l[n]) := by
  rcases h with ⟨_, h2⟩ | ⟨a, c', h1, _, h3⟩
  · rw [h2] at hn; simp at hn
  · injection h1 with e1 _ _
    exact ⟨a, e1, h3 n _ (List.getElem?_eq_getElem hn)⟩
/-- Any tree that was saved is loaded. -/
theorem load_was (w : World) (B d l : Nat) (S : Nat → Prop) (s : St) (nm : Key) (R : List Rc) (T : Nd) (ρ : Nat → Nat) (k : En) (hd : DL w B d l S s nm R) (hbig : R.length < 1000000000) (hT : Was T ρ R k) (hk : k.length ≤ 2000) :
    Calls Tryz.prog 15 #[.pointer (some ⟨l, 0, none⟩), .int .i64 (T.rec' ρ : Nat)] w (LoadPost w R T ρ k) := by
  by_cases e : T = .none
  · subst e
    obtain rfl : k = [] := List.eq_nil_of_length_eq_zero (by rw [← hT.tk.count hT.wf]; rfl)
    exact load_zero w l R
  · exact load_some w B d l S s nm R T ρ k hd hbig hT e hk
end Go.Proofs.YtbpccbhlggcmfaaGreatDoor
