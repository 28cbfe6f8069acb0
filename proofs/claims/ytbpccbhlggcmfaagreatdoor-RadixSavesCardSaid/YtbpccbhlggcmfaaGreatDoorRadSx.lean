/- What RadixSaves holds to: its tree, its log, what was put, and a copy of it behind each Save. No condition. -/
import Derived.Test.YtbpccbhlggcmfaaGreatDoorRadRw
import Derived.Test.YtbpccbhlggcmfaaGreatDoorRadKn
namespace Go.Proofs.YtbpccbhlggcmfaaGreatDoor
open Go.RowKit
open Go.Maps

/-- Slices of pairs that came in. -/
def PPSeen (w : World) (p : Option Addr) (F : List (List Pr)) : Prop := ∀ j x, F[j]? = some x → ∃ a q c, p = some a ∧ w.cell? (a.add j) = some (.slice q x.length c) ∧ PrSeen w q x ∧ ∀ y ∈ x, y.h.length = 32
theorem ppCells : Tryz.prog.cellsOf 54 = 1 := by kernel_rfl
open Go.ChangeShapes Go.WideShapes Go.Deep in
theorem ppairs_in {H : Type} {enc : TypeId × Value → H} {w : World} {base : Nat} {spare : Nat → Bool} {held : Bool} {a0 : Option Addr} {len cap fuel : Nat} {d : DataW H} {p : List MemPlace}
    (h : DataW.trod enc Tryz.prog w base spare held fuel 48 [.slice a0 len cap] = some (d, p)) : ∃ F : List (List Pr), F.length = len ∧ PPSeen w a0 F := by
  rcases open_slice Tryz.underlying48 h with ⟨h1, h2⟩ | ⟨a, len', cap', m, n, D, Pl, hcs, hb, hl, hm, hmm, hx, hi⟩
  · simp at h1
    obtain ⟨rfl, rfl, rfl⟩ := h1
    exact ⟨[], rfl, fun j x hj => by simp at hj⟩
  · simp at hcs
    obtain ⟨rfl, rfl, rfl⟩ := hcs
    obtain ⟨f, hf⟩ := choose_lt (n := len) (α := List Pr) (p := fun i x => ∃ q c, w.cell? (a.add i) = some (.slice q x.length c) ∧ PrSeen w q x ∧ ∀ y ∈ x, y.h.length = 32) (fun i hil => by
      have him : i < m := by rw [hmm]; split <;> omega
      obtain ⟨cs, h3, h4⟩ := hi i him
      rw [ppCells] at h3
      obtain ⟨hbase, hcl, hat⟩ := World.cells?_some h3
      obtain ⟨z0, rfl⟩ : ∃ z, cs = [z] := List.length_eq_one_iff.1 hcl
      have g0 := hat 0 (by omega)
      simp only [List.getElem?_cons_zero, Nat.mul_one] at g0
      obtain ⟨q, n0, c0, rfl⟩ : ∃ q n c, z0 = .slice q n c := by
        rcases open_slice Tryz.underlying54 h4 with ⟨h1, _⟩ | ⟨a', l', c', _, _, _, _, h1, _⟩
        · simp at h1; exact ⟨_, _, _, h1⟩
        · simp at h1; exact ⟨_, _, _, h1⟩
      obtain ⟨x, hxl, hs, h32⟩ := pairs_in h4
      subst hxl
      refine ⟨x, q, c0, ?_, hs, h32⟩
      rwa [add_add, Nat.add_zero] at g0)
    refine ⟨(List.range len).map f, by simp, fun j x hj => ?_⟩
    have hjl := (List.getElem?_eq_some_iff.1 hj).1
    simp at hjl
    obtain ⟨q, c, h1, h2⟩ := hf j hjl
    simp [hjl] at hj
    subst hj
    exact ⟨a, q, c, rfl, h1, h2⟩
/-- A row as a source. -/
theorem src9 {W : World} {B e size n c : Nat} {p : Option Addr} {xs : List Value} (h : W.ownsRow B e size (.slice p n c) n xs) : (Value.slice p n c = .slice none 0 0 ∧ n = 0 ∧ xs = []) ∨ ∃ ad c', Value.slice p n c = .slice (some ad) n c' ∧ ∀ j y, xs[j]? = some y → W.cell? (ad.add j) = some y := by
  rcases h.2 with ⟨h1, h2⟩ | ⟨g, cap, cur, h1, _⟩
  · exact .inl ⟨h1, h2, List.eq_nil_of_length_eq_zero (by rw [h.1, h2, Nat.zero_mul])⟩
  · injection h1 with e1 e2 e3
    subst e1 e3
    exact .inr ⟨⟨g, 0, none⟩, _, rfl, h.cells (g := g) rfl⟩
/-- An empty row at block z. -/
structure EmptyAt (B : Nat) (W : World) (z : Nat) (e : TypeId) : Prop where
  obj : W.heap[z]? = some (.cells #[] e (0, 0))
  ge : B ≤ z
section
variable {B z z' : Nat} {W W' : World} {e e' : TypeId}
theorem EmptyAt.kb (h : EmptyAt B W z e) (hb : Below W.heap.size W W') : EmptyAt B W' z e := ⟨(hb.block z (Array.getElem?_eq_some_iff.1 h.obj).1).trans h.obj, h.ge⟩
theorem EmptyAt.ne (h : EmptyAt B W z e) (h' : EmptyAt B W z' e') (he : e ≠ e') : z' ≠ z := fun x => by
  have h1 := h.obj
  rw [← x, h'.obj] at h1
  injection h1 with h1
  injection h1 with _ h1
  exact he h1.symm
theorem EmptyAt.other (h : EmptyAt B W z e) (h' : EmptyAt B W z' e') (he : e ≠ e') (ho : Only (fun k => k = z) W W') : EmptyAt B W' z' e' := ⟨(ho.block z' (Array.getElem?_eq_some_iff.1 h'.obj).1 (h.ne h' he)).trans h'.obj, h'.ge⟩
theorem EmptyAt.row {C size n : Nat} {v : Value} {xs : List Value} (h : EmptyAt B W z e) (hr : W.ownsRow C e' size v n xs) (he : e ≠ e') (ho : Only (fun k => k = z) W W') : W'.ownsRow C e' size v n xs :=
  own_kept hr ho fun _ hk x => by
    obtain ⟨cs, hcs⟩ := row_type9 hr hk
    rw [x, h.obj] at hcs
    injection hcs with hcs
    injection hcs with _ hcs
    exact he hcs
theorem EmptyAt.below {W0 : World} (h : EmptyAt B W z e) (hb : Below B W0 W) (hB : B ≤ W.heap.size) (ho : Only (fun k => k = z) W W') : Below B W0 W' := hb.trans (ho.below hB fun _ hk => hk ▸ h.ge)
end
section
variable {ops : Array Oper} {o : Oper} {a : Act} {w : World} {K : Act → World → Prop} {Q : Exit → Act → World → Prop} {X : Prop}
theorem step_empty9 {B : Nat} (hB : B ≤ w.heap.size) {t e : TypeId} (hgd : o.guard = none) (ho : o.op = .buildSlice t 0 #[]) (ht : Tryz.prog.underlying t = some (.slice e)) {i : TypeInfo} (hi : Tryz.prog.info? e = some i)
    (h : ∀ z W', Below w.heap.size w W' → EmptyAt B W' z e → K (a.put o.dst (.slice (some ⟨z, 0, none⟩) 0 0)) W') :
    if Region.wanted o (yielded ops a.tmps) = true then Oper.wp Tryz.prog o a w K Q else X :=
  step_build_empty hgd ho ht hi (h _ _ ((Below.refl _ w).alloc (Nat.le_refl _) _) ⟨heap_alloc_last w _, hB⟩)
/-- append([]T{}, src...). -/
theorem step_copy9 {B z : Nat} (hB : B ≤ w.heap.size) {t e : TypeId} {i : TypeInfo} {zv : Value} {size bytes : Nat} (hgd : o.guard = none) (s x : Operand)
    (ho : o.op = .call { callee := .builtin .append, args := #[s, x], argTypes := #[t, t] }) (ht : Tryz.prog.underlying t = some (.slice e)) (hi : Tryz.prog.info? e = some i) (hz : i.zero = some zv)
    (hsize : i.size = size) (hby : i.bytes = bytes) (hzs : zv.cells.size = size) (hsz : 0 < size) (hE : EmptyAt B w z e) (hs : a.eval s = .slice (some ⟨z, 0, none⟩) 0 0)
    {C : Nat} {p : Option Addr} {n c : Nat} {xs : List Value} (hx : a.eval x = .slice p n c) (hr : w.ownsRow C e size (.slice p n c) n xs) (h1 : ∀ u ∈ xs, u.oneCell' = true) (h63 : n ≤ maxLen) (hbytes : n * bytes ≤ 140737488355328)
    (h : ∀ g cap W', W'.ownsRow B e size (.slice (some ⟨g, 0, none⟩) n cap) n xs → Only (fun k => k = z) w W' → K (a.put o.dst (.slice (some ⟨g, 0, none⟩) n cap)) W') :
    if Region.wanted o (yielded ops a.tmps) = true then Oper.wp Tryz.prog o a w K Q else X := by
  have hown : w.ownsRow B e size (.slice (some ⟨z, 0, none⟩) 0 0) 0 [] := ⟨by simp, .inr ⟨z, 0, #[], rfl, hE.ge, hE.obj, Nat.le_refl _, by simp [maxLen], by simp, by simp⟩⟩
  refine step_append_row hgd s x ho ht hi hz hsize hby hzs hsz B (.slice (some ⟨z, 0, none⟩) 0 0) 0 [] (by simp) hs hown (.slice p n c) n xs hx (src9 hr) hr.1 h1 (by rw [Nat.zero_add]; exact h63) (by rw [Nat.zero_add]; exact hbytes) hB ?_
  intro g cap W' own grow _
  rw [Nat.zero_add, List.nil_append] at own
  rw [Nat.zero_add]
  exact h g cap W' own ((Only.refl _ w).grown grow (fun k _ e => by cases e; rfl))
/-- A struct is laid in new memory. -/
theorem step_box9 {t : TypeId} {x : Operand} {cs : Array Value} (hgd : o.guard = none) (ho : o.op = .box t x) (hx : a.eval x = .agg cs)
    (h : ∀ z W', Below w.heap.size w W' → W'.heap[z]? = some (.cells cs t (0, 0)) → w.heap.size ≤ z → K (a.put o.dst (.pointer (some ⟨z, 0, none⟩))) W') :
    if Region.wanted o (yielded ops a.tmps) = true then Oper.wp Tryz.prog o a w K Q else X := by
  have hw : Region.wanted o (yielded ops a.tmps) = true := by simp [Region.wanted, hgd]
  rw [if_pos hw]
  unfold Oper.wp execOp
  simp [ho, hx, Instr.box, newVar, newRow, Value.cells, Result.andThen]
  exact h _ _ ((Below.refl _ w).alloc (Nat.le_refl _) _) (heap_alloc_last w _) (Nat.le_refl _)
theorem kpinfo : (Tryz.prog.info? 50).map (fun i => (i.zero, i.size, i.bytes)) = some (some (.pointer none), 1, 8) := by kernel_rfl
theorem step_ptr9 {b : Nat} {parts : Array (Nat × Operand)} (hgd : o.guard = none) (ho : o.op = .buildSlice 53 1 parts)
    (hv' : (parts.map fun (i, x) => (i, a.eval x)).toList = [(0, .pointer (some ⟨b, 0, none⟩))])
    (h : ∀ z W', Below w.heap.size w W' → W'.heap[z]? = some (.cells #[.pointer (some ⟨b, 0, none⟩)] 50 (0, 0)) → z < W'.heap.size → K (a.put o.dst (.slice (some ⟨z, 0, none⟩) 1 1)) W') :
    if Region.wanted o (yielded ops a.tmps) = true then Oper.wp Tryz.prog o a w K Q else X := by
  rw [if_pos (by simp [Region.wanted, hgd])]
  obtain ⟨i0, hi0, hz0, hz1, hz2⟩ := info_parts kpinfo
  refine wp_buildSlice 53 50 1 parts ho #[.pointer (some ⟨b, 0, none⟩)] i0 (.pointer none) Tryz.underlying53 hi0 hz0 (by rw [hz1]; decide) (by rw [hz1]; decide) ?_ (h _ _ ((Below.refl _ w).alloc (Nat.le_refl _) _) (heap_alloc_last w _) (by simp))
  rw [hv', hz1]
  exact Great.fill_flat [.pointer (some ⟨b, 0, none⟩)] _ (fun v hv => by rw [List.mem_singleton.1 hv]; rfl) (by simp)
end
/-- A tree as it was saved, and the copy of what was put. -/
structure Zr where
  T : Nd
  ρ : Nat → Nat
  k : En
  kb : Nat
  vh : Value
  vn : Value
def Zr.Bl (z : Zr) (j : Nat) : Prop := j = z.kb ∨ z.vh.ownBlock = some j ∨ z.vn.ownBlock = some j
/-- All of it in memory. -/
structure SvI (w W : World) (B d l : Nat) (S : Nat → Prop) (s : St) (nm : Key) (R : List Rc) (tb : Nat) (T : Nd) (ρ : Nat → Nat) (k : En) (kb : Nat) (vh vn : Value) (k2 : En) (Z : List Zr) (rv : Value) (rs : List Int) (wv : Value) (bs : List Nat) : Prop where
  sst : Sst w W B d l S s nm R tb T ρ k kb vh vn k2
  rrow : NOwn W w.heap.size rv rs
  wrow : W.ownsRow w.heap.size 50 1 wv bs.length (bs.map fun b => .pointer (some ⟨b, 0, none⟩))
  zs : ∀ z ∈ Z, KX W w.heap.size z.kb z.vh z.vn (keys z.k) (nums z.k) ∧ Was z.T z.ρ R z.k
  apk : ∀ j, (j = kb ∨ vh.ownBlock = some j ∨ vn.ownBlock = some j) → ¬ rv.ownBlock = some j ∧ ∀ z ∈ Z, ¬ z.Bl j
  apr : ∀ j, rv.ownBlock = some j → ∀ z ∈ Z, ¬ z.Bl j
section
variable {w W W' : World} {B d l tb kb : Nat} {S S' : Nat → Prop} {s s' : St} {nm : Key} {R R' : List Rc} {T : Nd} {ρ : Nat → Nat} {k k2 : En} {vh vn rv wv : Value} {Z : List Zr} {rs : List Int} {bs : List Nat}
theorem kx_lt {C : Nat} {E : List (List UInt8)} {l : List Int} (h : KX W C kb vh vn E l) {j : Nat} (hj : j = kb ∨ vh.ownBlock = some j ∨ vn.ownBlock = some j) : C ≤ j ∧ j < W.heap.size := by
  rcases hj with rfl | hj | hj
  · exact ⟨h.ge, h.lt⟩
  · exact h.hs.lt j hj
  · exact h.ns.lt j hj
theorem zb_lt {z : Zr} {C : Nat} (h : KX W C z.kb z.vh z.vn (keys z.k) (nums z.k)) {j : Nat} (hj : z.Bl j) : j < W.heap.size := (kx_lt h hj).2
theorem KX.mono {C C' : Nat} {E : List (List UInt8)} {l : List Int} (h : KX W C kb vh vn E l) (hC : C' ≤ C) : KX W C' kb vh vn E l := ⟨h.cell, h.hs.mono hC, h.ns.mono hC, h.h32, Nat.le_trans hC h.ge⟩
/-- Blocks of other kinds have turned. -/
theorem SvI.rest {U : Nat → Prop} {tb' : Nat} {T' : Nd} {ρ' : Nat → Nat} {k' k2' : En} {vh' vn' : Value} (H : SvI w W B d l S s nm R tb T ρ k kb vh vn k2 Z rv rs wv bs) (h : Sst w W' B d l S' s' nm R' tb' T' ρ' k' kb vh' vn' k2') (ho : Only U W W')
    (h1 : ∀ j, rv.ownBlock = some j → ¬ U j) (h2 : ∀ j, wv.ownBlock = some j → ¬ U j) (h3 : ∀ z ∈ Z, ∀ j, z.Bl j → ¬ U j) (hR : ∃ X, R' = R ++ X) (hK : KOld W vh vn vh' vn') : SvI w W' B d l S' s' nm R' tb' T' ρ' k' kb vh' vn' k2' Z rv rs wv bs := by
  refine ⟨h, own_kept H.rrow ho h1, own_kept H.wrow ho h2, fun z hz => ⟨(H.zs z hz).1.keep ho (h3 z hz), ?_⟩, fun j hj => ?_, H.apr⟩
  · obtain ⟨X, rfl⟩ := hR
    exact (H.zs z hz).2.grow X
  · have hn : j = kb ∨ (vh.ownBlock = some j ∨ vn.ownBlock = some j) ∨ W.heap.size ≤ j := by
      rcases hj with e | e | e
      · exact .inl e
      · exact .inr (hK j (.inl e))
      · exact .inr (hK j (.inr e))
    rcases hn with e | e | e
    · exact H.apk j (.inl e)
    · exact H.apk j (.inr e)
    · exact ⟨fun h => by have := (H.rrow.lt j h).2; omega, fun z hz hb => by have := zb_lt (H.zs z hz).1 hb; omega⟩
theorem kold_refl (W : World) (vh vn : Value) : KOld W vh vn vh vn := fun _ h => .inl h
theorem SvI.below (H : SvI w W B d l S s nm R tb T ρ k kb vh vn k2 Z rv rs wv bs) (hb : Below W.heap.size W W') : SvI w W' B d l S s nm R tb T ρ k kb vh vn k2 Z rv rs wv bs :=
  H.rest (H.sst.below hb) (U := fun _ => False) (Only.of_below hb) (fun _ _ e => e) (fun _ _ e => e) (fun _ _ _ _ e => e) ⟨[], (List.append_nil R).symm⟩ (kold_refl W vh vn)
theorem zb_tree {z : Zr} (H : CT W w.heap.size tb T ρ k) (h : KX W w.heap.size z.kb z.vh z.vn (keys z.k) (nums z.k)) {j : Nat} (hj : z.Bl j) : ¬ (j = tb ∨ T.Bl j) := fun e => KX.apart H h e hj
theorem SvI.put {h : List UInt8} {m : Int} (H : SvI w W B d l S s nm R tb T ρ k kb vh vn k2 Z rv rs wv bs) (hh : h.length = 32) (hp : TPut W tb T ρ h m W') : ∃ T' σ, SvI w W' B d l S s nm R tb T' σ (kput k h m) kb vh vn k2 Z rv rs wv bs ∧ PutS [] h m ρ σ T T' := by
  obtain ⟨T', σ, h1, h3⟩ := H.sst.put hh hp
  obtain ⟨_, _, _, _, _, h4⟩ := hp
  refine ⟨T', σ, H.rest h1 h4 (fun j hj => ?_) (fun j hj => ?_) (fun z hz j hj => zb_tree H.sst.tl.ct (H.zs z hz).1 hj) ⟨[], (List.append_nil R).symm⟩ (kold_refl W vh vn), h3⟩
  · obtain ⟨cs, hcs⟩ := row_type9 H.rrow hj
    exact H.sst.tl.ct.no hcs (by decide) (by decide) (by decide)
  · obtain ⟨cs, hcs⟩ := row_type9 H.wrow hj
    exact H.sst.tl.ct.no hcs (by decide) (by decide) (by decide)
theorem SvI.kput {h : List UInt8} {m : Int} (H : SvI w W B d l S s nm R tb T ρ k kb vh vn k2 Z rv rs wv bs) (hp : KPost W w.heap.size kb vh vn (Go.Proofs.YtbpccbhlggcmfaaGreatDoor.kput k2 h m) W') : ∃ vh' vn', SvI w W' B d l S s nm R tb T ρ k kb vh' vn' (Go.Proofs.YtbpccbhlggcmfaaGreatDoor.kput k2 h m) Z rv rs wv bs := by
  obtain ⟨vh', vn', h1, h5⟩ := H.sst.kput hp
  obtain ⟨_, _, h4⟩ := hp
  refine ⟨vh', vn', H.rest h1 h4 (fun j hj e => (H.apk j e).1 hj) (fun j hj => ?_) (fun z hz j hj e => (H.apk j e).2 z hz hj) ⟨[], (List.append_nil R).symm⟩ h5⟩
  obtain ⟨cs, hcs⟩ := row_type9 H.wrow hj
  exact H.sst.kx.no hcs (by decide) (by decide) (by decide)
theorem sv_no : ¬ TyS 50 := by unfold TyS; decide
theorem SvI.saved {σ : Nat → Nat} {n : Nat} (H : SvI w W B d l S s nm R tb T ρ k kb vh vn k2 Z rv rs wv bs) (h : Sst w W' B d l S' s' nm R' tb T σ k kb vh vn k2) (ho : Only (fun j => S j ∨ T.Bl j) W W') (hp : SvP T (ρ, R) (σ, R') n) : SvI w W' B d l S' s' nm R' tb T σ k kb vh vn k2 Z rv rs wv bs := by
  obtain ⟨X, h1, _⟩ := hp.grow
  refine H.rest h ho (fun j hj e => ?_) (fun j hj e => ?_) (fun z hz j hj e => ?_) ⟨X, h1⟩ (kold_refl W vh vn)
  · obtain ⟨cs, hcs⟩ := row_type9 H.rrow hj
    exact e.elim (H.sst.tl.ty.no hcs tys_no.2.2.2.2.2) (fun e => H.sst.tl.ct.no hcs (by decide) (by decide) (by decide) (.inr e))
  · obtain ⟨cs, hcs⟩ := row_type9 H.wrow hj
    exact e.elim (H.sst.tl.ty.no hcs sv_no) (fun e => H.sst.tl.ct.no hcs (by decide) (by decide) (by decide) (.inr e))
  · exact e.elim (H.sst.tl.ty.kx (H.zs z hz).1 j hj) (fun e => zb_tree H.sst.tl.ct (H.zs z hz).1 hj (.inr e))
/-- A number more behind the roots. -/
theorem SvI.root {rv' : Value} {rs' : List Int} (H : SvI w W B d l S s nm R tb T ρ k kb vh vn k2 Z rv rs wv bs) (ho : Only (fun j => rv.ownBlock = some j) W W') (hr : NOwn W' w.heap.size rv' rs') (hn : ∀ j, rv'.ownBlock = some j → rv.ownBlock = some j ∨ W.heap.size ≤ j) : SvI w W' B d l S s nm R tb T ρ k kb vh vn k2 Z rv' rs' wv bs := by
  have hty : ∀ j, rv.ownBlock = some j → ∃ cs, W.heap[j]? = some (.cells cs 3 (0, 0)) := fun j hj => row_type9 H.rrow hj
  refine ⟨H.sst.keep ho (fun j hj e => ?_) (fun j hj e => ?_) (fun j hj e => (H.apk j hj).1 e) (fun j hj => (H.rrow.lt j hj).1), hr, own_kept H.wrow ho (fun j hj e => ?_), fun z hz => ⟨(H.zs z hz).1.keep ho (fun j hj e => H.apr j e z hz hj), (H.zs z hz).2⟩, fun j hj => ⟨fun e => ?_, (H.apk j hj).2⟩, fun j hj z hz hb => ?_⟩
  · obtain ⟨cs, hcs⟩ := hty j e
    exact H.sst.tl.ty.no hcs tys_no.2.2.2.2.2 hj
  · obtain ⟨cs, hcs⟩ := hty j e
    exact H.sst.tl.ct.no hcs (by decide) (by decide) (by decide) hj
  · obtain ⟨cs, hcs⟩ := hty j e
    obtain ⟨ds, hds⟩ := row_type9 H.wrow hj
    rw [hcs] at hds
    injection hds with hds
    injection hds with _ hds
    exact absurd hds (by decide)
  · rcases hn j e with e | e
    · exact (H.apk j hj).1 e
    · have := (kx_lt H.sst.kx hj).2; omega
  · rcases hn j hj with e | e
    · exact H.apr j e z hz hb
    · have := zb_lt (H.zs z hz).1 hb; omega
/-- A copy more behind the others. -/
theorem SvI.copy {W1 : World} {z : Zr} {wv' : Value} (H : SvI w W B d l S s nm R tb T ρ k kb vh vn k2 Z rv rs wv bs) (b : Below W.heap.size W W1) (K : KX W1 W.heap.size z.kb z.vh z.vn (keys z.k) (nums z.k)) (hw : Was z.T z.ρ R z.k) (ho : Only (fun j => wv.ownBlock = some j) W1 W')
    (hr : W'.ownsRow w.heap.size 50 1 wv' (bs ++ [z.kb]).length ((bs ++ [z.kb]).map fun b => .pointer (some ⟨b, 0, none⟩))) : SvI w W' B d l S s nm R tb T ρ k kb vh vn k2 (Z ++ [z]) rv rs wv' (bs ++ [z.kb]) := by
  have H1 := H.below b
  have hty : ∀ j, wv.ownBlock = some j → ∃ cs, W1.heap[j]? = some (.cells cs 50 (0, 0)) := fun j hj => row_type9 H1.wrow hj
  have hB : w.heap.size ≤ W.heap.size := H.sst.tl.cl.bel.size
  refine ⟨H1.sst.keep ho (fun j hj e => ?_) (fun j hj e => ?_) (fun j hj e => ?_) (fun j hj => (H1.wrow.lt j hj).1), own_kept H1.rrow ho (fun j hj e => ?_), hr, fun y hy => ?_, fun j hj => ⟨(H1.apk j hj).1, fun y hy => ?_⟩, fun j hj y hy => ?_⟩
  · obtain ⟨cs, hcs⟩ := hty j e
    exact H1.sst.tl.ty.no hcs sv_no hj
  · obtain ⟨cs, hcs⟩ := hty j e
    exact H1.sst.tl.ct.no hcs (by decide) (by decide) (by decide) hj
  · obtain ⟨cs, hcs⟩ := hty j e
    exact H1.sst.kx.no hcs (by decide) (by decide) (by decide) hj
  · obtain ⟨cs, hcs⟩ := hty j e
    obtain ⟨ds, hds⟩ := row_type9 H1.rrow hj
    rw [hcs] at hds
    injection hds with hds
    injection hds with _ hds
    exact absurd hds (by decide)
  · rcases List.mem_append.1 hy with hy | hy
    · refine ⟨(H1.zs y hy).1.keep ho (fun j hj e => ?_), (H1.zs y hy).2⟩
      obtain ⟨cs, hcs⟩ := hty j e
      exact (H1.zs y hy).1.no hcs (by decide) (by decide) (by decide) hj
    · obtain rfl := List.mem_singleton.1 hy
      refine ⟨(K.mono hB).keep ho (fun j hj e => ?_), hw⟩
      obtain ⟨cs, hcs⟩ := hty j e
      exact K.no hcs (by decide) (by decide) (by decide) hj
  · rcases List.mem_append.1 hy with hy | hy
    · exact (H1.apk j hj).2 y hy
    · obtain rfl := List.mem_singleton.1 hy
      intro hb
      have h1 := (kx_lt K hb).1
      have h2 := (kx_lt H.sst.kx hj).2
      omega
  · rcases List.mem_append.1 hy with hy | hy
    · exact H1.apr j hj y hy
    · obtain rfl := List.mem_singleton.1 hy
      intro hb
      have h1 := (kx_lt K hb).1
      have h2 := (H.rrow.lt j hj).2
      omega
/-- On with what is loaded. -/
theorem SvI.load {ub : Nat} {U : Nd} {σ : Nat → Nat} (H : SvI w W B d l S s nm R tb T ρ k kb vh vn k2 Z rv rs wv bs) (b : Below W.heap.size W W') (hc : CT W' W.heap.size ub U σ k) (hw : Was U σ R k) : SvI w W' B d l S s nm R ub U σ k kb vh vn k2 Z rv rs wv bs := by
  have hB : w.heap.size ≤ W.heap.size := H.sst.tl.cl.bel.size
  have H1 := H.sst.below b
  exact H.rest ⟨⟨{ hc with gt := Nat.le_trans hB hc.gt, gb := fun j hj => Nat.le_trans hB (hc.gb j hj) }, H1.tl.cl, H1.tl.ty, hw.sv⟩, H1.kx⟩ (U := fun _ => False) (Only.of_below b) (fun _ _ e => e) (fun _ _ e => e) (fun _ _ _ _ e => e) ⟨[], (List.append_nil R).symm⟩ (kold_refl W vh vn)
end
end Go.Proofs.YtbpccbhlggcmfaaGreatDoor
