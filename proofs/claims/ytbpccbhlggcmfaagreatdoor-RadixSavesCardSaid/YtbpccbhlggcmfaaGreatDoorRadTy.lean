/- A log with its disk beside a tree and what the statements keep: told apart by the types of their blocks. No condition. -/
import Derived.Test.YtbpccbhlggcmfaaGreatDoorRadLo
import Derived.Test.YtbpccbhlggcmfaaGreatDoorRadHo
namespace Go.Proofs.YtbpccbhlggcmfaaGreatDoor
open Go.RowKit
open Go.Maps

/-- The types of a disk's and a log's blocks. -/
def TyS (t : TypeId) : Prop := t = 70 ∨ t = 120 ∨ t = 5 ∨ t = 81 ∨ t = 112
def Ty9 (W : World) (S : Nat → Prop) : Prop := ∀ j, S j → (∃ es clock, W.heap[j]? = some (.map es clock)) ∨ ∃ cs t, W.heap[j]? = some (.cells cs t (0, 0)) ∧ TyS t
theorem tys_no : ¬ TyS 91 ∧ ¬ TyS 168 ∧ ¬ TyS 66 ∧ ¬ TyS 52 ∧ ¬ TyS 36 ∧ ¬ TyS 3 := by unfold TyS; decide
section
variable {w W W' : World} {B d l tb kb : Nat} {S S' : Nat → Prop} {s s' : St} {nm : Key} {R R' : List Rc} {T : Nd} {ρ : Nat → Nat} {k k2 : En} {vh vn : Value}
theorem Ty9.no (h : Ty9 W S) {j : Nat} {cs : Array Value} {t : TypeId} (hj : W.heap[j]? = some (.cells cs t (0, 0))) (ht : ¬ TyS t) : ¬ S j := fun hs => by
  rcases h j hs with ⟨es, clock, h1⟩ | ⟨cs', t', h1, h2⟩
  · rw [hj] at h1; cases h1
  · rw [hj] at h1
    have e : t = t' := by injection h1 with h1; injection h1
    exact ht (e ▸ h2)
theorem Ty9.keep {U : Nat → Prop} (h : Ty9 W S) (ho : Only U W W') (hU : ∀ j, S j → ¬ U j) : Ty9 W' S := fun j hj => by
  rcases h j hj with ⟨es, clock, h1⟩ | ⟨cs, t, h1, h2⟩
  · exact .inl ⟨es, clock, (ho.block j (Array.getElem?_eq_some_iff.1 h1).1 (hU j hj)).trans h1⟩
  · exact .inr ⟨cs, t, (ho.block j (Array.getElem?_eq_some_iff.1 h1).1 (hU j hj)).trans h1, h2⟩
/-- What a log and its disk need, and no more. -/
theorem DL.tight (h : DL W B d l S s nm R) : ∃ S', DL W B d l S' s nm R ∧ (∀ k, S' k → S k) ∧ Ty9 W S' := by
  obtain ⟨S0, rv, E, hx, rfl⟩ := h
  obtain ⟨c, L, P, hd⟩ := hx.ds
  refine ⟨fun k => Foot d c L P k ∨ LF l rv E k, ⟨Foot d c L P, rv, E, ⟨⟨c, L, P, { hd with foot := fun _ h => h, lt := fun k hk => hd.dc.foot_lt hk }⟩, hx.log, fun k hk e => hx.out k hk (hd.foot k e), fun _ h => .inl h, fun _ h => .inr h, fun k hk => hk.elim hd.dc.foot_lt (hx.log.lt k)⟩, rfl⟩, fun k hk => hk.elim (fun e => hx.s0 k (hd.foot k e)) (hx.sl k), ?_⟩
  rintro k ((rfl | rfl | hk | hk) | rfl | hk | ⟨e, he, hk⟩)
  · exact .inr ⟨_, _, hd.dc.d, .inl rfl⟩
  · exact .inl hd.dc.m.obj
  · obtain ⟨cs, hcs⟩ := own_type hd.dc.p hk
    exact .inr ⟨cs, _, hcs, .inr (.inl rfl)⟩
  · obtain ⟨_, cs, hcs⟩ := hd.dc.own.cells hk
    exact .inr ⟨cs, _, hcs, .inr (.inr (.inl rfl))⟩
  · exact .inr ⟨_, _, hx.log.cell, .inr (.inr (.inr (.inl rfl)))⟩
  · obtain ⟨cs, hcs⟩ := own_type hx.log.ra.row hk
    exact .inr ⟨cs, _, hcs, .inr (.inr (.inr (.inr rfl)))⟩
  · obtain ⟨cs, hcs⟩ := own_type (hx.log.ra.bod e he) hk
    exact .inr ⟨cs, _, hcs, .inr (.inr (.inl rfl))⟩
theorem Ty9.tree (h : Ty9 W S) (H : CT W B tb T ρ k) : ∀ j, (j = tb ∨ T.Bl j) → ¬ S j := fun j hj => by
  rcases hj with rfl | hj
  · exact h.no H.tt.top tys_no.2.2.1
  · obtain ⟨cs, t, h1, h2⟩ := H.tt.ta.ty j hj
    rcases h2 with rfl | rfl
    · exact h.no h1 tys_no.1
    · exact h.no h1 tys_no.2.1
theorem Ty9.kx {E : List (List UInt8)} {ns : List Int} (h : Ty9 W S) (K : KX W B kb vh vn E ns) : ∀ j, (j = kb ∨ vh.ownBlock = some j ∨ vn.ownBlock = some j) → ¬ S j := fun j hj => by
  rcases hj with rfl | hj | hj
  · exact h.no K.cell tys_no.2.2.2.1
  · obtain ⟨cs, hcs⟩ := row_type9 K.hs hj
    exact h.no hcs tys_no.2.2.2.2.1
  · obtain ⟨cs, hcs⟩ := row_type9 K.ns hj
    exact h.no hcs tys_no.2.2.2.2.2
/-- A tree and its log. -/
structure Tl (w W : World) (B d l : Nat) (S : Nat → Prop) (s : St) (nm : Key) (R : List Rc) (tb : Nat) (T : Nd) (ρ : Nat → Nat) (k : En) : Prop where
  ct : CT W w.heap.size tb T ρ k
  cl : CL w W B d l S s nm R
  ty : Ty9 W S
  sv : T.Sv ρ R
theorem Tl.below (h : Tl w W B d l S s nm R tb T ρ k) (hb : Below W.heap.size W W') : Tl w W' B d l S s nm R tb T ρ k :=
  ⟨h.ct.kb hb, h.cl.kb hb, h.ty.keep (U := fun _ => False) (Only.of_below hb) (fun _ _ e => e), h.sv⟩
theorem Tl.put {h : List UInt8} {m : Int} (H : Tl w W B d l S s nm R tb T ρ k) (hh : h.length = 32) (hp : TPut W tb T ρ h m W') : ∃ T' σ, Tl w W' B d l S s nm R tb T' σ (kput k h m) ∧ PutS [] h m ρ σ T T' := by
  obtain ⟨T', σ, h1, h2, h3⟩ := H.ct.put H.cl.bel.size hh hp
  obtain ⟨_, _, _, _, _, h4⟩ := hp
  have hU : ∀ j, S j → ¬ (j = tb ∨ T.Bl j) := fun j hj e => H.ty.tree H.ct j e hj
  exact ⟨T', σ, ⟨h1, ⟨H.cl.dl.kept h4 hU, H.cl.bel.trans h2, H.cl.ge⟩, H.ty.keep h4 hU, h3.sv _ H.sv⟩, h3⟩
theorem Tl.lpi (H : Tl w W B d l S s nm R tb T ρ k) {m : Nat} (ho : Ok9 s nm R m) : LpI w W W W B d l tb S S s nm R T ρ k m :=
  ⟨H.ct, H.cl, H.ty.tree H.ct, ho, Only.refl _ _, fun _ h => .inl h, Nat.le_refl _⟩
theorem Tl.saved {m' : Nat} {σ : Nat → Nat} (h : LpI w W W W' B d l tb S S' s' nm R' T σ k m') (hs : T.Sv σ R') : ∃ S2, Tl w W' B d l S2 s' nm R' tb T σ k := by
  obtain ⟨S2, h1, h2, h3⟩ := h.cl.dl.tight
  exact ⟨S2, h.ct, ⟨h1, h.cl.bel, fun j hj => h.cl.ge j (h2 j hj)⟩, h3, hs⟩
/-- A tree, its log, and what was put. -/
structure Sst (w W : World) (B d l : Nat) (S : Nat → Prop) (s : St) (nm : Key) (R : List Rc) (tb : Nat) (T : Nd) (ρ : Nat → Nat) (k : En) (kb : Nat) (vh vn : Value) (k2 : En) : Prop where
  tl : Tl w W B d l S s nm R tb T ρ k
  kx : KX W w.heap.size kb vh vn (keys k2) (nums k2)
theorem Sst.below (h : Sst w W B d l S s nm R tb T ρ k kb vh vn k2) (hb : Below W.heap.size W W') : Sst w W' B d l S s nm R tb T ρ k kb vh vn k2 := ⟨h.tl.below hb, h.kx.below hb⟩
theorem Sst.put {h : List UInt8} {m : Int} (H : Sst w W B d l S s nm R tb T ρ k kb vh vn k2) (hh : h.length = 32) (hp : TPut W tb T ρ h m W') : ∃ T' σ, Sst w W' B d l S s nm R tb T' σ (kput k h m) kb vh vn k2 ∧ PutS [] h m ρ σ T T' := by
  obtain ⟨T', σ, h1, h3⟩ := H.tl.put hh hp
  obtain ⟨_, _, _, _, _, h4⟩ := hp
  exact ⟨T', σ, ⟨h1, H.kx.keep h4 (fun j hj e => KX.apart H.tl.ct H.kx e hj)⟩, h3⟩
theorem Sst.kput {h : List UInt8} {m : Int} (H : Sst w W B d l S s nm R tb T ρ k kb vh vn k2) (hp : KPost W w.heap.size kb vh vn (Go.Proofs.YtbpccbhlggcmfaaGreatDoor.kput k2 h m) W') : ∃ vh' vn', Sst w W' B d l S s nm R tb T ρ k kb vh' vn' (Go.Proofs.YtbpccbhlggcmfaaGreatDoor.kput k2 h m) ∧ KOld W vh vn vh' vn' := by
  obtain ⟨⟨vh', vn', h1, h5⟩, h2, h4⟩ := hp
  have hU : ∀ j, S j → ¬ (j = kb ∨ vh.ownBlock = some j ∨ vn.ownBlock = some j) := fun j hj e => H.tl.ty.kx H.kx j e hj
  exact ⟨vh', vn', ⟨⟨{ H.tl.ct with tt := H.tl.ct.tt.kept h4 (fun j hj e => KX.apart H.tl.ct H.kx hj e) }, ⟨H.tl.cl.dl.kept h4 hU, H.tl.cl.bel.trans h2, H.tl.cl.ge⟩, H.tl.ty.keep h4 hU, H.tl.sv⟩, h1⟩, h5⟩
/-- What turns in Save: none of what was put. -/
theorem Sst.saved {m' : Nat} {σ : Nat → Nat} (H : Sst w W B d l S s nm R tb T ρ k kb vh vn k2) (h : LpI w W W W' B d l tb S S' s' nm R' T σ k m') (hs : T.Sv σ R') : ∃ S2, Sst w W' B d l S2 s' nm R' tb T σ k kb vh vn k2 := by
  obtain ⟨S2, h1⟩ := Tl.saved h hs
  exact ⟨S2, h1, H.kx.keep h.only (fun j hj e => e.elim (fun e => H.tl.ty.kx H.kx j hj e) (fun e => KX.apart H.tl.ct H.kx (.inr e) hj))⟩
/-- Save, told by what lies beside it. -/
def SvPost (Q : World → (Nat → Prop) → St → List Rc → (Nat → Nat) → Prop) (nm : Key) (R : List Rc) (T : Nd) (ρ : Nat → Nat) (m : Nat) (e : Ending) (W : World) : Prop :=
  ∃ S s R' σ, e = .returned (.tuple #[.int .i64 (T.rec' σ), .nilIface]) ∧ Q W S s R' σ ∧ Ok9 s nm R' (m - (T.usn ρ).length) ∧ SvP T (ρ, R) (σ, R') (T.usn ρ).length ∧ (σ, R') = savs (ρ, R) (T.usn ρ)
theorem save_tl (m : Nat) (H : Tl w W B d l S s nm R tb T ρ k) (ho : Ok9 s nm R m) (hm : (T.usn ρ).length ≤ m) (hm2 : m ≤ 1000000) :
    Calls Tryz.prog 10 #[.pointer (some ⟨tb, 0, none⟩), .pointer (some ⟨l, 0, none⟩)] W (SvPost (fun W' S' s' R' σ => Tl w W' B d l S' s' nm R' tb T σ k) nm R T ρ m) := by
  refine (save_to w W B d l tb S s nm R T ρ k m (H.lpi ho) H.sv hm hm2).mono ?_
  rintro e W' ⟨S', s', R', σ, rfl, h1, h2, h4⟩
  obtain ⟨S2, h3⟩ := Tl.saved h1 h2.sv
  exact ⟨S2, s', R', σ, rfl, h3, h1.ok, h2, h4⟩
theorem save_sst (m : Nat) (H : Sst w W B d l S s nm R tb T ρ k kb vh vn k2) (ho : Ok9 s nm R m) (hm : (T.usn ρ).length ≤ m) (hm2 : m ≤ 1000000) :
    Calls Tryz.prog 10 #[.pointer (some ⟨tb, 0, none⟩), .pointer (some ⟨l, 0, none⟩)] W (SvPost (fun W' S' s' R' σ => Sst w W' B d l S' s' nm R' tb T σ k kb vh vn k2 ∧ Only (fun j => S j ∨ T.Bl j) W W') nm R T ρ m) := by
  refine (save_to w W B d l tb S s nm R T ρ k m (H.tl.lpi ho) H.tl.sv hm hm2).mono ?_
  rintro e W' ⟨S', s', R', σ, rfl, h1, h2, h4⟩
  obtain ⟨S2, h3⟩ := H.saved h1 h2.sv
  exact ⟨S2, s', R', σ, rfl, ⟨h3, h1.only⟩, h1.ok, h2, h4⟩
/-- A tree as it lies now, saved. -/
theorem Tl.was (H : Tl w W B d l S s nm R tb T ρ k) (ht : T ≠ .none → T.rec' ρ ≠ 0) : Was T ρ R k := ⟨H.ct.tt.wf, H.sv, H.ct.num, H.ct.tk, ht⟩
end
end Go.Proofs.YtbpccbhlggcmfaaGreatDoor
