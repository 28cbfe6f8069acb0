/- A part (2 of 3) of what is needed to prove: OrderLong returns true, whatever the memory holds and whatever the schedule is. No condition. -/
import Derived.Test.YtnpeahbbcolfmaaZl1
import Derived.BigFrame
import Derived.Great.BuildSlice
import Derived.Deep.AppendLies
import Derived.Maps.AppendAt
import Derived.OwnWalkIn
import Derived.Deep.WholeRow
import Derived.Deep.Slices
import Derived.ChangeSame
import Derived.OpenShut
import Derived.Deep.Fields
import Derived.SizedLaws
import Derived.BigQuiet
import Derived.Deep.CutBlock
import Derived.Deep.CutRange
import Derived.Deep.MidRow
import Derived.Laws.OwnMore
import Derived.Conc.MuLone
import Derived.Defers
import Derived.Recover
import Derived.Deep.LoopGhost
set_option linter.unusedSimpArgs false
set_option linter.unusedVariables false
namespace Go.Proofs.Ytnpeahbbcolfmaa
open Go.RowKit
open Go.Maps
/-- The graph with some commits more. -/
def adds (G : Gr) : List Cm → Gr
  | [] => G
  | c :: cs => adds (if (aget c.1 G).isSome then G else aput c.1 c.2 G) cs
structure Wf (G : Gr) : Prop where
  asc : AAsc G
  h32 : COk G
  par : ∀ c ∈ G, c.2.length ≤ 4 ∧ c.2.Nodup
  clo : Clo G
  acy : ∀ h, ∀ p ∈ adj G h, ¬ Up (adj G) p h
  few : G.length ≤ 1000
theorem Wf.nil : Wf [] := ⟨.nil, fun _ h => (by cases h), fun _ h => (by cases h), fun _ _ h => (by unfold adj at h; simp [aget] at h), fun _ _ h => (by unfold adj at h; simp [aget] at h), Nat.zero_le _⟩
theorem aput_new_len {α : Type} {k : Key} {v : α} {M : List (Key × α)} (ha : AAsc M) (h : aget k M = none) : (aput k v M).length = M.length + 1 := by
  have := asum_put (fun _ => 1) k v ha
  rw [h] at this
  simp only [asum_one, olen] at this
  omega
theorem aget_put {α : Type} {x k : Key} {v : α} {M : List (Key × α)} : aget x (aput k v M) = if x = k then some v else aget x M := by
  by_cases e : x = k
  · subst e; rw [aget_put_same, if_pos rfl]
  · rw [aget_put_other _ _ _ e, if_neg e]
/-- M is G and A together. -/
structure Jn (G A M : Gr) : Prop where
  ascA : AAsc A
  ascM : AAsc M
  get : ∀ x, aget x M = (aget x G).or (aget x A)
  dis : ∀ x, (aget x A).isSome = true → aget x G = none
  len : M.length = G.length + A.length
theorem Jn.nil {G : Gr} (h : AAsc G) : Jn G [] G := ⟨.nil, h, fun x => by simp [aget], fun x h => by simp [aget] at h, by simp⟩
theorem Jn.adds {G : Gr} : ∀ {cs : List Cm} {A M : Gr}, Jn G A M → Jn G (addA G A cs) (adds M cs)
  | [], _, _, h => h
  | c :: cs, A, M, h => by
    rw [addA, Go.Proofs.Ytnpeahbbcolfmaa.adds, h.get]
    by_cases e : ((aget c.1 G).or (aget c.1 A)).isSome = true
    · rw [if_pos e, if_pos e]
      exact Jn.adds h
    · rw [if_neg e, if_neg e]
      have e1 : aget c.1 G = none := by cases hg : aget c.1 G with
        | none => rfl
        | some y => rw [hg] at e; exact absurd rfl e
      have e2 : aget c.1 A = none := by
        rw [e1] at e
        cases hg : aget c.1 A with
        | none => rfl
        | some y => rw [hg] at e; exact absurd rfl e
      have e3 : aget c.1 M = none := by rw [h.get, e1, e2]; rfl
      refine Jn.adds ⟨h.ascA.put _ _, h.ascM.put _ _, fun x => ?_, fun x hx => ?_, ?_⟩
      · rw [aget_put, aget_put]
        by_cases ex : x = c.1
        · subst ex; rw [if_pos rfl, if_pos rfl, e1]; rfl
        · rw [if_neg ex, if_neg ex, h.get]
      · rw [aget_put] at hx
        by_cases ex : x = c.1
        · rw [ex, e1]
        · rw [if_neg ex] at hx; exact h.dis x hx
      · rw [aput_new_len h.ascM e3, aput_new_len h.ascA e2, h.len]; omega
theorem adds_jn {G : Gr} (h : AAsc G) (cs : List Cm) : Jn G (addA G [] cs) (adds G cs) := Jn.adds (Jn.nil h)
theorem or_some {r s : Rf} (h : r.or s = none) : r = none ∧ s = none := by cases r <;> simp at h ⊢; exact h
/-- What OK means. -/
structure Fine (G : Gr) (grp : Int) (cs : List Cm) (hs : List Key) : Prop where
  bd : bnd grp cs hs = true
  c2 : ck2 cs = none
  c3 : ck3 G [] cs = none
  c4 : ck4 G (addA G [] cs) cs = none
  c5 : ck5 G (addA G [] cs) hs = none
  c6 : ck6 (addA G [] cs) cs = none
  c7 : G.length + (addA G [] cs).length ≤ 1000
theorem chk_fine {G : Gr} {grp : Int} {cs : List Cm} {hs : List Key} : chk G grp cs hs = none ↔ Fine G grp cs hs := by
  unfold chk
  constructor
  · intro h
    by_cases hb : bnd grp cs hs = true
    · rw [if_pos hb] at h
      obtain ⟨h2, h⟩ := or_some h
      obtain ⟨h3, h⟩ := or_some h
      obtain ⟨h4, h⟩ := or_some h
      obtain ⟨h5, h⟩ := or_some h
      obtain ⟨h6, h⟩ := or_some h
      exact ⟨hb, h2, h3, h4, h5, h6, by split at h; cases h; omega⟩
    · rw [if_neg hb] at h; cases h
  · intro h
    rw [if_pos h.bd, h.c2, h.c3, h.c4, h.c5, h.c6, if_neg (by have := h.c7; omega)]; rfl
theorem miss_none {G A : Gr} : ∀ {E : List Key}, miss G A E = none → ∀ p ∈ E, (aget p G).isSome = true ∨ (aget p A).isSome = true
  | [], _, _, hp => by cases hp
  | q :: E, h, p, hp => by
    rw [miss] at h
    by_cases e : ((aget q G).isSome || (aget q A).isSome) = true
    · rw [if_pos e] at h
      rcases List.mem_cons.1 hp with rfl | hp
      · simpa using e
      · exact miss_none h p hp
    · rw [if_neg e] at h; cases h
theorem ck4_none {G A : Gr} : ∀ {cs : List Cm}, ck4 G A cs = none → ∀ c ∈ cs, ∀ p ∈ c.2, (aget p G).isSome = true ∨ (aget p A).isSome = true
  | [], _, _, hc => by cases hc
  | d :: cs, h, c, hc => by
    rw [ck4] at h
    cases hm : miss G A d.2 with
    | some p => rw [hm] at h; cases h
    | none =>
      rw [hm] at h
      rcases List.mem_cons.1 hc with rfl | hc
      · exact miss_none hm
      · exact ck4_none h c hc
theorem ck6_none {A : Gr} : ∀ {cs : List Cm}, ck6 A cs = none → ∀ c ∈ cs, ¬ ∃ p ∈ c.2, Up (adj A) p c.1
  | [], _, _, hc => by cases hc
  | d :: cs, h, c, hc => by
    rw [ck6] at h
    by_cases e : ∃ p ∈ d.2, Up (adj A) p d.1
    · rw [if_pos e] at h; cases h
    · rw [if_neg e] at h
      rcases List.mem_cons.1 hc with rfl | hc
      · exact e
      · exact ck6_none h c hc
theorem addA_keep {G : Gr} {x : Key} {ps : List Key} : ∀ {cs : List Cm} {A : Gr}, aget x A = some ps → aget x (addA G A cs) = some ps
  | [], _, h => h
  | c :: cs, A, h => by
    rw [addA]
    refine addA_keep ?_
    split
    · exact h
    · rename_i e
      rw [aget_put, if_neg, h]
      rintro rfl
      rw [h] at e
      cases hg : aget c.1 G with
      | none => rw [hg] at e; exact e rfl
      | some y => rw [hg] at e; exact e rfl
theorem ck3_none {G : Gr} : ∀ {cs : List Cm} {A : Gr}, ck3 G A cs = none → ∀ c ∈ cs, (aget c.1 G).or (aget c.1 (addA G A cs)) = some c.2
  | [], _, _, _, hc => by cases hc
  | d :: cs, A, h, c, hc => by
    rw [ck3] at h
    rw [addA]
    cases ho : (aget d.1 G).or (aget d.1 A) with
    | some ps =>
      rw [ho] at h
      simp only at h
      by_cases e : ps = d.2
      · rw [if_pos e] at h
        simp only [Option.isSome_some, if_true]
        rcases List.mem_cons.1 hc with rfl | hc
        · cases hg : aget c.1 G with
          | some y => rw [hg] at ho; rw [← e]; exact ho
          | none =>
            rw [hg] at ho
            rw [addA_keep (x := c.1) (ps := ps) (by simpa using ho), e]; rfl
        · exact ck3_none h c hc
      · rw [if_neg e] at h; cases h
    | none =>
      rw [ho] at h
      simp only at h
      simp only [Option.isSome_none, Bool.false_eq_true, if_false]
      rcases List.mem_cons.1 hc with rfl | hc
      · have hg : aget c.1 G = none := by cases hg : aget c.1 G with
          | none => rfl
          | some y => rw [hg] at ho; cases ho
        rw [hg, addA_keep (x := c.1) (ps := c.2) (aget_put_same _ _ _)]; rfl
      · exact ck3_none h c hc
theorem up_old {G M : Gr} (hc : Clo G) (hm : ∀ x, (aget x G).isSome = true → adj M x = adj G x) {a b : Key} (h : Up (adj M) a b) : (aget a G).isSome = true → Up (adj G) a b ∧ (aget b G).isSome = true := by
  induction h with
  | refl => exact fun h => ⟨.refl _, h⟩
  | step h1 _ ih =>
    intro ha
    rw [hm _ ha] at h1
    obtain ⟨h2, h3⟩ := ih (hc _ _ h1)
    exact ⟨.step h1 h2, h3⟩
theorem up_new {G A M : Gr} (hc : Clo G) (hm : ∀ x, (aget x G).isSome = true → adj M x = adj G x) (hn : ∀ x, (aget x G).isSome = false → adj M x = adj A x) {a b : Key} (h : Up (adj M) a b) (hb : (aget b G).isSome = false) : Up (adj A) a b := by
  induction h with
  | refl => exact .refl _
  | @step a c b h1 k ih =>
    cases ha : (aget a G).isSome with
    | true =>
      have := (up_old hc hm (.step h1 k) ha).2
      rw [hb] at this; cases this
    | false => exact .step (by rw [← hn _ ha]; exact h1) (ih hb)
theorem Jn.old {G A M : Gr} (j : Jn G A M) (x : Key) (h : (aget x G).isSome = true) : adj M x = adj G x := by
  unfold adj
  rw [j.get]
  cases hg : aget x G with
  | none => rw [hg] at h; cases h
  | some y => rfl
theorem Jn.new {G A M : Gr} (j : Jn G A M) (x : Key) (h : (aget x G).isSome = false) : adj M x = adj A x := by
  unfold adj
  rw [j.get]
  cases hg : aget x G with
  | none => rfl
  | some y => rw [hg] at h; cases h
theorem up_mono {f g : Key → List Key} (h : ∀ x, ∀ p ∈ f x, p ∈ g x) {a b : Key} (k : Up f a b) : Up g a b := by
  induction k with
  | refl => exact .refl _
  | step h1 _ ih => exact .step (h _ _ h1) ih
/-- A commit of the request that is its own ancestor: in the whole graph, or among the new ones alone. -/
theorem round_iff {G : Gr} {cs : List Cm} (W : Wf G) (h3 : ck3 G [] cs = none) {c : Cm} (hc : c ∈ cs) :
    (∃ p ∈ adj (adds G cs) c.1, Up (adj (adds G cs)) p c.1) ↔ ∃ p ∈ c.2, Up (adj (addA G [] cs)) p c.1 := by
  have j := adds_jn W.asc cs
  have hg := ck3_none h3 c hc
  have hadj : adj (adds G cs) c.1 = c.2 := by unfold adj; rw [j.get, hg]; rfl
  rw [hadj]
  constructor
  · rintro ⟨p, hp, hu⟩
    refine ⟨p, hp, ?_⟩
    cases hG : (aget c.1 G).isSome with
    | true =>
      exfalso
      have hpG : p ∈ adj G c.1 := by rw [← j.old _ hG, hadj]; exact hp
      exact W.acy _ _ hpG (up_old W.clo j.old hu (W.clo _ _ hpG)).1
    | false => exact up_new W.clo j.old j.new hu hG
  · rintro ⟨p, hp, hu⟩
    refine ⟨p, hp, up_mono (fun x q hq => ?_) hu⟩
    obtain ⟨ps, e1, e2⟩ := adj_some hq
    have hn := j.dis _ (by rw [e1]; rfl)
    unfold adj
    rw [j.get, hn, e1]
    exact e2
theorem add_wf {G : Gr} {grp : Int} {cs : List Cm} {hs : List Key} (W : Wf G) (ok : COk cs) (F : Fine G grp cs hs) : Wf (adds G cs) := by
  have j := adds_jn W.asc cs
  have hfrom : ∀ x ps, aget x (adds G cs) = some ps → aget x G = some ps ∨ ((x, ps) ∈ cs ∧ aget x G = none) := fun x ps h => by
    rw [j.get] at h
    cases hg : aget x G with
    | some y => rw [hg] at h; exact .inl h
    | none =>
      rw [hg] at h
      rcases addA_mem (by simpa using h) with h | h
      · cases h
      · exact .inr ⟨h, rfl⟩
  have hm : ∀ c ∈ adds G cs, c ∈ G ∨ c ∈ cs := fun c hc => by
    rcases hfrom c.1 c.2 (aget_of_mem j.ascM hc) with h | h
    · exact .inl (aget_mem h)
    · exact .inr h.1
  have hclo : Clo (adds G cs) := fun k p hp => by
    obtain ⟨ps, e1, e2⟩ := adj_some hp
    rw [j.get]
    rcases hfrom k ps e1 with h | h
    · have : p ∈ adj G k := by unfold adj; rw [h]; exact e2
      have := W.clo _ _ this
      cases hg : aget p G with
      | none => rw [hg] at this; cases this
      | some y => rfl
    · rcases ck4_none F.c4 _ h.1 p e2 with h | h
      · cases hg : aget p G with
        | none => rw [hg] at h; cases h
        | some y => rfl
      · cases hg : aget p G with
        | none => rw [show (none : Option (List Key)).or (aget p (addA G [] cs)) = aget p (addA G [] cs) from rfl]; exact h
        | some y => rfl
  refine ⟨j.ascM, fun c hc => (hm c hc).elim (W.h32 c) (ok c), fun c hc => (hm c hc).elim (W.par c) (ck2_none F.c2 c), hclo, fun h p hp hu => ?_, by rw [j.len]; exact F.c7⟩
  obtain ⟨ps, e1, e2⟩ := adj_some hp
  rcases hfrom h ps e1 with hG | hG
  · have hp' : p ∈ adj G h := by unfold adj; rw [hG]; exact e2
    exact W.acy _ _ hp' (up_old W.clo j.old hu (W.clo _ _ hp')).1
  · exact ck6_none F.c6 _ hG.1 ((round_iff W F.c3 hG.1).1 ⟨p, hp, hu⟩)
end Go.Proofs.Ytnpeahbbcolfmaa
namespace Go.Proofs.Ytnpeahbbcolfmaa
open Go.RowKit
open Go.Maps
section
variable {ops : Array Oper} {o : Oper} {a : Act} {w : World} {K : Act → World → Prop} {Q : Exit → Act → World → Prop} {X : Prop}
theorem step_upd {t : TypeId} (hgd : o.guard = none) (m k v : Operand) (ho : o.op = .mapUpdate t m k v) {mv kv vv : Value} (hm : a.eval m = mv) (hk : a.eval k = kv) (hv' : a.eval v = vv) {w' : World} (hr : (Instr.mapUpdate t mv kv vv).run Try.prog w = .ok () w') (h : K (a.put o.dst undef) w') :
    if Region.wanted o (yielded ops a.tmps) = true then Oper.wp Try.prog o a w K Q else X := by
  have hw : Region.wanted o (yielded ops a.tmps) = true := by simp [Region.wanted, hgd]
  rw [if_pos hw]
  unfold Oper.wp execOp
  simp [ho, hm, hk, hv', hr, Result.andThen]
  exact h
end
theorem GA.only {w w' : World} {g bm : Nat} {X : Lx} {S : Nat → Prop} (h : GA w g bm X) (ho : Only S w w') (m : Mild w w') (hb : ¬ S bm) : GA w' g bm X :=
  ⟨m.cells h.cell, h.at_.mild m (ho.block bm h.at_.mp.lt hb)⟩
theorem GA.store {w w' : World} {g bm : Nat} {X : Lx} {k : Key} {v : Value} {E : List Key} (h : GA w g bm X) (mp' : MpH w' bm (aput k v (kvs X))) (ho : Only (fun j => j = bm) w w') (hv' : HSeen w v E) (hE : H32 E) : GA w' g bm (aput k (v, E) X) :=
  ⟨(mild_map h.at_.mp ho).cells h.cell, h.at_.store mp' ho hv' hE⟩
/-- The block that a slice lies in. -/
def sblk : Value → Option Nat
  | .slice (some a) _ _ => some a.block
  | _ => none
/-- The rows of parents of a graph that has grown: they were there, or lie in new memory. -/
def FarX (n : Nat) (X X' : Lx) : Prop := ∀ x ∈ X', x ∈ X ∨ ∀ b, sblk x.2.1 = some b → n ≤ b
theorem FarX.refl (n : Nat) (X : Lx) : FarX n X X := fun _ h => .inl h
theorem own_sblk {w : World} {B : Nat} {v : Value} {E : List Key} (h : HOwn w B v E) {b : Nat} (hb : sblk v = some b) : B ≤ b := by
  rcases h.2 with ⟨rfl, _⟩ | ⟨g, cap, cur, rfl, h2, _⟩
  · cases hb
  · injection hb with hb; subst hb; exact h2
theorem FarX.put {n : Nat} {X Z : Lx} (h : FarX n X Z) (k : Key) {v : Value} (E : List Key) (hv : ∀ b, sblk v = some b → n ≤ b) : FarX n X (aput k (v, E) Z) := fun x hx => by
  rcases (ains_mem _ _ _).1 hx with rfl | hx
  · exact .inr hv
  · exact h x ((adel_mem _ _ _).1 hx).1
/-- What Add hands back. -/
def AddPost (w : World) (g bm : Nat) (X : Lx) (cs : List Cm) (e : Ending) (w' : World) : Prop :=
  ∃ x, e = .returned x ∧ ErrW w' x (chk (gr X) 2 cs []) ∧ Only (fun k => k = bm) w w' ∧
    ((chk (gr X) 2 cs []).isSome = true ∧ Below w.heap.size w w' ∨ ∃ X', chk (gr X) 2 cs [] = none ∧ GA w' g bm X' ∧ gr X' = adds (gr X) cs ∧ FarX w.heap.size X X')
theorem par_of {G : Gr} (W : Wf G) {X : Lx} (hX : gr X = G) : ∀ x ∈ X, x.2.2.length ≤ 4 ∧ x.2.2.Nodup := fun x hx => by
  have : (x.1, x.2.2) ∈ gr X := List.mem_map.2 ⟨x, hx, rfl⟩
  rw [hX] at this
  exact W.par _ this
set_option linter.unusedSimpArgs false in
set_option maxRecDepth 20000 in
set_option maxHeartbeats 8000000 in
attribute [local go_sem ↓] hld_open cld_open in
theorem add_to (w : World) (g bm : Nat) (X : Lx) (v : Value) (cs : List Cm) (H : GA w g bm X) (W : Wf (gr X)) (hv' : CSeen w v cs) (hok : COk cs) (hl : cs.length ≤ 1000000) (hp : ∀ c ∈ cs, c.2.length ≤ 1000000) :
    Calls Try.prog 8 #[gp g, v] w (AddPost w g bm X cs) := by
  obtain ⟨p, cap, rfl, hc⟩ := id hv'
  clear hc
  obtain ⟨n, hn⟩ : ∃ n, n = cs.length := ⟨_, rfl⟩
  rw [← hn] at hv' hl ⊢
  have HV := Lib.hid hv'
  have HO := Lib.hid hok
  have HN := Lib.hid hn
  have HL := Lib.hid hl
  have HP := Lib.hid hp
  have HG0 := Lib.hid H
  have HW := Lib.hid W
  have hXl : X.length ≤ 1000 := by have := W.few; rwa [gr_len] at this
  have HXL := Lib.hid hXl
  have hne := nn_iface
  have hnn := nn_nil
  have HCK := Lib.hid (check_to w g bm X (.slice p n cap) (.slice none 0 0) 2 cs [] H hXl (fun x hx => Nat.le_trans (par_of W rfl x hx).1 (by decide)) hv' (.inl ⟨rfl, rfl⟩) hok H32.nil (by rw [← hn]; exact hl) hp (by simp))
  clear hv' hok hl hn hp H W hXl
  go_enter Try.func8, Try.ntmps8
  go_wp2_with fail
  refine HCK.out.mono ?_
  rintro e w1 ⟨x1, rfl, e1, b1⟩
  have B1 := Lib.hid b1
  have E1 := Lib.hid e1
  clear b1
  rcases e1.form with ⟨hn1, rfl⟩ | ⟨hs1, t1, y1, rfl⟩
  · have N1 := Lib.hid hn1
    have G1 := Lib.hid (HG0.out.kb B1.out)
    have O1 : Hid (Only (fun k => k = bm) w w1) := Lib.hid (Only.of_below B1.out)
    clear e1 hn1 E1
    go_wp2_with fail
    go_loopw [17] (fun s wr => ∃ (i : Nat) (Z : Lx), s = .int .i64 i ∧ i ≤ n ∧ Hid (adds (gr X) cs = adds (gr Z) (cs.drop i)) ∧ Hid (GA wr g bm Z ∧ Z.length ≤ X.length + i) ∧ Hid (Only (fun k => k = bm) w wr) ∧ Hid (FarX w.heap.size X Z))
      (fun s _ => n - (intOf s).toNat)
    case atStart => exact ⟨0, X, rfl, Nat.zero_le _, Lib.hid rfl, Lib.hid ⟨G1.out, Nat.le_refl _⟩, O1, Lib.hid (FarX.refl _ _)⟩
    case round =>
      clear O1 G1
      obtain ⟨i, Z, rfl, hi, T, HZ, B, HFZ⟩ := hrel
      by_cases hlt : i < n
      · obtain ⟨j1, j2, j3⟩ := next_fit hlt HL.out
        have hiE : i < cs.length := by rw [← HN.out]; exact hlt
        obtain ⟨p', cap', e1, hc⟩ := HV.out.mild (mild_map HG0.out.at_.mp B.out)
        injection e1 with e1 e2 e3
        obtain ⟨b, o, u, rfl, hrg, hsn⟩ := hc i cs[i] (List.getElem?_eq_getElem hiE)
        subst e1
        have hdr : cs.drop i = cs[i] :: cs.drop (i + 1) := drop_at hiE
        have hoki := HO.out _ (List.getElem_mem hiE)
        have hmemi := List.getElem_mem hiE
        obtain ⟨⟨h, E⟩, hce⟩ : ∃ c : Cm, c = cs[i] := ⟨_, rfl⟩
        rw [← hce] at hrg hsn hdr hoki hmemi
        dsimp only at hrg hsn hoki
        have hh := hoki.1
        have hld0 := cld_range hh hrg
        have st := cst_cells h u hh hsn.one wr
        have hks : (cmv h u).size = 33 := cmv_size hh u
        have b3 : Below wr.heap.size wr (wr.alloc (.cells (cmv h u) 32)) := (Below.refl _ _).alloc (Nat.le_refl _) _
        have B3 : Hid (Only (fun k => k = bm) w (wr.alloc (.cells (cmv h u) 32))) := Lib.hid (B.out.alloc _)
        have HV3 := heap_alloc_last wr (.cells (cmv h u) 32)
        have hsn3 := hsn.mild (mild_below b3)
        have hs3 : (wr.alloc (.cells (cmv h u) 32)).heap.size = wr.heap.size + 1 := by simp
        obtain ⟨pu, cu, rfl⟩ := hsn3.shape
        have HH3 := Lib.hid HV3
        have HSN := Lib.hid hsn3
        have HOK := Lib.hid hoki
        have HDR := Lib.hid hdr
        have HMI := Lib.hid hmemi
        obtain ⟨m, hm⟩ : ∃ m, m = E.length := ⟨_, rfl⟩
        rw [← hm] at hld0 st hks HH3 HSN hs3 B3
        have HB3 := Lib.hid b3
        rw [← hm] at HB3
        have HM := Lib.hid hm
        have HPI : Hid (E.length ≤ 1000000) := Lib.hid (HP.out _ hmemi)
        have HZ3 : Hid (GA (wr.alloc (.cells (cmv h (.slice pu m cu)) 32)) g bm Z) := Lib.hid (HZ.out.1.kb HB3.out)
        clear hrg hsn hdr hoki hmemi hh b3 HV3 hsn3 hc e2 e3 hce hm hiE
        generalize hw3 : wr.alloc (.cells (cmv h (.slice pu m cu)) 32) = w3 at *
        have hld3 := cm_hld (w := w3) HOK.out.1 HH3.out
        have had : adds (gr X) cs = adds (if (aget h (gr Z)).isSome then gr Z else aput h E (gr Z)) (cs.drop (i + 1)) := by rw [T.out, HDR.out]; rfl
        have HHS := Lib.hid (has_to w3 g bm Z h HOK.out.1 HZ3.out)
        have HCM := Lib.hid (fun W (hW : Below w3.heap.size w3 W) => cm_cell (w := W) HOK.out.1 ((mild_below hW).cells HH3.out))
        have HLD := Lib.hid (fun W (hW : Below w3.heap.size w3 W) => cm_hld (w := W) HOK.out.1 ((mild_below hW).cells HH3.out))
        have HLM := Lib.hid (fun W (m : Mild w3 W) => cm_hld (w := W) HOK.out.1 (m.cells HH3.out))
        have HCL := Lib.hid (fun W (hW : Below w3.heap.size w3 W) => hclone_any W (.slice pu m cu) E HOK.out.2 (srt_fit HPI.out) (HSN.out.mild (mild_below hW)))
        have HAD := Lib.hid had
        clear had
        generalize cmv h (.slice pu m cu) = q33 at *
        cases hh : (aget h (gr Z)).isSome with
        | true =>
          rw [hh] at HHS
          have HA2 : Hid (adds (gr X) cs = adds (gr Z) (cs.drop (i + 1))) := Lib.hid (by rw [HAD.out, if_pos hh])
          clear HAD hh
          go_wp2_with fail
          refine HHS.out.mono ?_
          rintro e w4 ⟨rfl, b4⟩
          have B4 : Hid (Only (fun k => k = bm) w w4) := Lib.hid (B3.out.trans (Only.of_below (S := fun k => k = bm) b4) (fun _ h => h) (fun _ _ h => h))
          have HZ4 := Lib.hid (HZ3.out.kb b4)
          clear b4
          go_wp2_with fail
          refine ⟨⟨i + 1, Z, by rw [j1], hlt, HA2, Lib.hid ⟨HZ4.out, Nat.le_trans HZ.out.2 (by omega)⟩, B4, HFZ⟩, ?_⟩
          rw [j1]; simp only [intOf]; omega
        | false =>
          rw [hh] at HHS
          have HA2 : Hid (adds (gr X) cs = adds (aput h E (gr Z)) (cs.drop (i + 1))) := Lib.hid (by rw [HAD.out, if_neg (by rw [hh]; decide)])
          clear HAD hh
          go_wp2_with fail
          refine HHS.out.mono ?_
          rintro e w4 ⟨rfl, b4⟩
          have B4 : Hid (Only (fun k => k = bm) w w4) := Lib.hid (B3.out.trans (Only.of_below (S := fun k => k = bm) b4) (fun _ h => h) (fun _ _ h => h))
          have HZ4 := Lib.hid (HZ3.out.kb b4)
          have c0 := HZ4.out.c0
          have c32 := HCM.out w4 b4
          have b4d : Below w3.heap.size w3 w4.drew := b4.trans ((blw_qt _ 1 w4).mono b4.size)
          have l0 := HLD.out w4.drew b4d
          have HB4 := Lib.hid b4d
          clear b4 b4d
          go_wp2_with fail
          try simp only [List.append]
          refine wp_region_noPanic ?_
          refine wp_region_held_drew (S := (fun W => W.cell? ⟨g, 0, none⟩ = some (.map (some bm)) ∧ (hld ⟨wr.heap.size, 0, none⟩).run Try.prog W = .ok (.agg (hv h)) W ∧ W.cell? ⟨wr.heap.size, 32, none⟩ = some (.slice pu m cu))) (by kernel_rfl) ⟨c0, l0, c32⟩ (fun hHeld => ?_)
          refine wpAnyH_take (i := 0) (v := ?_) (by simp only [List.getElem?_toArray, List.getElem?_cons_zero]; rfl) (by kernel_rfl) (by kernel_rfl) (by kernel_rfl) (fun _ _ _ h => h) (Or.inl ⟨by rfl, ?_⟩) (by assumption) ?_
          rotate_left
          · intro w hSw
            try dsimp only at hSw
            go_simp
            try with_reducible rfl
          try simp only [Act.put, List.setIfInBounds_toArray, List.set_cons_zero, List.set_cons_succ]
          refine wpAnyH_take (i := 1) (v := ?_) (by simp only [List.getElem?_toArray, List.getElem?_cons_succ, List.getElem?_cons_zero]; rfl) (by kernel_rfl) (by kernel_rfl) (by kernel_rfl) (fun _ _ _ h => h) (Or.inl ⟨by rfl, ?_⟩) (by assumption) ?_
          rotate_left
          · intro w hSw
            try dsimp only at hSw
            go_simp
            try with_reducible rfl
          try simp only [Act.put, List.setIfInBounds_toArray, List.set_cons_zero, List.set_cons_succ]
          refine wpAnyH_take (i := 2) (v := ?_) (by simp only [List.getElem?_toArray, List.getElem?_cons_succ, List.getElem?_cons_zero]; rfl) (by kernel_rfl) (by kernel_rfl) (by kernel_rfl) (fun _ _ _ h => h) (Or.inl ⟨by rfl, ?_⟩) (by assumption) ?_
          rotate_left
          · intro w hSw
            try dsimp only at hSw
            go_simp
            try with_reducible rfl
          try simp only [Act.put, List.setIfInBounds_toArray, List.set_cons_zero, List.set_cons_succ]
          refine wpAnyH_take (i := 3) (v := ?_) (by simp only [List.getElem?_toArray, List.getElem?_cons_succ, List.getElem?_cons_zero]; rfl) (by kernel_rfl) (by kernel_rfl) (by kernel_rfl) (fun _ _ _ h => h) (Or.inl ⟨by rfl, ?_⟩) (by assumption) ?_
          rotate_left
          · intro w hSw
            try dsimp only at hSw
            go_simp
            try with_reducible rfl
          try simp only [Act.put, List.setIfInBounds_toArray, List.set_cons_zero, List.set_cons_succ]
          refine wpAnyH_take (i := 4) (v := ?_) (by simp only [List.getElem?_toArray, List.getElem?_cons_succ, List.getElem?_cons_zero]; rfl) (by kernel_rfl) (by kernel_rfl) (by kernel_rfl) (fun _ _ _ h => h) (Or.inl ⟨by rfl, ?_⟩) (by assumption) ?_
          rotate_left
          · intro w hSw
            try dsimp only at hSw
            go_simp
            try with_reducible rfl
          try simp only [Act.put, List.setIfInBounds_toArray, List.set_cons_zero, List.set_cons_succ]
          refine wpAnyH_take (i := 5) (v := ?_) (by simp only [List.getElem?_toArray, List.getElem?_cons_succ, List.getElem?_cons_zero]; rfl) (by kernel_rfl) (by kernel_rfl) (by kernel_rfl) (fun _ _ _ h => h) (Or.inl ⟨by rfl, ?_⟩) (by assumption) ?_
          rotate_left
          · intro w hSw
            try dsimp only at hSw
            go_simp
            try with_reducible rfl
          try simp only [Act.put, List.setIfInBounds_toArray, List.set_cons_zero, List.set_cons_succ]
          refine wpAnyH_take (i := 6) (v := ?_) (by simp only [List.getElem?_toArray, List.getElem?_cons_succ, List.getElem?_cons_zero]; rfl) (by kernel_rfl) (by kernel_rfl) (by kernel_rfl) (fun _ _ _ h => h) (Or.inl ⟨by rfl, ?_⟩) (by assumption) ?_
          rotate_left
          · intro w hSw
            try dsimp only at hSw
            go_simp
            try with_reducible rfl
          try simp only [Act.put, List.setIfInBounds_toArray, List.set_cons_zero, List.set_cons_succ]
          refine wpAnyH_take (i := 7) (v := ?_) (by simp only [List.getElem?_toArray, List.getElem?_cons_succ, List.getElem?_cons_zero]; rfl) (by kernel_rfl) (by kernel_rfl) (by kernel_rfl) (fun _ _ _ h => h) (Or.inl ⟨by rfl, ?_⟩) (by assumption) ?_
          rotate_left
          · intro w hSw
            try dsimp only at hSw
            go_simp
            try with_reducible rfl
          try simp only [Act.put, List.setIfInBounds_toArray, List.set_cons_zero, List.set_cons_succ]
          refine wpAnyH_ready (rs := [8]) (by kernel_rfl) (by simp) ?_
          refine AllReadyH.cons (by simp only [List.getElem?_toArray, List.getElem?_cons_succ, List.getElem?_cons_zero]; rfl) (fun K hK => ?_) AllReadyH.nil
          go_simp
          refine (HCL.out w4.drew HB4.out).mono ?_
          rintro e w5 ⟨v5, rfl, o5, b5⟩
          have b5' := HB4.out.trans (b5.mono HB4.out.size)
          have c0' := (HZ3.out.kb b5').c0
          have l0' := HLD.out w5 b5'
          have c32' := HCM.out w5 b5'
          have HZ5 := Lib.hid (HZ3.out.kb b5')
          have B5 : Hid (Only (fun k => k = bm) w w5) := Lib.hid (B3.out.trans (Only.of_below (S := fun k => k = bm) b5') (fun _ h => h) (fun _ _ h => h))
          have O5 := Lib.hid (HSeen.own o5)
          obtain ⟨p5, c5, rfl⟩ := (HSeen.own o5).shape
          have HF5 : Hid (FarX w.heap.size X (aput h (.slice p5 E.length c5, E) Z)) := Lib.hid (HFZ.out.put h E (fun b hb => Nat.le_trans B4.out.size (own_sblk o5 hb)))
          have hZl : Z.length < maxLen := by have := HZ.out.2; have := HXL.out; have := HL.out; unfold maxLen; omega
          obtain ⟨w6, hmu, mp6, o6⟩ := HZ5.out.at_.mp.store Try.underlying66 h HOK.out.1 (by rw [kvs_len]; exact hZl) (.slice p5 E.length c5)
          have HZ6 := Lib.hid (HZ5.out.store mp6 o6 O5.out HOK.out.2)
          have B6 : Hid (Only (fun k => k = bm) w w6) := Lib.hid (B5.out.trans o6 (fun _ h => h) (fun _ _ h => h))
          have l6 : (hld ⟨wr.heap.size, 0, none⟩).run Try.prog w6 = .ok (.agg (hv h)) w6 := HLM.out w6 ((mild_below b5').trans (mild_map HZ5.out.at_.mp o6))
          have c6 := (mild_map HZ5.out.at_.mp o6).cell c32'
          have g6 := HZ6.out.c0
          have HMU := Lib.hid hmu
          clear o5 b5 b5' mp6 o6 hmu
          go_wp2_with fail
          refine hK.out _ _ ⟨c0', l0', c32'⟩ (fun hHeld => ?_)
          clear hK K
          try simp only [Act.put, List.setIfInBounds_toArray, List.set_cons_zero, List.set_cons_succ]
          refine wpAnyH_ready (rs := [9]) (by kernel_rfl) (by simp) ?_
          refine AllReadyH.cons (by simp only [List.getElem?_toArray, List.getElem?_cons_succ, List.getElem?_cons_zero]; rfl) (fun K hK => ?_) AllReadyH.nil
          refine step_upd (by rfl) (.tmp 29) (.tmp 31) (.tmp 34) (by rfl) (by rfl) (by rfl) (by rfl) HMU.out ?_
          refine hK.out _ _ ⟨g6, l6, c6⟩ (fun hHeld => ?_)
          clear hK K
          try simp only [Act.put, List.setIfInBounds_toArray, List.set_cons_zero, List.set_cons_succ]
          refine wpAnyH_done (by kernel_rfl) ?_ _
          refine NoPanic.normal ?_
          go_wp2_with fail
          refine ⟨⟨i + 1, aput h (.slice p5 E.length c5, E) Z, by rw [j1], hlt, Lib.hid (by rw [gr_put]; exact HA2.out), Lib.hid ⟨HZ6.out, Nat.le_trans (aput_len _ _ _) (by have := HZ.out.2; omega)⟩, B6, HF5⟩, ?_⟩
          rw [j1]; simp only [intOf]; omega
      · obtain rfl : i = n := by omega
        go_wp2
        go_ret
        have hT := T.out
        rw [List.drop_eq_nil_of_le (by rw [HN.out]; exact Nat.le_refl _)] at hT
        exact ⟨_, rfl, by rw [N1.out]; rfl, B.out, .inr ⟨Z, N1.out, HZ.out.1, hT.symm, HFZ.out⟩⟩
  · have HS1 := Lib.hid hs1
    clear e1 hs1
    go_wp2
    go_ret
    exact ⟨_, rfl, E1.out, Only.of_below B1.out, .inl ⟨HS1.out, B1.out⟩⟩
end Go.Proofs.Ytnpeahbbcolfmaa
namespace Go.Proofs.Ytnpeahbbcolfmaa
open Go.RowKit Go.Extern.Stop Go.Stop Go.Extern
open Go.Maps
def whoH : Rf → Key
  | some (_, some h) => h
  | _ => hz
theorem there32 {w : World} {b : Nat} {q : Array Value} {t : TypeId} (hs : q.size = 32) (h : w.heap[b]? = some (.cells q t (0, 0))) : w.there b 0 32 := by
  have := there_row h
  rwa [hs] at this
end Go.Proofs.Ytnpeahbbcolfmaa
namespace Go.Proofs.Ytnpeahbbcolfmaa
open Go.RowKit
open Go.Maps
/-- Is one of some hashes among others? -/
def anyIn (E R : List Key) : Bool := E.any fun p => decide (p ∈ R)
/-- The first commit that stays and has a parent that goes. -/
def rm1 (E : List Key) : Gr → Rf
  | [] => none
  | c :: G => if c.1 ∈ E then rm1 E G else if anyIn c.2 E then some (10, some c.1) else rm1 E G
/-- The commits that stay. -/
def rmv (E : List Key) (G : Gr) : Gr := G.filter fun c => !decide (c.1 ∈ E)
theorem GA.drop {w w' : World} {g bm : Nat} {X : Lx} {k : Key} (h : GA w g bm X) (mp' : MpH w' bm (adel k (kvs X))) (ho : Only (fun j => j = bm) w w') : GA w' g bm (adel k X) := by
  have hm := mild_map h.at_.mp ho
  refine ⟨hm.cells h.cell, by rw [show kvs (adel k X) = adel k (kvs X) from amap_del _ _ _]; exact mp', fun x hx => ?_⟩
  have := h.at_.seen x ((adel_mem _ _ _).1 hx).1
  exact ⟨this.1.mild hm, this.2⟩
section
variable {ops : Array Oper} {o : Oper} {a : Act} {w : World} {K : Act → World → Prop} {Q : Exit → Act → World → Prop} {X : Prop}
end
end Go.Proofs.Ytnpeahbbcolfmaa
namespace Go.Proofs.Ytnpeahbbcolfmaa
open Go.RowKit
open Go.Maps
end Go.Proofs.Ytnpeahbbcolfmaa
namespace Go.Proofs.Ytnpeahbbcolfmaa
open Go.RowKit
open Go.Maps
section
variable {P : Program} {ops : Array Oper} {rest : List Oper} {a : Act} {w : World} {Q : Exit → Act → World → Prop} {dst : Option Tmp} {T : TypeId} {pos : String} {after : Array Edge}
theorem build_w {g : Option (Nat × Bool)} {t : TypeId} {parts : Array (Nat × Operand)} {vals : Array (Nat × Value)} {cells : Array Value} (hr : P.built t vals.toList = some cells) (hv' : (parts.map fun (i, x) => (i, a.eval x)) = vals)
    (hw : Region.wanted ⟨dst, .build t parts, T, pos, after, g⟩ (yielded ops a.tmps) = true) (h : wpList P ops Q rest (a.put dst (.agg cells)) w) : wpList P ops Q (⟨dst, .build t parts, T, pos, after, g⟩ :: rest) a w :=
  BigFrame.wpList_want hw fun _ hK => wp_build t parts rfl (by rw [hv', hr]; rfl) (by rw [hv', hr]; exact hK _ _ h)
end
/-- A commit put together. -/
theorem built_commit (h : Key) (u : Value) (hh : h.length = 32) (hu : u.cells = #[u]) : Try.prog.built 32 [(0, .agg (hv h)), (1, u)] = some (cmv h u) := by
  have hi : (Try.prog.info? 32).map (fun i => i.zero.map (·.cells.size)) = some (some 33) := by kernel_rfl
  have hf : (Try.prog.underlying 32).map (fun d => match d with | .struct fs => fs.toList.mapM (fun f => (Try.prog.info? f.type).map fun i => (f.offset, i.size)) | _ => none) = some (some [(0, 32), (32, 1)]) := by kernel_rfl
  have hs : (hv h).size = 32 := by rw [hv_size, hh]
  unfold cmv
  generalize hv h = h at hs ⊢
  unfold Program.built
  cases hit : Try.prog.info? 32 with
  | none => rw [hit] at hi; cases hi
  | some it =>
    rw [hit] at hi
    cases hun : Try.prog.underlying 32 with
    | none => rw [hun] at hf; cases hf
    | some d =>
      rw [hun] at hf
      cases d with
      | struct fs =>
        simp only [Option.map_some, Option.some.injEq] at hf
        simp only [hf]
        cases hz : it.zero with
        | none => simp [hz] at hi
        | some z =>
          simp only [Option.map_some, Option.some.injEq, hz] at hi
          have hsz : ∀ x : Array Value, (x.zipIdx.foldl (fun (cs : Array Value) (p : Value × Nat) => cs.setIfInBounds (0 + p.2) p.1) z.cells) = (x.toList.zipIdx.foldl (fun (cs : Array Value) (p : Value × Nat) => cs.setIfInBounds (0 + p.2) p.1) z.cells) := fun x => by
            rw [← Array.foldl_toList, Array.toList_zipIdx]
          have hg := fold_get h.toList 0 z.cells
          have hn : (h.toList.zipIdx.foldl (fun (cs : Array Value) (p : Value × Nat) => cs.setIfInBounds (0 + p.2) p.1) z.cells).size = 33 := by
            rw [← hi]
            generalize h.toList.zipIdx = q
            generalize z.cells = y
            induction q generalizing y with
            | nil => rfl
            | cons a q ih => rw [List.foldl_cons, ih]; simp
          simp only [Instr.fill, List.getElem?_toArray, List.getElem?_cons_zero, List.getElem?_cons_succ, show (Value.agg h).cells = h from rfl, hs, hi, hu, hsz]
          generalize h.toList.zipIdx.foldl (fun (cs : Array Value) (p : Value × Nat) => cs.setIfInBounds (0 + p.2) p.1) z.cells = y at hg hn
          simp only [hn]
          simp
          apply Array.ext_getElem?
          intro i
          have := hg i
          simp only [Array.length_toList, hs, hi] at this
          rw [Array.getElem?_setIfInBounds, Array.getElem?_push, hn, hs]
          by_cases h1 : i = 32
          · subst h1; simp
          · rw [if_neg (by omega), if_neg h1, this]
            by_cases h2 : i < 32
            · rw [if_pos (by omega)]; simp
            · rw [if_neg (by omega)]
              rw [Array.getElem?_eq_none (by omega), Array.getElem?_eq_none (by omega)]
      | _ => simp at hf
theorem built_commit0 (h : Key) (hh : h.length = 32) : Try.prog.built 32 [(0, .agg (hv h))] = some (cmv h (.slice none 0 0)) := by
  have hi : (Try.prog.info? 32).map (fun i => i.zero) = some (some (.agg czer)) := by kernel_rfl
  have hf : (Try.prog.underlying 32).map (fun d => match d with | .struct fs => fs.toList.mapM (fun f => (Try.prog.info? f.type).map fun i => (f.offset, i.size)) | _ => none) = some (some [(0, 32), (32, 1)]) := by kernel_rfl
  have hs : (hv h).size = 32 := by rw [hv_size, hh]
  have hcz : czer.size = 33 ∧ czer[32]? = some (.slice none 0 0) := ⟨rfl, rfl⟩
  unfold cmv
  generalize hv h = h at hs ⊢
  unfold Program.built
  cases hit : Try.prog.info? 32 with
  | none => rw [hit] at hi; cases hi
  | some it =>
    rw [hit] at hi
    cases hun : Try.prog.underlying 32 with
    | none => rw [hun] at hf; cases hf
    | some d =>
      rw [hun] at hf
      cases d with
      | struct fs =>
        simp only [Option.map_some, Option.some.injEq] at hf hi
        simp only [hf, hi]
        have hsz : ∀ x : Array Value, (x.zipIdx.foldl (fun (cs : Array Value) (p : Value × Nat) => cs.setIfInBounds (0 + p.2) p.1) czer) = (x.toList.zipIdx.foldl (fun (cs : Array Value) (p : Value × Nat) => cs.setIfInBounds (0 + p.2) p.1) czer) := fun x => by
          rw [← Array.foldl_toList, Array.toList_zipIdx]
        have hg := fold_get h.toList 0 czer
        have hn : (h.toList.zipIdx.foldl (fun (cs : Array Value) (p : Value × Nat) => cs.setIfInBounds (0 + p.2) p.1) czer).size = 33 := by
          rw [← hcz.1]
          generalize h.toList.zipIdx = q
          generalize czer = y
          induction q generalizing y with
          | nil => rfl
          | cons a q ih => rw [List.foldl_cons, ih]; simp
        simp only [Instr.fill, List.getElem?_toArray, List.getElem?_cons_zero, show (Value.agg h).cells = h from rfl, show (Value.agg czer).cells = czer from rfl, hs, hcz.1, hsz]
        generalize h.toList.zipIdx.foldl (fun (cs : Array Value) (p : Value × Nat) => cs.setIfInBounds (0 + p.2) p.1) czer = y at hg hn
        simp
        apply Array.ext_getElem?
        intro i
        have := hg i
        simp only [Array.length_toList, hs, hcz.1] at this
        rw [Array.getElem?_push, hs]
        by_cases h1 : i = 32
        · subst h1; rw [this, if_neg (by omega), hcz.2]; simp
        · rw [if_neg h1, this]
          by_cases h2 : i < 32
          · rw [if_pos (by omega)]; simp
          · rw [if_neg (by omega), Array.getElem?_eq_none (by rw [hcz.1]; omega), Array.getElem?_eq_none (by omega)]
      | _ => simp at hf
/-- Commits with the slices of their parents: their cells. -/
abbrev Cv := List (Key × Value)
def cf (C : Cv) : List Value := C.flatMap fun c => us (nmb c.1) ++ [c.2]
theorem cf_cons (c : Key × Value) (C : Cv) : cf (c :: C) = (us (nmb c.1) ++ [c.2]) ++ cf C := by simp [cf]
theorem cf_app (C D : Cv) : cf (C ++ D) = cf C ++ cf D := by simp [cf]
theorem cf_one (c : Key × Value) : cf [c] = us (nmb c.1) ++ [c.2] := by simp [cf]
theorem cf_length : ∀ {C : Cv}, (∀ c ∈ C, c.1.length = 32) → (cf C).length = C.length * 33
  | [], _ => rfl
  | c :: C, h => by
    rw [cf_cons, List.length_append, List.length_append, usn_length, h c List.mem_cons_self, cf_length fun d hd => h d (List.mem_cons_of_mem _ hd)]
    simp only [List.length_cons, List.length_nil]
    omega
theorem cf_at : ∀ {C : Cv} (_ : ∀ c ∈ C, c.1.length = 32) {i j : Nat} {c : Key × Value}, C[i]? = some c → j < 33 → (cf C)[i * 33 + j]? = (us (nmb c.1) ++ [c.2])[j]?
  | [], _, i, _, _, hc, _ => by simp at hc
  | d :: C, h, 0, j, c, hc, hj => by
    simp only [List.getElem?_cons_zero, Option.some.injEq] at hc
    subst hc
    rw [cf_cons, List.getElem?_append_left]
    · simp
    · rw [List.length_append, usn_length, h d List.mem_cons_self]; simp; omega
  | d :: C, h, i + 1, j, c, hc, hj => by
    rw [cf_cons, List.getElem?_append_right]
    · rw [List.length_append, usn_length, h d List.mem_cons_self, show (i + 1) * 33 + j - (32 + [d.2].length) = i * 33 + j by simp; omega]
      exact cf_at (fun e he => h e (List.mem_cons_of_mem _ he)) (by simpa using hc) hj
    · rw [List.length_append, usn_length, h d List.mem_cons_self]; simp; omega
theorem czinfo : (Try.prog.info? 32).map (fun i => (i.zero, i.size, i.bytes)) = some (some (.agg czer), 33, 56) := by kernel_rfl
theorem cf_flat (C : Cv) : (C.map fun c => Value.agg (cmv c.1 c.2)).flatMap (fun v => v.cells.toList) = cf C := by
  rw [List.flatMap_map]
  unfold cf
  congr 1
  funext c
  exact cmv_list c.1 c.2
section
variable {ops : Array Oper} {rest : List Oper} {a : Act} {w : World} {Q : Exit → Act → World → Prop} {dst : Option Tmp} {T : TypeId} {pos : String} {after : Array Edge}
theorem slice_w {g : Option (Nat × Bool)} {E : List Key} {parts : Array (Nat × Operand)} {len : Nat} (hE : H32 E) (hl : len = E.length) (h0 : 0 < E.length) (h1 : E.length ≤ 1000)
    (hv' : (parts.map fun (i, x) => (i, a.eval x)).toList = ((E.map fun h => Value.agg (hv h)).zipIdx 0).map fun x => (x.2, x.1))
    (hw : Region.wanted ⟨dst, .buildSlice 28 len parts, T, pos, after, g⟩ (yielded ops a.tmps) = true)
    (h : wpList Try.prog ops Q rest (a.put dst (.slice (some ⟨w.heap.size, 0, none⟩) len len)) (w.alloc (.cells (fl E).toArray 27))) : wpList Try.prog ops Q (⟨dst, .buildSlice 28 len parts, T, pos, after, g⟩ :: rest) a w := by
  subst hl
  obtain ⟨i0, hi0, hz0, hz1, hz2⟩ := info_parts hzinfo
  have hrun : (Instr.buildSlice 28 E.length (parts.map fun (i, x) => (i, a.eval x))).run Try.prog w = .ok (.slice (some ⟨w.heap.size, 0, none⟩) E.length E.length) (w.alloc (.cells (fl E).toArray 27)) := by
    refine run_buildSlice w 28 27 E.length _ (fl E).toArray i0 (.agg hzer) Try.underlying28 hi0 hz0 (by rw [hz1]; omega) (by rw [hz1]; omega) ?_
    rw [hv', hz1]
    exact (by
      have := Great.fill_whole (s := 32) (by decide) (E.map fun h => Value.agg (hv h)) ((Array.range (E.length * 32)).map ((Value.agg hzer).cells[· % (Value.agg hzer).cells.size]!)) (fun v hvm => by
        obtain ⟨h, hm, rfl⟩ := List.mem_map.1 hvm
        show (hv h).size = 32
        rw [hv_size, hE h hm]) (by simp)
      rw [fl_flat] at this
      exact this)
  refine BigFrame.wpList_want hw fun K hK => ?_
  unfold Oper.wp execOp
  simp only [Sem.run_bind, hrun, Result.andThen_ok]
  exact hK _ _ h
theorem slicec_w {g : Option (Nat × Bool)} {C : Cv} {parts : Array (Nat × Operand)} {len : Nat} (hE : ∀ c ∈ C, c.1.length = 32) (hl : len = C.length) (h0 : 0 < C.length) (h1 : C.length ≤ 1000)
    (hv' : (parts.map fun (i, x) => (i, a.eval x)).toList = ((C.map fun c => Value.agg (cmv c.1 c.2)).zipIdx 0).map fun x => (x.2, x.1))
    (hw : Region.wanted ⟨dst, .buildSlice 29 len parts, T, pos, after, g⟩ (yielded ops a.tmps) = true)
    (h : wpList Try.prog ops Q rest (a.put dst (.slice (some ⟨w.heap.size, 0, none⟩) len len)) (w.alloc (.cells (cf C).toArray 32))) : wpList Try.prog ops Q (⟨dst, .buildSlice 29 len parts, T, pos, after, g⟩ :: rest) a w := by
  subst hl
  obtain ⟨i0, hi0, hz0, hz1, hz2⟩ := info_parts czinfo
  have hrun : (Instr.buildSlice 29 C.length (parts.map fun (i, x) => (i, a.eval x))).run Try.prog w = .ok (.slice (some ⟨w.heap.size, 0, none⟩) C.length C.length) (w.alloc (.cells (cf C).toArray 32)) := by
    refine run_buildSlice w 29 32 C.length _ (cf C).toArray i0 (.agg czer) Try.underlying29 hi0 hz0 (by rw [hz1]; omega) (by rw [hz1]; omega) ?_
    rw [hv', hz1]
    exact (by
      have := Great.fill_whole (s := 33) (by decide) (C.map fun c => Value.agg (cmv c.1 c.2)) ((Array.range (C.length * 33)).map ((Value.agg czer).cells[· % (Value.agg czer).cells.size]!)) (fun v hvm => by
        obtain ⟨c, hm, rfl⟩ := List.mem_map.1 hvm
        exact cmv_size (hE c hm) c.2) (by simp)
      rw [cf_flat] at this
      exact this)
  refine BigFrame.wpList_want hw fun K hK => ?_
  unfold Oper.wp execOp
  simp only [Sem.run_bind, hrun, Result.andThen_ok]
  exact hK _ _ h
end
/-- New commits are seen. -/
theorem cseen_new {W : World} {b : Nat} {C : Cv} {cs : List Cm} (hb : W.heap[b]? = some (.cells (cf C).toArray 32 (0, 0))) (h32 : ∀ c ∈ C, c.1.length = 32) (hl : C.length = cs.length)
    (hc : ∀ (i : Nat) (c : Key × Value) (d : Cm), C[i]? = some c → cs[i]? = some d → c.1 = d.1 ∧ HSeen W c.2 d.2) (n : Nat) (hn : n = cs.length) : CSeen W (.slice (some ⟨b, 0, none⟩) n n) cs := by
  subst hn
  refine ⟨_, _, rfl, fun i d hi => ?_⟩
  have hlt := (List.getElem?_eq_some_iff.1 hi).1
  have hci : C[i]? = some C[i] := List.getElem?_eq_getElem (by omega)
  obtain ⟨h1, h2⟩ := hc i _ d hci hi
  refine ⟨b, 0, C[i].2, rfl, fun j u hj => ?_, h2⟩
  have hj33 : j < 33 := by
    have := (List.getElem?_eq_some_iff.1 hj).1
    rw [List.length_append, usn_length, ← h1, h32 _ (List.getElem_mem _)] at this
    simpa using this
  rw [cell_of_row W b _ _ _ _ hb, List.getElem?_toArray, Nat.zero_add, cf_at h32 hci hj33, h1]
  exact hj
theorem hseen_new {W : World} {b : Nat} {E : List Key} (hb : W.heap[b]? = some (.cells (fl E).toArray 27 (0, 0))) (n : Nat) (hn : n = E.length) : HSeen W (.slice (some ⟨b, 0, none⟩) n n) E := by
  subst hn
  refine .inr ⟨_, _, rfl, Nat.le_refl _, fun j u hj => ?_⟩
  rw [Addr.add_lit, cell_of_row W b _ _ _ _ hb, List.getElem?_toArray, Nat.zero_add]
  exact hj
end Go.Proofs.Ytnpeahbbcolfmaa
namespace Go.Proofs.Ytnpeahbbcolfmaa
open Go.RowKit Go.Extern.Stop Go.Stop Go.Extern
open Go.Maps
/-- A hash by its first byte. -/
def kn (n : UInt8) : Key := [n, 0, 0, 0, 0, 0, 0, 0, 0, 0, 0, 0, 0, 0, 0, 0, 0, 0, 0, 0, 0, 0, 0, 0, 0, 0, 0, 0, 0, 0, 0, 0]
theorem kn_built (n : UInt8) : Try.prog.built 27 [(0, .int .u8 (n.toNat : Int))] = some (hv (kn n)) := by kernel_rfl
theorem below_al11 (w : World) (o : Obj) : Below w.heap.size w (w.alloc o) := (Below.refl _ _).alloc (Nat.le_refl _) _
/-- What the example is. -/
structure Kx11 (a b : Key) : Prop where
  la : a.length = 32
  lb : b.length = 32
  ba : Try.prog.built 27 [(0, .int .u8 1)] = some (hv a)
  bb : Try.prog.built 27 [(0, .int .u8 2)] = some (hv b)
  f1 : chk [] 2 [(a, [b])] [] = some (10, some b)
  f2 : chk [] 2 [(a, [])] [] = none
  g2 : adds [] [(a, [])] = [(a, [])]
end Go.Proofs.Ytnpeahbbcolfmaa
namespace Go.Proofs.Ytnpeahbbcolfmaa
open Go.RowKit Go.Extern.Stop Go.Stop Go.Extern
open Go.Maps
/-- What the closed sentence says of its hashes. -/
structure Kz (a b c d4 d5 d6 d7 d8 d9 : Key) : Prop where
  la : a.length = 32
  lb : b.length = 32
  lc : c.length = 32
  l4 : H32 [d4, d5, d6, d7, d8]
  l9 : d9.length = 32
  b1 : Try.prog.built 27 [(0, .int .u8 1)] = some (hv a)
  b2 : Try.prog.built 27 [(0, .int .u8 2)] = some (hv b)
  b3 : Try.prog.built 27 [(0, .int .u8 3)] = some (hv c)
  b4 : Try.prog.built 27 [(0, .int .u8 4)] = some (hv d4)
  b5 : Try.prog.built 27 [(0, .int .u8 5)] = some (hv d5)
  b6 : Try.prog.built 27 [(0, .int .u8 6)] = some (hv d6)
  b7 : Try.prog.built 27 [(0, .int .u8 7)] = some (hv d7)
  b8 : Try.prog.built 27 [(0, .int .u8 8)] = some (hv d8)
  b9 : Try.prog.built 27 [(0, .int .u8 9)] = some (hv d9)
  fe : chk [] 0 [] [] = some (1, none)
  ff : chk [] 2 [(a, [d4, d5, d6, d7, d8])] [] = some (8, some a)
  fh : chk [] 2 [(a, [b, b])] [] = some (1, some a)
  fi : chk [] 2 [(b, [a]), (a, []), (b, [a])] [] = none
  gi : adds [] [(b, [a]), (a, []), (b, [a])] = [(a, []), (b, [a])]
  fj : chk [(a, []), (b, [a])] 2 [(b, [])] [] = some (9, some b)
  fk : chk [(a, []), (b, [a])] 1 [] [a, c] = some (11, some c)
  fl : chk [(a, []), (b, [a])] 2 [(c, [d9]), (d9, [c])] [] = some (12, some c)
  fm : rm1 [a] [(a, []), (b, [a])] = some (10, some b)
  fn : rm1 [b, c] [(a, []), (b, [a])] = none
  okI : COk [(b, [a]), (a, []), (b, [a])]
  okL : COk [(c, [d9]), (d9, [c])]
  gn : rmv [b, c] [(a, []), (b, [a])] = [(a, [])]
  fa : (ancs [(a, []), (b, [a])] [b]).length = 2
  fd : (descs [(a, []), (b, [a])] [a]).length = 2
  fp : aget b [(a, []), (b, [a])] = some [a]
/-- Where the known sentence stands: the hashes of the caller's own, the graph, the errors. -/
structure Ks (w W : World) (H : List (Nat × Key)) (g bm : Nat) (X : Lx) (L : List (Value × Rf)) : Prop where
  bel : Below w.heap.size w W
  own : ∀ p ∈ H, W.heap[p.1]? = some (.cells (hv p.2) 27 (0, 0)) ∧ p.2.length = 32
  ga : GA W g bm X
  lo : w.heap.size ≤ bm
  err : ∀ p ∈ L, ErrW W p.1 p.2
theorem ErrW.mild {w w' : World} {v : Value} : ∀ {r : Rf}, ErrW w v r → Mild w w' → ErrW w' v r
  | none, h, _ => h
  | some (_, none), h, _ => h
  | some (_, some _), h, b => by
    obtain ⟨h1, p, h2, h3⟩ := h
    exact ⟨h1, p, h2, b.cells h3.1, h3.2⟩
theorem Ks.kb {w W W' : World} {H : List (Nat × Key)} {g bm : Nat} {X : Lx} {L : List (Value × Rf)} (h : Ks w W H g bm X L) (k : Below W.heap.size W W') : Ks w W' H g bm X L :=
  ⟨h.bel.trans (k.mono h.bel.size), fun p hp => ⟨(mild_below k).cells (h.own p hp).1, (h.own p hp).2⟩, h.ga.kb k, h.lo, fun p hp => (h.err p hp).mild (mild_below k)⟩
theorem Ks.turn {w W W' : World} {H : List (Nat × Key)} {g bm : Nat} {X X' : Lx} {L : List (Value × Rf)} (h : Ks w W H g bm X L) (ho : Only (fun j => j = bm) W W') (hg : GA W' g bm X') : Ks w W' H g bm X' L :=
  have m := mild_map h.ga.at_.mp ho
  ⟨h.bel.trans (ho.below h.bel.size fun k hk => by rw [hk]; exact h.lo), fun p hp => ⟨m.cells (h.own p hp).1, (h.own p hp).2⟩, hg, h.lo, fun p hp => (h.err p hp).mild m⟩
theorem Ks.add {w W : World} {H : List (Nat × Key)} {g bm : Nat} {X : Lx} {L : List (Value × Rf)} (h : Ks w W H g bm X L) {x : Value} {r : Rf} (e : ErrW W x r) : Ks w W H g bm X ((x, r) :: L) :=
  ⟨h.bel, h.own, h.ga, h.lo, fun p hp => by exact (List.mem_cons.1 hp).elim (fun q => by rw [q]; exact e) (h.err p)⟩
theorem Ks.ld {w W : World} {H : List (Nat × Key)} {g bm : Nat} {X : Lx} {L : List (Value × Rf)} (h : Ks w W H g bm X L) (b : Nat) (k : Key) (hm : (b, k) ∈ H) : (hld ⟨b, 0, none⟩).run Try.prog W = .ok (.agg (hv k)) W :=
  hld_row (h.own _ hm).2 (h.own _ hm).1
/-- A call that adds and is refused, or not. -/
theorem Ks.added {w W W' : World} {H : List (Nat × Key)} {g bm : Nat} {X : Lx} {L : List (Value × Rf)} {cs : List Cm} {e : Ending} (h : Ks w W H g bm X L) (p : AddPost W g bm X cs e W') :
    ∃ x X', e = .returned x ∧ Ks w W' H g bm X' ((x, chk (gr X) 2 cs []) :: L) ∧ ((chk (gr X) 2 cs []).isSome = true → X' = X) ∧ (chk (gr X) 2 cs [] = none → gr X' = adds (gr X) cs) := by
  obtain ⟨x, rfl, ex, o, h1⟩ := p
  rcases h1 with ⟨h1, b⟩ | ⟨X', h1, g', hX⟩
  · exact ⟨x, X, rfl, (h.kb b).add ex, fun _ => rfl, fun h2 => absurd h1 (by rw [h2]; simp)⟩
  · exact ⟨x, X', rfl, (h.turn o g').add ex, fun h2 => absurd h2 (by rw [h1]; simp), fun _ => hX.1⟩
/-- The same, with where the new rows lie. -/
theorem Ks.addedF {w W W' : World} {H : List (Nat × Key)} {g bm : Nat} {X : Lx} {L : List (Value × Rf)} {cs : List Cm} {e : Ending} (h : Ks w W H g bm X L) (p : AddPost W g bm X cs e W') :
    ∃ x X', e = .returned x ∧ Ks w W' H g bm X' ((x, chk (gr X) 2 cs []) :: L) ∧ ((chk (gr X) 2 cs []).isSome = true → X' = X) ∧ (chk (gr X) 2 cs [] = none → gr X' = adds (gr X) cs) ∧ Only (fun j => j = bm) W W' ∧ FarX W.heap.size X X' := by
  obtain ⟨x, rfl, ex, o, h1⟩ := p
  rcases h1 with ⟨h1, b⟩ | ⟨X', h1, g', hX, hF⟩
  · exact ⟨x, X, rfl, (h.kb b).add ex, fun _ => rfl, fun h2 => absurd h1 (by rw [h2]; simp), o, FarX.refl _ _⟩
  · exact ⟨x, X', rfl, (h.turn o g').add ex, fun h2 => absurd h2 (by rw [h1]; simp), fun _ => hX, o, hF⟩
theorem Ks.taken {w W W' : World} {H : List (Nat × Key)} {g bm : Nat} {X : Lx} {L : List (Value × Rf)} {cs : List Cm} {e : Ending} (h : Ks w W H g bm X L) (hr : chk (gr X) 2 cs [] = none) (p : AddPost W g bm X cs e W') :
    ∃ X', e = .returned .nilIface ∧ Ks w W' H g bm X' L ∧ gr X' = adds (gr X) cs := by
  obtain ⟨x, X', rfl, h1, _, h2⟩ := h.added p
  have ex := h1.err _ (List.mem_cons_self)
  rw [hr] at ex
  obtain rfl : x = .nilIface := ex
  exact ⟨X', rfl, ⟨h1.bel, h1.own, h1.ga, h1.lo, fun p hp => h1.err p (List.mem_cons_of_mem _ hp)⟩, h2 hr⟩
theorem h32_two {a b : Key} (ha : a.length = 32) (hb : b.length = 32) : H32 [a, b] := fun x hx => by
  simp only [List.mem_cons, List.not_mem_nil, or_false] at hx; rcases hx with rfl | rfl <;> assumption
theorem al_size (W : World) (o : Obj) : (W.alloc o).heap.size = W.heap.size + 1 := by simp
theorem Wf.parm {X : Lx} (h : Wf (gr X)) (n : Nat) (hn : 4 ≤ n) : ∀ x ∈ X, x.2.2.length ≤ n := fun x hx => Nat.le_trans (h.par _ (List.mem_map.2 ⟨x, hx, rfl⟩)).1 hn
/-- A commit beside a slice of its parents, in memory. -/
def Lit (W : World) (c : Key × Value) (d : Cm) : Prop := c.1 = d.1 ∧ HSeen W c.2 d.2
theorem Lit.kb {W W' : World} {c : Key × Value} {d : Cm} (h : Lit W c d) (k : Below W.heap.size W W') : Lit W' c d := ⟨h.1, h.2.mild (mild_below k)⟩
theorem lit_row {W : World} {B : Nat} (h : Key) {E : List Key} (hb : W.heap[B]? = some (.cells (fl E).toArray 27 (0, 0))) (n : Nat) (hn : n = E.length) : Lit W (h, .slice (some ⟨B, 0, none⟩) n n) (h, E) := ⟨rfl, hseen_new hb n hn⟩
theorem lit_nil (W : World) (h : Key) : Lit W (h, .slice none 0 0) (h, []) := ⟨rfl, .inl ⟨rfl, rfl⟩⟩
inductive Lits (W : World) : Cv → List Cm → Prop
  | nil : Lits W [] []
  | cons {c d C D} : Lit W c d → Lits W C D → Lits W (c :: C) (d :: D)
theorem Lits.get {W : World} {C : Cv} {D : List Cm} (h : Lits W C D) : C.length = D.length ∧ ∀ (i : Nat) (c : Key × Value) (d : Cm), C[i]? = some c → D[i]? = some d → Lit W c d := by
  induction h with
  | nil => exact ⟨rfl, fun i c d h => by simp at h⟩
  | cons h1 _ ih =>
    refine ⟨by simp [ih.1], fun i c d h2 h3 => ?_⟩
    cases i with
    | zero => simp only [List.getElem?_cons_zero, Option.some.injEq] at h2 h3; subst h2 h3; exact h1
    | succ i => exact ih.2 i c d (by simpa using h2) (by simpa using h3)
theorem Lits.made {W : World} {C : Cv} {D : List Cm} (h : Lits W C D) (h32 : ∀ c ∈ C, c.1.length = 32) (n : Nat) (hn : n = D.length) (B : Nat) (hB : W.heap.size = B) :
    CSeen (W.alloc (.cells (cf C).toArray 32)) (.slice (some ⟨B, 0, none⟩) n n) D := by
  subst hB
  exact cseen_new (heap_alloc_last W _) h32 h.get.1 (fun i c d hc hd => (h.get.2 i c d hc hd).kb (below_al11 W _)) n hn
theorem two_rows (W : World) (E F : List Key) : ((W.alloc (.cells (fl E).toArray 27)).alloc (.cells (fl F).toArray 27)).heap[W.heap.size]? = some (.cells (fl E).toArray 27 (0, 0)) ∧
    ((W.alloc (.cells (fl E).toArray 27)).alloc (.cells (fl F).toArray 27)).heap[W.heap.size + 1]? = some (.cells (fl F).toArray 27 (0, 0)) := by
  have h1 := heap_alloc_last W (.cells (fl E).toArray 27)
  have h2 := heap_alloc_last (W.alloc (.cells (fl E).toArray 27)) (.cells (fl F).toArray 27)
  rw [al_size] at h2
  exact ⟨(mild_below (below_al11 (W.alloc (.cells (fl E).toArray 27)) _)).cells h1, h2⟩
theorem Ks.al {w W : World} {H : List (Nat × Key)} {g bm : Nat} {X : Lx} {L : List (Value × Rf)} (h : Ks w W H g bm X L) (o : Obj) : Ks w (W.alloc o) H g bm X L := h.kb (below_al11 W o)
end Go.Proofs.Ytnpeahbbcolfmaa
namespace Go.Proofs.Ytnpeahbbcolfmaa
open Go.RowKit
attribute [local go_sem ↓] hld_open heq_open hne_open
theorem own_shape {w : World} {B : Nat} {v : Value} {E : List (List UInt8)} (h : HOwn w B v E) : ∃ p cap, v = .slice p E.length cap := by
  rcases h.2 with ⟨rfl, h0⟩ | ⟨g, cap, cur, rfl, _⟩
  · exact ⟨none, 0, by rw [h0]⟩
  · exact ⟨_, _, rfl⟩
set_option maxRecDepth 20000 in
set_option maxHeartbeats 1000000 in
theorem same_any (w : World) (B1 B2 : Nat) (v1 v2 : Value) (E : List (List UInt8)) (hE : H32 E) (h1 : HOwn w B1 v1 E) (h2 : HOwn w B2 v2 E) (hl : E.length ≤ 4611686018427387904) :
    Calls Try.prog 9 #[v1, v2] w fun e w' => e = .returned (.bool true) ∧ ∃ q, w' = w.drewN q := by
  by_cases h0 : E.length = 0
  · obtain ⟨p1, c1, rfl⟩ := own_shape h1
    obtain ⟨p2, c2, rfl⟩ := own_shape h2
    rw [h0]
    clear h1 h2 hE h0 hl
    go_enter Try.func9, Try.ntmps9
    go_wp2
    refine wp_loop_rounds 1 ?_
    rw [rounds_succ]
    go_wp2
    go_ret
    exact ⟨rfl, 0, rfl⟩
  · obtain ⟨g1, c1, R1, rfl, _, hg1, hc1, _, _⟩ := h1.row (by omega)
    obtain ⟨g2, c2, R2, rfl, _, hg2, hc2, _, _⟩ := h2.row (by omega)
    have HG1 := Lib.hid hg1
    have HG2 := Lib.hid hg2
    have HE := Lib.hid hE
    have hgd2 := hne_guard
    obtain ⟨n, hn⟩ : ∃ n, n = E.length := ⟨_, rfl⟩
    rw [← hn] at hc1 hc2 h0 hl ⊢
    have HN := Lib.hid hn
    clear hg1 hg2 hE hn h1 h2
    go_enter Try.func9, Try.ntmps9
    go_wp2
    go_loopw [5] (fun i wr => ∃ (k : Nat), k ≤ n ∧ i = .int .i64 k ∧ ∃ q, wr = w.drewN q) (fun i _ => n - (intOf i).toNat)
    case atStart => exact ⟨0, Nat.zero_le _, rfl, 0, rfl⟩
    case round =>
      obtain ⟨k, hk, rfl, q, rfl⟩ := hrel
      by_cases hlt : k < n
      · have hkE : k < E.length := by rw [← HN.out]; exact hlt
        have l1 := fun m => hld_at HE.out hkE HG1.out m
        have l2 := fun m => hld_at HE.out hkE HG2.out m
        have hne := hne_hv (HE.out.at hkE) (HE.out.at hkE)
        rw [decide_eq_true rfl] at hne
        have hk' : (k : Int) < n := by omega
        go_wp2_with fail
        go_quiet (fail)
        go_wp2_with fail
        refine ⟨⟨k + 1, by omega, by go_num, _, rfl⟩, by simp [intOf]; omega⟩
      · obtain rfl : k = n := by omega
        go_wp2_with fail
        go_ret
        exact ⟨rfl, _, rfl⟩

/-- The slice v holds the numbers l. -/
def ISeen (w : World) (v : Value) (l : List Int) : Prop :=
  (v = .slice none 0 0 ∧ l = []) ∨ ∃ a cap, v = .slice (some a) l.length cap ∧ l.length ≤ cap ∧ ∀ j x, l[j]? = some x → w.cell? (a.add j) = some (.int .i64 x)
def hhs (l : List Int) : List (List UInt8) := l.map hh
end Go.Proofs.Ytnpeahbbcolfmaa
namespace Go.Proofs.Ytnpeahbbcolfmaa
open Go.RowKit
/-- A slice of numbers of one's own. -/
abbrev IOwns (w : World) (B : Nat) (v : Value) (l : List Int) : Prop := w.ownsRow B 3 1 v l.length (l.map (Value.int .i64))
theorem IOwns.seen {w : World} {B : Nat} {v : Value} {l : List Int} (h : IOwns w B v l) : ISeen w v l := by
  rcases h.2 with ⟨rfl, h0⟩ | ⟨g, cap, cur, rfl, _, hg, hn, _, _, hc⟩
  · exact .inl ⟨rfl, List.eq_nil_of_length_eq_zero h0⟩
  · refine .inr ⟨_, _, rfl, by omega, fun j x hj => ?_⟩
    have hadd : (⟨g, 0, none⟩ : Addr).add j = ⟨g, j, none⟩ := by unfold Addr.add; split <;> simp_all
    have hlt := (List.getElem?_eq_some_iff.1 hj).1
    rw [hadd, cell_of_row w g j _ _ _ hg]
    have h2 : (cur.toList.take (l.length * 1))[j]? = some (.int .i64 x) := by rw [hc, List.getElem?_map, hj]; rfl
    rw [List.getElem?_take, if_pos (by omega)] at h2
    simpa using h2
theorem ISeen.kb' {w w' : World} {v : Value} {l : List Int} (h : ISeen w v l) (hb : Below w.heap.size w w') : ISeen w' v l := by
  rcases h with h | ⟨a, cap, rfl, hc, hu⟩
  · exact .inl h
  · exact .inr ⟨a, cap, rfl, hc, fun j x hj => by rw [World.cell?_of_block (hb.block _ (World.block_lt_of_cell? w _ (hu j x hj)))]; exact hu j x hj⟩
theorem own_from {w : World} {B : Nat} {e : TypeId} {s : Nat} {v : Value} {n : Nat} {xs : List Value} (h : w.ownsRow B e s v n xs) : ∀ k, v.ownBlock = some k → B ≤ k := fun k hk => by
  rcases h.2 with ⟨rfl, _⟩ | ⟨g, cap, cur, rfl, hb, _⟩
  · cases hk
  · injection hk with hk; subst hk; exact hb
section
variable {ops : Array Oper} {rest : List Oper} {a : Act} {Q : Exit → Act → World → Prop} {o : Oper} {w w0 : World}
end
end Go.Proofs.Ytnpeahbbcolfmaa
namespace Go.Proofs.Ytnpeahbbcolfmaa
open Go.RowKit
open Go.Maps
/-- A commit that is being put together. -/
structure CI (W : World) (B cb : Nat) (h : Key) (u : Value) (ps : List Key) : Prop where
  cell : W.heap[cb]? = some (.cells (cmv h u) 32 (0, 0))
  own : HOwn W B u ps
  lo : B ≤ cb
  p32 : H32 ps
  hh : h.length = 32
theorem own_type {W : World} {B : Nat} {e : TypeId} {s : Nat} {v : Value} {n : Nat} {xs : List Value} (h : W.ownsRow B e s v n xs) {j : Nat} (hj : v.ownBlock = some j) : ∃ cs, W.heap[j]? = some (.cells cs e (0, 0)) ∧ B ≤ j := by
  rcases h.2 with ⟨rfl, _⟩ | ⟨g, cap, cur, rfl, hb, hg, _⟩
  · cases hj
  · injection hj with hj; subst hj; exact ⟨cur, hg, hb⟩
theorem own_apart {W : World} {B : Nat} {e t : TypeId} {s : Nat} {v : Value} {n : Nat} {xs : List Value} {b : Nat} {cs : Array Value} {f : Nat × Nat} (h : W.ownsRow B e s v n xs) (hb : W.heap[b]? = some (.cells cs t f)) (hne : t ≠ e) : v.ownBlock ≠ some b := fun hj => by
  obtain ⟨cs', h1, _⟩ := own_type h hj
  rw [h1] at hb
  injection hb with hb
  injection hb with _ hb _
  exact hne hb.symm
theorem own_keep {w w' : World} {B : Nat} {e : TypeId} {s : Nat} {v : Value} {n : Nat} {xs : List Value} {S : Nat → Prop} (h : w.ownsRow B e s v n xs) (ho : Only S w w') (hs : ∀ j, v.ownBlock = some j → ¬ S j) : w'.ownsRow B e s v n xs := by
  refine ⟨h.1, ?_⟩
  rcases h.2 with h1 | ⟨g, cap, cur, rfl, hb, hg, h3⟩
  · exact .inl h1
  · exact .inr ⟨g, cap, cur, rfl, hb, (ho.block g (Array.getElem?_eq_some_iff.1 hg).1 (hs g rfl)).trans hg, h3⟩
theorem own_below {w w' : World} {B : Nat} {e : TypeId} {s : Nat} {v : Value} {n : Nat} {xs : List Value} (h : w.ownsRow B e s v n xs) (k : Below w.heap.size w w') : w'.ownsRow B e s v n xs := own_keep (S := fun _ => False) h (Only.of_below k) (fun _ _ h => h)
theorem CI.kb {W W' : World} {B cb : Nat} {h : Key} {u : Value} {ps : List Key} (H : CI W B cb h u ps) (k : Below W.heap.size W W') : CI W' B cb h u ps :=
  ⟨(mild_below k).cells H.cell, own_below H.own k, H.lo, H.p32, H.hh⟩
theorem CI.par {W : World} {B cb : Nat} {h : Key} {u : Value} {ps : List Key} (H : CI W B cb h u ps) : W.cell? ⟨cb, 32, none⟩ = some u := cm_cell H.hh H.cell
theorem cmv_set {h : Key} (hh : h.length = 32) (u v : Value) : (cmv h u).setIfInBounds 32 v = cmv h v := by
  unfold cmv
  apply Array.ext_getElem?
  intro i
  have hs : (hv h).size = 32 := by rw [hv_size, hh]
  rw [Array.getElem?_setIfInBounds, Array.getElem?_push, Array.getElem?_push, hs, Array.size_push, hs]
  by_cases h1 : i = 32
  · subst h1; simp
  · simp [h1, show ¬ 32 = i from fun e => h1 e.symm]
/-- Its parents are set anew. -/
theorem CI.set {W : World} {B cb : Nat} {h : Key} {u v : Value} {ps qs : List Key} (H : CI W B cb h u ps) (o : HOwn W B v qs) (h32 : H32 qs) : CI (W.setCell ⟨cb, 32, none⟩ v) B cb h v qs := by
  refine ⟨?_, ?_, H.lo, h32, H.hh⟩
  · rw [heap_setCell_same W cb 32 _ _ _ H.cell, cmv_set H.hh]
  · exact own_keep (S := fun j => j = cb) o ((Only.refl (fun j => j = cb) W).setCell (p := ⟨cb, 32, none⟩) rfl _) (fun j hj e => own_apart o H.cell (by decide) (by rw [hj, e]))
theorem CI.mid {W W1 : World} {B cb : Nat} {h : Key} {u : Value} {ps : List Key} (H : CI W B cb h u ps) (oth : Only (fun j => u.ownBlock = some j) W W1) : W1.heap[cb]? = some (.cells (cmv h u) 32 (0, 0)) :=
  (oth.block cb (Array.getElem?_eq_some_iff.1 H.cell).1 (fun e => own_apart H.own H.cell (by decide) e)).trans H.cell
/-- A parent more. -/
theorem CI.push {W W1 : World} {B cb : Nat} {h : Key} {u v : Value} {ps : List Key} {x : Key} (H : CI W B cb h u ps) (o : HOwn W1 B v (ps ++ [x])) (oth : Only (fun j => u.ownBlock = some j) W W1) (hx : x.length = 32) :
    CI (W1.setCell ⟨cb, 32, none⟩ v) B cb h v (ps ++ [x]) ∧ Only (fun j => j = cb ∨ u.ownBlock = some j) W (W1.setCell ⟨cb, 32, none⟩ v) := by
  have h1 := H.mid oth
  refine ⟨⟨?_, ?_, H.lo, H.p32.app (H32.one hx), H.hh⟩, (oth.mono (T := fun j => j = cb ∨ u.ownBlock = some j) fun j _ hj => .inr hj).setCell (p := ⟨cb, 32, none⟩) (.inl rfl) _⟩
  · rw [heap_setCell_same W1 cb 32 _ _ _ h1, cmv_set H.hh]
  · exact own_keep (S := fun j => j = cb) o ((Only.refl (fun j => j = cb) W1).setCell (p := ⟨cb, 32, none⟩) rfl _) (fun j hj e => own_apart o h1 (by decide) (by rw [hj, e]))
/-- What lies beside: all that was there at W0; a block of another type; numbers. -/
structure YB (W W0 : World) (yb : Nat) (yc : Array Value) (yt : TypeId) (B8 : Nat) (v8 : Value) (l8 : List Int) : Prop where
  bel : Below W0.heap.size W0 W
  y : W.heap[yb]? = some (.cells yc yt (0, 0))
  yt : yt ≠ 27 ∧ yt ≠ 32
  p : IOwns W B8 v8 l8
theorem YB.kb {W W' W0 : World} {yb : Nat} {yc : Array Value} {yt : TypeId} {B8 : Nat} {v8 : Value} {l8 : List Int} (H : YB W W0 yb yc yt B8 v8 l8) (k : Below W.heap.size W W') : YB W' W0 yb yc yt B8 v8 l8 :=
  ⟨H.bel.trans (k.mono H.bel.size), (mild_below k).cells H.y, H.yt, own_below H.p k⟩
theorem YB.far {W W' W0 : World} {yb : Nat} {yc : Array Value} {yt : TypeId} {B8 : Nat} {v8 : Value} {l8 : List Int} {cb : Nat} {h : Key} {u : Value} {ps : List Key} (H : YB W W0 yb yc yt B8 v8 l8) (C : CI W W0.heap.size cb h u ps) (o : Only (fun j => j = cb ∨ u.ownBlock = some j) W W') : YB W' W0 yb yc yt B8 v8 l8 := by
  refine ⟨H.bel.trans (o.below H.bel.size (fun k hk => ?_)), ?_, H.yt, own_keep H.p o (fun j hj hs => ?_)⟩
  · rcases hk with rfl | hk
    · exact C.lo
    · exact (own_type C.own hk).choose_spec.2
  · refine (o.block yb (Array.getElem?_eq_some_iff.1 H.y).1 (fun e => ?_)).trans H.y
    rcases e with e | e
    · have := H.y; rw [e, C.cell] at this; injection this with this; injection this with _ this _; exact H.yt.2 this.symm
    · exact own_apart C.own H.y H.yt.1 e
  · rcases hs with e | e
    · exact own_apart H.p C.cell (by decide) (by rw [hj, e])
    · obtain ⟨cs, h1, _⟩ := own_type H.p hj
      exact own_apart C.own h1 (by decide) e
section
variable {ops : Array Oper} {a : Act} {Q : Exit → Act → World → Prop} {o : Oper} {w : World} {K : Act → World → Prop} {X : Prop}
theorem step_sl1 {dst : Option Tmp} {T : TypeId} {pos : String} {after : Array Edge} {gd : Option (Nat × Bool)} {x : Operand} (h : Key) (hh : h.length = 32) (hx : a.eval x = .agg (hv h)) (hw : Region.wanted ⟨dst, .buildSlice 28 1 #[(0, x)], T, pos, after, gd⟩ (yielded ops a.tmps) = true)
    (hK : K (a.put dst (.slice (some ⟨w.heap.size, 0, none⟩) 1 1)) (w.alloc (.cells (hv h) 27))) :
    if Region.wanted ⟨dst, .buildSlice 28 1 #[(0, x)], T, pos, after, gd⟩ (yielded ops a.tmps) = true then Oper.wp Try.prog ⟨dst, .buildSlice 28 1 #[(0, x)], T, pos, after, gd⟩ a w K Q else X := by
  rw [if_pos hw]
  unfold Oper.wp execOp
  simp only [Sem.run_bind, Sem.run_pure, Result.andThen_ok, List.map_toArray, List.map_cons, List.map_nil, hx, run_build_hash w h hh]
  exact hK
/-- append of one hash, in a region that draws. -/
theorem step_pushh (hgd : o.guard = none) (s x : Operand) (ho : o.op = .call { callee := .builtin .append, args := #[s, x], argTypes := #[28, 28] })
    (B : Nat) (v : Value) (l : List Key) (b : Nat) (k : Key) (hk : k.length = 32) (hs : a.eval s = v) (hown : HOwn w B v l) (hx : a.eval x = .slice (some ⟨b, 0, none⟩) 1 1) (hu : w.heap[b]? = some (.cells (hv k) 27 (0, 0))) (hl : l.length + 1 ≤ 1000000) (hB : B ≤ w.heap.size)
    (m : Nat) (hm : m = l.length + 1)
    (h : ∀ (p : Option Addr) (c : Nat) (w' : World), HOwn w' B (.slice p m c) (l ++ [k]) → Only (fun j => v.ownBlock = some j) w w' → (∀ j, (Value.slice p m c).ownBlock = some j → v.ownBlock = some j ∨ w.heap.size ≤ j) → K (a.put o.dst (.slice p m c)) w') :
    if Region.wanted o (yielded ops a.tmps) = true then Oper.wp Try.prog o a w K Q else X := by
  have hw : Region.wanted o (yielded ops a.tmps) = true := by simp [Region.wanted, hgd]
  rw [if_pos hw]
  obtain ⟨v', w', hr, h1, h2, h3⟩ := run_push_loc w o.type B v l b k hk hown (by have := range_row hu; rwa [hv_list] at this) (by omega) hB
  obtain ⟨p, c, rfl⟩ := own_shape h1
  rw [List.length_append, List.length_singleton, ← hm] at h1 h3 hr
  unfold Oper.wp execOp
  simp only [ho, resolve, invoke, builtin, Sem.run_bind, Sem.run_pure, Result.andThen_ok, List.map_toArray, List.map_cons, List.map_nil, hs, hx, hr]
  exact h p c w' h1 h2 h3
end
end Go.Proofs.Ytnpeahbbcolfmaa
namespace Go.Proofs.Ytnpeahbbcolfmaa
open Go.RowKit
open Go.Maps
/-- The request that is being put together. -/
structure RI (W : World) (B rb : Nat) (vc vh : Value) (g : Int) (C : Cv) (cs : List Cm) (hs : List Key) : Prop where
  cell : W.heap[rb]? = some (.cells #[vc, vh, .int .i64 g] 44 (0, 0))
  lo : B ≤ rb
  row : W.ownsRow B 32 33 vc C.length (cf C)
  len : C.length = cs.length
  lit : ∀ (i : Nat) (c : Key × Value) (d : Cm), C[i]? = some c → cs[i]? = some d → c.1 = d.1 ∧ HOwn W B c.2 d.2 ∧ H32 d.2 ∧ d.1.length = 32 ∧ d.2.length ≤ 10
  sep : ∀ c ∈ C, ∀ j, c.2.ownBlock = some j → vh.ownBlock ≠ some j
  heads : HOwn W B vh hs
  h32 : H32 hs
section
variable {W W' W1 : World} {B rb : Nat} {vc vh : Value} {g : Int} {C : Cv} {cs : List Cm} {hs : List Key}
theorem RI.pos (H : RI W B rb vc vh g C cs hs) {c : Key × Value} (hc : c ∈ C) : ∃ d, d ∈ cs ∧ c.1 = d.1 ∧ HOwn W B c.2 d.2 ∧ H32 d.2 ∧ d.1.length = 32 ∧ d.2.length ≤ 10 := by
  obtain ⟨i, hi, rfl⟩ := List.mem_iff_getElem.1 hc
  have h1 : i < cs.length := by rw [← H.len]; exact hi
  exact ⟨cs[i], List.getElem_mem _, H.lit i _ _ (List.getElem?_eq_getElem hi) (List.getElem?_eq_getElem h1)⟩
theorem RI.keep (H : RI W B rb vc vh g C cs hs) {S : Nat → Prop} (ho : Only S W W') (h1 : ¬ S rb) (h2 : ∀ j, vc.ownBlock = some j → ¬ S j) (h3 : ∀ j, vh.ownBlock = some j → ¬ S j) (h4 : ∀ c ∈ C, ∀ j, c.2.ownBlock = some j → ¬ S j) : RI W' B rb vc vh g C cs hs :=
  { cell := (ho.block rb (Array.getElem?_eq_some_iff.1 H.cell).1 h1).trans H.cell, lo := H.lo, row := own_keep H.row ho h2, len := H.len
    lit := fun i c d hc hd => by
      obtain ⟨a1, a2, a3⟩ := H.lit i c d hc hd
      exact ⟨a1, own_keep a2 ho (h4 c (List.mem_of_getElem? hc)), a3⟩
    sep := H.sep, heads := own_keep H.heads ho h3, h32 := H.h32 }
theorem RI.kb (H : RI W B rb vc vh g C cs hs) (k : Below W.heap.size W W') : RI W' B rb vc vh g C cs hs := H.keep (S := fun _ => False) (Only.of_below k) (fun h => h) (fun _ _ h => h) (fun _ _ h => h) (fun _ _ _ _ h => h)
theorem RI.c0 (H : RI W B rb vc vh g C cs hs) : W.cell? ⟨rb, 0, none⟩ = some vc ∧ W.cell? ⟨rb, 1, none⟩ = some vh ∧ W.cell? ⟨rb, 2, none⟩ = some (.int .i64 g) := by
  refine ⟨?_, ?_, ?_⟩ <;> rw [cell_of_row W rb _ _ _ _ H.cell] <;> rfl
theorem RI.cap (H : RI W B rb vc vh g C cs hs) : ∀ c ∈ C, ∀ j, c.2.ownBlock = some j → j ≠ rb := fun c hc j hj e => by
  obtain ⟨d, _, _, o, _⟩ := H.pos hc
  exact own_apart o H.cell (by decide) (by rw [hj, e])
theorem RI.ne (H : RI W B rb vc vh g C cs hs) : vc.ownBlock ≠ some rb ∧ vh.ownBlock ≠ some rb := ⟨own_apart H.row H.cell (by decide), own_apart H.heads H.cell (by decide)⟩
/-- The group is set. -/
theorem RI.grp (H : RI W B rb vc vh g C cs hs) (g' : Int) : RI (W.setCell ⟨rb, 2, none⟩ (.int .i64 g')) B rb vc vh g' C cs hs ∧ Only (fun j => j = rb) W (W.setCell ⟨rb, 2, none⟩ (.int .i64 g')) := by
  have ho : Only (fun j => j = rb) W (W.setCell ⟨rb, 2, none⟩ (.int .i64 g')) := (Only.refl (fun j => j = rb) W).setCell (p := ⟨rb, 2, none⟩) rfl _
  refine ⟨{ cell := ?_, lo := H.lo, row := own_keep H.row ho fun j hj e => H.ne.1 (by rw [hj, e]), len := H.len, lit := fun i c d hc hd => ?_, sep := H.sep, heads := own_keep H.heads ho fun j hj e => H.ne.2 (by rw [hj, e]), h32 := H.h32 }, ho⟩
  · rw [heap_setCell_same W rb 2 _ _ _ H.cell]; rfl
  · obtain ⟨a1, a2, a3⟩ := H.lit i c d hc hd
    exact ⟨a1, own_keep a2 ho fun j hj e => H.cap c (List.mem_of_getElem? hc) j hj e, a3⟩
/-- What is handed back. -/
theorem RI.seen (H : RI W B rb vc vh g C cs hs) : CSeen W vc cs ∧ HSeen W vh hs ∧ COk cs ∧ H32 hs ∧ ∀ c ∈ cs, c.2.length ≤ 10 := by
  have hpos : ∀ d ∈ cs, d.1.length = 32 ∧ H32 d.2 ∧ d.2.length ≤ 10 := fun d hd => by
    obtain ⟨i, hi, rfl⟩ := List.mem_iff_getElem.1 hd
    have h1 : i < C.length := by rw [H.len]; exact hi
    obtain ⟨_, _, a3, a4, a5⟩ := H.lit i _ _ (List.getElem?_eq_getElem h1) (List.getElem?_eq_getElem hi)
    exact ⟨a4, a3, a5⟩
  have h32 : ∀ c ∈ C, c.1.length = 32 := fun c hc => by
    obtain ⟨d, _, e, _, _, h, _⟩ := H.pos hc
    rw [e]; exact h
  refine ⟨?_, HSeen.own H.heads, fun d hd => ⟨(hpos d hd).1, (hpos d hd).2.1⟩, H.h32, fun d hd => (hpos d hd).2.2⟩
  rcases H.row.2 with ⟨rfl, h0⟩ | ⟨b, cap, cur, rfl, _, hb, _, _, _, hcur⟩
  · refine ⟨none, 0, by rw [← H.len, h0], fun i d hd => ?_⟩
    have := (List.getElem?_eq_some_iff.1 hd).1
    rw [← H.len, h0] at this
    omega
  · refine ⟨some ⟨b, 0, none⟩, cap, by rw [H.len], fun i d hd => ?_⟩
    have hi := (List.getElem?_eq_some_iff.1 hd).1
    have hci : C[i]? = some (C[i]'(by rw [H.len]; exact hi)) := List.getElem?_eq_getElem _
    obtain ⟨a1, a2, a3, a4, a5⟩ := H.lit i _ d hci hd
    refine ⟨b, 0, (C[i]'(by rw [H.len]; exact hi)).2, rfl, fun j u hj => ?_, HSeen.own a2⟩
    have hj33 : j < 33 := by
      have := (List.getElem?_eq_some_iff.1 hj).1
      rw [List.length_append, usn_length, a4] at this
      simpa using this
    have h5 := cf_at h32 hci hj33
    rw [a1, hj, ← hcur, List.getElem?_take] at h5
    split at h5
    · rw [cell_of_row W b _ _ _ _ hb, Nat.zero_add]
      simpa using h5
    · cases h5
/-- It stays as what lies below turns. -/
theorem RI.far (H : RI W B rb vc vh g C cs hs) {S : Nat → Prop} (hS : ∀ j, S j → j < B) (ho : Only S W W') : CSeen W' vc cs ∧ HSeen W' vh hs := by
  have h := H.keep ho (fun h => by have := hS _ h; have := H.lo; omega) (fun j hj h => by have := hS _ h; have := own_from H.row j hj; omega) (fun j hj h => by have := hS _ h; have := own_from H.heads j hj; omega) (fun c hc j hj h => by
    obtain ⟨d, _, _, o, _⟩ := H.pos hc
    have := hS _ h; have := own_from o j hj; omega)
  exact ⟨h.seen.1, h.seen.2.1⟩
end
end Go.Proofs.Ytnpeahbbcolfmaa
namespace Go.Proofs.Ytnpeahbbcolfmaa
open Go.RowKit
open Go.Maps
/-- A raw commit: its number, how, its parents. -/
structure Rw where
  n : Int
  how : Int
  pv : Value
  ps : List Int
/-- Raw commits that came in. -/
def RwSeen (w : World) (v : Value) (R : List Rw) : Prop :=
  ∃ p cap, v = .slice p R.length cap ∧ ∀ (i : Nat) (x : Rw), R[i]? = some x → ∃ b o, p = some ⟨b, o, none⟩ ∧ w.rangeAt b (o + i * 3) [.int .i64 x.n, .int .i64 x.how, x.pv] ∧ ISeen w x.pv x.ps
theorem rng_kb {w w' : World} {b o : Nat} {l : List Value} (h : w.rangeAt b o l) (k : Below w.heap.size w w') : w'.rangeAt b o l := fun j u hj => by
  have h1 := h j u hj
  rw [World.cell?_of_block (k.block _ (World.block_lt_of_cell? w _ h1))]
  exact h1
theorem RwSeen.kb {w w' : World} {v : Value} {R : List Rw} (h : RwSeen w v R) (k : Below w.heap.size w w') : RwSeen w' v R := by
  obtain ⟨p, cap, rfl, hx⟩ := h
  refine ⟨p, cap, rfl, fun i x hi => ?_⟩
  obtain ⟨b, o, h1, h2, h3⟩ := hx i x hi
  exact ⟨b, o, h1, rng_kb h2 k, h3.kb' k⟩
/-- The raw request, and the result's cell, beside it. -/
structure XS (w W : World) (B bx rz rb : Nat) (vL vH : Value) (grp how : Int) : Prop where
  bel : Below B w W
  hB : B = w.heap.size
  xb : W.heap[bx]? = some (.cells #[vL, vH, .int .i64 grp, .int .i64 how] 49 (0, 0))
  zero : W.heap[rz]? = some (.cells #[.slice none 0 0, .slice none 0 0, .int .i64 0] 44 (0, 0))
  ne : rz ≠ rb
section
variable {w W W' : World} {B bx rz rb : Nat} {vL vH : Value} {grp how : Int}
theorem XS.kb (H : XS w W B bx rz rb vL vH grp how) (k : Below W.heap.size W W') : XS w W' B bx rz rb vL vH grp how :=
  ⟨H.bel.trans (k.mono (H.hB ▸ H.bel.size)), H.hB, (mild_below k).cells H.xb, (mild_below k).cells H.zero, H.ne⟩
theorem XS.c (H : XS w W B bx rz rb vL vH grp how) : W.cell? ⟨bx, 0, none⟩ = some vL ∧ W.cell? ⟨bx, 1, none⟩ = some vH ∧ W.cell? ⟨bx, 2, none⟩ = some (.int .i64 grp) ∧ W.cell? ⟨bx, 3, none⟩ = some (.int .i64 how) := by
  refine ⟨?_, ?_, ?_, ?_⟩ <;> rw [cell_of_row W bx _ _ _ _ H.xb] <;> rfl
theorem XS.of (H : XS w W B bx rz rb vL vH grp how) : Below w.heap.size w W := H.hB ▸ H.bel
/-- A step that turns the request, or a slice of its own of hashes or commits. -/
theorem XS.far (H : XS w W B bx rz rb vL vH grp how) {v : Value} {e : TypeId} {s n : Nat} {xs : List Value} (ho : Only (fun j => j = rb ∨ v.ownBlock = some j) W W') (o : W.ownsRow B e s v n xs) (he : e ≠ 49 ∧ e ≠ 44) (hr : B ≤ rb) {rc : Array Value} (hrb : W.heap[rb]? = some (.cells rc 44 (0, 0))) : XS w W' B bx rz rb vL vH grp how := by
  refine ⟨H.bel.trans (ho.below (H.hB ▸ H.bel.size) fun k hk => ?_), H.hB, (ho.block bx (Array.getElem?_eq_some_iff.1 H.xb).1 fun e => ?_).trans H.xb, (ho.block rz (Array.getElem?_eq_some_iff.1 H.zero).1 fun e => ?_).trans H.zero, H.ne⟩
  · rcases hk with rfl | hk
    · exact hr
    · exact (own_type o hk).choose_spec.2
  · rcases e with e | e
    · have := H.xb; rw [e, hrb] at this; injection this with this; injection this with _ this _; exact absurd this (by decide)
    · exact own_apart o H.xb (fun h => he.1 h.symm) e
  · rcases e with e | e
    · exact H.ne e
    · exact own_apart o H.zero (fun h => he.2 h.symm) e
end
/-- The form of a slice of one's own. -/
def CForm (v : Value) (n : Nat) : Prop := v = .slice none 0 0 ∨ ∃ b cap, v = .slice (some ⟨b, 0, none⟩) n cap ∧ n ≤ cap
section
variable {ops : Array Oper} {rest : List Oper} {a : Act} {Q : Exit → Act → World → Prop} {o : Oper} {w0 w : World}
end
end Go.Proofs.Ytnpeahbbcolfmaa
namespace Go.Proofs.Ytnpeahbbcolfmaa
open Go.RowKit
open Go.Maps
/-- Numbers to be done: read, in blocks that came in or of numbers. -/
def Td (W : World) (B : Nat) (v : Value) (l : List Int) : Prop :=
  ∃ a cap, v = .slice a l.length cap ∧ l.length ≤ cap ∧ (a = none → cap = 0) ∧ ∀ j x, l[j]? = some x → ∃ a', a = some a' ∧ (a'.block < B ∨ ∃ cs, W.heap[a'.block]? = some (.cells cs 3 (0, 0))) ∧ W.cell? (a'.add j) = some (.int .i64 x)
theorem add_block (a : Addr) (j : Nat) : (a.add j).block = a.block := by unfold Addr.add; split <;> rfl
theorem add_one_add (a : Addr) (j : Nat) : (a.add 1).add j = a.add (j + 1) := by
  unfold Addr.add
  by_cases h : j = 0
  · subst h; simp
  · simp [h]; omega
theorem Td.only {W W' : World} {B : Nat} {v : Value} {l : List Int} {S : Nat → Prop} (h : Td W B v l) (k : Only S W W') (hS : ∀ j, S j → B ≤ j ∧ ∀ cs, W.heap[j]? ≠ some (.cells cs 3 (0, 0))) : Td W' B v l := by
  obtain ⟨a, cap, h1, h2, h3, h4⟩ := h
  refine ⟨a, cap, h1, h2, h3, fun j x hj => ?_⟩
  obtain ⟨a', e1, e2, e3⟩ := h4 j x hj
  have hn : ¬ S a'.block := fun hs => by
    obtain ⟨g1, g2⟩ := hS _ hs
    rcases e2 with e2 | ⟨cs, e2⟩
    · omega
    · exact g2 cs e2
  have hb : W'.heap[a'.block]? = W.heap[a'.block]? := k.block _ (by have := World.block_lt_of_cell? W _ e3; rwa [add_block] at this) hn
  refine ⟨a', e1, ?_, ?_⟩
  · rcases e2 with e2 | ⟨cs, e2⟩
    · exact .inl e2
    · exact .inr ⟨cs, by rw [hb]; exact e2⟩
  · have hb2 : W'.heap[(a'.add j).block]? = W.heap[(a'.add j).block]? := by rw [add_block]; exact hb
    rw [World.cell?_of_block hb2]; exact e3
theorem Td.kb {W W' : World} {B : Nat} {v : Value} {l : List Int} (h : Td W B v l) (k : Below W.heap.size W W') : Td W' B v l := h.only (S := fun _ => False) (Only.of_below k) (fun _ h => h.elim)
theorem Td.seen {W : World} {B : Nat} {v : Value} {l : List Int} (h : Td W B v l) : ISeen W v l := by
  obtain ⟨a, cap, h1, h2, h3, h4⟩ := h
  cases a with
  | none =>
    have hc := h3 rfl
    subst hc
    have hl : l = [] := List.eq_nil_of_length_eq_zero (by omega)
    subst hl
    exact .inl ⟨h1, rfl⟩
  | some a =>
    refine .inr ⟨a, cap, h1, h2, fun j x hj => ?_⟩
    obtain ⟨a', e1, e2, e3⟩ := h4 j x hj
    injection e1 with e1
    rw [e1]; exact e3
theorem Td.own {W : World} {A B : Nat} {v : Value} {l : List Int} (h : IOwns W A v l) : Td W B v l := by
  have hs := IOwns.seen h
  rcases hs with ⟨rfl, rfl⟩ | ⟨a, cap, rfl, hc, hx⟩
  · exact ⟨none, 0, rfl, Nat.le_refl _, fun _ => rfl, fun j x hj => by simp at hj⟩
  · refine ⟨some a, cap, rfl, hc, (fun h => by cases h), fun j x hj => ⟨a, rfl, .inr ?_, hx j x hj⟩⟩
    rcases h.2 with ⟨e1, _⟩ | ⟨g, cap', cur, e1, _, hg, _⟩
    · cases e1
    · injection e1 with e1
      injection e1 with e1
      subst e1
      exact ⟨_, hg⟩
theorem ISeen.pre {w : World} {p : Option Addr} {n c m : Nat} {l : List Int} (h : ISeen w (.slice p n c) l) (hm : m ≤ n) : ISeen w (.slice p m c) (l.take m) := by
  rcases h with ⟨h1, h2⟩ | ⟨a, cap, h1, h2, h3⟩
  · injection h1 with e1 e2 e3
    subst e1 e2 e3 h2
    obtain rfl : m = 0 := by omega
    exact .inl ⟨rfl, rfl⟩
  · injection h1 with e1 e2 e3
    subst e1 e3 e2
    have hl : (l.take m).length = m := by rw [List.length_take]; omega
    refine .inr ⟨a, c, by rw [hl], by rw [hl]; omega, fun j x hj => h3 j x ?_⟩
    rw [List.getElem?_take] at hj
    split at hj
    · exact hj
    · cases hj
theorem Td.rest {W : World} {B : Nat} {a : Addr} {n cap m : Nat} {x : Int} {l : List Int} (h : Td W B (.slice (some a) n cap) (x :: l)) (hm : m = l.length) : Td W B (.slice (if cap = 1 then some a else some (a.add 1)) m (cap - 1)) l := by
  obtain ⟨a', cap', h1, h2, h3, h4⟩ := h
  injection h1 with h1 h5 h6
  subst h6 hm
  rw [List.length_cons] at h2
  refine ⟨_, _, rfl, by omega, (fun h => by split at h <;> cases h), fun j y hj => ?_⟩
  have hj' := (List.getElem?_eq_some_iff.1 hj).1
  obtain ⟨a'', e1, e2, e3⟩ := h4 (j + 1) y (by simpa using hj)
  rw [← h1] at e1
  injection e1 with e1
  subst e1
  rw [if_neg (by omega)]
  exact ⟨_, rfl, by rw [add_block]; exact e2, by rw [add_one_add]; exact e3⟩
section
variable {ops : Array Oper} {rest : List Oper} {a : Act} {Q : Exit → Act → World → Prop} {o : Oper} {w : World} {K : Act → World → Prop} {X : Prop}
/-- append of one hash, plain. -/
theorem push_hash11 (hgd : o.guard = none) (s x : Operand) (ho : o.op = .call { callee := .builtin .append, args := #[s, x], argTypes := #[28, 28] })
    (B : Nat) (v : Value) (l : List Key) (b : Nat) (k : Key) (hk : k.length = 32) (hs : a.eval s = v) (hown : HOwn w B v l) (hx : a.eval x = .slice (some ⟨b, 0, none⟩) 1 1) (hu : w.heap[b]? = some (.cells (hv k) 27 (0, 0))) (hl : l.length + 1 ≤ 1000000) (hB : B ≤ w.heap.size)
    (m : Nat) (hm : m = l.length + 1)
    (h : ∀ (p : Option Addr) (c : Nat) (w' : World), HOwn w' B (.slice p m c) (l ++ [k]) → Only (fun j => v.ownBlock = some j) w w' → (∀ j, (Value.slice p m c).ownBlock = some j → v.ownBlock = some j ∨ w.heap.size ≤ j) → wpList Try.prog ops Q rest (a.put o.dst (.slice p m c)) w') :
    wpList Try.prog ops Q (o :: rest) a w := by
  refine wpList_plain hgd fun K hK => ?_
  have h9 := step_pushh (K := K) (Q := Q) (X := True) (ops := ops) hgd s x ho B v l b k hk hs hown hx hu hl hB m hm (fun p c w' a1 a2 a3 => hK _ _ (h p c w' a1 a2 a3))
  rwa [if_pos (by simp [Region.wanted, hgd])] at h9
end
/-- Which numbers were seen. -/
def InB (W : World) (ib : Nat) (bs : List Bool) : Prop := W.heap[ib]? = some (.cells (bs.map Value.bool).toArray 84 (0, 0)) ∧ bs.length = 60
theorem InB.cell {W : World} {ib : Nat} {bs : List Bool} (h : InB W ib bs) {n : Nat} {b : Bool} (hb : bs[n]? = some b) : W.cell? ⟨ib, n, none⟩ = some (.bool b) := by
  rw [cell_of_row W ib n _ _ _ h.1]
  simp [hb]
theorem InB.set {W : World} {ib : Nat} {bs : List Bool} (h : InB W ib bs) {n : Nat} (hn : n < 60) : InB (W.setCell ⟨ib, n, none⟩ (.bool true)) ib (bs.set n true) ∧ Only (fun j => j = ib) W (W.setCell ⟨ib, n, none⟩ (.bool true)) := by
  refine ⟨⟨?_, by rw [List.length_set]; exact h.2⟩, (Only.refl (fun j => j = ib) W).setCell (p := ⟨ib, n, none⟩) rfl _⟩
  rw [heap_setCell_same W ib n _ _ _ h.1]
  congr 2
  apply Array.ext_getElem?
  intro i
  rw [Array.getElem?_setIfInBounds]
  simp only [List.getElem?_toArray, List.getElem?_map, List.getElem?_set, List.size_toArray, List.length_map]
  by_cases e : n = i
  · subst e
    by_cases h2 : n < bs.length
    · simp [h2]
    · have := h.2; omega
  · simp [e]
theorem InB.kb {W W' : World} {ib : Nat} {bs : List Bool} (h : InB W ib bs) (k : Below W.heap.size W W') : InB W' ib bs := ⟨(mild_below k).cells h.1, h.2⟩
section
variable {W W' w : World} {B rb bx rz ib : Nat} {vc vh vL vH : Value} {g grp how : Int} {C : Cv} {cs : List Cm} {hs : List Key} {bs : List Bool}
/-- What was seen stays as the request turns. -/
theorem InB.far (I : InB W ib bs) {v : Value} {e : TypeId} {s n : Nat} {xs : List Value} (ho : Only (fun j => j = rb ∨ v.ownBlock = some j) W W') (o : W.ownsRow B e s v n xs) (he : e ≠ 84) {rc : Array Value} (hrb : W.heap[rb]? = some (.cells rc 44 (0, 0))) : InB W' ib bs := by
  refine ⟨(ho.block ib (Array.getElem?_eq_some_iff.1 I.1).1 fun h => ?_).trans I.1, I.2⟩
  rcases h with h | h
  · have := I.1; rw [h, hrb] at this; injection this with this; injection this with _ this _; exact absurd this (by decide)
  · exact own_apart o I.1 (fun h => he h.symm) h
end
theorem RI.apart {W W' : World} {B rb : Nat} {vc vh : Value} {g : Int} {C : Cv} {cs : List Cm} {hs : List Key} (R : RI W B rb vc vh g C cs hs) (ho : Only (fun j => j = rb ∨ vc.ownBlock = some j) W W') :
    (∀ v l, Td W B v l → Td W' B v l) ∧ (∀ A v n xs, W.ownsRow A 3 1 v n xs → W'.ownsRow A 3 1 v n xs) ∧ ∀ ib bs, InB W ib bs → InB W' ib bs := by
  have ht : ∀ j, (j = rb ∨ vc.ownBlock = some j) → B ≤ j ∧ ∀ cs, W.heap[j]? ≠ some (.cells cs 3 (0, 0)) := fun j hj => by
    rcases hj with rfl | hj
    · exact ⟨R.lo, fun cs e => by rw [R.cell] at e; injection e with e; injection e with _ e _; exact absurd e (by decide)⟩
    · obtain ⟨cs', h1, h2⟩ := own_type R.row hj
      exact ⟨h2, fun cs e => by rw [h1] at e; injection e with e; injection e with _ e _; exact absurd e (by decide)⟩
  refine ⟨fun v l h => h.only ho ht, fun A v n xs h => own_keep h ho (fun j hj e => ?_), fun ib bs I => I.far ho R.row (by decide) R.cell⟩
  obtain ⟨cs', h1, _⟩ := own_type h hj
  exact (ht j e).2 cs' h1
theorem RI.form {W : World} {B rb : Nat} {vc vh : Value} {g : Int} {C : Cv} {cs : List Cm} {hs : List Key} (R : RI W B rb vc vh g C cs hs) : CForm vc cs.length := by
  rcases R.row.2 with ⟨h1, _⟩ | ⟨b, cap, cur, h1, _, _, h2, _⟩
  · exact .inl h1
  · exact .inr ⟨b, cap, by rw [h1, R.len], by rw [← R.len]; exact h2⟩
/-- What is handed back lies in the result's cell. -/
theorem XS.done {W w : World} {B rb bx rz : Nat} {vc vh vL vH : Value} {g grp how : Int} {C : Cv} {cs : List Cm} {hs : List Key} (X : XS w W B bx rz rb vL vH grp how) (R : RI W B rb vc vh g C cs hs) (hz : B ≤ rz) (p1 p2 p3 : Value) :
    ((((W.setCell ⟨rz, 0, none⟩ p1).setCell ⟨rz, 1, none⟩ p2).setCell ⟨rz, 2, none⟩ p3).heap[rz]? = some (.cells #[p1, p2, p3] 44 (0, 0))) ∧
    RI (((W.setCell ⟨rz, 0, none⟩ p1).setCell ⟨rz, 1, none⟩ p2).setCell ⟨rz, 2, none⟩ p3) B rb vc vh g C cs hs ∧ Below w.heap.size w (((W.setCell ⟨rz, 0, none⟩ p1).setCell ⟨rz, 1, none⟩ p2).setCell ⟨rz, 2, none⟩ p3) := by
  have h1 : (W.setCell ⟨rz, 0, none⟩ p1).heap[rz]? = some (.cells #[p1, .slice none 0 0, .int .i64 0] 44 (0, 0)) := by rw [heap_setCell_same W rz 0 _ _ _ X.zero]; rfl
  have h2 : ((W.setCell ⟨rz, 0, none⟩ p1).setCell ⟨rz, 1, none⟩ p2).heap[rz]? = some (.cells #[p1, p2, .int .i64 0] 44 (0, 0)) := by rw [heap_setCell_same _ rz 1 _ _ _ h1]; rfl
  have ho : Only (fun j => j = rz) W (((W.setCell ⟨rz, 0, none⟩ p1).setCell ⟨rz, 1, none⟩ p2).setCell ⟨rz, 2, none⟩ p3) :=
    (((Only.refl (fun j => j = rz) W).setCell (p := ⟨rz, 0, none⟩) rfl _).setCell (p := ⟨rz, 1, none⟩) rfl _).setCell (p := ⟨rz, 2, none⟩) rfl _
  refine ⟨by rw [heap_setCell_same _ rz 2 _ _ _ h2]; rfl, R.keep ho (fun e => X.ne e.symm) (fun j hj e => own_apart R.row X.zero (by decide) (by rw [hj, e])) (fun j hj e => own_apart R.heads X.zero (by decide) (by rw [hj, e])) (fun c hc j hj e => ?_), X.of.trans (ho.below X.of.size fun k hk => by rw [hk, ← X.hB]; exact hz)⟩
  obtain ⟨d, _, _, o, _⟩ := R.pos hc
  exact own_apart o X.zero (by decide) (by rw [hj, e])
end Go.Proofs.Ytnpeahbbcolfmaa
namespace Go.Proofs.Ytnpeahbbcolfmaa
open Go.RowKit Go.ChangeShapes Go.WideShapes Go.Deep
instance : Inhabited Rw := ⟨⟨0, 0, .slice none 0 0, []⟩⟩
/-- A raw request. -/
structure Rq where
  vL : Value
  L : List Rw
  vH : Value
  hs : List Int
  grp : Int
  how : Int
instance : Inhabited Rq := ⟨⟨.slice none 0 0, [], .slice none 0 0, [], 0, 0⟩⟩
def Rq.row (x : Rq) : List Value := [x.vL, x.vH, .int .i64 x.grp, .int .i64 x.how]
def Rq.In (w : World) (x : Rq) : Prop := RwSeen w x.vL x.L ∧ ISeen w x.vH x.hs
/-- The raw requests of the slice at p. -/
def RqSeen (w : World) (p : Option Addr) (E : List Rq) : Prop := ∀ (j : Nat) (x : Rq), E[j]? = some x → ∃ b o, p = some ⟨b, o, none⟩ ∧ w.rangeAt b (o + j * 4) x.row ∧ x.In w
end Go.Proofs.Ytnpeahbbcolfmaa
namespace Go.Proofs.Ytnpeahbbcolfmaa
open Go.RowKit Go.Extern.Stop Go.Stop Go.Extern
open Go.Maps
theorem RqSeen.get {w W : World} {p : Option Addr} {E : List Rq} (h : RqSeen w p E) (k : Below w.heap.size w W) {i : Nat} (hi : i < E.length) : ∃ (b o : Nat) (x : Rq), p = some ⟨b, o, none⟩ ∧ x.In W ∧ W.cell? ⟨b, o + i * 4, none⟩ = some x.vL ∧ W.cell? ⟨b, o + i * 4 + 1, none⟩ = some x.vH ∧ W.cell? ⟨b, o + i * 4 + 2, none⟩ = some (.int .i64 x.grp) ∧ W.cell? ⟨b, o + i * 4 + 3, none⟩ = some (.int .i64 x.how) := by
  obtain ⟨b, o, h1, h2, h3⟩ := h i _ (List.getElem?_eq_getElem hi)
  have h4 := rng_kb h2 k
  exact ⟨b, o, _, h1, ⟨h3.1.kb k, h3.2.kb' k⟩, by simpa using h4 0 _ rfl, h4 1 _ rfl, h4 2 _ rfl, h4 3 _ rfl⟩
theorem rng_pre {w : World} {b o : Nat} {xs ys : List Value} (h : w.rangeAt b o (xs ++ ys)) : w.rangeAt b o xs := fun j v hj => h j v (by rw [List.getElem?_append_left (List.getElem?_eq_some_iff.1 hj).1]; exact hj)
theorem Ks.bare {w W : World} {H : List (Nat × Key)} {g bm : Nat} {X : Lx} {L : List (Value × Rf)} (h : Ks w W H g bm X L) : Ks w W H g bm X [] := ⟨h.bel, h.own, h.ga, h.lo, fun p hp => by cases hp⟩
/-- A request's own variable, and its commits. -/
structure Rv (W : World) (rb : Nat) (pc : Option Addr) (m cc : Nat) (vh : Value) (gg : Int) (cs : List Cm) : Prop where
  cell : W.heap[rb]? = some (.cells #[.slice pc m cc, vh, .int .i64 gg] 44 (0, 0))
  seen : CSeen W (.slice pc m cc) cs
  ok : COk cs
  len : m = cs.length
  few : cs.length ≤ 100
  par : ∀ c ∈ cs, c.2.length ≤ 10
theorem Rv.mild {W W' : World} {rb : Nat} {pc : Option Addr} {m cc : Nat} {vh : Value} {gg : Int} {cs : List Cm} (h : Rv W rb pc m cc vh gg cs) (k : Mild W W') : Rv W' rb pc m cc vh gg cs := ⟨k.cells h.cell, h.seen.mild k, h.ok, h.len, h.few, h.par⟩
theorem Rv.kb {W W' : World} {rb : Nat} {pc : Option Addr} {m cc : Nat} {vh : Value} {gg : Int} {cs : List Cm} (h : Rv W rb pc m cc vh gg cs) (k : Below W.heap.size W W') : Rv W' rb pc m cc vh gg cs := h.mild (mild_below k)
theorem Rv.c {W : World} {rb : Nat} {pc : Option Addr} {m cc : Nat} {vh : Value} {gg : Int} {cs : List Cm} (h : Rv W rb pc m cc vh gg cs) : W.cell? ⟨rb, 0, none⟩ = some (.slice pc m cc) := by rw [cell_of_row W rb _ _ _ _ h.cell]; rfl
/-- A row of hashes of one's own, by its shape. -/
theorem own_sh {w : World} {B : Nat} {v : Value} {E : List Key} (h : HOwn w B v E) : ∃ p n cap, v = .slice p n cap ∧ n = E.length := by
  obtain ⟨p, cap, e⟩ := own_shape h
  exact ⟨p, _, cap, e, rfl⟩
end Go.Proofs.Ytnpeahbbcolfmaa
namespace Go.Proofs.Ytnpeahbbcolfmaa
open Go.RowKit
open Go.Maps
open Go.Deep (choose_lt)
abbrev cfT (T : Lx) : List Value := cf (kvs T)
theorem cfT_app (S T : Lx) : cfT (S ++ T) = cfT S ++ cfT T := by unfold cfT kvs amap; rw [List.map_append, cf_app]
def T32 (T : Lx) : Prop := ∀ x ∈ T, x.1.length = 32
theorem T32.kv {T : Lx} (h : T32 T) : ∀ c ∈ kvs T, c.1.length = 32 := fun c hc => by
  obtain ⟨x, hx, rfl⟩ := List.mem_map.1 hc
  exact h x hx
theorem cfT_len {T : Lx} (h : T32 T) : (cfT T).length = T.length * 33 := by rw [cfT, cf_length h.kv, kvs_len]
theorem T32.sub {S T : Lx} (h : T32 T) (hs : ∀ x ∈ S, x ∈ T) : T32 S := fun x hx => h x (hs x hx)
/-- The commits T lie at v. -/
structure TS (W : World) (v : Value) (T : Lx) : Prop where
  row : (v = .slice none 0 0 ∧ T = []) ∨ ∃ b o cap, v = .slice (some ⟨b, o, none⟩) T.length cap ∧ T.length ≤ cap ∧ ∀ j u, (cfT T)[j]? = some u → W.cell? ⟨b, o + j, none⟩ = some u
  h32 : T32 T
  lit : ∀ x ∈ T, HSeen W x.2.1 x.2.2
theorem TS.mild {W W' : World} {v : Value} {T : Lx} (h : TS W v T) (m : Mild W W') : TS W' v T := by
  refine ⟨?_, h.h32, fun x hx => (h.lit x hx).mild m⟩
  rcases h.row with h1 | ⟨b, o, cap, h1, h2, h3⟩
  · exact .inl h1
  · exact .inr ⟨b, o, cap, h1, h2, fun j u hj => m.cell (h3 j u hj)⟩
theorem TS.kb {W W' : World} {v : Value} {T : Lx} (h : TS W v T) (k : Below W.heap.size W W') : TS W' v T := h.mild (mild_below k)
theorem TS.shape {W : World} {v : Value} {T : Lx} (h : TS W v T) : ∃ p n cap, v = .slice p n cap ∧ n = T.length ∧ n ≤ cap := by
  rcases h.row with ⟨h1, h2⟩ | ⟨b, o, cap, h1, h2, _⟩
  · exact ⟨none, 0, 0, h1, by rw [h2]; rfl, Nat.le_refl _⟩
  · exact ⟨_, _, cap, h1, rfl, h2⟩
theorem cfT_at {T : Lx} (h : T32 T) {i j : Nat} {x : Key × (Value × List Key)} (hx : T[i]? = some x) (hj : j < 33) : (cfT T)[i * 33 + j]? = (us (nmb x.1) ++ [x.2.1])[j]? := by
  have h1 : (kvs T)[i]? = some (x.1, x.2.1) := by unfold kvs amap; rw [List.getElem?_map, hx]; rfl
  exact cf_at h.kv h1 hj
theorem row33 {h : Key} (hh : h.length = 32) (u : Value) : (us (nmb h) ++ [u]).length = 33 := by rw [List.length_append, usn_length, hh]; rfl
theorem TS.at {W : World} {v : Value} {T : Lx} (h : TS W v T) {i : Nat} {x : Key × (Value × List Key)} (hx : T[i]? = some x) : ∃ b o cap, v = .slice (some ⟨b, o, none⟩) T.length cap ∧ W.rangeAt b (o + i * 33) (us (nmb x.1) ++ [x.2.1]) := by
  rcases h.row with ⟨_, h2⟩ | ⟨b, o, cap, h1, _, h3⟩
  · subst h2; simp at hx
  · refine ⟨b, o, cap, h1, fun j u hj => ?_⟩
    have hj33 : j < 33 := by rw [← row33 (h.h32 x (List.mem_of_getElem? hx)) x.2.1]; exact (List.getElem?_eq_some_iff.1 hj).1
    rw [Nat.add_assoc]
    exact h3 _ u (by rw [cfT_at h.h32 hx hj33]; exact hj)
theorem TS.cseen {W : World} {v : Value} {T : Lx} (h : TS W v T) : CSeen W v (gr T) := by
  obtain ⟨p, n, cap, h1, h2, _⟩ := h.shape
  refine ⟨p, cap, by rw [h1, h2, gr_len], fun i c hc => ?_⟩
  have hi := (List.getElem?_eq_some_iff.1 hc).1
  rw [gr_len] at hi
  have hx : T[i]? = some T[i] := List.getElem?_eq_getElem hi
  have hcx : c = (T[i].1, T[i].2.2) := by
    have : (gr T)[i]? = some (T[i].1, T[i].2.2) := by unfold gr amap; rw [List.getElem?_map, hx]; rfl
    rw [hc] at this; exact Option.some.inj this
  obtain ⟨b, o, cap', e, hr⟩ := h.at hx
  rw [h1] at e
  injection e with e _ _
  subst hcx
  exact ⟨b, o, T[i].2.1, e, hr, h.lit _ (List.getElem_mem hi)⟩
/-- The commits that were put together. -/
theorem TS.of {W : World} {v : Value} {cs : List Cm} (h : CSeen W v cs) (ok : COk cs) (f : CForm v cs.length) : ∃ T : Lx, gr T = cs ∧ TS W v T := by
  obtain ⟨p, cap, hv', hc⟩ := h
  rcases f with hn | ⟨b, cap', hb, hle⟩
  · rw [hv'] at hn
    injection hn with h1 h2 h3
    obtain rfl : cs = [] := List.eq_nil_of_length_eq_zero h2
    exact ⟨[], rfl, .inl ⟨by rw [hv', h1, h3]; rfl, rfl⟩, (fun _ h => by cases h), (fun _ h => by cases h)⟩
  · rw [hv'] at hb
    injection hb with h1 _ h3
    subst h1 h3
    obtain ⟨f, hf⟩ := choose_lt (n := cs.length) (α := Value) (p := fun i u => ∀ hi : i < cs.length, W.rangeAt b (i * 33) (us (nmb cs[i].1) ++ [u]) ∧ HSeen W u cs[i].2) (fun i hi => by
      obtain ⟨b', o, u, e, h4, h5⟩ := hc i _ (List.getElem?_eq_getElem hi)
      injection e with e
      injection e with e1 e2 _
      subst e1 e2
      rw [Nat.zero_add] at h4
      exact ⟨u, fun _ => ⟨h4, h5⟩⟩)
    obtain ⟨T, hT⟩ : ∃ T : Lx, T = cs.mapIdx fun i c => (c.1, (f i, c.2)) := ⟨_, rfl⟩
    have hlen : T.length = cs.length := by rw [hT, List.length_mapIdx]
    have hget : ∀ i (hi : i < cs.length), T[i]? = some (cs[i].1, (f i, cs[i].2)) := fun i hi => by
      rw [hT, List.getElem?_mapIdx, List.getElem?_eq_getElem hi]; rfl
    have hgr : gr T = cs := by
      apply List.ext_getElem?
      intro i
      unfold gr amap
      rw [List.getElem?_map]
      by_cases hi : i < cs.length
      · rw [hget i hi, List.getElem?_eq_getElem hi]; rfl
      · rw [List.getElem?_eq_none (by omega), List.getElem?_eq_none (by omega)]; rfl
    have hmem : ∀ x ∈ T, ∃ i, ∃ hi : i < cs.length, x = (cs[i].1, (f i, cs[i].2)) := fun x hx => by
      obtain ⟨i, hi, e⟩ := List.mem_iff_getElem.1 hx
      have hi' : i < cs.length := by rw [← hlen]; exact hi
      have h9 := hget i hi'
      rw [List.getElem?_eq_getElem hi, e] at h9
      exact ⟨i, hi', Option.some.inj h9⟩
    have h32 : T32 T := fun x hx => by
      obtain ⟨i, hi, rfl⟩ := hmem x hx
      exact (ok _ (List.getElem_mem hi)).1
    refine ⟨T, hgr, .inr ⟨b, 0, cap, by rw [hv', hlen], by rw [hlen]; exact hle, fun j u hj => ?_⟩, h32, fun x hx => ?_⟩
    · have hjl := (List.getElem?_eq_some_iff.1 hj).1
      rw [cfT_len h32, hlen] at hjl
      have hi : j / 33 < cs.length := by omega
      have e : j / 33 * 33 + j % 33 = j := by omega
      have h9 := cfT_at h32 (hget _ hi) (j := j % 33) (by omega)
      rw [e, hj] at h9
      have := (hf (j / 33) hi hi).1 (j % 33) u h9.symm
      rw [e] at this
      rw [Nat.zero_add]; exact this
    · obtain ⟨i, hi, rfl⟩ := hmem x hx
      exact (hf i hi hi).2
abbrev TOwn (W : World) (B : Nat) (v : Value) (T : Lx) : Prop := W.ownsRow B 32 33 v T.length (cfT T)
theorem TS.own {W : World} {B : Nat} {v : Value} {T : Lx} (h : TOwn W B v T) (h32 : T32 T) (hl : ∀ x ∈ T, HSeen W x.2.1 x.2.2) : TS W v T := by
  refine ⟨?_, h32, hl⟩
  rcases h.2 with ⟨h1, h2⟩ | ⟨g, cap, cur, rfl, _, hg, hn, _, _, hc⟩
  · exact .inl ⟨h1, List.eq_nil_of_length_eq_zero h2⟩
  · refine .inr ⟨g, 0, cap, rfl, hn, fun j u hj => ?_⟩
    rw [Nat.zero_add, cell_of_row W g j _ _ _ hg]
    have hjl := (List.getElem?_eq_some_iff.1 hj).1
    rw [cfT_len h32] at hjl
    rw [← hc, List.getElem?_take, if_pos hjl] at hj
    simpa using hj
theorem cfT_take {T : Lx} (h : T32 T) {k : Nat} (j : Nat) (hj : j < k * 33) : (cfT (T.take k))[j]? = (cfT T)[j]? := by
  by_cases hk : k ≤ T.length
  · have e : T.take k ++ T.drop k = T := List.take_append_drop k T
    have h1 : (cfT (T.take k)).length = k * 33 := by rw [cfT_len (h.sub fun x hx => List.mem_of_mem_take hx), List.length_take, Nat.min_eq_left hk]
    have h2 : cfT T = cfT (T.take k) ++ cfT (T.drop k) := by rw [← cfT_app, e]
    rw [h2, List.getElem?_append_left (by omega)]
  · rw [List.take_of_length_le (by omega)]
theorem cfT_drop {T : Lx} (h : T32 T) {k : Nat} (hk : k ≤ T.length) (j : Nat) : (cfT (T.drop k))[j]? = (cfT T)[k * 33 + j]? := by
  have e : T.take k ++ T.drop k = T := List.take_append_drop k T
  have h1 : (cfT (T.take k)).length = k * 33 := by rw [cfT_len (h.sub fun x hx => List.mem_of_mem_take hx), List.length_take, Nat.min_eq_left hk]
  have h2 : cfT T = cfT (T.take k) ++ cfT (T.drop k) := by rw [← cfT_app, e]
  rw [h2, List.getElem?_append_right (by omega), h1, Nat.add_sub_cancel_left]
theorem TS.take {W : World} {p : Option Addr} {n cap : Nat} {T : Lx} (h : TS W (.slice p n cap) T) {k : Nat} (hk : k ≤ T.length) : TS W (.slice p k cap) (T.take k) := by
  have hm : ∀ x ∈ T.take k, x ∈ T := fun x hx => List.mem_of_mem_take hx
  have hl : (T.take k).length = k := by rw [List.length_take, Nat.min_eq_left hk]
  refine ⟨?_, h.h32.sub hm, fun x hx => h.lit x (hm x hx)⟩
  rcases h.row with ⟨h1, h2⟩ | ⟨b, o, cap', h1, h2, h3⟩
  · injection h1 with e1 e2 e3
    subst e1 e3 h2
    have : k = 0 := by simpa using hk
    subst this
    exact .inl ⟨rfl, rfl⟩
  · injection h1 with e1 e2 e3
    subst e1 e3
    refine .inr ⟨b, o, cap, by rw [hl], by omega, fun j u hj => h3 j u ?_⟩
    have hjl := (List.getElem?_eq_some_iff.1 hj).1
    rw [cfT_len (h.h32.sub hm), hl] at hjl
    rw [← cfT_take h.h32 j hjl]; exact hj
theorem TS.drop {W : World} {b o : Nat} {n cap : Nat} {T : Lx} (h : TS W (.slice (some ⟨b, o, none⟩) n cap) T) {k m : Nat} (hk : k ≤ T.length) (hm' : m = T.length - k) : TS W (.slice (if cap = k then some ⟨b, o, none⟩ else some ⟨b, o + k * 33, none⟩) m (cap - k)) (T.drop k) := by
  have hm : ∀ x ∈ T.drop k, x ∈ T := fun x hx => List.mem_of_mem_drop hx
  have hl : (T.drop k).length = m := by rw [List.length_drop, hm']
  refine ⟨?_, h.h32.sub hm, fun x hx => h.lit x (hm x hx)⟩
  rcases h.row with ⟨h1, _⟩ | ⟨b', o', cap', h1, h2, h3⟩
  · cases h1
  · injection h1 with e1 e2 e3
    injection e1 with e1
    injection e1 with e4 e5 _
    subst e4 e5 e3
    by_cases hc : cap = k
    · rw [if_pos hc]
      refine .inr ⟨b, o, cap - k, by rw [hl], by omega, fun j u hj => ?_⟩
      have hjl := (List.getElem?_eq_some_iff.1 hj).1
      rw [cfT_len (h.h32.sub hm), hl] at hjl
      omega
    · rw [if_neg hc]
      refine .inr ⟨b, o + k * 33, cap - k, by rw [hl], by omega, fun j u hj => ?_⟩
      rw [cfT_drop h.h32 hk] at hj
      rw [Nat.add_assoc]
      exact h3 _ u hj
/-- What append does with commits of the call's own and some that are read. -/
theorem run_push_comms (w : World) (ty : TypeId) (B : Nat) (v u : Value) (S T : Lx) (hown : TOwn w B v S) (hu : TS w u T) (hs : S.length + T.length ≤ 1000000) (hB : B ≤ w.heap.size) :
    ∃ v' w', (Builtin.append_ #[29, 29] ty #[v, u]).run Try.prog w = .ok v' w' ∧ TOwn w' B v' (S ++ T) ∧ Only (fun j => v.ownBlock = some j) w w' ∧ ∀ j, v'.ownBlock = some j → v.ownBlock = some j ∨ w.heap.size ≤ j := by
  obtain ⟨i0, hi0, hz0, hz1, hz2⟩ := info_parts czinfo
  have hf : S.length + T.length ≤ maxLen ∧ (S.length + T.length) * 56 ≤ 140737488355328 := by unfold maxLen; omega
  rcases hu.row with ⟨rfl, rfl⟩ | ⟨b, o, cap, rfl, hc, hcell⟩
  · have hr := run_append_nil_h (w := w) B 29 ty 32 i0 33 Try.underlying29 hi0 v _ _ hown
    exact ⟨v, w, hr, by simpa using hown, Only.refl _ _, fun _ h => .inl h⟩
  · have h1 : ∀ u ∈ cfT T, u.oneCell' = true := fun u hu' => by
      obtain ⟨c, hcm, hu2⟩ := List.mem_flatMap.1 hu'
      obtain ⟨x, hx, rfl⟩ := List.mem_map.1 hcm
      rcases List.mem_append.1 hu2 with h3 | h3
      · have := hv_one x.1
        rw [← hv_list] at h3
        exact Array.all_eq_true_iff_forall_mem.1 this u (Array.mem_toList_iff.1 h3)
      · rw [List.mem_singleton.1 h3]; exact (hu.lit x hx).one
    obtain ⟨v', w', hr, h2, h3, h4, h5⟩ := run_append_own_at (P := Try.prog) (w := w) B 29 ty 32 i0 _ 33 56 Try.underlying29 hi0 hz0 hz1 hz2 rfl (by decide) v S.length (cfT S) hown ⟨b, o, none⟩ T.length cap (cfT T) (cfT_len hu.h32) (fun j u hj => by rw [Addr.add_lit]; exact hcell j u hj) h1 hf.1 hf.2 hB
    refine ⟨v', w', hr, ?_, (Only.refl _ w).grown h3 (fun k _ e => e), fun j hj => ?_⟩
    · unfold TOwn
      rw [List.length_append, cfT_app]
      exact h2
    · rcases h5 with h5 | h5
      · rw [h5] at hj; exact .inl hj
      · rw [h5] at hj
        injection hj with hj
        exact .inr (by omega)
section
variable {ops : Array Oper} {rest : List Oper} {a : Act} {Q : Exit → Act → World → Prop} {o : Oper} {w : World} {K : Act → World → Prop} {X : Prop}
theorem step_comms (hgd : o.guard = none) (s x : Operand) (ho : o.op = .call { callee := .builtin .append, args := #[s, x], argTypes := #[29, 29] })
    (B : Nat) (v u : Value) (S T : Lx) (hs : a.eval s = v) (hown : TOwn w B v S) (hx : a.eval x = u) (hu : TS w u T) (hl : S.length + T.length ≤ 1000000) (hB : B ≤ w.heap.size)
    (h : ∀ v' w', TOwn w' B v' (S ++ T) → Only (fun j => v.ownBlock = some j) w w' → (∀ j, v'.ownBlock = some j → v.ownBlock = some j ∨ w.heap.size ≤ j) → K (a.put o.dst v') w') :
    if Region.wanted o (yielded ops a.tmps) = true then Oper.wp Try.prog o a w K Q else X := by
  have hw : Region.wanted o (yielded ops a.tmps) = true := by simp [Region.wanted, hgd]
  rw [if_pos hw]
  obtain ⟨v', w', hr, h1, h2, h3⟩ := run_push_comms w o.type B v u S T hown hu hl hB
  unfold Oper.wp execOp
  simp only [ho, resolve, invoke, builtin, Sem.run_bind, Sem.run_pure, Result.andThen_ok, List.map_toArray, List.map_cons, List.map_nil, hs, hx, hr]
  exact h v' w' h1 h2 h3
theorem push_comms (hgd : o.guard = none) (s x : Operand) (ho : o.op = .call { callee := .builtin .append, args := #[s, x], argTypes := #[29, 29] })
    (B : Nat) (v u : Value) (S T : Lx) (hs : a.eval s = v) (hown : TOwn w B v S) (hx : a.eval x = u) (hu : TS w u T) (hl : S.length + T.length ≤ 1000000) (hB : B ≤ w.heap.size)
    (h : ∀ v' w', TOwn w' B v' (S ++ T) → Only (fun j => v.ownBlock = some j) w w' → (∀ j, v'.ownBlock = some j → v.ownBlock = some j ∨ w.heap.size ≤ j) → wpList Try.prog ops Q rest (a.put o.dst v') w') :
    wpList Try.prog ops Q (o :: rest) a w := by
  refine wpList_plain hgd fun K hK => ?_
  have h9 := step_comms (K := K) (Q := Q) (X := True) (ops := ops) hgd s x ho B v u S T hs hown hx hu hl hB (fun v' w' a1 a2 a3 => hK _ _ (h v' w' a1 a2 a3))
  rwa [if_pos (by simp [Region.wanted, hgd])] at h9
end
theorem TS.one {W : World} {b : Nat} {x : Key × (Value × List Key)} (hb : W.heap[b]? = some (.cells (cf [(x.1, x.2.1)]).toArray 32 (0, 0))) (hx : x.1.length = 32) (hl : HSeen W x.2.1 x.2.2) : TS W (.slice (some ⟨b, 0, none⟩) 1 1) [x] :=
  ⟨.inr ⟨b, 0, 1, rfl, Nat.le_refl _, fun j u hj => by rw [Nat.zero_add, cell_of_row W b j _ _ _ hb, List.getElem?_toArray]; exact hj⟩, fun y hy => by rw [List.mem_singleton.1 hy]; exact hx, fun y hy => by rw [List.mem_singleton.1 hy]; exact hl⟩
theorem own_shc {W : World} {B : Nat} {v : Value} {T : Lx} (h : TOwn W B v T) : ∃ p n c, v = .slice p n c ∧ n = T.length := by
  rcases h.2 with ⟨h1, h2⟩ | ⟨g, cap, cur, h1, _⟩
  · exact ⟨none, 0, 0, h1, h2.symm⟩
  · exact ⟨_, _, _, h1, rfl⟩
end Go.Proofs.Ytnpeahbbcolfmaa
namespace Go.Proofs.Ytnpeahbbcolfmaa
open Go.RowKit
open Go.Maps
/-- Commit number k. -/
def AtK (T : Lx) (k : Nat) (h : Key) : Prop := ∃ x, T[k]? = some x ∧ x.1 = h
theorem asc_less {T : Lx} (ha : AAsc T) {i j : Nat} (hj : j < T.length) (hij : i < j) : Op.bytesLess (T[i]'(by omega)).1 T[j].1 = true := by
  have := List.pairwise_iff_getElem.1 ha i j (by omega) hj hij
  rw [bl_bb]; exact this
end Go.Proofs.Ytnpeahbbcolfmaa
namespace Go.Proofs.Ytnpeahbbcolfmaa
open Go.RowKit
open Go.Maps
theorem atk_get {T : Lx} (ha : AAsc T) {k : Nat} {h : Key} (h1 : AtK T k h) : ∃ x, T[k]? = some x ∧ x.1 = h ∧ aget h T = some x.2 := by
  obtain ⟨x, hx, rfl⟩ := h1
  exact ⟨x, hx, rfl, aget_of_mem ha (List.mem_of_getElem? hx)⟩
end Go.Proofs.Ytnpeahbbcolfmaa
namespace Go.Proofs.Ytnpeahbbcolfmaa
open Go.RowKit
open Go.Maps
section
variable {ops : Array Oper} {rest : List Oper} {a : Act} {Q : Exit → Act → World → Prop} {o : Oper} {w : World} {K : Act → World → Prop} {X : Prop}
end
end Go.Proofs.Ytnpeahbbcolfmaa
namespace Go.Proofs.Ytnpeahbbcolfmaa
open Go.RowKit
open Go.Maps
end Go.Proofs.Ytnpeahbbcolfmaa
namespace Go.Proofs.Ytnpeahbbcolfmaa
open Go.RowKit
open Go.Maps
section
variable {ops : Array Oper} {a : Act} {Q : Exit → Act → World → Prop} {o : Oper} {w : World} {K : Act → World → Prop} {X : Prop}
end
section
variable {ops : Array Oper} {rest : List Oper} {a : Act} {Q : Exit → Act → World → Prop} {o : Oper} {w : World}
end
end Go.Proofs.Ytnpeahbbcolfmaa
namespace Go.Proofs.Ytnpeahbbcolfmaa
open Go.RowKit
open Go.Maps
theorem HSeen.take {w : World} {p : Option Addr} {n c : Nat} {E : List Key} (h : HSeen w (.slice p n c) E) {k : Nat} (hk : k ≤ E.length) (h0 : 0 < E.length) : HSeen w (.slice p k c) (E.take k) := by
  rcases h with ⟨_, h2⟩ | ⟨a, cap, h1, h2, h3⟩
  · rw [h2] at h0; simp at h0
  · injection h1 with e1 e2 e3
    subst e1 e3
    refine .inr ⟨a, c, by rw [List.length_take]; congr 1; omega, by rw [List.length_take]; omega, fun j u hj => h3 j u ?_⟩
    have e : fl E = fl (E.take k) ++ fl (E.drop k) := by rw [← fl_app, List.take_append_drop]
    rw [e, List.getElem?_append_left (List.getElem?_eq_some_iff.1 hj).1]
    exact hj
theorem take_ext {E1 E2 : List Key} {k : Nat} (h : E1.take k = E2.take k) (h1 : k < E1.length) (h2 : k < E2.length) (e : E1[k] = E2[k]) : E1.take (k + 1) = E2.take (k + 1) := by
  rw [List.take_succ_eq_append_getElem h1, List.take_succ_eq_append_getElem h2, h, e]
set_option linter.unusedSimpArgs false in
set_option maxRecDepth 20000 in
set_option maxHeartbeats 2000000 in
attribute [local go_sem ↓] hld_open heq_open hne_open in
theorem same_two (w : World) (v1 v2 : Value) (E1 E2 : List Key) (h1 : HSeen w v1 E1) (h2 : HSeen w v2 E2) (hE1 : H32 E1) (hE2 : H32 E2) (hl : E1.length ≤ 1000000) (hl2 : E2.length ≤ 1000000) :
    Calls Try.prog 9 #[v1, v2] w fun e w' => e = .returned (.bool (decide (E1 = E2))) ∧ ∃ q, w' = w.drewN q := by
  obtain ⟨p1, c1, rfl⟩ := h1.shape
  obtain ⟨p2, c2, rfl⟩ := h2.shape
  have H1 := Lib.hid h1
  have H2 := Lib.hid h2
  have HE1 := Lib.hid hE1
  have HE2 := Lib.hid hE2
  obtain ⟨n, hn⟩ : ∃ n, n = E1.length := ⟨_, rfl⟩
  obtain ⟨m, hm⟩ : ∃ m, m = E2.length := ⟨_, rfl⟩
  rw [← hn] at H1 hl ⊢
  rw [← hm] at H2 hl2 ⊢
  have HN := Lib.hid hn
  have HM := Lib.hid hm
  have HL := Lib.hid hl
  have hgd2 := hne_guard
  clear h1 h2 hE1 hE2 hn hm hl
  by_cases hnm : n = m
  · subst hnm
    clear hl2
    go_enter Try.func9, Try.ntmps9
    go_wp2_with fail
    go_loopw [5] (fun i wr => ∃ (k : Nat), k ≤ n ∧ i = .int .i64 k ∧ Hid (E1.take k = E2.take k) ∧ ∃ q, wr = w.drewN q) (fun i _ => n - (intOf i).toNat)
    case atStart => exact ⟨0, Nat.zero_le _, rfl, Lib.hid (by simp), 0, rfl⟩
    case round =>
      obtain ⟨k, hk, rfl, HT, q, rfl⟩ := hrel
      by_cases hlt : k < n
      · obtain ⟨j1, j2, j3⟩ := next_fit hlt HL.out
        have hk1 : k < E1.length := by rw [← HN.out]; exact hlt
        have hk2 : k < E2.length := by rw [← HM.out]; exact hlt
        obtain ⟨b1, o1, c', e1, hr1⟩ := H1.out.at HE1.out hk1
        injection e1 with e1 e2 e3
        subst e1
        obtain ⟨b2, o2, c', e1, hr2⟩ := H2.out.at HE2.out hk2
        injection e1 with e1 e4 e5
        subst e1
        have HTK := Lib.hid (fun e : E1[k] = E2[k] => take_ext HT.out hk1 hk2 e)
        have HTN := Lib.hid (fun (e : E1[k] ≠ E2[k]) (h : E1 = E2) => e (by subst h; rfl))
        obtain ⟨x, hx⟩ : ∃ x, x = E1[k] := ⟨_, rfl⟩
        obtain ⟨y, hy⟩ : ∃ y, y = E2[k] := ⟨_, rfl⟩
        rw [← hx] at hr1 HTK HTN
        rw [← hy] at hr2 HTK HTN
        have HX : Hid (x.length = 32) := Lib.hid (by rw [hx]; exact HE1.out.at hk1)
        have HY : Hid (y.length = 32) := Lib.hid (by rw [hy]; exact HE2.out.at hk2)
        have HR1 := Lib.hid hr1
        have HR2 := Lib.hid hr2
        have l1 := fun i => hld_range (w := w.drewN i) HX.out (hsr_kb HR1.out (mild_below (blw_qt w.heap.size i w)))
        have l2 := fun i => hld_range (w := w.drewN i) HY.out (hsr_kb HR2.out (mild_below (blw_qt w.heap.size i w)))
        have hne := hne_hv HX.out HY.out
        have HKN := Lib.hid hlt
        have HJ1 := Lib.hid j1
        clear hx hy hr1 hr2 hk1 hk2 e2 e3 e4 e5 hk hlt
        by_cases hxy : x = y
        · rw [decide_eq_true hxy] at hne
          have HXY := Lib.hid hxy
          clear hxy
          go_wp2_with fail
          go_quiet (fail)
          go_wp2_with fail
          exact ⟨⟨k + 1, HKN.out, by rw [HJ1.out], Lib.hid (HTK.out HXY.out), _, rfl⟩, by rw [HJ1.out]; simp only [intOf, Int.toNat_natCast]; exact Nat.sub_lt_sub_left HKN.out (Nat.lt_succ_self k)⟩
        · rw [decide_eq_false hxy] at hne
          have HXY := Lib.hid hxy
          clear hxy
          go_wp2_with fail
          go_quiet (fail)
          go_wp2_with fail
          go_ret
          exact ⟨by rw [decide_eq_false (HTN.out HXY.out)]; rfl, _, World.drewN_drewN _ _ _⟩
      · obtain rfl : k = n := by omega
        have hl2 : decide ((k : Int) < k) = false := by simp
        clear hlt hk
        go_wp2_with fail
        go_ret
        have h := HT.out
        rw [List.take_of_length_le (by rw [HN.out]; exact Nat.le_refl _), List.take_of_length_le (by rw [HM.out]; exact Nat.le_refl _)] at h
        exact ⟨by rw [decide_eq_true h]; rfl, _, rfl⟩
  · have hnm' : (n : Int) ≠ m := by omega
    have hd : ((n : Int) != m) = true := by simp [hnm']
    have HD : Hid (E1 ≠ E2) := Lib.hid (fun e => hnm (by rw [HN.out, HM.out, e]))
    clear hnm hnm' hl2
    go_enter Try.func9, Try.ntmps9
    go_wp2_with fail
    go_ret
    exact ⟨by rw [decide_eq_false HD.out]; rfl, 0, rfl⟩
end Go.Proofs.Ytnpeahbbcolfmaa
namespace Go.Proofs.Ytnpeahbbcolfmaa
open Go.RowKit
open Go.Maps
/-- What the reference's Check has of the commits: M is the graph with the first i of them. -/
structure Ck (G : Gr) (cs : List Cm) (i : Nat) (M : Gr) : Prop where
  jn : Jn G (addA G [] (cs.take i)) M
  eq : ck3 G [] cs = ck3 G (addA G [] (cs.take i)) (cs.drop i)
theorem Ck.start {G : Gr} (h : AAsc G) (cs : List Cm) : Ck G cs 0 G := ⟨by simpa [addA] using Jn.nil h, by simp [addA]⟩
theorem addA_snoc (G : Gr) (c : Cm) : ∀ (cs : List Cm) (A : Gr), addA G A (cs ++ [c]) = addA G (addA G A cs) [c]
  | [], _ => rfl
  | d :: cs, A => by
    rw [List.cons_append, addA, addA]
    exact addA_snoc G c cs _
theorem Ck.get {G : Gr} {cs : List Cm} {i : Nat} {M : Gr} (h : Ck G cs i M) (x : Key) : aget x M = (aget x G).or (aget x (addA G [] (cs.take i))) := h.jn.get x
theorem Ck.next {G : Gr} {cs : List Cm} {i : Nat} {M M' : Gr} {c : Cm} (h : Ck G cs i M) (hd : cs.drop i = c :: cs.drop (i + 1)) (ht : cs.take (i + 1) = cs.take i ++ [c]) (hg : (aget c.1 M).isSome = true → (aget c.1 M).getD [] = c.2) (hM : M' = if (aget c.1 M).isSome then M else aput c.1 c.2 M) : Ck G cs (i + 1) M' := by
  have e : M' = adds M [c] := by rw [hM]; rfl
  constructor
  · rw [ht, addA_snoc, e]
    exact Jn.adds h.jn
  · rw [h.eq, hd, ht, addA_snoc, ck3, addA, ← h.get]
    cases hq : aget c.1 M with
    | none => simp [addA]
    | some ps =>
      rw [hq] at hg
      have hg' : ps = c.2 := hg rfl
      simp only
      rw [if_pos hg']
      simp [addA]
theorem Ck.done {G : Gr} {cs : List Cm} {M : Gr} (h : Ck G cs cs.length M) : ck3 G [] cs = none ∧ Jn G (addA G [] cs) M := by
  have h1 := h.eq
  have h2 := h.jn
  rw [List.take_length] at h1 h2
  rw [List.drop_length, ck3] at h1
  exact ⟨h1, h2⟩
end Go.Proofs.Ytnpeahbbcolfmaa
namespace Go.Proofs.Ytnpeahbbcolfmaa
open Go.RowKit
open Go.Maps
theorem own_lt {w : World} {B : Nat} {e : TypeId} {s : Nat} {v : Value} {n : Nat} {xs : List Value} (h : w.ownsRow B e s v n xs) : ∀ j, v.ownBlock = some j → j < w.heap.size := fun j hj => by
  obtain ⟨cs, h1, _⟩ := own_type h hj
  exact (Array.getElem?_eq_some_iff.1 h1).1
/-- The commits that are seen, and those that are still to be looked at: two rows of one's own, the second one behind the first. -/
structure SnTd (W : World) (B : Nat) (vs vt : Value) (S D : List Key) : Prop where
  sn : HOwn W B vs S
  td : HOwn W B vt D
  ap : ∀ j, vs.ownBlock = some j → vt.ownBlock ≠ some j
theorem SnTd.kb {W W' : World} {B : Nat} {vs vt : Value} {S D : List Key} (h : SnTd W B vs vt S D) (k : Below W.heap.size W W') : SnTd W' B vs vt S D := ⟨own_below h.sn k, own_below h.td k, h.ap⟩
section
variable {ops : Array Oper} {rest : List Oper} {a : Act} {Q : Exit → Act → World → Prop} {o : Oper} {w : World}
end
end Go.Proofs.Ytnpeahbbcolfmaa
namespace Go.Proofs.Ytnpeahbbcolfmaa
open Go.RowKit
open Go.Maps
theorem meas_nw {k n : Nat} (h : k < n) : n - (intOf (.int .i64 ((k + 1 : Nat) : Int))).toNat < n - (intOf (.int .i64 (k : Int))).toNat := by
  simp only [intOf, Int.toNat_natCast]; omega
theorem meas_nv {k n : Nat} (h : k < n) (e : wrap64 ((k : Int) + 1) = ((k + 1 : Nat) : Int)) : n - (intOf (.int .i64 (wrap64 ((k : Int) + 1)))).toNat < n - (intOf (.int .i64 (k : Int))).toNat := by
  rw [e]; exact meas_nw h
end Go.Proofs.Ytnpeahbbcolfmaa
namespace Go.Proofs.Ytnpeahbbcolfmaa
open Go.RowKit
open Go.Maps
/-- A row of marks. -/
def BAt (W : World) (a : Nat) (L : List Bool) : Prop := W.heap[a]? = some (.cells (L.map Value.bool).toArray 4 (0, 0))
theorem BAt.at {W : World} {a : Nat} {L : List Bool} (h : BAt W a L) {i : Nat} (hi : i < L.length) : W.cell? ⟨a, i, none⟩ = some (.bool L[i]) := by
  rw [cell_of_row W a i _ _ _ h]
  simp [hi]
theorem BAt.mild {W W' : World} {a : Nat} {L : List Bool} (h : BAt W a L) (m : Mild W W') : BAt W' a L := m.cells h
/-- Those that are marked. -/
def selk (K : List Key) (L : List Bool) : List Key := ((K.zip L).filter (·.2)).map (·.1)
end Go.Proofs.Ytnpeahbbcolfmaa
namespace Go.Proofs.Ytnpeahbbcolfmaa
open Go.RowKit
open Go.Maps
open Classical in
theorem selk_filter (P : Key → Prop) : ∀ (K : List Key) (L : List Bool), K.length = L.length → (∀ k (h1 : k < K.length) (h2 : k < L.length), L[k] = true ↔ P K[k]) → selk K L = K.filter fun x => decide (P x)
  | [], _, _, _ => rfl
  | x :: K, [], h, _ => by simp at h
  | x :: K, b :: L, h, hp => by
    have ih := selk_filter P K L (by simpa using h) (fun k h1 h2 => hp (k + 1) (by simpa using h1) (by simpa using h2))
    have h0 := hp 0 (by simp) (by simp)
    simp only [List.getElem_cons_zero] at h0
    have e : selk (x :: K) (b :: L) = (if b then [x] else []) ++ selk K L := by
      unfold selk
      rw [List.zip_cons_cons, List.filter_cons]
      cases b <;> rfl
    rw [e, ih]
    cases b with
    | true => rw [List.filter_cons_of_pos (by simp; exact h0.1 rfl)]; rfl
    | false => rw [List.filter_cons_of_neg (by simp; exact fun h => by have := h0.2 h; cases this)]; rfl
/-- Number k is marked, or still to be done. -/
def On (L : List Bool) (S : List Nat) (k : Nat) : Prop := k ∈ S ∨ L[k]? = some true
/-- What holds while the ancestors are marked. -/
structure AI (T : Lx) (E : List Key) (L : List Bool) (S : List Nat) : Prop where
  len : L.length = T.length
  lt : ∀ k ∈ S, k < T.length
  snd : ∀ (k : Nat) (x : Key × (Value × List Key)), T[k]? = some x → On L S k → Anc (gr T) E x.1
  all : ∀ h ∈ E, (aget h (gr T)).isSome = true → ∃ k, AtK T k h ∧ On L S k
  clo : ∀ (k : Nat) (x : Key × (Value × List Key)), T[k]? = some x → L[k]? = some true → ∀ p ∈ x.2.2, ∃ j, AtK T j p ∧ On L S j
theorem at_adj {T : Lx} (ha : AAsc T) {k : Nat} {x : Key × (Value × List Key)} (hx : T[k]? = some x) : adj (gr T) x.1 = x.2.2 := by
  obtain ⟨y, hy, _, e⟩ := atk_get ha ⟨x, hx, rfl⟩
  rw [hx] at hy
  injection hy with hy
  unfold adj
  rw [gr_get, e, ← hy]; rfl
theorem AI.anc {T : Lx} {E : List Key} {L : List Bool} (h : AI T E L []) (ha : AAsc T) {a x : Key} (hu : Up (adj (gr T)) a x) : (∃ k, AtK T k a ∧ L[k]? = some true) → ∃ k, AtK T k x ∧ L[k]? = some true := by
  induction hu with
  | refl => exact id
  | step h1 _ ih =>
    rintro ⟨k, ⟨y, hy, rfl⟩, hk⟩
    rw [at_adj ha hy] at h1
    obtain ⟨j, hj, hon⟩ := h.clo k y hy hk _ h1
    exact ih ⟨j, hj, hon.elim (fun h => by simp at h) id⟩
theorem atk_one {T : Lx} (ha : AAsc T) {j k : Nat} {h : Key} (h1 : AtK T j h) (h2 : AtK T k h) : j = k := by
  obtain ⟨x, hx, rfl⟩ := h1
  obtain ⟨y, hy, e⟩ := h2
  obtain ⟨hj, rfl⟩ := List.getElem?_eq_some_iff.1 hx
  obtain ⟨hk, rfl⟩ := List.getElem?_eq_some_iff.1 hy
  rcases Nat.lt_trichotomy j k with hl | hl | hl
  · have := asc_less ha hk hl
    rw [e, less_irrefl] at this; cases this
  · exact hl
  · have := asc_less ha hj hl
    rw [e, less_irrefl] at this; cases this
/-- All is marked that should be. -/
theorem AI.done {T : Lx} {E : List Key} {L : List Bool} (h : AI T E L []) (ha : AAsc T) : selk (T.map (·.1)) L = ancs (gr T) E := by
  have e : (gr T).map (·.1) = T.map (·.1) := by simp [gr, amap]
  unfold ancs
  rw [e]
  refine selk_filter (Anc (gr T) E) _ _ (by rw [List.length_map, h.len]) fun k h1 h2 => ?_
  have hk : k < T.length := by simpa using h1
  rw [List.getElem_map]
  have hx : T[k]? = some T[k] := List.getElem?_eq_getElem hk
  constructor
  · intro hb
    exact h.snd k _ hx (.inr (by rw [List.getElem?_eq_getElem h2, hb]))
  · rintro ⟨a, hE, hs, hu⟩
    obtain ⟨j, hj, hon⟩ := h.all a hE hs
    obtain ⟨i, hi, him⟩ := h.anc ha hu ⟨j, hj, hon.elim (fun h => by simp at h) id⟩
    have := atk_one ha hi ⟨_, hx, rfl⟩
    subst this
    rw [List.getElem?_eq_getElem h2] at him
    injection him
/-- One that is marked already is passed over. -/
theorem AI.pop {T : Lx} {E : List Key} {L : List Bool} {S : List Nat} {k : Nat} (h : AI T E L (S ++ [k])) (hk : L[k]? = some true) : AI T E L S := by
  have on : ∀ j, On L (S ++ [k]) j → On L S j := fun j hj => by
    rcases hj with hj | hj
    · rcases List.mem_append.1 hj with hj | hj
      · exact .inl hj
      · rw [List.mem_singleton.1 hj]; exact .inr hk
    · exact .inr hj
  exact ⟨h.len, fun j hj => h.lt j (by simp [hj]), fun j x hx hj => h.snd j x hx (hj.elim (fun h => .inl (by simp [h])) .inr), fun a hE hs => by obtain ⟨j, h1, h2⟩ := h.all a hE hs; exact ⟨j, h1, on j h2⟩, fun j x hx hj p hp => by obtain ⟨i, h1, h2⟩ := h.clo j x hx hj p hp; exact ⟨i, h1, on i h2⟩⟩
end Go.Proofs.Ytnpeahbbcolfmaa
namespace Go.Proofs.Ytnpeahbbcolfmaa
open Go.RowKit
open Go.Maps
/-- A mark is set. -/
theorem BAt.set {W : World} {a : Nat} {L : List Bool} (h : BAt W a L) (k : Nat) (b : Bool) : BAt (W.setCell ⟨a, k, none⟩ (.bool b)) a (L.set k b) := by
  unfold BAt at *
  unfold World.setCell
  simp only [Array.getElem?_modify, if_true, h, Option.map_some]
  simp
theorem BAt.only {W W' : World} {S : Nat → Prop} {a : Nat} {L : List Bool} (h : BAt W a L) (ho : Only S W W') (hs : ¬ S a) : BAt W' a L := (ho.block a (Array.getElem?_eq_some_iff.1 h).1 hs).trans h
/-- The marks, read out of the memory. -/
def marks (W : World) (a : Nat) : List Bool := match W.heap[a]? with
  | some (.cells cs _ _) => cs.toList.map fun v => match v with | .bool b => b | _ => false
  | _ => []
/-- What is left to be done: for each that is not marked, one more than its parents. -/
def left : Lx → List Bool → Nat
  | [], _ => 0
  | _ :: _, [] => 0
  | x :: T, b :: L => (if b then 0 else x.2.2.length + 1) + left T L
/-- A stack of numbers. -/
abbrev NStk (W : World) (B : Nat) (v : Value) (S : List Nat) : Prop := IOwns W B v (S.map fun k : Nat => (k : Int))
section
variable {ops : Array Oper} {rest : List Oper} {a : Act} {Q : Exit → Act → World → Prop} {o : Oper} {w : World}
end
theorem NStk.pop {W : World} {B : Nat} {p : Option Addr} {n c : Nat} {S : List Nat} {k : Nat} (h : NStk W B (.slice p (n + 1) c) (S ++ [k])) : NStk W B (.slice p n c) S := by
  unfold NStk IOwns at *
  rw [List.length_map, List.length_append, List.length_singleton] at h
  rw [List.length_map]
  refine ⟨by simp, ?_⟩
  rcases h.2 with ⟨h1, _⟩ | ⟨g, cap, cur, h1, h2, h3, h4, h5, h6, h7⟩
  · simp at h1
  · simp only [Value.slice.injEq] at h1
    obtain ⟨e1, e2, e3⟩ := h1
    have en : n = S.length := by omega
    subst e1 e3
    refine .inr ⟨g, c, cur, by rw [en], h2, h3, by omega, h5, h6, ?_⟩
    have e : cur.toList.take (S.length * 1) = (cur.toList.take ((S.length + 1) * 1)).take S.length := by rw [List.take_take]; congr 1; omega
    rw [e, h7, List.map_append, List.map_append, List.take_left' (by simp)]
end Go.Proofs.Ytnpeahbbcolfmaa
namespace Go.Proofs.Ytnpeahbbcolfmaa
open Go.RowKit
open Go.Maps
theorem AI.start (T : Lx) (n : Nat) (hn : n = T.length) : AI T [] (List.replicate n false) [] :=
  ⟨by rw [List.length_replicate, hn], fun k hk => by simp at hk, fun k x _ h => by
    rcases h with h | h
    · simp at h
    · rw [List.getElem?_replicate] at h
      split at h <;> simp at h, fun a h => by simp at h, fun k x _ h => by
      rw [List.getElem?_replicate] at h
      split at h <;> simp at h⟩
theorem NStk.top {W : World} {B : Nat} {p : Option Addr} {n c : Nat} {S : List Nat} {k : Nat} (h : NStk W B (.slice p (n + 1) c) (S ++ [k])) : ∃ g, p = some ⟨g, 0, none⟩ ∧ W.cell? ⟨g, n, none⟩ = some (.int .i64 k) ∧ n + 1 ≤ c ∧ n = S.length := by
  unfold NStk IOwns at h
  rw [List.length_map, List.length_append, List.length_singleton] at h
  rcases h.2 with ⟨h1, _⟩ | ⟨g, cap, cur, h1, h2, h3, h4, h5, h6, h7⟩
  · simp at h1
  · simp only [Value.slice.injEq] at h1
    obtain ⟨e1, e2, e3⟩ := h1
    have en : n = S.length := by omega
    refine ⟨g, e1, ?_, by omega, en⟩
    rw [cell_of_row W g n _ _ _ h3]
    have h8 : (cur.toList.take ((S.length + 1) * 1))[n]? = some (.int .i64 k) := by
      rw [h7, List.map_append, List.map_append, List.getElem?_append_right (by simp [en]), List.length_map, List.length_map, en, Nat.sub_self]; rfl
    rw [List.getElem?_take, if_pos (by omega)] at h8
    simpa using h8
end Go.Proofs.Ytnpeahbbcolfmaa
namespace Go.Proofs.Ytnpeahbbcolfmaa
open Go.RowKit
open Go.Maps
/-- How many are not marked. -/
def unm : List Bool → Nat
  | [] => 0
  | b :: L => (if b then 0 else 1) + unm L
/-- What holds while the descendants are marked. -/
structure DI (T : Lx) (E : List Key) (L : List Bool) : Prop where
  len : L.length = T.length
  snd : ∀ (k : Nat) (x : Key × (Value × List Key)), T[k]? = some x → L[k]? = some true → Dsc (gr T) E x.1
  all : ∀ (k : Nat) (x : Key × (Value × List Key)), T[k]? = some x → x.1 ∈ E → L[k]? = some true
theorem DI.start {T : Lx} {E : List Key} {L : List Bool} (ha : AAsc T) (hl : L.length = T.length) (h : ∀ (k : Nat) (x : Key × (Value × List Key)), T[k]? = some x → L[k]? = some (decide (x.1 ∈ E))) : DI T E L := by
  refine ⟨hl, fun k x hx hk => ?_, fun k x hx hE => by rw [h k x hx, decide_eq_true hE]⟩
  rw [h k x hx] at hk
  injection hk with hk
  obtain ⟨y, _, _, e⟩ := atk_get ha ⟨x, hx, rfl⟩
  exact ⟨x.1, of_decide_eq_true hk, by rw [gr_get, e]; rfl, .refl _⟩
/-- Of the first i, none that is not marked has a parent that is. -/
def Clsd (T : Lx) (L : List Bool) (i : Nat) : Prop := ∀ (k : Nat) (x : Key × (Value × List Key)), k < i → T[k]? = some x → L[k]? = some false → ∀ p ∈ x.2.2, ∀ j, AtK T j p → L[j]? ≠ some true
theorem atk_of {T : Lx} {h : Key} (hs : (aget h (gr T)).isSome = true) : ∃ j, AtK T j h := by
  rw [gr_get] at hs
  cases hg : aget h T with
  | none => rw [hg] at hs; cases hs
  | some v =>
    obtain ⟨j, hj, e⟩ := List.mem_iff_getElem.1 (aget_mem hg)
    exact ⟨j, _, List.getElem?_eq_getElem hj, by rw [e]⟩
theorem DI.up {T : Lx} {E : List Key} {L : List Bool} (h : DI T E L) (ha : AAsc T) (hc : Clsd T L T.length) {x a : Key} (hu : Up (adj (gr T)) x a) : a ∈ E → (aget a (gr T)).isSome = true → ∀ k, AtK T k x → L[k]? = some true := by
  induction hu with
  | refl => rintro hE _ k ⟨y, hy, rfl⟩; exact h.all k y hy hE
  | step h1 hk ih =>
    rintro hE hs k ⟨y, hy, rfl⟩
    rw [at_adj ha hy] at h1
    obtain ⟨j, hj⟩ := atk_of (dsc_has ⟨_, hE, hs, hk⟩)
    have hm := ih hE hs j hj
    have hkl : k < L.length := by rw [h.len]; exact (List.getElem?_eq_some_iff.1 hy).1
    cases hb : L[k] with
    | true => rw [List.getElem?_eq_getElem hkl, hb]
    | false => exact absurd hm (hc k y (List.getElem?_eq_some_iff.1 hy).1 hy (by rw [List.getElem?_eq_getElem hkl, hb]) _ h1 j hj)
theorem DI.done {T : Lx} {E : List Key} {L : List Bool} (h : DI T E L) (ha : AAsc T) (hc : Clsd T L T.length) : selk (T.map (·.1)) L = descs (gr T) E := by
  have e : (gr T).map (·.1) = T.map (·.1) := by simp [gr, amap]
  unfold descs
  rw [e]
  refine selk_filter (Dsc (gr T) E) _ _ (by rw [List.length_map, h.len]) fun k h1 h2 => ?_
  have hk : k < T.length := by simpa using h1
  rw [List.getElem_map]
  have hx : T[k]? = some T[k] := List.getElem?_eq_getElem hk
  constructor
  · intro hb
    exact h.snd k _ hx (by rw [List.getElem?_eq_getElem h2, hb])
  · rintro ⟨a, hE, hs, hu⟩
    have := h.up ha hc hu hE hs k ⟨_, hx, rfl⟩
    rw [List.getElem?_eq_getElem h2] at this
    injection this
theorem Clsd.zero (T : Lx) (L : List Bool) : Clsd T L 0 := fun _ _ h => by omega
/-- What holds in the middle of a round over the commits: again tells whether a mark was set. -/
structure DM (T : Lx) (E : List Key) (L : List Bool) (b : Bool) (u i : Nat) : Prop where
  di : DI T E L
  le : unm L ≤ u
  lt : b = true → unm L < u
  cl : b = false → Clsd T L i
theorem DM.start {T : Lx} {E : List Key} {L : List Bool} (h : DI T E L) : DM T E L false (unm L) 0 := ⟨h, Nat.le_refl _, (fun h => by cases h), (fun _ => Clsd.zero T L)⟩
/-- The first j parents of commit i. -/
structure DJ (T : Lx) (E : List Key) (L : List Bool) (b : Bool) (u i j : Nat) (ps : List Key) : Prop where
  m : DM T E L b u i
  no : b = false → L[i]? = some false → ∀ p ∈ ps.take j, ∀ k, AtK T k p → L[k]? ≠ some true
theorem DJ.start {T : Lx} {E : List Key} {L : List Bool} {b : Bool} {u i : Nat} {ps : List Key} (h : DM T E L b u i) : DJ T E L b u i 0 ps := ⟨h, fun _ _ p hp => by simp at hp⟩
theorem DJ.next {T : Lx} {E : List Key} {L : List Bool} {b : Bool} {u i j : Nat} {ps : List Key} {y : Key} {k : Nat} (h : DJ T E L b u i j ps) (ha : AAsc T) (ht : ps.take (j + 1) = ps.take j ++ [y]) (hk : AtK T k y) (hm : L[k]? = some false) : DJ T E L b u i (j + 1) ps := by
  refine ⟨h.m, fun hb hi p hp k' hk' => ?_⟩
  rw [ht] at hp
  rcases List.mem_append.1 hp with hp | hp
  · exact h.no hb hi p hp k' hk'
  · rw [List.mem_singleton.1 hp] at hk'
    rw [atk_one ha hk' hk, hm]
    simp
theorem DJ.done {T : Lx} {E : List Key} {L : List Bool} {b : Bool} {u i j : Nat} {x : Key × (Value × List Key)} (h : DJ T E L b u i j x.2.2) (hx : T[i]? = some x) (hd : L[i]? = some true ∨ x.2.2.length ≤ j) : DM T E L b u (i + 1) := by
  refine ⟨h.m.di, h.m.le, h.m.lt, fun hb k z hk hz hf p hp j' hj' => ?_⟩
  by_cases e : k = i
  · subst e
    rw [hx] at hz
    injection hz with hz
    subst hz
    rcases hd with hd | hd
    · rw [hf] at hd; cases hd
    · exact h.no hb hf p (by rw [List.take_of_length_le hd]; exact hp) j' hj'
  · exact h.m.cl hb k z (by omega) hz hf p hp j' hj'
end Go.Proofs.Ytnpeahbbcolfmaa
namespace Go.Proofs.Ytnpeahbbcolfmaa
open Go.RowKit
open Go.Maps
end Go.Proofs.Ytnpeahbbcolfmaa
namespace Go.Proofs.Ytnpeahbbcolfmaa
open Go.RowKit Go.Extern.Stop Go.Stop Go.Extern
open Go.Maps
theorem ancs_self {G : Gr} (W : Wf G) (x : Key) : x ∈ ancs G [x] ↔ (aget x G).isSome = true := by
  rw [ancs_mem W.clo]
  constructor
  · rintro ⟨a, ha, h1, _⟩
    rw [List.mem_singleton.1 ha] at h1
    exact h1
  · exact fun h => ⟨x, List.mem_singleton.2 rfl, h, .refl _⟩
/-- A list of hashes of one's own, of those of a graph. -/
structure Ls (W : World) (B : Nat) (p : Option Addr) (n c : Nat) (X : Lx) (L : List Key) : Prop where
  own : HOwn W B (.slice p n c) L
  len : n = L.length
  h32 : H32 L
  few : L.length ≤ 1000
theorem Ls.kb {W W' : World} {B : Nat} {p : Option Addr} {n c : Nat} {X : Lx} {L : List Key} (h : Ls W B p n c X L) (k : Below W.heap.size W W') : Ls W' B p n c X L := ⟨own_below h.own k, h.len, h.h32, h.few⟩
end Go.Proofs.Ytnpeahbbcolfmaa
namespace Go.Proofs.Ytnpeahbbcolfmaa
open Go.RowKit Go.Extern.Stop Go.Stop Go.Extern
open Go.Maps
end Go.Proofs.Ytnpeahbbcolfmaa
namespace Go.Proofs.Ytnpeahbbcolfmaa
open Go.RowKit
open Go.Maps
/-- A refusal's hash is one of 32 bytes. -/
def R32 (r : Rf) : Prop := (whoH r).length = 32
theorem R32.or {r s : Rf} (h1 : R32 r) (h2 : R32 s) : R32 (r.or s) := by
  cases r with
  | none => exact h2
  | some x => exact h1
end Go.Proofs.Ytnpeahbbcolfmaa
namespace Go.Proofs.Ytnpeahbbcolfmaa
open Go.RowKit
open Go.Maps
/-- n steps: the commits hs are visited in order, o is listed, then o'. -/
inductive VL (G : Gr) (D : Key → Bool) : Nat → List Key → List Key → List Key → Prop
  | nil (o : List Key) : VL G D 0 o [] o
  | skip {n : Nat} {o hs o' : List Key} {h : Key} (hk : h ∈ o ∨ D h = true) (t : VL G D n o hs o') : VL G D (n + 1) o (h :: hs) o'
  | go {n m : Nat} {o o1 hs o' : List Key} {h : Key} (h1 : h ∉ o) (h2 : D h = false) (a : VL G D n o (adj G h) o1) (t : VL G D m (o1 ++ [h]) hs o') : VL G D (n + m + 2) o (h :: hs) o'
/-- The same, of a stack of commits that are entered, the last one first. -/
inductive Run (G : Gr) (D : Key → Bool) : Nat → List Key → List (Key × List Key) → List Key → Prop
  | nil (o : List Key) : Run G D 0 o [] o
  | cons {n m : Nat} {o o1 o' : List Key} {h : Key} {ps : List Key} {st : List (Key × List Key)} (a : VL G D n o ps o1) (t : Run G D m (o1 ++ [h]) st o') : Run G D (n + m + 1) o ((h, ps) :: st) o'
theorem VL.one {G : Gr} {D : Key → Bool} {n : Nat} {o o' : List Key} {h : Key} (v : VL G D n o [h] o') : ((h ∈ o ∨ D h = true) ∧ o' = o) ∨ (h ∉ o ∧ D h = false ∧ ∃ m, Run G D m o [(h, adj G h)] o') := by
  cases v with
  | skip hk t => cases t; exact .inl ⟨hk, rfl⟩
  | go h1 h2 a t => cases t; exact .inr ⟨h1, h2, _, .cons a (.nil _)⟩
theorem VL.split {G : Gr} {D : Key → Bool} {n : Nat} {o hs o' : List Key} {h : Key} (v : VL G D n o (h :: hs) o') : ∃ a b o1, VL G D a o [h] o1 ∧ VL G D b o1 hs o' := by
  cases v with
  | skip hk t => exact ⟨_, _, o, .skip hk (.nil _), t⟩
  | go h1 h2 a t => exact ⟨_, _, _, .go h1 h2 a (.nil _), t⟩
theorem VL.join {G : Gr} {D : Key → Bool} {a b : Nat} {o hs o1 o' : List Key} {h : Key} (v : VL G D a o [h] o1) (u : VL G D b o1 hs o') : ∃ n, VL G D n o (h :: hs) o' := by
  cases v with
  | skip hk t => cases t; exact ⟨_, .skip hk u⟩
  | go h1 h2 a t => cases t; exact ⟨_, .go h1 h2 a u⟩
theorem VL.app {G : Gr} {D : Key → Bool} {hs ks : List Key} : ∀ {a b : Nat} {o o1 o' : List Key}, VL G D a o hs o1 → VL G D b o1 ks o' → ∃ n, VL G D n o (hs ++ ks) o' := by
  induction hs with
  | nil => intro a b o o1 o' h1 h2; cases h1; exact ⟨_, h2⟩
  | cons h hs ih =>
    intro a b o o1 o' h1 h2
    obtain ⟨a1, b1, o2, h3, h4⟩ := h1.split
    obtain ⟨n, h5⟩ := ih h4 h2
    exact VL.join h3 h5
theorem VL.cut {G : Gr} {D : Key → Bool} {hs ks : List Key} : ∀ {n : Nat} {o o' : List Key}, VL G D n o (hs ++ ks) o' → ∃ a b o1, VL G D a o hs o1 ∧ VL G D b o1 ks o' := by
  induction hs with
  | nil => intro n o o' h; exact ⟨_, _, o, .nil o, h⟩
  | cons h hs ih =>
    intro n o o' h1
    obtain ⟨a1, b1, o2, h3, h4⟩ := h1.split
    obtain ⟨a, b, o1, h5, h6⟩ := ih h4
    obtain ⟨n, h7⟩ := VL.join h3 h5
    exact ⟨_, _, _, h7, h6⟩
theorem VL.det {G : Gr} {D : Key → Bool} {n : Nat} {o hs o1 : List Key} (v : VL G D n o hs o1) : ∀ {m : Nat} {o2 : List Key}, VL G D m o hs o2 → o1 = o2 := by
  induction v with
  | nil o => intro m o2 u; cases u; rfl
  | skip hk t ih =>
    intro m o2 u
    cases u with
    | skip _ t2 => exact ih t2
    | go h1 h2 _ _ => exact absurd hk (by simp [h1, h2])
  | go h1 h2 a t ih1 ih2 =>
    intro m o2 u
    cases u with
    | skip hk _ => exact absurd hk (by simp [h1, h2])
    | go _ _ a2 t2 =>
      have := ih1 a2
      subst this
      exact ih2 t2
/-- More is listed behind what is. -/
theorem VL.pre {G : Gr} {D : Key → Bool} {n : Nat} {o hs o' : List Key} (v : VL G D n o hs o') : ∃ r, o' = o ++ r := by
  induction v with
  | nil o => exact ⟨[], by simp⟩
  | skip _ _ ih => exact ih
  | @go _ _ _ _ _ _ h _ _ _ _ ih1 ih2 =>
    obtain ⟨r1, e1⟩ := ih1
    obtain ⟨r2, e2⟩ := ih2
    exact ⟨r1 ++ [h] ++ r2, by rw [e2, e1]; simp⟩
theorem VL.sub {G : Gr} {D : Key → Bool} {n : Nat} {o hs o' : List Key} (v : VL G D n o hs o') {x : Key} (hx : x ∈ o) : x ∈ o' := by
  obtain ⟨r, e⟩ := v.pre
  rw [e]; simp [hx]
/-- All that is listed is there. -/
theorem VL.inG {G : Gr} {D : Key → Bool} {n : Nat} {o hs o' : List Key} (hc : Clo G) (v : VL G D n o hs o') : (∀ x ∈ o, (aget x G).isSome = true) → (∀ x ∈ hs, (aget x G).isSome = true) → ∀ x ∈ o', (aget x G).isSome = true := by
  induction v with
  | nil o => exact fun h _ => h
  | skip _ _ ih => exact fun h1 h2 => ih h1 fun x hx => h2 x (by simp [hx])
  | @go n m o o1 hs o' h g1 g2 a t ih1 ih2 =>
    intro h1 h2
    refine ih2 (fun x hx => ?_) (fun x hx => h2 x (by simp [hx]))
    rcases List.mem_append.1 hx with hx | hx
    · exact ih1 h1 (fun p hp => hc _ _ hp) x hx
    · rw [List.mem_singleton.1 hx]; exact h2 h (by simp)
/-- Rank: how many ancestors. -/
noncomputable def rank (G : Gr) (h : Key) : Nat := (ancs G [h]).length
theorem adj_in {G : Gr} {h p : Key} (hp : p ∈ adj G h) : (aget h G).isSome = true := by
  obtain ⟨ps, e, _⟩ := adj_some hp
  rw [e]; rfl
theorem rank_lt {G : Gr} (W : Wf G) {h p : Key} (hp : p ∈ adj G h) : rank G p < rank G h := by
  have hs := adj_in hp
  have h1 : h ∉ ancs G [p] := fun hm => by
    obtain ⟨a, ha, _, hu⟩ := (ancs_mem W.clo).1 hm
    rw [List.mem_singleton.1 ha] at hu
    exact W.acy h p hp hu
  have h2 : ∀ x ∈ h :: ancs G [p], x ∈ ancs G [h] := fun x hx => by
    rcases List.mem_cons.1 hx with rfl | hx
    · exact (ancs_self W x).2 hs
    · obtain ⟨a, ha, _, hu⟩ := (ancs_mem W.clo).1 hx
      rw [List.mem_singleton.1 ha] at hu
      exact (ancs_mem W.clo).2 ⟨h, by simp, hs, .step hp hu⟩
  have hn : (ancs G [p]).Nodup := List.Pairwise.filter _ W.asc.nodup
  have := nodup_le (List.nodup_cons.2 ⟨h1, hn⟩) h2
  rw [List.length_cons] at this
  exact this
theorem VL.ex {G : Gr} (W : Wf G) (D : Key → Bool) : ∀ (r : Nat) (hs o : List Key), (∀ h ∈ hs, rank G h < r) → ∃ n o', VL G D n o hs o'
  | 0, [], o, _ => ⟨0, o, .nil o⟩
  | 0, h :: hs, _, hr => absurd (hr h (by simp)) (by omega)
  | r + 1, [], o, _ => ⟨0, o, .nil o⟩
  | r + 1, h :: hs, o, hr => by
    by_cases hk : h ∈ o ∨ D h = true
    · obtain ⟨n, o', v⟩ := VL.ex W D (r + 1) hs o (fun x hx => hr x (by simp [hx]))
      exact ⟨_, o', .skip hk v⟩
    · obtain ⟨n, o1, v⟩ := VL.ex W D r (adj G h) o (fun p hp => by have := rank_lt W hp; have := hr h (by simp); omega)
      obtain ⟨m, o', u⟩ := VL.ex W D (r + 1) hs (o1 ++ [h]) (fun x hx => hr x (by simp [hx]))
      exact ⟨_, o', .go (fun h1 => hk (.inl h1)) (by cases hd : D h with | false => rfl | true => exact absurd (.inr hd) hk) v u⟩
termination_by r hs => (r, hs.length)
theorem VL.ex' {G : Gr} (W : Wf G) (D : Key → Bool) (hs o : List Key) : ∃ n o', VL G D n o hs o' := VL.ex W D (G.length + 1) hs o (fun _ _ => Nat.lt_succ_of_le (ancs_len _ _))
/-- None is listed twice. -/
theorem VL.nodup {G : Gr} {D : Key → Bool} (W : Wf G) {n : Nat} {o hs o' : List Key} (v : VL G D n o hs o') : o.Nodup → o'.Nodup := by
  have key : ∀ {n : Nat} {o hs o' : List Key}, VL G D n o hs o' → ∀ (r : Nat), (∀ x ∈ hs, rank G x < r) → (o.Nodup → o'.Nodup) ∧ ∀ x, x ∈ o' → x ∈ o ∨ rank G x < r := by
    intro n o hs o' v
    induction v with
    | nil o => exact fun r _ => ⟨id, fun x hx => .inl hx⟩
    | skip _ _ ih => exact fun r hr => ih r fun x hx => hr x (by simp [hx])
    | @go n m o o1 hs o' h g1 g2 a t ih1 ih2 =>
      intro r hr
      have hh := hr h (by simp)
      have k1 := ih1 (rank G h) (fun p hp => rank_lt W hp)
      have k2 := ih2 r (fun x hx => hr x (by simp [hx]))
      refine ⟨fun hn => k2.1 (List.nodup_append.2 ⟨k1.1 hn, by simp, fun x hx y hy e => ?_⟩), fun x hx => ?_⟩
      · rw [List.mem_singleton.1 hy] at e
        subst e
        rcases k1.2 x hx with h3 | h3
        · exact g1 h3
        · omega
      · rcases k2.2 x hx with h3 | h3
        · rcases List.mem_append.1 h3 with h3 | h3
          · rcases k1.2 x h3 with h4 | h4
            · exact .inl h4
            · exact .inr (by omega)
          · rw [List.mem_singleton.1 h3]; exact .inr hh
        · exact .inr h3
  exact (key v (G.length + 1) (fun _ _ => Nat.lt_succ_of_le (ancs_len _ _))).1
theorem in_len {G : Gr} {o : List Key} (hn : o.Nodup) (h : ∀ x ∈ o, (aget x G).isSome = true) : o.length ≤ G.length := by
  have := nodup_le (U := G.map (·.1)) hn fun x hx => mem_keys.2 (h x hx)
  rwa [List.length_map] at this
/-- Each commit behind its parents. -/
def PB (G : Gr) (o : List Key) : Prop := ∀ i x, o[i]? = some x → ∀ p ∈ adj G x, p ∈ o.take i
theorem PB.nil (G : Gr) : PB G [] := fun i x h => by simp at h
theorem PB.snoc {G : Gr} {o : List Key} (h : PB G o) {x : Key} (hx : ∀ p ∈ adj G x, p ∈ o) : PB G (o ++ [x]) := by
  intro i y hy p hp
  rcases Nat.lt_trichotomy i o.length with hl | hl | hl
  · rw [List.getElem?_append_left hl] at hy
    rw [List.take_append_of_le_length (by omega)]
    exact h i y hy p hp
  · subst hl
    rw [List.getElem?_append_right (Nat.le_refl _), Nat.sub_self] at hy
    simp at hy
    subst hy
    rw [List.take_left]
    exact hx p hp
  · rw [List.getElem?_eq_none (by simp; omega)] at hy
    cases hy
theorem VL.pb {G : Gr} {n : Nat} {o hs o' : List Key} (v : VL G (fun _ => false) n o hs o') : PB G o → PB G o' ∧ ∀ x ∈ hs, x ∈ o' := by
  induction v with
  | nil o => exact fun h => ⟨h, fun x hx => by simp at hx⟩
  | @skip n o hs o' h hk t ih =>
    intro g
    refine ⟨(ih g).1, fun x hx => ?_⟩
    rcases List.mem_cons.1 hx with rfl | hx
    · exact t.sub (hk.elim id fun h => by cases h)
    · exact (ih g).2 x hx
  | @go n m o o1 hs o' h g1 g2 a t ih1 ih2 =>
    intro g
    have k1 := ih1 g
    have k2 := ih2 (k1.1.snoc k1.2)
    refine ⟨k2.1, fun x hx => ?_⟩
    rcases List.mem_cons.1 hx with rfl | hx
    · exact t.sub (by simp)
    · exact k2.2 x hx
theorem PB.up {G : Gr} {o : List Key} (h : PB G o) {a x : Key} (hu : Up (adj G) a x) : a ∈ o → x ∈ o := by
  refine up_mem (fun y hy p hp => ?_) hu
  obtain ⟨i, hi, e⟩ := List.mem_iff_getElem.1 hy
  exact List.mem_of_mem_take (h i y (by rw [List.getElem?_eq_getElem hi, e]) p hp)
/-- What is listed: what was, and what the commits stand on. -/
theorem VL.mem {G : Gr} {D : Key → Bool} {n : Nat} {o hs o' : List Key} (v : VL G D n o hs o') {x : Key} : x ∈ o' → x ∈ o ∨ ∃ a ∈ hs, Up (adj G) a x := by
  induction v with
  | nil o => exact .inl
  | skip _ _ ih =>
    intro hx
    rcases ih hx with h | ⟨a, h1, h2⟩
    · exact .inl h
    · exact .inr ⟨a, by simp [h1], h2⟩
  | @go n m o o1 hs o' h g1 g2 a t ih1 ih2 =>
    intro hx
    rcases ih2 hx with h3 | ⟨b, h3, h4⟩
    · rcases List.mem_append.1 h3 with h3 | h3
      · rcases ih1 h3 with h4 | ⟨b, h4, h5⟩
        · exact .inl h4
        · exact .inr ⟨h, by simp, .step h4 h5⟩
      · rw [List.mem_singleton.1 h3]; exact .inr ⟨h, by simp, .refl _⟩
    · exact .inr ⟨b, by simp [h3], h4⟩
theorem VL.mem_iff {G : Gr} {n : Nat} {o hs o' : List Key} (v : VL G (fun _ => false) n o hs o') (h : PB G o) (x : Key) : x ∈ o' ↔ x ∈ o ∨ ∃ a ∈ hs, Up (adj G) a x := by
  refine ⟨v.mem, fun hx => ?_⟩
  rcases hx with hx | ⟨a, ha, hu⟩
  · exact v.sub hx
  · exact (v.pb h).1.up hu ((v.pb h).2 a ha)
end Go.Proofs.Ytnpeahbbcolfmaa
namespace Go.Proofs.Ytnpeahbbcolfmaa
open Go.RowKit
open Go.Maps
/-- A walk in memory, begun at W0: graph g, done fv, the list o, the map ml of what is listed. -/
structure WK (W0 W : World) (wk g bm ml : Nat) (X : Lx) (fv lv : Value) (o : List Key) : Prop where
  bel : Below W0.heap.size W0 W
  cell : W.heap[wk]? = some (.cells #[gp g, fv, lv, .map (some ml)] 74 (0, 0))
  ga : GA W0 g bm X
  own : HOwn W W0.heap.size lv o
  set : ∃ R, SetH W ml R ∧ ∀ x, x ∈ R ↔ x ∈ o
  h32 : H32 o
  lo : W0.heap.size ≤ wk ∧ W0.heap.size ≤ ml
theorem WK.kb {W0 W W' : World} {wk g bm ml : Nat} {X : Lx} {fv lv : Value} {o : List Key} (h : WK W0 W wk g bm ml X fv lv o) (k : Below W.heap.size W W') : WK W0 W' wk g bm ml X fv lv o := by
  obtain ⟨R, h1, h2⟩ := h.set
  exact ⟨h.bel.trans (k.mono h.bel.size), (mild_below k).cells h.cell, h.ga, own_below h.own k, ⟨R, h1.kb k h1.lt', h2⟩, h.h32, h.lo⟩
theorem WK.c {W0 W : World} {wk g bm ml : Nat} {X : Lx} {fv lv : Value} {o : List Key} (h : WK W0 W wk g bm ml X fv lv o) {i : Nat} {u : Value} (hu : (#[gp g, fv, lv, .map (some ml)] : Array Value)[i]? = some u) : W.cell? ⟨wk, i, none⟩ = some u := by rw [cell_of_row W wk i _ _ _ h.cell]; exact hu
theorem WK.g {W0 W : World} {wk g bm ml : Nat} {X : Lx} {fv lv : Value} {o : List Key} (h : WK W0 W wk g bm ml X fv lv o) : GA W g bm X := h.ga.kb h.bel
abbrev wkp (wk : Nat) : Value := .pointer (some ⟨wk, 0, none⟩)
/-- What a call may turn: the walk, its map, its list. -/
def wS (wk ml : Nat) (lv : Value) (j : Nat) : Prop := j = wk ∨ j = ml ∨ lv.ownBlock = some j
theorem WK.far {W0 W W' : World} {wk g bm ml : Nat} {X : Lx} {fv lv : Value} {o : List Key} (h : WK W0 W wk g bm ml X fv lv o) (ho : Only (wS wk ml lv) W W') : Below W0.heap.size W0 W' := h.bel.trans (ho.below h.bel.size (fun j hj => by
  rcases hj with rfl | rfl | hj
  · exact h.lo.1
  · exact h.lo.2
  · exact own_from h.own j hj))
/-- A hash more in a set. -/
theorem setH_upd {t e : TypeId} (ht : Try.prog.underlying t = some (.map 27 e)) {w : World} {b : Nat} {R : List Key} (h : SetH w b R) (n : Key) (hn : n.length = 32) (hl : R.length ≤ 1000000) :
    ∃ w', (Instr.mapUpdate t (.map (some b)) (.agg (hv n)) (.agg #[])).run Try.prog w = .ok () w' ∧ (∃ R', SetH w' b R' ∧ (∀ y, y ∈ R' ↔ y = n ∨ y ∈ R) ∧ (n ∉ R → R'.length = R.length + 1)) ∧ Only (fun k => k = b) w w' := by
  obtain ⟨M, h1, hu, rfl⟩ := h.ex
  rw [List.length_map] at hl
  obtain ⟨w', hr, h2, h3⟩ := h1.store ht n hn (by unfold maxLen; omega) (.agg #[])
  have hm : ∀ y, y ∈ (aput n (Value.agg #[]) M).map (·.1) ↔ y = n ∨ y ∈ M.map (·.1) := fun y => by
    simp only [List.mem_map]
    constructor
    · rintro ⟨p, hp, rfl⟩
      rcases (ains_mem _ _ _).1 hp with rfl | hp
      · exact .inl rfl
      · exact .inr ⟨p, ((adel_mem _ _ _).1 hp).1, rfl⟩
    · rintro (rfl | ⟨p, hp, rfl⟩)
      · exact ⟨_, (ains_mem _ _ _).2 (.inl rfl), rfl⟩
      · by_cases e : p.1 = n
        · exact ⟨_, (ains_mem _ _ _).2 (.inl rfl), e.symm⟩
        · exact ⟨p, (ains_mem _ _ _).2 (.inr ((adel_mem _ _ _).2 ⟨hp, e⟩)), rfl⟩
  refine ⟨w', hr, ⟨_, ⟨⟨_, h2, fun p hp => ?_, rfl⟩⟩, hm, fun hno => ?_⟩, h3⟩
  · rcases (ains_mem _ _ _).1 hp with rfl | hp
    · rfl
    · exact hu p ((adel_mem _ _ _).1 hp).1
  · have hg : aget n M = none := by
      have := aget_isSome (n := n) (M := M)
      rw [decide_eq_false hno] at this
      cases hgg : aget n M with
      | none => rfl
      | some v => rw [hgg] at this; cases this
    have hs := asum_put (fun _ => 1) n (Value.agg #[]) h1.asc
    rw [hg] at hs
    simp only [asum_one, olen] at hs
    rw [List.length_map, List.length_map]; omega
theorem wk_set {W : World} {wk : Nat} {a b c d : Value} {t : TypeId} (h : W.heap[wk]? = some (.cells #[a, b, c, d] t (0, 0))) (u : Value) : (W.setCell ⟨wk, 2, none⟩ u).heap[wk]? = some (.cells #[a, b, u, d] t (0, 0)) := by
  rw [heap_setCell_same W wk 2 _ _ _ h]; rfl
/-- What is listed, looked up. -/
theorem WK.look {W0 W : World} {wk g bm ml : Nat} {X : Lx} {fv lv : Value} {o : List Key} (h : WK W0 W wk g bm ml X fv lv o) (x : Key) (hx : x.length = 32) :
    (Instr.lookup 72 (.map (some ml)) (.agg (hv x)) true).run Try.prog W = .ok (.tuple #[.agg #[], .bool (decide (x ∈ o))]) W := by
  obtain ⟨R, ⟨M, HM, hu, rfl⟩, h2⟩ := h.set
  have hlk := HM.lookOk Try.underlying72 (uzero _) x hx
  rw [set_get hu, aget_isSome] at hlk
  have e : decide (x ∈ M.map (·.1)) = decide (x ∈ o) := decide_eq_decide.2 (h2 x)
  rw [e] at hlk
  exact hlk
set_option linter.unusedSimpArgs false in
set_option maxRecDepth 20000 in
set_option maxHeartbeats 4000000 in
attribute [local go_sem ↓] hld_open in
theorem whas_to (W0 w : World) (wk g bm ml : Nat) (X : Lx) (fv lv : Value) (o : List Key) (H : WK W0 w wk g bm ml X fv lv o) (x : Key) (hx : x.length = 32) :
    Calls Try.prog 51 #[wkp wk, .agg (hv x)] w fun e w' => e = .returned (.bool (decide (x ∈ o))) ∧ Below w.heap.size w w' := by
  have BA := Lib.hid (below_al11 w (.cells (hv x) 27))
  have HB := Lib.hid (heap_alloc_last w (.cells (hv x) 27))
  have HW := Lib.hid (H.kb BA.out)
  have HX := Lib.hid hx
  obtain ⟨d, hd⟩ : ∃ d, d = decide (x ∈ o) := ⟨_, rfl⟩
  have HD := Lib.hid hd
  rw [← hd]
  clear H hx hd
  go_enter Try.func51, Try.ntmps51
  go_upto_region 1 with fail
  generalize w.alloc (.cells (hv x) 27) = w0 at *
  generalize hb : w.heap.size = b at HB
  clear hb
  have bq : Below w0.heap.size w0 w0.drew := blw_qt _ 1 w0
  have HWq := Lib.hid (HW.out.kb bq)
  have HBq := Lib.hid ((mild_below bq).cells HB.out)
  have Bq : Hid (Below w.heap.size w w0.drew) := Lib.hid (BA.out.trans (bq.mono BA.out.size))
  have HLK := Lib.hid (fun (V : World) (k : Below w0.drew.heap.size w0.drew V) => (by have h1 := (HWq.out.kb k).look x HX.out; rw [← HD.out] at h1; exact ⟨(HWq.out.kb k).c (i := 3) rfl, hld_row HX.out ((mild_below k).cells HBq.out), h1⟩ : V.cell? ⟨wk, 3, none⟩ = some (.map (some ml)) ∧ (hld ⟨b, 0, none⟩).run Try.prog V = .ok (.agg (hv x)) V ∧ (Instr.lookup 72 (.map (some ml)) (.agg (hv x)) true).run Try.prog V = .ok (.tuple #[.agg #[], .bool d]) V))
  clear bq
  go_wp2_with fail
  try simp only [List.append]
  refine wp_region_noPanic ?_
  refine wp_region_held_drew (S := (fun V => V.cell? ⟨wk, 3, none⟩ = some (.map (some ml)) ∧ (hld ⟨b, 0, none⟩).run Try.prog V = .ok (.agg (hv x)) V ∧ (Instr.lookup 72 (.map (some ml)) (.agg (hv x)) true).run Try.prog V = .ok (.tuple #[.agg #[], .bool d]) V)) (by kernel_rfl) (HLK.out _ (Below.refl _ _)) (fun hHeld => ?_)
  generalize w0.drew = cw at *
  refine wpAnyH_take (i := 0) (v := ?_) (by simp only [List.getElem?_toArray, List.getElem?_cons_zero]; rfl) (by kernel_rfl) (by kernel_rfl) (by kernel_rfl) (fun _ _ _ h => h) (Or.inl ⟨by rfl, ?_⟩) (by assumption) ?_
  rotate_left
  · intro w hSw
    try dsimp only at hSw
    go_simp
    try with_reducible rfl
  try simp only [Act.put, List.setIfInBounds_toArray, List.set_cons_zero, List.set_cons_succ]
  refine wpAnyH_take (i := 1) (v := ?_) (by simp only [List.getElem?_toArray, List.getElem?_cons_succ, List.getElem?_cons_zero]; rfl) (by kernel_rfl) (by kernel_rfl) (by kernel_rfl) (fun _ _ _ h => h) (Or.inl ⟨by rfl, ?_⟩) (by assumption) ?_
  rotate_left
  · intro w hSw
    try dsimp only at hSw
    go_simp
    try with_reducible rfl
  try simp only [Act.put, List.setIfInBounds_toArray, List.set_cons_zero, List.set_cons_succ]
  refine wpAnyH_take (i := 2) (v := ?_) (by simp only [List.getElem?_toArray, List.getElem?_cons_succ, List.getElem?_cons_zero]; rfl) (by kernel_rfl) (by kernel_rfl) (by kernel_rfl) (fun _ _ _ h => h) (Or.inl ⟨by rfl, ?_⟩) (by assumption) ?_
  rotate_left
  · intro w hSw
    try dsimp only at hSw
    go_simp
    try with_reducible rfl
  try simp only [Act.put, List.setIfInBounds_toArray, List.set_cons_zero, List.set_cons_succ]
  refine wpAnyH_take (i := 3) (v := ?_) (by simp only [List.getElem?_toArray, List.getElem?_cons_succ, List.getElem?_cons_zero]; rfl) (by kernel_rfl) (by kernel_rfl) (by kernel_rfl) (fun _ _ _ h => h) (Or.inl ⟨by rfl, ?_⟩) (by assumption) ?_
  rotate_left
  · intro w hSw
    try dsimp only at hSw
    go_simp
    try with_reducible rfl
  try simp only [Act.put, List.setIfInBounds_toArray, List.set_cons_zero, List.set_cons_succ]
  refine wpAnyH_take (i := 4) (v := ?_) (by simp only [List.getElem?_toArray, List.getElem?_cons_succ, List.getElem?_cons_zero]; rfl) (by kernel_rfl) (by kernel_rfl) (by kernel_rfl) (fun _ _ _ h => h) (Or.inl ⟨by rfl, ?_⟩) (by assumption) ?_
  rotate_left
  · intro w hSw
    try dsimp only at hSw
    go_simp
    try with_reducible rfl
  try simp only [Act.put, List.setIfInBounds_toArray, List.set_cons_zero, List.set_cons_succ]
  refine wpAnyH_take (i := 5) (v := ?_) (by simp only [List.getElem?_toArray, List.getElem?_cons_succ, List.getElem?_cons_zero]; rfl) (by kernel_rfl) (by kernel_rfl) (by kernel_rfl) (fun _ _ _ h => h) (Or.inl ⟨by rfl, ?_⟩) (by assumption) ?_
  rotate_left
  · intro w hSw
    try dsimp only at hSw
    go_simp
    try with_reducible rfl
  try simp only [Act.put, List.setIfInBounds_toArray, List.set_cons_zero, List.set_cons_succ]
  refine wpAnyH_take (i := 6) (v := ?_) (by simp only [List.getElem?_toArray, List.getElem?_cons_succ, List.getElem?_cons_zero]; rfl) (by kernel_rfl) (by kernel_rfl) (by kernel_rfl) (fun _ _ _ h => h) (Or.inl ⟨by rfl, ?_⟩) (by assumption) ?_
  rotate_left
  · intro w hSw
    try dsimp only at hSw
    go_simp
    try with_reducible rfl
  try simp only [Act.put, List.setIfInBounds_toArray, List.set_cons_zero, List.set_cons_succ]
  refine wpAnyH_take (i := 7) (v := ?_) (by simp only [List.getElem?_toArray, List.getElem?_cons_succ, List.getElem?_cons_zero]; rfl) (by kernel_rfl) (by kernel_rfl) (by kernel_rfl) (fun _ _ _ h => h) (Or.inl ⟨by rfl, ?_⟩) (by assumption) ?_
  rotate_left
  · intro w hSw
    try dsimp only at hSw
    go_simp
    try with_reducible rfl
  try simp only [Act.put, List.setIfInBounds_toArray, List.set_cons_zero, List.set_cons_succ]
  refine wpAnyH_take (i := 8) (v := ?_) (by simp only [List.getElem?_toArray, List.getElem?_cons_succ, List.getElem?_cons_zero]; rfl) (by kernel_rfl) (by kernel_rfl) (by kernel_rfl) (fun _ _ _ h => h) (Or.inl ⟨by rfl, ?_⟩) (by assumption) ?_
  rotate_left
  · intro w hSw
    try dsimp only at hSw
    go_simp
    try with_reducible rfl
  try simp only [Act.put, List.setIfInBounds_toArray, List.set_cons_zero, List.set_cons_succ]
  refine wpAnyH_ready (rs := [9]) (by kernel_rfl) (by simp) ?_
  refine AllReadyH.cons (by simp only [List.getElem?_toArray, List.getElem?_cons_succ, List.getElem?_cons_zero]; rfl) (fun K hK => ?_) AllReadyH.nil
  go_simp
  have AL := Lib.hid (below_al11 cw (.cells #[] 114))
  refine hK.out _ _ (HLK.out _ AL.out) (fun hHeld => ?_)
  clear hK K
  try simp only [Act.put, List.setIfInBounds_toArray, List.set_cons_zero, List.set_cons_succ]
  have BX := Lib.hid (Bq.out.trans (AL.out.mono Bq.out.size))
  clear HWq HBq Bq
  generalize hcx : cw.alloc (.cells #[] 114) = cx at *
  refine wpAnyH_ready (rs := [10]) (by kernel_rfl) (by simp) ?_
  refine AllReadyH.cons (by simp only [List.getElem?_toArray, List.getElem?_cons_succ, List.getElem?_cons_zero]; rfl) (fun K hK => ?_) AllReadyH.nil
  go_simp
  refine hK.out _ _ (HLK.out _ AL.out) (fun hHeld => ?_)
  clear hK K
  try simp only [Act.put, List.setIfInBounds_toArray, List.set_cons_zero, List.set_cons_succ]
  refine wpAnyH_take (i := 11) (v := ?_) (by simp only [List.getElem?_toArray, List.getElem?_cons_succ, List.getElem?_cons_zero]; rfl) (by kernel_rfl) (by kernel_rfl) (by kernel_rfl) (fun _ _ _ h => h) (Or.inl ⟨by rfl, ?_⟩) (by assumption) ?_
  rotate_left
  · intro w hSw
    try dsimp only at hSw
    go_simp
    try with_reducible rfl
  try simp only [Act.put, List.setIfInBounds_toArray, List.set_cons_zero, List.set_cons_succ]
  refine wpAnyH_done (by kernel_rfl) ?_ _
  refine NoPanic.normal ?_
  clear hHeld
  go_wp2_with fail
  go_ret
  exact ⟨rfl, BX.out⟩
set_option linter.unusedSimpArgs false in
set_option maxRecDepth 20000 in
set_option maxHeartbeats 4000000 in
attribute [local go_sem ↓] hld_open in
theorem wadd_to (W0 w : World) (wk g bm ml : Nat) (X : Lx) (fv lv : Value) (o : List Key) (H : WK W0 w wk g bm ml X fv lv o) (x : Key) (hx : x.length = 32) (hl : o.length + 1 ≤ 1000000) :
    Calls Try.prog 55 #[wkp wk, .agg (hv x)] w fun e w' => e = .returned (.tuple #[]) ∧ ∃ lv', WK W0 w' wk g bm ml X fv lv' (o ++ [x]) ∧ Only (wS wk ml lv) w w' ∧ ∀ j, lv'.ownBlock = some j → lv.ownBlock = some j ∨ w.heap.size ≤ j := by
  obtain ⟨q, m, c, rfl, hm⟩ := own_sh H.own
  have HM := Lib.hid hm
  have BA := Lib.hid (below_al11 w (.cells (hv x) 27))
  have HB := Lib.hid (heap_alloc_last w (.cells (hv x) 27))
  have HW := Lib.hid (H.kb BA.out)
  have HX := Lib.hid hx
  have HL := Lib.hid hl
  have HWE := Lib.hid H
  clear hx hl hm H
  go_enter Try.func55, Try.ntmps55
  go_upto_region 1 with fail
  generalize w.alloc (.cells (hv x) 27) = w0 at *
  generalize hb : w.heap.size = b at HB
  have HBE := Lib.hid hb
  clear hb
  have HNB : Hid (b ≠ wk) := Lib.hid (fun e => by have h1 := HB.out; rw [e, HW.out.cell] at h1; injection h1 with h1; injection h1 with _ h1 _; revert h1; decide)
  have BW : Hid (Below w0.heap.size w0 w0.drew) := Lib.hid (blw_qt _ 1 w0)
  have HC := Lib.hid (fun (V : World) (k : Below w0.heap.size w0 V) => (HW.out.kb k).c (i := 2) rfl)
  have HLD := Lib.hid (fun (V : World) (k : Below w0.heap.size w0 V) => hld_row (w := V) HX.out ((mild_below k).cells HB.out))
  go_wp2_with fail
  try simp only [List.append]
  refine wp_region_noPanic ?_
  refine wp_region_held_drew (S := (fun V => (hld ⟨b, 0, none⟩).run Try.prog V = .ok (.agg (hv x)) V)) (by kernel_rfl) (HLD.out _ BW.out) (fun hHeld => ?_)
  generalize w0.drew = cw at *
  refine wpAnyH_take (i := 0) (v := ?_) (by simp only [List.getElem?_toArray, List.getElem?_cons_zero]; rfl) (by kernel_rfl) (by kernel_rfl) (by kernel_rfl) (fun _ _ _ h => h) (Or.inl ⟨by rfl, ?_⟩) (by assumption) ?_
  rotate_left
  · intro w hSw
    try dsimp only at hSw
    go_simp
    try with_reducible rfl
  try simp only [Act.put, List.setIfInBounds_toArray, List.set_cons_zero, List.set_cons_succ]
  refine wpAnyH_take (i := 1) (v := ?_) (by simp only [List.getElem?_toArray, List.getElem?_cons_succ, List.getElem?_cons_zero]; rfl) (by kernel_rfl) (by kernel_rfl) (by kernel_rfl) (fun _ _ _ h => h) (Or.inl ⟨by rfl, ?_⟩) (by assumption) ?_
  rotate_left
  · intro w hSw
    try dsimp only at hSw
    go_simp
    try with_reducible rfl
  try simp only [Act.put, List.setIfInBounds_toArray, List.set_cons_zero, List.set_cons_succ]
  refine wpAnyH_take (i := 2) (v := ?_) (by simp only [List.getElem?_toArray, List.getElem?_cons_succ, List.getElem?_cons_zero]; rfl) (by kernel_rfl) (by kernel_rfl) (by kernel_rfl) (fun _ _ _ h => h) (Or.inl ⟨by rfl, ?_⟩) (by assumption) ?_
  rotate_left
  · intro w hSw
    try dsimp only at hSw
    go_simp
    try with_reducible rfl
  try simp only [Act.put, List.setIfInBounds_toArray, List.set_cons_zero, List.set_cons_succ]
  refine wpAnyH_take (i := 3) (v := ?_) (by simp only [List.getElem?_toArray, List.getElem?_cons_succ, List.getElem?_cons_zero]; rfl) (by kernel_rfl) (by kernel_rfl) (by kernel_rfl) (fun _ _ _ h => h) (Or.inl ⟨by rfl, ?_⟩) (by assumption) ?_
  rotate_left
  · intro w hSw
    try dsimp only at hSw
    go_simp
    try with_reducible rfl
  try simp only [Act.put, List.setIfInBounds_toArray, List.set_cons_zero, List.set_cons_succ]
  refine wpAnyH_take (i := 5) (v := ?_) (by simp only [List.getElem?_toArray, List.getElem?_cons_succ, List.getElem?_cons_zero]; rfl) (by kernel_rfl) (by kernel_rfl) (by kernel_rfl) (fun _ _ _ h => h) (Or.inl ⟨by rfl, ?_⟩) (by assumption) ?_
  rotate_left
  · intro w hSw
    try dsimp only at hSw
    go_simp
    try with_reducible rfl
  try simp only [Act.put, List.setIfInBounds_toArray, List.set_cons_zero, List.set_cons_succ]
  refine wpAnyH_ready (rs := [4, 6]) (by kernel_rfl) (by simp) ?_
  refine (AllReadyH.cons (by simp only [List.getElem?_toArray, List.getElem?_cons_succ, List.getElem?_cons_zero]; rfl) (fun K hK => ?_) (AllReadyH.cons (by simp only [List.getElem?_toArray, List.getElem?_cons_succ, List.getElem?_cons_zero]; rfl) (fun K hK => ?_) AllReadyH.nil))
  · have hc := HC.out cw BW.out
    go_simp
    clear hc
    refine hK.out _ _ (HLD.out _ BW.out) (fun hHeld => ?_)
    clear hK K
    try simp only [Act.put, List.setIfInBounds_toArray, List.set_cons_zero, List.set_cons_succ]
    refine wpAnyH_ready (rs := [6]) (by kernel_rfl) (by simp) ?_
    refine (AllReadyH.cons (by simp only [List.getElem?_toArray, List.getElem?_cons_succ, List.getElem?_cons_zero]; rfl) (fun K hK => ?_) AllReadyH.nil)
    refine step_sl1 x HX.out (by rfl) (by rfl) ?_
    have HN := Lib.hid (heap_alloc_last cw (.cells (hv x) 27))
    have BW := Lib.hid (BW.out.trans ((below_al11 cw (.cells (hv x) 27)).mono BW.out.size))
    generalize cw.alloc (.cells (hv x) 27) = cx at *
    generalize cw.heap.size = nb at *
    rename World => cw
    refine hK.out _ _ (HLD.out _ BW.out) (fun hHeld => ?_)
    clear hK K
    try simp only [Act.put, List.setIfInBounds_toArray, List.set_cons_zero, List.set_cons_succ]
    refine wpAnyH_ready (rs := [7]) (by kernel_rfl) (by simp) ?_
    refine (AllReadyH.cons (by simp only [List.getElem?_toArray, List.getElem?_cons_succ, List.getElem?_cons_zero]; rfl) (fun K hK => ?_) AllReadyH.nil)
    have OW := Lib.hid (own_below HW.out.own BW.out)
    have CW7 := Lib.hid ((mild_below BW.out).cells HW.out.cell)
    have HBW := Lib.hid ((mild_below BW.out).cells HB.out)
    refine step_pushh rfl _ _ rfl W0.heap.size (.slice q m c) o nb x HX.out (by rfl) OW.out (by rfl) HN.out HL.out (Nat.le_trans HW.out.bel.size BW.out.size) (m + 1) (by rw [HM.out]) ?_
    intro p7 c7 cx o7 oth7 loc7
    have O7 := Lib.hid o7
    have HB7 := Lib.hid ((oth7.block b (Array.getElem?_eq_some_iff.1 HBW.out).1 (fun e => by have h1 := own_lt HWE.out.own b e; have h2 := HBE.out; omega)).trans HBW.out)
    have C7 := Lib.hid ((oth7.block wk (Array.getElem?_eq_some_iff.1 CW7.out).1 (fun e => own_apart OW.out CW7.out (by decide) e)).trans CW7.out)
    have OT7 : Hid (Only (fun j => (Value.slice q m c).ownBlock = some j) w cx) := Lib.hid ((Only.of_below (S := fun j => (Value.slice q m c).ownBlock = some j) (BA.out.trans (BW.out.mono BA.out.size))).trans oth7 (fun _ h => h) (fun _ _ h => h))
    have LOC7 : Hid (∀ j, (Value.slice p7 (m + 1) c7).ownBlock = some j → (Value.slice q m c).ownBlock = some j ∨ w.heap.size ≤ j) := Lib.hid (fun j hj => (loc7 j hj).imp id (fun h => Nat.le_trans (Nat.le_trans BA.out.size BW.out.size) h))
    clear o7 oth7 loc7 OW CW7 HBW BW HN
    rename World => cw
    refine hK.out _ _ (hld_row HX.out HB7.out) (fun hHeld => ?_)
    clear hK K
    try simp only [Act.put, List.setIfInBounds_toArray, List.set_cons_zero, List.set_cons_succ]
    refine wpAnyH_take (i := 8) (v := ?_) (by simp only [List.getElem?_toArray, List.getElem?_cons_succ, List.getElem?_cons_zero]; rfl) (by kernel_rfl) (by kernel_rfl) (by kernel_rfl) (fun _ _ _ h => h) (Or.inl ⟨by rfl, ?_⟩) (by assumption) ?_
    rotate_left
    · intro w hSw
      try dsimp only at hSw
      go_simp
      try with_reducible rfl
    try simp only [Act.put, List.setIfInBounds_toArray, List.set_cons_zero, List.set_cons_succ]
    refine wpAnyH_take (i := 9) (v := ?_) (by simp only [List.getElem?_toArray, List.getElem?_cons_succ, List.getElem?_cons_zero]; rfl) (by kernel_rfl) (by kernel_rfl) (by kernel_rfl) (fun _ _ _ h => h) (Or.inl ⟨by rfl, ?_⟩) (by assumption) ?_
    rotate_left
    · intro w hSw
      try dsimp only at hSw
      go_simp
      try with_reducible rfl
    try simp only [Act.put, List.setIfInBounds_toArray, List.set_cons_zero, List.set_cons_succ]
    refine wpAnyH_ready (rs := [10]) (by kernel_rfl) (by simp) ?_
    refine (AllReadyH.cons (by simp only [List.getElem?_toArray, List.getElem?_cons_succ, List.getElem?_cons_zero]; rfl) (fun K hK => ?_) AllReadyH.nil)
    have hc := cell_obj C7.out 2 rfl
    have hf : cw.frozen? ⟨wk, 2, none⟩ = false := frozen_of_row _ _ _ _ _ C7.out
    have OS : Only (fun j => j = wk) cw (cw.setCell ⟨wk, 2, none⟩ (.slice p7 (m + 1) c7)) := (Only.refl (fun j => j = wk) cw).setCell (p := ⟨wk, 2, none⟩) rfl _
    have HB8 := Lib.hid ((OS.block b (Array.getElem?_eq_some_iff.1 HB7.out).1 HNB.out).trans HB7.out)
    have C8 := Lib.hid (wk_set C7.out (.slice p7 (m + 1) c7))
    have O8 := Lib.hid (own_keep O7.out OS (fun j hj e => own_apart O7.out C7.out (by decide) (by rw [hj, e])))
    have OT8 : Hid (Only (wS wk ml (.slice q m c)) w (cw.setCell ⟨wk, 2, none⟩ (.slice p7 (m + 1) c7))) := Lib.hid (OT7.out.trans OS (fun _ h => .inr (.inr h)) (fun _ _ h => .inl h))
    have HLM : Hid (ml < w.heap.size ∧ b ≠ ml ∧ wk ≠ ml) := Lib.hid (by
      obtain ⟨R, h1, _⟩ := HWE.out.set
      have h2 := h1.lt'
      have h3 := HBE.out
      refine ⟨by omega, by omega, fun e => ?_⟩
      obtain ⟨M, h4, _⟩ := h1.ex
      obtain ⟨es, cc, h5⟩ := h4.ismap
      rw [← e, HWE.out.cell] at h5
      cases h5)
    have S8 : Hid (∃ R, SetH (cw.setCell ⟨wk, 2, none⟩ (.slice p7 (m + 1) c7)) ml R ∧ ∀ y, y ∈ R ↔ y ∈ o) := Lib.hid (by
      obtain ⟨R, h1, h2⟩ := HWE.out.set
      refine ⟨R, h1.step (OT7.out.trans OS (fun _ h => Or.inl h) (fun _ _ h => Or.inr h)) (fun h => ?_), h2⟩
      rcases h with h | h
      · obtain ⟨M, h4, _⟩ := h1.ex
        exact own_ne_map HWE.out.own h4 h
      · exact HLM.out.2.2 h.symm)
    go_simp
    clear hc hf OS C7 HB7 O7 OT7
    refine hK.out _ _ (hld_row HX.out HB8.out) (fun hHeld => ?_)
    clear hK K
    try simp only [Act.put, List.setIfInBounds_toArray, List.set_cons_zero, List.set_cons_succ]
    refine wpAnyH_done (by kernel_rfl) ?_ _
    refine NoPanic.normal ?_
    clear hHeld
    generalize cw.setCell ⟨wk, 2, none⟩ (.slice p7 (m + 1) c7) = w2 at *
    have bq : Below w2.heap.size w2 w2.drew := blw_qt _ 1 w2
    have C9 := Lib.hid ((mild_below bq).cells C8.out)
    have HB9 := Lib.hid ((mild_below bq).cells HB8.out)
    have O9 := Lib.hid (own_below O8.out bq)
    have OT9 : Hid (Only (wS wk ml (.slice q m c)) w w2.drew) := Lib.hid (OT8.out.trans (Only.of_below (S := wS wk ml (.slice q m c)) bq) (fun _ h => h) (fun _ _ h => h))
    have S9 : Hid (∃ R, SetH w2.drew ml R ∧ ∀ y, y ∈ R ↔ y ∈ o) := Lib.hid (by
      obtain ⟨R, h1, h2⟩ := S8.out
      exact ⟨R, h1.kb bq h1.lt', h2⟩)
    clear bq C8 HB8 O8 OT8 S8
    go_wp2_with fail
    try simp only [List.append]
    refine wp_region_noPanic ?_
    refine wp_region_held_drew (S := (fun V => V.cell? ⟨wk, 3, none⟩ = some (.map (some ml)) ∧ (hld ⟨b, 0, none⟩).run Try.prog V = .ok (.agg (hv x)) V)) (by kernel_rfl) ⟨cell_obj C9.out 3 rfl, hld_row HX.out HB9.out⟩ (fun hHeld => ?_)
    generalize w2.drew = w3 at *
    obtain ⟨R, hS, hR⟩ := S9.out
    obtain ⟨wm, hmu, ⟨R', s5, hR', _⟩, o5⟩ := setH_upd Try.underlying72 hS x HX.out (by have := nodup_le (setH_nodup hS) (fun y hy => (hR y).1 hy); have := HL.out; omega)
    have HMU := Lib.hid hmu
    have HNM : Hid ((Value.slice p7 (m + 1) c7).ownBlock ≠ some ml) := Lib.hid (by
      obtain ⟨M, h4, _⟩ := hS.ex
      exact own_ne_map O9.out h4)
    have CM := Lib.hid ((o5.block wk (Array.getElem?_eq_some_iff.1 C9.out).1 HLM.out.2.2).trans C9.out)
    have HBM := Lib.hid ((o5.block b (Array.getElem?_eq_some_iff.1 HB9.out).1 HLM.out.2.1).trans HB9.out)
    have OM := Lib.hid (own_keep O9.out o5 (fun j hj e => HNM.out (by rw [hj, e])))
    have OTM : Hid (Only (wS wk ml (.slice q m c)) w wm) := Lib.hid (OT9.out.trans o5 (fun _ h => h) (fun _ _ h => .inr (.inl h)))
    have SM : Hid (∃ R, SetH wm ml R ∧ ∀ y, y ∈ R ↔ y ∈ o ++ [x]) := Lib.hid ⟨R', s5, fun y => by
      rw [hR', hR, List.mem_append, List.mem_singleton]
      exact or_comm⟩
    clear hmu hS hR s5 hR' o5 C9 HB9 O9 OT9 S9
    refine wpAnyH_take (i := 0) (v := ?_) (by simp only [List.getElem?_toArray, List.getElem?_cons_zero]; rfl) (by kernel_rfl) (by kernel_rfl) (by kernel_rfl) (fun _ _ _ h => h) (Or.inl ⟨by rfl, ?_⟩) (by assumption) ?_
    rotate_left
    · intro w hSw
      try dsimp only at hSw
      go_simp
      try with_reducible rfl
    try simp only [Act.put, List.setIfInBounds_toArray, List.set_cons_zero, List.set_cons_succ]
    refine wpAnyH_take (i := 1) (v := ?_) (by simp only [List.getElem?_toArray, List.getElem?_cons_succ, List.getElem?_cons_zero]; rfl) (by kernel_rfl) (by kernel_rfl) (by kernel_rfl) (fun _ _ _ h => h) (Or.inl ⟨by rfl, ?_⟩) (by assumption) ?_
    rotate_left
    · intro w hSw
      try dsimp only at hSw
      go_simp
      try with_reducible rfl
    try simp only [Act.put, List.setIfInBounds_toArray, List.set_cons_zero, List.set_cons_succ]
    refine wpAnyH_take (i := 2) (v := ?_) (by simp only [List.getElem?_toArray, List.getElem?_cons_succ, List.getElem?_cons_zero]; rfl) (by kernel_rfl) (by kernel_rfl) (by kernel_rfl) (fun _ _ _ h => h) (Or.inl ⟨by rfl, ?_⟩) (by assumption) ?_
    rotate_left
    · intro w hSw
      try dsimp only at hSw
      go_simp
      try with_reducible rfl
    try simp only [Act.put, List.setIfInBounds_toArray, List.set_cons_zero, List.set_cons_succ]
    refine wpAnyH_take (i := 3) (v := ?_) (by simp only [List.getElem?_toArray, List.getElem?_cons_succ, List.getElem?_cons_zero]; rfl) (by kernel_rfl) (by kernel_rfl) (by kernel_rfl) (fun _ _ _ h => h) (Or.inl ⟨by rfl, ?_⟩) (by assumption) ?_
    rotate_left
    · intro w hSw
      try dsimp only at hSw
      go_simp
      try with_reducible rfl
    try simp only [Act.put, List.setIfInBounds_toArray, List.set_cons_zero, List.set_cons_succ]
    refine wpAnyH_take (i := 4) (v := ?_) (by simp only [List.getElem?_toArray, List.getElem?_cons_succ, List.getElem?_cons_zero]; rfl) (by kernel_rfl) (by kernel_rfl) (by kernel_rfl) (fun _ _ _ h => h) (Or.inl ⟨by rfl, ?_⟩) (by assumption) ?_
    rotate_left
    · intro w hSw
      try dsimp only at hSw
      go_simp
      try with_reducible rfl
    try simp only [Act.put, List.setIfInBounds_toArray, List.set_cons_zero, List.set_cons_succ]
    refine wpAnyH_take (i := 5) (v := ?_) (by simp only [List.getElem?_toArray, List.getElem?_cons_succ, List.getElem?_cons_zero]; rfl) (by kernel_rfl) (by kernel_rfl) (by kernel_rfl) (fun _ _ _ h => h) (Or.inl ⟨by rfl, ?_⟩) (by assumption) ?_
    rotate_left
    · intro w hSw
      try dsimp only at hSw
      go_simp
      try with_reducible rfl
    try simp only [Act.put, List.setIfInBounds_toArray, List.set_cons_zero, List.set_cons_succ]
    refine wpAnyH_ready (rs := [6]) (by kernel_rfl) (by simp) ?_
    refine AllReadyH.cons (by simp only [List.getElem?_toArray, List.getElem?_cons_succ, List.getElem?_cons_zero]; rfl) (fun K hK => ?_) AllReadyH.nil
    refine step_upd rfl _ _ _ rfl (by rfl) (by rfl) (by rfl) HMU.out ?_
    refine hK.out _ _ ⟨cell_obj CM.out 3 rfl, hld_row HX.out HBM.out⟩ (fun hHeld => ?_)
    clear hK K
    try simp only [Act.put, List.setIfInBounds_toArray, List.set_cons_zero, List.set_cons_succ]
    refine wpAnyH_done (by kernel_rfl) ?_ _
    refine NoPanic.normal ?_
    clear hHeld
    go_wp2_with fail
    refine bodyPost_end (results_none rfl _ _ _) rfl ?_
    exact ⟨rfl, _, ⟨HWE.out.far OTM.out, CM.out, HWE.out.ga, OM.out, SM.out, HWE.out.h32.app (H32.one HX.out), HWE.out.lo⟩, OTM.out, LOC7.out⟩
  · refine step_sl1 x HX.out (by rfl) (by rfl) ?_
    have HN := Lib.hid (heap_alloc_last cw (.cells (hv x) 27))
    have BW := Lib.hid (BW.out.trans ((below_al11 cw (.cells (hv x) 27)).mono BW.out.size))
    generalize cw.alloc (.cells (hv x) 27) = cx at *
    generalize cw.heap.size = nb at *
    rename World => cw
    refine hK.out _ _ (HLD.out _ BW.out) (fun hHeld => ?_)
    clear hK K
    try simp only [Act.put, List.setIfInBounds_toArray, List.set_cons_zero, List.set_cons_succ]
    refine wpAnyH_ready (rs := [4]) (by kernel_rfl) (by simp) ?_
    refine (AllReadyH.cons (by simp only [List.getElem?_toArray, List.getElem?_cons_succ, List.getElem?_cons_zero]; rfl) (fun K hK => ?_) AllReadyH.nil)
    have hc := HC.out cw BW.out
    go_simp
    clear hc
    refine hK.out _ _ (HLD.out _ BW.out) (fun hHeld => ?_)
    clear hK K
    try simp only [Act.put, List.setIfInBounds_toArray, List.set_cons_zero, List.set_cons_succ]
    refine wpAnyH_ready (rs := [7]) (by kernel_rfl) (by simp) ?_
    refine (AllReadyH.cons (by simp only [List.getElem?_toArray, List.getElem?_cons_succ, List.getElem?_cons_zero]; rfl) (fun K hK => ?_) AllReadyH.nil)
    have OW := Lib.hid (own_below HW.out.own BW.out)
    have CW7 := Lib.hid ((mild_below BW.out).cells HW.out.cell)
    have HBW := Lib.hid ((mild_below BW.out).cells HB.out)
    refine step_pushh rfl _ _ rfl W0.heap.size (.slice q m c) o nb x HX.out (by rfl) OW.out (by rfl) HN.out HL.out (Nat.le_trans HW.out.bel.size BW.out.size) (m + 1) (by rw [HM.out]) ?_
    intro p7 c7 cx o7 oth7 loc7
    have O7 := Lib.hid o7
    have HB7 := Lib.hid ((oth7.block b (Array.getElem?_eq_some_iff.1 HBW.out).1 (fun e => by have h1 := own_lt HWE.out.own b e; have h2 := HBE.out; omega)).trans HBW.out)
    have C7 := Lib.hid ((oth7.block wk (Array.getElem?_eq_some_iff.1 CW7.out).1 (fun e => own_apart OW.out CW7.out (by decide) e)).trans CW7.out)
    have OT7 : Hid (Only (fun j => (Value.slice q m c).ownBlock = some j) w cx) := Lib.hid ((Only.of_below (S := fun j => (Value.slice q m c).ownBlock = some j) (BA.out.trans (BW.out.mono BA.out.size))).trans oth7 (fun _ h => h) (fun _ _ h => h))
    have LOC7 : Hid (∀ j, (Value.slice p7 (m + 1) c7).ownBlock = some j → (Value.slice q m c).ownBlock = some j ∨ w.heap.size ≤ j) := Lib.hid (fun j hj => (loc7 j hj).imp id (fun h => Nat.le_trans (Nat.le_trans BA.out.size BW.out.size) h))
    clear o7 oth7 loc7 OW CW7 HBW BW HN
    rename World => cw
    refine hK.out _ _ (hld_row HX.out HB7.out) (fun hHeld => ?_)
    clear hK K
    try simp only [Act.put, List.setIfInBounds_toArray, List.set_cons_zero, List.set_cons_succ]
    refine wpAnyH_take (i := 8) (v := ?_) (by simp only [List.getElem?_toArray, List.getElem?_cons_succ, List.getElem?_cons_zero]; rfl) (by kernel_rfl) (by kernel_rfl) (by kernel_rfl) (fun _ _ _ h => h) (Or.inl ⟨by rfl, ?_⟩) (by assumption) ?_
    rotate_left
    · intro w hSw
      try dsimp only at hSw
      go_simp
      try with_reducible rfl
    try simp only [Act.put, List.setIfInBounds_toArray, List.set_cons_zero, List.set_cons_succ]
    refine wpAnyH_take (i := 9) (v := ?_) (by simp only [List.getElem?_toArray, List.getElem?_cons_succ, List.getElem?_cons_zero]; rfl) (by kernel_rfl) (by kernel_rfl) (by kernel_rfl) (fun _ _ _ h => h) (Or.inl ⟨by rfl, ?_⟩) (by assumption) ?_
    rotate_left
    · intro w hSw
      try dsimp only at hSw
      go_simp
      try with_reducible rfl
    try simp only [Act.put, List.setIfInBounds_toArray, List.set_cons_zero, List.set_cons_succ]
    refine wpAnyH_ready (rs := [10]) (by kernel_rfl) (by simp) ?_
    refine (AllReadyH.cons (by simp only [List.getElem?_toArray, List.getElem?_cons_succ, List.getElem?_cons_zero]; rfl) (fun K hK => ?_) AllReadyH.nil)
    have hc := cell_obj C7.out 2 rfl
    have hf : cw.frozen? ⟨wk, 2, none⟩ = false := frozen_of_row _ _ _ _ _ C7.out
    have OS : Only (fun j => j = wk) cw (cw.setCell ⟨wk, 2, none⟩ (.slice p7 (m + 1) c7)) := (Only.refl (fun j => j = wk) cw).setCell (p := ⟨wk, 2, none⟩) rfl _
    have HB8 := Lib.hid ((OS.block b (Array.getElem?_eq_some_iff.1 HB7.out).1 HNB.out).trans HB7.out)
    have C8 := Lib.hid (wk_set C7.out (.slice p7 (m + 1) c7))
    have O8 := Lib.hid (own_keep O7.out OS (fun j hj e => own_apart O7.out C7.out (by decide) (by rw [hj, e])))
    have OT8 : Hid (Only (wS wk ml (.slice q m c)) w (cw.setCell ⟨wk, 2, none⟩ (.slice p7 (m + 1) c7))) := Lib.hid (OT7.out.trans OS (fun _ h => .inr (.inr h)) (fun _ _ h => .inl h))
    have HLM : Hid (ml < w.heap.size ∧ b ≠ ml ∧ wk ≠ ml) := Lib.hid (by
      obtain ⟨R, h1, _⟩ := HWE.out.set
      have h2 := h1.lt'
      have h3 := HBE.out
      refine ⟨by omega, by omega, fun e => ?_⟩
      obtain ⟨M, h4, _⟩ := h1.ex
      obtain ⟨es, cc, h5⟩ := h4.ismap
      rw [← e, HWE.out.cell] at h5
      cases h5)
    have S8 : Hid (∃ R, SetH (cw.setCell ⟨wk, 2, none⟩ (.slice p7 (m + 1) c7)) ml R ∧ ∀ y, y ∈ R ↔ y ∈ o) := Lib.hid (by
      obtain ⟨R, h1, h2⟩ := HWE.out.set
      refine ⟨R, h1.step (OT7.out.trans OS (fun _ h => Or.inl h) (fun _ _ h => Or.inr h)) (fun h => ?_), h2⟩
      rcases h with h | h
      · obtain ⟨M, h4, _⟩ := h1.ex
        exact own_ne_map HWE.out.own h4 h
      · exact HLM.out.2.2 h.symm)
    go_simp
    clear hc hf OS C7 HB7 O7 OT7
    refine hK.out _ _ (hld_row HX.out HB8.out) (fun hHeld => ?_)
    clear hK K
    try simp only [Act.put, List.setIfInBounds_toArray, List.set_cons_zero, List.set_cons_succ]
    refine wpAnyH_done (by kernel_rfl) ?_ _
    refine NoPanic.normal ?_
    clear hHeld
    generalize cw.setCell ⟨wk, 2, none⟩ (.slice p7 (m + 1) c7) = w2 at *
    have bq : Below w2.heap.size w2 w2.drew := blw_qt _ 1 w2
    have C9 := Lib.hid ((mild_below bq).cells C8.out)
    have HB9 := Lib.hid ((mild_below bq).cells HB8.out)
    have O9 := Lib.hid (own_below O8.out bq)
    have OT9 : Hid (Only (wS wk ml (.slice q m c)) w w2.drew) := Lib.hid (OT8.out.trans (Only.of_below (S := wS wk ml (.slice q m c)) bq) (fun _ h => h) (fun _ _ h => h))
    have S9 : Hid (∃ R, SetH w2.drew ml R ∧ ∀ y, y ∈ R ↔ y ∈ o) := Lib.hid (by
      obtain ⟨R, h1, h2⟩ := S8.out
      exact ⟨R, h1.kb bq h1.lt', h2⟩)
    clear bq C8 HB8 O8 OT8 S8
    go_wp2_with fail
    try simp only [List.append]
    refine wp_region_noPanic ?_
    refine wp_region_held_drew (S := (fun V => V.cell? ⟨wk, 3, none⟩ = some (.map (some ml)) ∧ (hld ⟨b, 0, none⟩).run Try.prog V = .ok (.agg (hv x)) V)) (by kernel_rfl) ⟨cell_obj C9.out 3 rfl, hld_row HX.out HB9.out⟩ (fun hHeld => ?_)
    generalize w2.drew = w3 at *
    obtain ⟨R, hS, hR⟩ := S9.out
    obtain ⟨wm, hmu, ⟨R', s5, hR', _⟩, o5⟩ := setH_upd Try.underlying72 hS x HX.out (by have := nodup_le (setH_nodup hS) (fun y hy => (hR y).1 hy); have := HL.out; omega)
    have HMU := Lib.hid hmu
    have HNM : Hid ((Value.slice p7 (m + 1) c7).ownBlock ≠ some ml) := Lib.hid (by
      obtain ⟨M, h4, _⟩ := hS.ex
      exact own_ne_map O9.out h4)
    have CM := Lib.hid ((o5.block wk (Array.getElem?_eq_some_iff.1 C9.out).1 HLM.out.2.2).trans C9.out)
    have HBM := Lib.hid ((o5.block b (Array.getElem?_eq_some_iff.1 HB9.out).1 HLM.out.2.1).trans HB9.out)
    have OM := Lib.hid (own_keep O9.out o5 (fun j hj e => HNM.out (by rw [hj, e])))
    have OTM : Hid (Only (wS wk ml (.slice q m c)) w wm) := Lib.hid (OT9.out.trans o5 (fun _ h => h) (fun _ _ h => .inr (.inl h)))
    have SM : Hid (∃ R, SetH wm ml R ∧ ∀ y, y ∈ R ↔ y ∈ o ++ [x]) := Lib.hid ⟨R', s5, fun y => by
      rw [hR', hR, List.mem_append, List.mem_singleton]
      exact or_comm⟩
    clear hmu hS hR s5 hR' o5 C9 HB9 O9 OT9 S9
    refine wpAnyH_take (i := 0) (v := ?_) (by simp only [List.getElem?_toArray, List.getElem?_cons_zero]; rfl) (by kernel_rfl) (by kernel_rfl) (by kernel_rfl) (fun _ _ _ h => h) (Or.inl ⟨by rfl, ?_⟩) (by assumption) ?_
    rotate_left
    · intro w hSw
      try dsimp only at hSw
      go_simp
      try with_reducible rfl
    try simp only [Act.put, List.setIfInBounds_toArray, List.set_cons_zero, List.set_cons_succ]
    refine wpAnyH_take (i := 1) (v := ?_) (by simp only [List.getElem?_toArray, List.getElem?_cons_succ, List.getElem?_cons_zero]; rfl) (by kernel_rfl) (by kernel_rfl) (by kernel_rfl) (fun _ _ _ h => h) (Or.inl ⟨by rfl, ?_⟩) (by assumption) ?_
    rotate_left
    · intro w hSw
      try dsimp only at hSw
      go_simp
      try with_reducible rfl
    try simp only [Act.put, List.setIfInBounds_toArray, List.set_cons_zero, List.set_cons_succ]
    refine wpAnyH_take (i := 2) (v := ?_) (by simp only [List.getElem?_toArray, List.getElem?_cons_succ, List.getElem?_cons_zero]; rfl) (by kernel_rfl) (by kernel_rfl) (by kernel_rfl) (fun _ _ _ h => h) (Or.inl ⟨by rfl, ?_⟩) (by assumption) ?_
    rotate_left
    · intro w hSw
      try dsimp only at hSw
      go_simp
      try with_reducible rfl
    try simp only [Act.put, List.setIfInBounds_toArray, List.set_cons_zero, List.set_cons_succ]
    refine wpAnyH_take (i := 3) (v := ?_) (by simp only [List.getElem?_toArray, List.getElem?_cons_succ, List.getElem?_cons_zero]; rfl) (by kernel_rfl) (by kernel_rfl) (by kernel_rfl) (fun _ _ _ h => h) (Or.inl ⟨by rfl, ?_⟩) (by assumption) ?_
    rotate_left
    · intro w hSw
      try dsimp only at hSw
      go_simp
      try with_reducible rfl
    try simp only [Act.put, List.setIfInBounds_toArray, List.set_cons_zero, List.set_cons_succ]
    refine wpAnyH_take (i := 4) (v := ?_) (by simp only [List.getElem?_toArray, List.getElem?_cons_succ, List.getElem?_cons_zero]; rfl) (by kernel_rfl) (by kernel_rfl) (by kernel_rfl) (fun _ _ _ h => h) (Or.inl ⟨by rfl, ?_⟩) (by assumption) ?_
    rotate_left
    · intro w hSw
      try dsimp only at hSw
      go_simp
      try with_reducible rfl
    try simp only [Act.put, List.setIfInBounds_toArray, List.set_cons_zero, List.set_cons_succ]
    refine wpAnyH_take (i := 5) (v := ?_) (by simp only [List.getElem?_toArray, List.getElem?_cons_succ, List.getElem?_cons_zero]; rfl) (by kernel_rfl) (by kernel_rfl) (by kernel_rfl) (fun _ _ _ h => h) (Or.inl ⟨by rfl, ?_⟩) (by assumption) ?_
    rotate_left
    · intro w hSw
      try dsimp only at hSw
      go_simp
      try with_reducible rfl
    try simp only [Act.put, List.setIfInBounds_toArray, List.set_cons_zero, List.set_cons_succ]
    refine wpAnyH_ready (rs := [6]) (by kernel_rfl) (by simp) ?_
    refine AllReadyH.cons (by simp only [List.getElem?_toArray, List.getElem?_cons_succ, List.getElem?_cons_zero]; rfl) (fun K hK => ?_) AllReadyH.nil
    refine step_upd rfl _ _ _ rfl (by rfl) (by rfl) (by rfl) HMU.out ?_
    refine hK.out _ _ ⟨cell_obj CM.out 3 rfl, hld_row HX.out HBM.out⟩ (fun hHeld => ?_)
    clear hK K
    try simp only [Act.put, List.setIfInBounds_toArray, List.set_cons_zero, List.set_cons_succ]
    refine wpAnyH_done (by kernel_rfl) ?_ _
    refine NoPanic.normal ?_
    clear hHeld
    go_wp2_with fail
    refine bodyPost_end (results_none rfl _ _ _) rfl ?_
    exact ⟨rfl, _, ⟨HWE.out.far OTM.out, CM.out, HWE.out.ga, OM.out, SM.out, HWE.out.h32.app (H32.one HX.out), HWE.out.lo⟩, OTM.out, LOC7.out⟩
end Go.Proofs.Ytnpeahbbcolfmaa
namespace Go.Proofs.Ytnpeahbbcolfmaa
open Go.RowKit
open Go.Maps
theorem fn_some (k : FuncId) (a c : Array Value) (w : World) : (binOp .eql 69 (.func (.func k) a c) .nilFunc).run Try.prog w = .ok (.bool false) w := by kernel_rfl
theorem fn_none (w : World) : (binOp .eql 69 .nilFunc .nilFunc).run Try.prog w = .ok (.bool true) w := by kernel_rfl
/-- What a done function is: none, or one that answers D. -/
def Dn (W0 : World) (fv : Value) (D : Key → Bool) : Prop := (fv = .nilFunc ∧ ∀ h, D h = false) ∨ ∃ k c, fv = .func (.func k) #[] c ∧ (∀ args w, (callFunc k args).run Try.prog w = .ok (.enter k args) w) ∧ ∀ V, Below W0.heap.size W0 V → ∀ h : Key, h.length = 32 → Calls Try.prog k (#[.agg (hv h)] ++ c) V fun e w' => e = .returned (.bool (D h)) ∧ Below V.heap.size V w'
theorem idleD (w : World) :
    CallsD Try.prog 78 #[] .returning w fun e u' w' => e = .returned (.tuple #[]) ∧ u' = .returning ∧ w' = w := by
  refine callsD_of_wpS Try.func78 rfl fun c₀ cs hu => ?_
  apply wpS_region
  simp [wpOpsS, go_sem, recoverD, hu, Try.ntmps78]
  cases c₀
  simp_all [bodyPostS, results, Try.results78]
set_option linter.unusedSimpArgs false in
set_option maxRecDepth 20000 in
set_option maxHeartbeats 4000000 in
attribute [local go_sem ↓] hld_open in
theorem isdone_to (W0 w : World) (wk g bm ml : Nat) (X : Lx) (fv lv : Value) (o : List Key) (H : WK W0 w wk g bm ml X fv lv o) (D : Key → Bool) (hD : Dn W0 fv D) (x : Key) (hx : x.length = 32) :
    Calls Try.prog 70 #[wkp wk, .agg (hv x)] w fun e w' => e = .returned (.bool (D x)) ∧ Below w.heap.size w w' := by
  have BA := Lib.hid (below_al11 w (.cells (hv x) 27))
  have HB := Lib.hid (heap_alloc_last w (.cells (hv x) 27))
  have HW := Lib.hid (H.kb BA.out)
  have HX := Lib.hid hx
  obtain ⟨d, hd⟩ : ∃ d, d = D x := ⟨_, rfl⟩
  have HDE := Lib.hid hd
  rw [← hd]
  clear hx hd H
  rcases hD with ⟨rfl, h0⟩ | ⟨k, c, rfl, hcf, h1⟩
  · have hd0 : d = false := by rw [HDE.out]; exact h0 x
    subst hd0
    have hnil := fn_none
    have hc := HW.out.c (i := 1) rfl
    clear h0
    go_enter_defers Try.func70, Try.ntmps70
    go_wp2_with fail
    simp [bodyPostD, Leaves, settle, results, Try.results70, go_sem]
    exact BA.out
  · have hns := fn_some k #[] c
    have hc := HW.out.c (i := 1) rfl
    have HCF := Lib.hid hcf
    have H1 := Lib.hid h1
    clear h1 hcf
    go_enter_defers Try.func70, Try.ntmps70
    go_upto_region 4 with fail
    clear hc
    generalize w.alloc (.cells (hv x) 27) = w0 at *
    generalize w.heap.size = b at HB ⊢
    have bq : Below w0.heap.size w0 w0.drew := blw_qt _ 1 w0
    have HWq := Lib.hid (HW.out.kb bq)
    have HBq := Lib.hid ((mild_below bq).cells HB.out)
    have Bq : Hid (Below w.heap.size w w0.drew) := Lib.hid (BA.out.trans (bq.mono BA.out.size))
    clear bq
    go_wp2_with fail
    try simp only [List.append]
    refine wp_region_noPanic ?_
    refine wp_region_held_drew (S := (fun V => V.cell? ⟨wk, 1, none⟩ = some (.func (.func k) #[] c) ∧ (hld ⟨b, 0, none⟩).run Try.prog V = .ok (.agg (hv x)) V)) (by kernel_rfl) ⟨HWq.out.c (i := 1) rfl, hld_row HX.out HBq.out⟩ (fun hHeld => ?_)
    generalize w0.drew = cw at *
    refine wpAnyH_take (i := 0) (v := ?_) (by simp only [List.getElem?_toArray, List.getElem?_cons_zero]; rfl) (by kernel_rfl) (by kernel_rfl) (by kernel_rfl) (fun _ _ _ h => h) (Or.inl ⟨by rfl, ?_⟩) (by assumption) ?_
    rotate_left
    · intro w hSw
      try dsimp only at hSw
      go_simp
      try with_reducible rfl
    try simp only [Act.put, List.setIfInBounds_toArray, List.set_cons_zero, List.set_cons_succ]
    refine wpAnyH_take (i := 1) (v := ?_) (by simp only [List.getElem?_toArray, List.getElem?_cons_succ, List.getElem?_cons_zero]; rfl) (by kernel_rfl) (by kernel_rfl) (by kernel_rfl) (fun _ _ _ h => h) (Or.inl ⟨by rfl, ?_⟩) (by assumption) ?_
    rotate_left
    · intro w hSw
      try dsimp only at hSw
      go_simp
      try with_reducible rfl
    try simp only [Act.put, List.setIfInBounds_toArray, List.set_cons_zero, List.set_cons_succ]
    refine wpAnyH_take (i := 2) (v := ?_) (by simp only [List.getElem?_toArray, List.getElem?_cons_succ, List.getElem?_cons_zero]; rfl) (by kernel_rfl) (by kernel_rfl) (by kernel_rfl) (fun _ _ _ h => h) (Or.inl ⟨by rfl, ?_⟩) (by assumption) ?_
    rotate_left
    · intro w hSw
      try dsimp only at hSw
      go_simp
      try with_reducible rfl
    try simp only [Act.put, List.setIfInBounds_toArray, List.set_cons_zero, List.set_cons_succ]
    refine wpAnyH_take (i := 3) (v := ?_) (by simp only [List.getElem?_toArray, List.getElem?_cons_succ, List.getElem?_cons_zero]; rfl) (by kernel_rfl) (by kernel_rfl) (by kernel_rfl) (fun _ _ _ h => h) (Or.inl ⟨by rfl, ?_⟩) (by assumption) ?_
    rotate_left
    · intro w hSw
      try dsimp only at hSw
      go_simp
      try with_reducible rfl
    try simp only [Act.put, List.setIfInBounds_toArray, List.set_cons_zero, List.set_cons_succ]
    refine wpAnyH_take (i := 4) (v := ?_) (by simp only [List.getElem?_toArray, List.getElem?_cons_succ, List.getElem?_cons_zero]; rfl) (by kernel_rfl) (by kernel_rfl) (by kernel_rfl) (fun _ _ _ h => h) (Or.inl ⟨by rfl, ?_⟩) (by assumption) ?_
    rotate_left
    · intro w hSw
      try dsimp only at hSw
      go_simp
      try with_reducible rfl
    try simp only [Act.put, List.setIfInBounds_toArray, List.set_cons_zero, List.set_cons_succ]
    have hcf := HCF.out
    refine wpAnyH_ready (rs := [5]) (by kernel_rfl) (by simp) ?_
    refine AllReadyH.cons (by simp only [List.getElem?_toArray, List.getElem?_cons_succ, List.getElem?_cons_zero]; rfl) (fun K hK => ?_) AllReadyH.nil
    go_simp
    refine (H1.out cw HWq.out.bel x HX.out).mono ?_
    rintro e cx ⟨rfl, bb⟩
    rw [← HDE.out]
    have HWX := Lib.hid (HWq.out.kb bb)
    have HBX := Lib.hid ((mild_below bb).cells HBq.out)
    have BX := Lib.hid (Bq.out.trans (bb.mono Bq.out.size))
    clear bb HWq HBq Bq
    go_wp2_with fail
    refine hK.out _ _ ⟨HWX.out.c (i := 1) rfl, hld_row HX.out HBX.out⟩ (fun hHeld => ?_)
    clear hK K
    try simp only [Act.put, List.setIfInBounds_toArray, List.set_cons_zero, List.set_cons_succ]
    refine wpAnyH_take (i := 6) (v := ?_) (by simp only [List.getElem?_toArray, List.getElem?_cons_succ, List.getElem?_cons_zero]; rfl) (by kernel_rfl) (by kernel_rfl) (by kernel_rfl) (fun _ _ _ h => h) (Or.inl ⟨by rfl, ?_⟩) (by assumption) ?_
    rotate_left
    · intro w hSw
      try dsimp only at hSw
      go_simp
      try with_reducible rfl
    try simp only [Act.put, List.setIfInBounds_toArray, List.set_cons_zero, List.set_cons_succ]
    refine wpAnyH_done (by kernel_rfl) ?_ _
    refine NoPanic.normal ?_
    clear hHeld
    go_wp2_with fail
    refine leaves_cons (f := 78) (args := #[]) (by simp) (by simp [go_sem]) ?_
    refine (idleD _).mono ?_
    rintro e u' w'' ⟨rfl, rfl, rfl⟩
    simp [Leaves, settle, results, Try.results70, go_sem]
    exact BX.out
end Go.Proofs.Ytnpeahbbcolfmaa
namespace Go.Proofs.Ytnpeahbbcolfmaa
open Go.RowKit
open Go.Maps
theorem HSeen.keep {w w' : World} {v : Value} {E : List Key} {S : Nat → Prop} (h : HSeen w v E) (ho : Only S w w') (hb : ∀ b, sblk v = some b → ¬ S b) : HSeen w' v E := by
  rcases h with h1 | ⟨a, cap, rfl, h2, h3⟩
  · exact .inl h1
  · refine .inr ⟨a, cap, rfl, h2, fun j u hj => ?_⟩
    have h4 := h3 j u hj
    rw [World.cell?_of_block (ho.block _ (World.block_lt_of_cell? w _ h4) (hb _ (by show some a.block = some (a.add j).block; unfold Addr.add; by_cases e : j = 0 <;> simp [e])))]
    exact h4
theorem einfo : (Try.prog.info? 105).map (fun i => (i.zero, i.size, i.bytes)) = some (some (.agg czer), 33, 56) := by kernel_rfl
/-- A stack of one's own; what is left of each commit's parents is read. -/
structure Sk (W : World) (B : Nat) (lv v : Value) (S : Lx) : Prop where
  own : W.ownsRow B 105 33 v S.length (cfT S)
  h32 : T32 S
  lit : ∀ x ∈ S, HSeen W x.2.1 x.2.2 ∧ H32 x.2.2 ∧ ∀ b, sblk x.2.1 = some b → (∃ cs, W.heap[b]? = some (.cells cs 27 (0, 0))) ∧ lv.ownBlock ≠ some b
theorem sk_nil (W : World) (B : Nat) (lv : Value) : Sk W B lv (.slice none 0 0) [] := ⟨World.ownsRow_nil _ _ _ _, (fun _ h => by cases h), (fun _ h => by cases h)⟩
/-- It stays as something else turns. -/
theorem Sk.keep {W W' : World} {B : Nat} {lv lv' v : Value} {S : Lx} {P : Nat → Prop} (h : Sk W B lv v S) (ho : Only P W W') (h1 : ∀ j, v.ownBlock = some j → ¬ P j) (h2 : ∀ b cs, W.heap[b]? = some (.cells cs 27 (0, 0)) → lv.ownBlock ≠ some b → ¬ P b ∧ lv'.ownBlock ≠ some b) : Sk W' B lv' v S := by
  refine ⟨own_keep h.own ho h1, h.h32, fun x hx => ?_⟩
  obtain ⟨h3, h4, h5⟩ := h.lit x hx
  refine ⟨h3.keep ho (fun b hb => ?_), h4, fun b hb => ?_⟩
  · obtain ⟨⟨cs, h6⟩, h7⟩ := h5 b hb
    exact (h2 b cs h6 h7).1
  · obtain ⟨⟨cs, h6⟩, h7⟩ := h5 b hb
    exact ⟨⟨cs, (ho.block b (Array.getElem?_eq_some_iff.1 h6).1 (h2 b cs h6 h7).1).trans h6⟩, (h2 b cs h6 h7).2⟩
theorem Sk.kb {W W' : World} {B : Nat} {lv v : Value} {S : Lx} (h : Sk W B lv v S) (k : Below W.heap.size W W') : Sk W' B lv v S := h.keep (P := fun _ => False) (Only.of_below k) (fun _ _ h => h) (fun _ _ _ h => ⟨id, h⟩)
theorem Sk.shape {W : World} {B : Nat} {lv v : Value} {S : Lx} (h : Sk W B lv v S) : ∃ p n c, v = .slice p n c ∧ n = S.length := by
  rcases h.own.2 with ⟨h1, h2⟩ | ⟨g, cap, cur, h1, _⟩
  · exact ⟨none, 0, 0, h1, h2.symm⟩
  · exact ⟨_, _, _, h1, rfl⟩
theorem ent_built (h : Key) (u : Value) (hh : h.length = 32) (hu : u.cells = #[u]) : Try.prog.built 105 [(0, .agg (hv h)), (1, u)] = some (cmv h u) := by
  have hi : (Try.prog.info? 105).map (fun i => i.zero.map (·.cells.size)) = some (some 33) := by kernel_rfl
  have hf : (Try.prog.underlying 105).map (fun d => match d with | .struct fs => fs.toList.mapM (fun f => (Try.prog.info? f.type).map fun i => (f.offset, i.size)) | _ => none) = some (some [(0, 32), (32, 1)]) := by kernel_rfl
  have hs : (hv h).size = 32 := by rw [hv_size, hh]
  unfold cmv
  generalize hv h = h at hs ⊢
  unfold Program.built
  cases hit : Try.prog.info? 105 with
  | none => rw [hit] at hi; cases hi
  | some it =>
    rw [hit] at hi
    cases hun : Try.prog.underlying 105 with
    | none => rw [hun] at hf; cases hf
    | some d =>
      rw [hun] at hf
      cases d with
      | struct fs =>
        simp only [Option.map_some, Option.some.injEq] at hf
        simp only [hf]
        cases hz : it.zero with
        | none => simp [hz] at hi
        | some z =>
          simp only [Option.map_some, Option.some.injEq, hz] at hi
          have hsz : ∀ x : Array Value, (x.zipIdx.foldl (fun (cs : Array Value) (p : Value × Nat) => cs.setIfInBounds (0 + p.2) p.1) z.cells) = (x.toList.zipIdx.foldl (fun (cs : Array Value) (p : Value × Nat) => cs.setIfInBounds (0 + p.2) p.1) z.cells) := fun x => by
            rw [← Array.foldl_toList, Array.toList_zipIdx]
          have hg := fold_get h.toList 0 z.cells
          have hn : (h.toList.zipIdx.foldl (fun (cs : Array Value) (p : Value × Nat) => cs.setIfInBounds (0 + p.2) p.1) z.cells).size = 33 := by
            rw [← hi]
            generalize h.toList.zipIdx = q
            generalize z.cells = y
            induction q generalizing y with
            | nil => rfl
            | cons a q ih => rw [List.foldl_cons, ih]; simp
          simp only [Instr.fill, List.getElem?_toArray, List.getElem?_cons_zero, List.getElem?_cons_succ, show (Value.agg h).cells = h from rfl, hs, hi, hu, hsz]
          generalize h.toList.zipIdx.foldl (fun (cs : Array Value) (p : Value × Nat) => cs.setIfInBounds (0 + p.2) p.1) z.cells = y at hg hn
          simp only [hn]
          simp
          apply Array.ext_getElem?
          intro i
          have := hg i
          simp only [Array.length_toList, hs, hi] at this
          rw [Array.getElem?_setIfInBounds, Array.getElem?_push, hn, hs]
          by_cases h1 : i = 32
          · subst h1; simp
          · rw [if_neg (by omega), if_neg h1, this]
            by_cases h2 : i < 32
            · rw [if_pos (by omega)]; simp
            · rw [if_neg (by omega)]
              rw [Array.getElem?_eq_none (by omega), Array.getElem?_eq_none (by omega)]
      | _ => simp at hf
/-- append of one row. -/
theorem run_push_ent (w : World) (ty : TypeId) (B : Nat) (v : Value) (S : Lx) (b : Nat) (h : Key) (u : Value) (ps : List Key) (hh : h.length = 32) (hu1 : u.oneCell' = true) (hown : w.ownsRow B 105 33 v S.length (cfT S)) (hb : w.heap[b]? = some (.cells (cf [(h, u)]).toArray 105 (0, 0))) (hs : S.length + 1 ≤ 1000000) (hB : B ≤ w.heap.size) :
    ∃ v' w', (Builtin.append_ #[101, 101] ty #[v, .slice (some ⟨b, 0, none⟩) 1 1]).run Try.prog w = .ok v' w' ∧ w'.ownsRow B 105 33 v' (S ++ [(h, (u, ps))]).length (cfT (S ++ [(h, (u, ps))])) ∧ Only (fun j => v.ownBlock = some j) w w' ∧ ∀ j, v'.ownBlock = some j → v.ownBlock = some j ∨ w.heap.size ≤ j := by
  obtain ⟨i0, hi0, hz0, hz1, hz2⟩ := info_parts einfo
  have hf : S.length + 1 ≤ maxLen ∧ (S.length + 1) * 56 ≤ 140737488355328 := by unfold maxLen; omega
  have h32 : ∀ c ∈ [(h, u)], c.1.length = 32 := fun c hc => by rw [List.mem_singleton.1 hc]; exact hh
  have h1 : ∀ z ∈ cf [(h, u)], z.oneCell' = true := fun z hz => by
    rw [cf_one] at hz
    rcases List.mem_append.1 hz with h3 | h3
    · have := hv_one h
      rw [← hv_list] at h3
      exact Array.all_eq_true_iff_forall_mem.1 this z (Array.mem_toList_iff.1 h3)
    · rw [List.mem_singleton.1 h3]; exact hu1
  obtain ⟨v', w', hr, h2, h3, h4, h5⟩ := run_append_own_at (P := Try.prog) (w := w) B 101 ty 105 i0 _ 33 56 Try.underlying101 hi0 hz0 hz1 hz2 rfl (by decide) v S.length (cfT S) hown ⟨b, 0, none⟩ 1 1 (cf [(h, u)]) (by rw [cf_length h32]; rfl) (fun j z hj => by rw [Addr.add_lit, Nat.zero_add, cell_of_row w b j _ _ _ hb, List.getElem?_toArray]; exact hj) h1 hf.1 hf.2 hB
  refine ⟨v', w', hr, ?_, (Only.refl _ w).grown h3 (fun k _ e => e), fun j hj => ?_⟩
  · rw [List.length_append, cfT_app]
    exact h2
  · rcases h5 with h5 | h5
    · rw [h5] at hj; exact .inl hj
    · rw [h5] at hj
      injection hj with hj
      exact .inr (by omega)
section
variable {ops : Array Oper} {rest : List Oper} {a : Act} {Q : Exit → Act → World → Prop} {o : Oper} {w : World}
theorem push_ent (hgd : o.guard = none) (s x : Operand) (ho : o.op = .call { callee := .builtin .append, args := #[s, x], argTypes := #[101, 101] })
    (B : Nat) (v : Value) (S : Lx) (b : Nat) (h : Key) (u : Value) (ps : List Key) (hh : h.length = 32) (hu1 : u.oneCell' = true) (hs : a.eval s = v) (hown : w.ownsRow B 105 33 v S.length (cfT S)) (hx : a.eval x = .slice (some ⟨b, 0, none⟩) 1 1) (hb : w.heap[b]? = some (.cells (cf [(h, u)]).toArray 105 (0, 0))) (hl : S.length + 1 ≤ 1000000) (hB : B ≤ w.heap.size)
    (hk : ∀ v' w', w'.ownsRow B 105 33 v' (S ++ [(h, (u, ps))]).length (cfT (S ++ [(h, (u, ps))])) → Only (fun j => v.ownBlock = some j) w w' → (∀ j, v'.ownBlock = some j → v.ownBlock = some j ∨ w.heap.size ≤ j) → wpList Try.prog ops Q rest (a.put o.dst v') w') :
    wpList Try.prog ops Q (o :: rest) a w := by
  refine wpList_plain hgd fun K hK => ?_
  obtain ⟨v', w', hr, h1, h2, h3⟩ := run_push_ent w o.type B v S b h u ps hh hu1 hown hb hl hB
  unfold Oper.wp execOp
  simp only [ho, resolve, invoke, builtin, Sem.run_bind, Sem.run_pure, Result.andThen_ok, List.map_toArray, List.map_cons, List.map_nil, hs, hx, hr]
  exact hK _ _ (hk v' w' h1 h2 h3)
theorem push_ent1 (hgd : o.guard = none) (x : Operand) (ho : o.op = .buildSlice 101 1 #[(0, x)]) (h : Key) (u : Value) (hh : h.length = 32) (hx : a.eval x = .agg (cmv h u))
    (hk : wpList Try.prog ops Q rest (a.put o.dst (.slice (some ⟨w.heap.size, 0, none⟩) 1 1)) (w.alloc (.cells (cf [(h, u)]).toArray 105))) : wpList Try.prog ops Q (o :: rest) a w := by
  refine wpList_plain hgd fun K hK => ?_
  obtain ⟨i0, hi0, hz0, hz1, hz2⟩ := info_parts einfo
  have hrun : (Instr.buildSlice 101 1 #[(0, .agg (cmv h u))]).run Try.prog w = .ok (.slice (some ⟨w.heap.size, 0, none⟩) 1 1) (w.alloc (.cells (cf [(h, u)]).toArray 105)) := by
    refine run_buildSlice w 101 105 1 _ (cf [(h, u)]).toArray i0 (.agg czer) Try.underlying101 hi0 hz0 (by rw [hz1]; omega) (by rw [hz1]; omega) ?_
    rw [hz1]
    exact (by
      have := Great.fill_whole (s := 33) (by decide) ([(h, u)].map fun c => Value.agg (cmv c.1 c.2)) ((Array.range ([(h, u)].length * 33)).map ((Value.agg czer).cells[· % (Value.agg czer).cells.size]!)) (fun v hvm => by
        obtain ⟨c, hm, rfl⟩ := List.mem_map.1 hvm
        rw [List.mem_singleton.1 hm]
        exact cmv_size hh u) (by simp)
      rw [cf_flat] at this
      exact this)
  unfold Oper.wp execOp
  simp only [ho, Sem.run_bind, Sem.run_pure, Result.andThen_ok, List.map_toArray, List.map_cons, List.map_nil, hx, hrun]
  exact hK _ _ hk
theorem push_bent {dst : Option Tmp} {T : TypeId} {pos : String} {after : Array Edge} {x y : Operand} (h : Key) (v : Value) (hh : h.length = 32) (hc : v.cells = #[v]) (hx : a.eval x = .agg (hv h)) (hy : a.eval y = v)
    (hk : wpList Try.prog ops Q rest (a.put dst (.agg (cmv h v))) w) :
    wpList Try.prog ops Q (⟨dst, .build 105 #[(0, x), (1, y)], T, pos, after, none⟩ :: rest) a w :=
  build_to (vals := #[(0, .agg (hv h)), (1, v)]) (ent_built h v hh hc) (by simp [hx, hy]) hk
end
theorem own_nomap {W : World} {B : Nat} {e : TypeId} {s : Nat} {v : Value} {n : Nat} {xs : List Value} {b : Nat} {es : Array MapEntry} {c : Nat} (h : W.ownsRow B e s v n xs) (hm : W.heap[b]? = some (.map es c)) : v.ownBlock ≠ some b := fun e => by
  obtain ⟨cs, h1, _⟩ := own_type h e
  rw [hm] at h1; cases h1
theorem WK.keep {W0 W W' : World} {wk g bm ml : Nat} {X : Lx} {fv lv : Value} {o : List Key} {P : Nat → Prop} (h : WK W0 W wk g bm ml X fv lv o) (ho : Only P W W') (hlo : ∀ j, P j → W0.heap.size ≤ j) (h1 : ¬ P wk) (h2 : ¬ P ml) (h3 : ∀ j, lv.ownBlock = some j → ¬ P j) : WK W0 W' wk g bm ml X fv lv o := by
  obtain ⟨R, h4, h5⟩ := h.set
  exact ⟨h.bel.trans (ho.below h.bel.size hlo), (ho.block wk (Array.getElem?_eq_some_iff.1 h.cell).1 h1).trans h.cell, h.ga, own_keep h.own ho h3, ⟨R, h4.step ho h2, h5⟩, h.h32, h.lo⟩
/-- The walk stays as its stack turns. -/
theorem WK.stk {W0 W W' : World} {wk g bm ml : Nat} {X : Lx} {fv lv v : Value} {o : List Key} {n : Nat} {xs : List Value} (h : WK W0 W wk g bm ml X fv lv o) (hs : W.ownsRow W0.heap.size 105 33 v n xs) (ho : Only (fun j => v.ownBlock = some j) W W') : WK W0 W' wk g bm ml X fv lv o := by
  refine h.keep ho (fun j hj => own_from hs j hj) (own_apart hs h.cell (by decide)) (fun e => ?_) (fun j hj e => ?_)
  · obtain ⟨R, h4, _⟩ := h.set
    obtain ⟨M, h5, _⟩ := h4.ex
    obtain ⟨es, cc, h6⟩ := h5.ismap
    exact own_nomap hs h6 e
  · obtain ⟨cs, h6, _⟩ := own_type hs e
    exact own_apart h.own h6 (by decide) hj
theorem ent_lit_new {W : World} {B : Nat} {lv u : Value} {ps : List Key} (h : HOwn W B u ps) (hlv : ∀ j, lv.ownBlock = some j → j < B) (b : Nat) (hb : sblk u = some b) : (∃ cs, W.heap[b]? = some (.cells cs 27 (0, 0))) ∧ lv.ownBlock ≠ some b := by
  rcases h.2 with ⟨rfl, _⟩ | ⟨g, cap, cur, rfl, h1, h2, _⟩
  · cases hb
  · have e : g = b := by simpa [sblk] using hb
    subst e
    exact ⟨⟨cur, h2⟩, fun e => by have := hlv g e; omega⟩
theorem Sk.push {W w6 : World} {B B' : Nat} {lv v v6 u : Value} {S : Lx} {x : Key} {ps : List Key} (h : Sk W B lv v S) (hx : x.length = 32) (OP : HOwn W B' u ps) (hp : H32 ps) (hlv : ∀ j, lv.ownBlock = some j → j < B')
    (O6 : w6.ownsRow B 105 33 v6 (S ++ [(x, (u, ps))]).length (cfT (S ++ [(x, (u, ps))]))) (oth : Only (fun j => v.ownBlock = some j) W w6) : Sk w6 B lv v6 (S ++ [(x, (u, ps))]) := by
  have hne : ∀ b, (∃ cs, W.heap[b]? = some (.cells cs 27 (0, 0))) → v.ownBlock ≠ some b := fun b ⟨cs, hb⟩ => own_apart h.own hb (by decide)
  have hlit : ∀ y ∈ S ++ [(x, (u, ps))], HSeen W y.2.1 y.2.2 ∧ H32 y.2.2 ∧ ∀ b, sblk y.2.1 = some b → (∃ cs, W.heap[b]? = some (.cells cs 27 (0, 0))) ∧ lv.ownBlock ≠ some b := fun y hy => by
    rcases List.mem_append.1 hy with hy | hy
    · exact h.lit y hy
    · rw [List.mem_singleton.1 hy]
      exact ⟨HSeen.own OP, hp, ent_lit_new OP hlv⟩
  refine ⟨O6, fun y hy => ?_, fun y hy => ?_⟩
  · rcases List.mem_append.1 hy with hy | hy
    · exact h.h32 y hy
    · rw [List.mem_singleton.1 hy]; exact hx
  · obtain ⟨h3, h4, h5⟩ := hlit y hy
    refine ⟨h3.keep oth (fun b hb => hne b (h5 b hb).1), h4, fun b hb => ?_⟩
    obtain ⟨⟨cs, h6⟩, h7⟩ := h5 b hb
    exact ⟨⟨cs, (oth.block b (Array.getElem?_eq_some_iff.1 h6).1 (hne b ⟨cs, h6⟩)).trans h6⟩, h7⟩
theorem h32_adjX {G : Gr} (W : Wf G) (x : Key) : H32 (adj G x) := fun p hp => by
  obtain ⟨ps, e1, e2⟩ := adj_some hp
  exact (W.h32 _ (aget_mem e1)).2 p e2
/-- What enter does. -/
def EnPost (W0 w : World) (wk g bm ml : Nat) (X : Lx) (fv lv v : Value) (o : List Key) (D : Key → Bool) (S : Lx) (x : Key) (e : Ending) (w' : World) : Prop :=
  ∃ v', e = .returned v' ∧ WK W0 w' wk g bm ml X fv lv o ∧ Only (fun j => v.ownBlock = some j) w w' ∧ (∀ j, v'.ownBlock = some j → v.ownBlock = some j ∨ w.heap.size ≤ j) ∧
    (((x ∈ o ∨ D x = true) ∧ v' = v ∧ Sk w' W0.heap.size lv v S) ∨ (x ∉ o ∧ D x = false ∧ ∃ u, Sk w' W0.heap.size lv v' (S ++ [(x, (u, adj (gr X) x))])))
set_option linter.unusedSimpArgs false in
set_option maxRecDepth 20000 in
set_option maxHeartbeats 8000000 in
attribute [local go_sem ↓] hld_open in
theorem enter_to (W0 w : World) (wk g bm ml : Nat) (X : Lx) (fv lv : Value) (o : List Key) (H : WK W0 w wk g bm ml X fv lv o) (D : Key → Bool) (hD : Dn W0 fv D) (HW : Wf (gr X)) (v : Value) (S : Lx) (HS : Sk w W0.heap.size lv v S) (x : Key) (hx : x.length = 32) (hl : S.length + 1 ≤ 100000) :
    Calls Try.prog 54 #[wkp wk, v, .agg (hv x)] w (EnPost W0 w wk g bm ml X fv lv v o D S x) := by
  obtain ⟨q, m, c, rfl, hm⟩ := HS.shape
  clear hm
  have BA := Lib.hid (below_al11 w (.cells (hv x) 27))
  have HB := Lib.hid (heap_alloc_last w (.cells (hv x) 27))
  have HK := Lib.hid (H.kb BA.out)
  have HX := Lib.hid hx
  have HWF := Lib.hid HW
  have HSK := Lib.hid HS
  have HSW := Lib.hid (HS.kb BA.out)
  have HDN := Lib.hid hD
  have HL := Lib.hid hl
  have HKE := Lib.hid H
  clear H hx HW HS hD hl
  go_enter Try.func54, Try.ntmps54
  go_upto_region 1 with fail
  generalize w.alloc (.cells (hv x) 27) = w0 at *
  generalize hb : w.heap.size = b at HB
  have HBE := Lib.hid hb
  clear hb
  have hld0 := hld_row HX.out HB.out
  obtain ⟨d, hd⟩ : ∃ d, d = decide (x ∈ o) := ⟨_, rfl⟩
  have HD := Lib.hid hd
  have HHS := Lib.hid (whas_to W0 w0 wk g bm ml X fv lv o HK.out x HX.out)
  rw [← hd] at HHS
  clear hd
  go_wp2_with fail
  refine HHS.out.mono ?_
  rintro e w1 ⟨rfl, b1⟩
  have B1 := Lib.hid (BA.out.trans (b1.mono BA.out.size))
  have K1 := Lib.hid (HK.out.kb b1)
  have S1 := Lib.hid (HSW.out.kb b1)
  have HB1 := Lib.hid ((mild_below b1).cells HB.out)
  have hld1 := hld_row HX.out HB1.out
  clear b1 HK HSW HB hld0
  cases d with
  | true =>
    go_wp2_with fail
    go_ret
    exact ⟨_, rfl, K1.out, Only.of_below B1.out, fun j hj => .inl hj, .inl ⟨.inl (of_decide_eq_true HD.out.symm), rfl, S1.out⟩⟩
  | false =>
    obtain ⟨d2, hd2⟩ : ∃ d2, d2 = D x := ⟨_, rfl⟩
    have HD2 := Lib.hid hd2
    have HDO := Lib.hid (isdone_to W0 w1 wk g bm ml X fv lv o K1.out D HDN.out x HX.out)
    rw [← hd2] at HDO
    clear hd2
    go_wp2_with fail
    refine HDO.out.mono ?_
    rintro e w2 ⟨rfl, b2⟩
    have B2 := Lib.hid (B1.out.trans (b2.mono B1.out.size))
    have K2 := Lib.hid (K1.out.kb b2)
    have S2 := Lib.hid (S1.out.kb b2)
    have HB2 := Lib.hid ((mild_below b2).cells HB1.out)
    clear b2 K1 S1 HB1 hld1 B1
    cases d2 with
    | true =>
      go_wp2_with fail
      go_ret
      exact ⟨_, rfl, K2.out, Only.of_below B2.out, fun j hj => .inl hj, .inl ⟨.inr HD2.out.symm, rfl, S2.out⟩⟩
    | false =>
      go_upto_region 3 with fail
      have bq : Below w2.heap.size w2 w2.drew := blw_qt _ 1 w2
      have B3 : Hid (Below w.heap.size w w2.drew) := Lib.hid (B2.out.trans (bq.mono B2.out.size))
      have K3 := Lib.hid (K2.out.kb bq)
      have S3 := Lib.hid (S2.out.kb bq)
      have HB3 := Lib.hid ((mild_below bq).cells HB2.out)
      clear bq B2 K2 S2 HB2
      go_wp2_with fail
      try simp only [List.append]
      refine wp_region_noPanic ?_
      refine wp_region_held_drew (S := (fun V => V.cell? ⟨wk, 0, none⟩ = some (gp g) ∧ (hld ⟨b, 0, none⟩).run Try.prog V = .ok (.agg (hv x)) V)) (by kernel_rfl) ⟨K3.out.c (i := 0) rfl, hld_row HX.out HB3.out⟩ (fun hHeld => ?_)
      generalize w2.drew = cw at *
      refine wpAnyH_take (i := 0) (v := ?_) (by simp only [List.getElem?_toArray, List.getElem?_cons_zero]; rfl) (by kernel_rfl) (by kernel_rfl) (by kernel_rfl) (fun _ _ _ h => h) (Or.inl ⟨by rfl, ?_⟩) (by assumption) ?_
      rotate_left
      · intro w hSw
        try dsimp only at hSw
        go_simp
        try with_reducible rfl
      try simp only [Act.put, List.setIfInBounds_toArray, List.set_cons_zero, List.set_cons_succ]
      refine wpAnyH_take (i := 1) (v := ?_) (by simp only [List.getElem?_toArray, List.getElem?_cons_succ, List.getElem?_cons_zero]; rfl) (by kernel_rfl) (by kernel_rfl) (by kernel_rfl) (fun _ _ _ h => h) (Or.inl ⟨by rfl, ?_⟩) (by assumption) ?_
      rotate_left
      · intro w hSw
        try dsimp only at hSw
        go_simp
        try with_reducible rfl
      try simp only [Act.put, List.setIfInBounds_toArray, List.set_cons_zero, List.set_cons_succ]
      refine wpAnyH_take (i := 2) (v := ?_) (by simp only [List.getElem?_toArray, List.getElem?_cons_succ, List.getElem?_cons_zero]; rfl) (by kernel_rfl) (by kernel_rfl) (by kernel_rfl) (fun _ _ _ h => h) (Or.inl ⟨by rfl, ?_⟩) (by assumption) ?_
      rotate_left
      · intro w hSw
        try dsimp only at hSw
        go_simp
        try with_reducible rfl
      try simp only [Act.put, List.setIfInBounds_toArray, List.set_cons_zero, List.set_cons_succ]
      refine wpAnyH_take (i := 3) (v := ?_) (by simp only [List.getElem?_toArray, List.getElem?_cons_succ, List.getElem?_cons_zero]; rfl) (by kernel_rfl) (by kernel_rfl) (by kernel_rfl) (fun _ _ _ h => h) (Or.inl ⟨by rfl, ?_⟩) (by assumption) ?_
      rotate_left
      · intro w hSw
        try dsimp only at hSw
        go_simp
        try with_reducible rfl
      try simp only [Act.put, List.setIfInBounds_toArray, List.set_cons_zero, List.set_cons_succ]
      refine wpAnyH_take (i := 4) (v := ?_) (by simp only [List.getElem?_toArray, List.getElem?_cons_succ, List.getElem?_cons_zero]; rfl) (by kernel_rfl) (by kernel_rfl) (by kernel_rfl) (fun _ _ _ h => h) (Or.inl ⟨by rfl, ?_⟩) (by assumption) ?_
      rotate_left
      · intro w hSw
        try dsimp only at hSw
        go_simp
        try with_reducible rfl
      try simp only [Act.put, List.setIfInBounds_toArray, List.set_cons_zero, List.set_cons_succ]
      refine wpAnyH_ready (rs := [5]) (by kernel_rfl) (by simp) ?_
      refine AllReadyH.cons (by simp only [List.getElem?_toArray, List.getElem?_cons_succ, List.getElem?_cons_zero]; rfl) (fun K hK => ?_) AllReadyH.nil
      go_simp
      refine (parents_to cw g bm X x HX.out K3.out.g (HWF.out.parm 1000000 (by decide))).mono ?_
      rintro e cx ⟨vp, rfl, op, bb⟩
      have HAJ : (aget x (gr X)).getD [] = adj (gr X) x := rfl
      rw [HAJ] at op
      obtain ⟨pp, lp, cp, rfl, hlp⟩ := own_sh op
      have OP := Lib.hid op
      have B4 := Lib.hid (B3.out.trans (bb.mono B3.out.size))
      have K4 := Lib.hid (K3.out.kb bb)
      have S4 := Lib.hid (S3.out.kb bb)
      have HB4 := Lib.hid ((mild_below bb).cells HB3.out)
      have HCW : Hid (∀ j, lv.ownBlock = some j → j < cw.heap.size) := Lib.hid (own_lt K3.out.own)
      clear bb op hlp HAJ B3 K3 S3 HB3
      generalize (aget x (gr X)).isSome = hs0
      go_wp2_with fail
      refine hK.out _ _ ⟨K4.out.c (i := 0) rfl, hld_row HX.out HB4.out⟩ (fun hHeld => ?_)
      clear hK K
      try simp only [Act.put, List.setIfInBounds_toArray, List.set_cons_zero, List.set_cons_succ]
      refine wpAnyH_take (i := 6) (v := ?_) (by simp only [List.getElem?_toArray, List.getElem?_cons_succ, List.getElem?_cons_zero]; rfl) (by kernel_rfl) (by kernel_rfl) (by kernel_rfl) (fun _ _ _ h => h) (Or.inl ⟨by rfl, ?_⟩) (by assumption) ?_
      rotate_left
      · intro w hSw
        try dsimp only at hSw
        go_simp
        try with_reducible rfl
      try simp only [Act.put, List.setIfInBounds_toArray, List.set_cons_zero, List.set_cons_succ]
      refine wpAnyH_take (i := 7) (v := ?_) (by simp only [List.getElem?_toArray, List.getElem?_cons_succ, List.getElem?_cons_zero]; rfl) (by kernel_rfl) (by kernel_rfl) (by kernel_rfl) (fun _ _ _ h => h) (Or.inl ⟨by rfl, ?_⟩) (by assumption) ?_
      rotate_left
      · intro w hSw
        try dsimp only at hSw
        go_simp
        try with_reducible rfl
      try simp only [Act.put, List.setIfInBounds_toArray, List.set_cons_zero, List.set_cons_succ]
      refine wpAnyH_take (i := 8) (v := ?_) (by simp only [List.getElem?_toArray, List.getElem?_cons_succ, List.getElem?_cons_zero]; rfl) (by kernel_rfl) (by kernel_rfl) (by kernel_rfl) (fun _ _ _ h => h) (Or.inl ⟨by rfl, ?_⟩) (by assumption) ?_
      rotate_left
      · intro w hSw
        try dsimp only at hSw
        go_simp
        try with_reducible rfl
      try simp only [Act.put, List.setIfInBounds_toArray, List.set_cons_zero, List.set_cons_succ]
      refine wpAnyH_take (i := 9) (v := ?_) (by simp only [List.getElem?_toArray, List.getElem?_cons_succ, List.getElem?_cons_zero]; rfl) (by kernel_rfl) (by kernel_rfl) (by kernel_rfl) (fun _ _ _ h => h) (Or.inl ⟨by rfl, ?_⟩) (by assumption) ?_
      rotate_left
      · intro w hSw
        try dsimp only at hSw
        go_simp
        try with_reducible rfl
      try simp only [Act.put, List.setIfInBounds_toArray, List.set_cons_zero, List.set_cons_succ]
      refine wpAnyH_take (i := 10) (v := ?_) (by simp only [List.getElem?_toArray, List.getElem?_cons_succ, List.getElem?_cons_zero]; rfl) (by kernel_rfl) (by kernel_rfl) (by kernel_rfl) (fun _ _ _ h => h) (Or.inl ⟨by rfl, ?_⟩) (by assumption) ?_
      rotate_left
      · intro w hSw
        try dsimp only at hSw
        go_simp
        try with_reducible rfl
      try simp only [Act.put, List.setIfInBounds_toArray, List.set_cons_zero, List.set_cons_succ]
      refine wpAnyH_done (by kernel_rfl) ?_ _
      refine NoPanic.normal ?_
      clear hHeld
      have hld4 := hld_row HX.out HB4.out
      have AL := Lib.hid (below_al11 cx (.cells (cf [(x, .slice pp lp cp)]).toArray 105))
      have HN5 := Lib.hid (heap_alloc_last cx (.cells (cf [(x, .slice pp lp cp)]).toArray 105))
      have K5 := Lib.hid (K4.out.kb AL.out)
      have S5 := Lib.hid (S4.out.kb AL.out)
      have OP5 := Lib.hid (own_below OP.out AL.out)
      have B5 := Lib.hid (B4.out.trans (AL.out.mono B4.out.size))
      go_wp2_with (first
        | (at_builtin; refine push_ent rfl (.tmp 27) (.tmp 31) rfl W0.heap.size (.slice q m c) S cx.heap.size x (.slice pp lp cp) (adj (gr X) x) HX.out rfl rfl S5.out.own rfl HN5.out (by have := HL.out; omega) K5.out.bel.size ?_; intro v6 w6 o6 oth6 loc6; have O6 := Lib.hid o6; have OT6 := Lib.hid oth6; have LO6 := Lib.hid loc6; clear o6 oth6 loc6)
        | (refine push_ent1 rfl _ rfl x (.slice pp lp cp) HX.out rfl ?_)
        | (refine push_bent x (.slice pp lp cp) HX.out rfl rfl rfl ?_))
      go_ret
      refine ⟨v6, rfl, K5.out.stk S5.out.own OT6.out, (Only.of_below (S := fun j => (Value.slice q m c).ownBlock = some j) B5.out).trans OT6.out (fun _ h => h) (fun _ _ h => h), fun j hj => (LO6.out j hj).imp id (fun h => Nat.le_trans B5.out.size h), .inr ⟨of_decide_eq_false HD.out.symm, HD2.out.symm, _, S5.out.push HX.out OP5.out (h32_adjX HWF.out x) HCW.out O6.out OT6.out⟩⟩
end Go.Proofs.Ytnpeahbbcolfmaa
namespace Go.Proofs.Ytnpeahbbcolfmaa
open Go.RowKit
open Go.Maps
/-- The stack as the plain mathematics has it: the last one first. -/
def stk (S : Lx) : List (Key × List Key) := S.reverse.map fun x => (x.1, x.2.2)
theorem stk_snoc (S : Lx) (x : Key × (Value × List Key)) : stk (S ++ [x]) = (x.1, x.2.2) :: stk S := by simp [stk]
theorem Run.len {G : Gr} {D : Key → Bool} {n : Nat} {o : List Key} {st : List (Key × List Key)} {o' : List Key} (r : Run G D n o st o') : o.length + st.length ≤ o'.length := by
  induction r with
  | nil o => simp
  | cons a t ih =>
    obtain ⟨r, e⟩ := a.pre
    rw [e, List.length_append, List.length_append, List.length_singleton] at ih
    rw [List.length_cons]
    omega
/-- The uppermost commit has no parent left: it is listed. -/
theorem Run.pop {G : Gr} {D : Key → Bool} {n : Nat} {o : List Key} {h : Key} {st : List (Key × List Key)} {o' : List Key} (r : Run G D n o ((h, []) :: st) o') : ∃ m, m < n ∧ Run G D m (o ++ [h]) st o' := by
  cases r with
  | cons a t =>
    cases a
    exact ⟨_, by omega, t⟩
/-- The next parent is entered, or passed over. -/
theorem Run.next {G : Gr} {D : Key → Bool} {n : Nat} {o : List Key} {h p : Key} {ps : List Key} {st : List (Key × List Key)} {o' : List Key} (r : Run G D n o ((h, p :: ps) :: st) o') :
    ∃ m, m < n ∧ ((p ∈ o ∨ D p = true) → Run G D m o ((h, ps) :: st) o') ∧ (p ∉ o → D p = false → Run G D m o ((p, adj G p) :: (h, ps) :: st) o') := by
  cases r with
  | cons a t =>
    cases a with
    | skip hk v => exact ⟨_, by omega, fun _ => .cons v t, fun h1 h2 => absurd hk (by simp [h1, h2])⟩
    | go h1 h2 v1 v2 => exact ⟨_, by omega, fun hk => absurd hk (by simp [h1, h2]), fun _ _ => .cons v1 (.cons v2 t)⟩
theorem Run.done {G : Gr} {D : Key → Bool} {n : Nat} {o o' : List Key} (r : Run G D n o [] o') : o' = o := by cases r; rfl
/-- The uppermost commit, in memory. -/
theorem Sk.top {W : World} {B : Nat} {lv : Value} {p : Option Addr} {n c : Nat} {S : Lx} {x : Key × (Value × List Key)} (h : Sk W B lv (.slice p n c) (S ++ [x])) : ∃ g cur, p = some ⟨g, 0, none⟩ ∧ B ≤ g ∧ n = S.length + 1 ∧ n ≤ c ∧ W.heap[g]? = some (.cells cur 105 (0, 0)) ∧ W.rangeAt g (S.length * 33) (us (nmb x.1) ++ [x.2.1]) := by
  rcases h.own.2 with ⟨h1, h2⟩ | ⟨g, cap, cur, h1, hb, hg, hn, hm, hs, hc⟩
  · simp at h2
  · simp only [Value.slice.injEq] at h1
    obtain ⟨rfl, rfl, rfl⟩ := h1
    refine ⟨g, cur, rfl, hb, by simp, hn, hg, fun j u hj => ?_⟩
    have hx32 : x.1.length = 32 := h.h32 x (by simp)
    have hS32 : T32 S := h.h32.sub fun y hy => by simp [hy]
    have hj33 : j < 33 := by rw [← row33 hx32 x.2.1]; exact (List.getElem?_eq_some_iff.1 hj).1
    rw [cell_of_row W g _ _ _ _ hg]
    have e : (cfT (S ++ [x]))[S.length * 33 + j]? = some u := by
      rw [cfT_at h.h32 (i := S.length) (x := x) (by simp) hj33]; exact hj
    have hl : (cfT (S ++ [x])).length = (S ++ [x]).length * 33 := cfT_len h.h32
    rw [← hc, List.getElem?_take, if_pos (by rw [List.length_append, List.length_singleton]; omega)] at e
    simpa using e
theorem Sk.cut {W : World} {B : Nat} {lv : Value} {p : Option Addr} {n c : Nat} {S : Lx} {x : Key × (Value × List Key)} (h : Sk W B lv (.slice p n c) (S ++ [x])) : Sk W B lv (.slice p S.length c) S := by
  have hS32 : T32 S := h.h32.sub fun y hy => by simp [hy]
  refine ⟨?_, hS32, fun y hy => h.lit y (by simp [hy])⟩
  rcases h.own.2 with ⟨h1, h2⟩ | ⟨g, cap, cur, h1, hb, hg, hn, hm, hs, hc⟩
  · simp at h2
  · simp only [Value.slice.injEq] at h1
    obtain ⟨rfl, rfl, rfl⟩ := h1
    rw [List.length_append, List.length_singleton] at hn hc
    refine ⟨cfT_len hS32, .inr ⟨g, c, cur, rfl, hb, hg, by omega, hm, hs, ?_⟩⟩
    have e : cur.toList.take (S.length * 33) = (cur.toList.take ((S.length + 1) * 33)).take (S.length * 33) := by rw [List.take_take]; congr 1; omega
    rw [e, hc, cfT_app, List.take_left' (cfT_len hS32)]
/-- One parent less. -/
theorem HSeen.tail {W : World} {b o n c : Nat} {k : Key} {E : List Key} (h : HSeen W (.slice (some ⟨b, o, none⟩) n c) (k :: E)) (hk : k.length = 32) : HSeen W (.slice (if c = 1 then some ⟨b, o, none⟩ else some ⟨b, o + 32, none⟩) (n - 1) (c - 1)) E := by
  rcases h with ⟨h1, _⟩ | ⟨a, cap, h1, h2, h3⟩
  · cases h1
  · injection h1 with e1 e2 e3
    injection e1 with e1
    subst e1 e3
    rw [List.length_cons] at e2 h2
    by_cases hc : c = 1
    · rw [if_pos hc]
      obtain rfl : E = [] := List.eq_nil_of_length_eq_zero (by omega)
      exact .inr ⟨⟨b, o, none⟩, c - 1, by rw [e2]; rfl, by simp, fun j u hj => by simp [fl] at hj⟩
    · rw [if_neg hc]
      refine .inr ⟨⟨b, o + 32, none⟩, c - 1, by rw [e2]; rfl, by omega, fun j u hj => ?_⟩
      have hl : (us (nmb k)).length = 32 := by rw [usn_length, hk]
      have e : fl (k :: E) = us (nmb k) ++ fl E := by rw [show k :: E = [k] ++ E from rfl, fl_app, fl_one]
      have h4 := h3 (32 + j) u (by rw [e, List.getElem?_append_right (by omega), hl, Nat.add_sub_cancel_left]; exact hj)
      rw [Addr.add_lit] at h4 ⊢
      rw [Nat.add_assoc]; exact h4
theorem cfT_set {S : Lx} (hS : T32 S) {k : Key} (hk : k.length = 32) (u u' : Value) (ps ps' : List Key) : (cfT (S ++ [(k, (u, ps))])).set (S.length * 33 + 32) u' = cfT (S ++ [(k, (u', ps'))]) := by
  have e1 : ∀ (z : Value) (qs : List Key), cfT [(k, (z, qs))] = us (nmb k) ++ [z] := fun z qs => cf_one (k, z)
  rw [cfT_app, cfT_app, e1, e1, List.set_append_right _ _ (by rw [cfT_len hS]; omega), cfT_len hS, Nat.add_sub_cancel_left, List.set_append_right _ _ (by rw [usn_length, hk]; exact Nat.le_refl _), usn_length, hk]
  rfl
theorem Sk.set {W : World} {B : Nat} {lv : Value} {g n c : Nat} {S : Lx} {k : Key} {u u' : Value} {ps ps' : List Key} (h : Sk W B lv (.slice (some ⟨g, 0, none⟩) n c) (S ++ [(k, (u, ps))])) (hu : HSeen W u' ps') (hp : H32 ps') (hb : ∀ b, sblk u' = some b → sblk u = some b) :
    Sk (W.setCell ⟨g, S.length * 33 + 32, none⟩ u') B lv (.slice (some ⟨g, 0, none⟩) n c) (S ++ [(k, (u', ps'))]) ∧ Only (fun j => (Value.slice (some ⟨g, 0, none⟩) n c).ownBlock = some j) W (W.setCell ⟨g, S.length * 33 + 32, none⟩ u') := by
  have ho : Only (fun j => (Value.slice (some ⟨g, 0, none⟩) n c).ownBlock = some j) W (W.setCell ⟨g, S.length * 33 + 32, none⟩ u') := (Only.refl (fun j => (Value.slice (some ⟨g, 0, none⟩) n c).ownBlock = some j) W).setCell (p := ⟨g, S.length * 33 + 32, none⟩) rfl _
  have hk : k.length = 32 := h.h32 (k, (u, ps)) (by simp)
  have hS : T32 S := h.h32.sub fun y hy => by simp [hy]
  have hne : ∀ b, (∃ cs, W.heap[b]? = some (.cells cs 27 (0, 0))) → (Value.slice (some ⟨g, 0, none⟩) n c).ownBlock ≠ some b := fun b ⟨cs, hb⟩ => own_apart h.own hb (by decide)
  have hlit : ∀ y ∈ S ++ [(k, (u', ps'))], HSeen W y.2.1 y.2.2 ∧ H32 y.2.2 ∧ ∀ b, sblk y.2.1 = some b → (∃ cs, W.heap[b]? = some (.cells cs 27 (0, 0))) ∧ lv.ownBlock ≠ some b := fun y hy => by
    rcases List.mem_append.1 hy with hy | hy
    · exact h.lit y (by simp [hy])
    · rw [List.mem_singleton.1 hy]
      exact ⟨hu, hp, fun b h9 => (h.lit (k, (u, ps)) (by simp)).2.2 b (hb b h9)⟩
  refine ⟨⟨?_, fun y hy => ?_, fun y hy => ?_⟩, ho⟩
  · rcases h.own.2 with ⟨h1, _⟩ | ⟨g', cap, cur, h1, hB, hg, hn, hm, hs, hc⟩
    · cases h1
    · simp only [Value.slice.injEq, Option.some.injEq, Addr.mk.injEq, and_true] at h1
      obtain ⟨rfl, h2, rfl⟩ := h1
      rw [List.length_append, List.length_singleton] at hn hc h2
      refine ⟨cfT_len (fun y hy => ?_), .inr ⟨g, c, cur.setIfInBounds (S.length * 33 + 32) u', by rw [List.length_append, List.length_singleton, h2], hB, heap_setCell_same W g _ _ _ _ hg, by rw [List.length_append, List.length_singleton]; exact hn, hm, by rw [Array.size_setIfInBounds]; exact hs, ?_⟩⟩
      · rcases List.mem_append.1 hy with hy | hy
        · exact hS y hy
        · rw [List.mem_singleton.1 hy]; exact hk
      · rw [Array.toList_setIfInBounds, List.length_append, List.length_singleton, List.take_set, hc]
        exact cfT_set hS hk u u' ps ps'
  · rcases List.mem_append.1 hy with hy | hy
    · exact hS y hy
    · rw [List.mem_singleton.1 hy]; exact hk
  · obtain ⟨h3, h4, h5⟩ := hlit y hy
    refine ⟨h3.keep ho (fun b hb => hne b (h5 b hb).1), h4, fun b hb => ?_⟩
    obtain ⟨⟨cs, h6⟩, h7⟩ := h5 b hb
    exact ⟨⟨cs, (ho.block b (Array.getElem?_eq_some_iff.1 h6).1 (hne b ⟨cs, h6⟩)).trans h6⟩, h7⟩
/-- The stack stays as the walk turns. -/
theorem Sk.wk {W0 W W' : World} {wk g bm ml : Nat} {X : Lx} {fv lv lv' v : Value} {o : List Key} {S : Lx} (h : Sk W W0.heap.size lv v S) (K : WK W0 W wk g bm ml X fv lv o) (ho : Only (wS wk ml lv) W W') (loc : ∀ j, lv'.ownBlock = some j → lv.ownBlock = some j ∨ W.heap.size ≤ j) : Sk W' W0.heap.size lv' v S := by
  obtain ⟨es, cc, hml⟩ : ∃ es cc, W.heap[ml]? = some (.map es cc) := by
    obtain ⟨R, h4, _⟩ := K.set
    obtain ⟨M, h5, _⟩ := h4.ex
    exact h5.ismap
  refine h.keep ho (fun j hj e => ?_) (fun b cs hb hl => ⟨fun e => ?_, fun e => ?_⟩)
  · rcases e with rfl | rfl | e
    · exact own_apart h.own K.cell (by decide) hj
    · exact own_nomap h.own hml hj
    · obtain ⟨cs, h6, _⟩ := own_type h.own hj
      exact own_apart K.own h6 (by decide) e
  · rcases e with rfl | rfl | e
    · rw [K.cell] at hb
      injection hb with hb
      injection hb with _ hb _
      revert hb; decide
    · rw [hml] at hb; cases hb
    · exact hl e
  · rcases loc b e with h1 | h1
    · exact hl h1
    · have := (Array.getElem?_eq_some_iff.1 hb).1; omega
theorem vis_idx {t : Nat} (ht : t + 1 ≤ 2000) : wrap64 (t : Int) = (t : Int) ∧ (0 : Int) ≤ (t : Int) ∧ (t : Int) < (t : Int) + 1 ∧ (t : Int) + 1 > 0 := by
  unfold wrap64; omega
/-- What a visit does. -/
def ViPost (W0 w : World) (wk g bm ml : Nat) (X : Lx) (fv lv : Value) (o' : List Key) (e : Ending) (w' : World) : Prop :=
  e = .returned (.tuple #[]) ∧ ∃ lv', WK W0 w' wk g bm ml X fv lv' o' ∧ Only (wS wk ml lv) w w' ∧ ∀ j, lv'.ownBlock = some j → lv.ownBlock = some j ∨ w.heap.size ≤ j
set_option linter.unusedSimpArgs false in
set_option maxRecDepth 20000 in
set_option maxHeartbeats 8000000 in
attribute [local go_sem ↓] hld_open in
theorem visit_to (W0 w : World) (wk g bm ml : Nat) (X : Lx) (fv lv : Value) (o : List Key) (H : WK W0 w wk g bm ml X fv lv o) (D : Key → Bool) (hD : Dn W0 fv D) (HW : Wf (gr X)) (x : Key) (hx : x.length = 32) (N : Nat) (o' : List Key) (hv' : VL (gr X) D N o [x] o') (ho' : o'.length ≤ 1000) :
    Calls Try.prog 31 #[wkp wk, .agg (hv x)] w (ViPost W0 w wk g bm ml X fv lv o') := by
  have BA := Lib.hid (below_al11 w (.cells (hv x) 27))
  have HB := Lib.hid (heap_alloc_last w (.cells (hv x) 27))
  have HK := Lib.hid (H.kb BA.out)
  have HX := Lib.hid hx
  have HWF := Lib.hid HW
  have HDN := Lib.hid hD
  have HO := Lib.hid ho'
  have HV := Lib.hid hv'.one
  clear H hx HW hD ho' hv'
  go_enter Try.func31, Try.ntmps31
  go_upto_region 1 with fail
  generalize w.alloc (.cells (hv x) 27) = w0 at *
  generalize hb : w.heap.size = b at HB
  clear hb
  have hld0 := hld_row HX.out HB.out
  have HEN := Lib.hid (enter_to W0 w0 wk g bm ml X fv lv o HK.out D HDN.out HWF.out (.slice none 0 0) [] (sk_nil w0 W0.heap.size lv) x HX.out (by decide))
  go_wp2_with fail
  refine HEN.out.mono ?_
  rintro e w1 ⟨v1, rfl, k1, o1, loc1, h1⟩
  obtain ⟨S, m, hS, hR⟩ : ∃ S m, Sk w1 W0.heap.size lv v1 S ∧ Run (gr X) D m o (stk S) o' := by
    rcases h1 with ⟨hk, rfl, hs⟩ | ⟨h2, h3, u, hs⟩
    · refine ⟨[], 0, hs, ?_⟩
      rcases HV.out with ⟨_, rfl⟩ | ⟨h2, h3, _⟩
      · exact .nil _
      · exact absurd hk (by simp [h2, h3])
    · rcases HV.out with ⟨hk, _⟩ | ⟨_, _, m, hr⟩
      · exact absurd hk (by simp [h2, h3])
      · exact ⟨_, m, hs, hr⟩
  have K1 := Lib.hid k1
  have S1 := Lib.hid hS
  have R1 := Lib.hid hR
  have O1 : Hid (Only (wS wk ml lv) w w1) := Lib.hid ((Only.of_below (S := wS wk ml lv) BA.out).trans o1 (fun _ h => h) (fun _ _ h => by cases h))
  obtain ⟨q1, n1, c1, rfl, hn1⟩ := hS.shape
  have L1 : Hid (∀ j, (Value.slice q1 n1 c1).ownBlock = some j → w.heap.size ≤ j) := Lib.hid (fun j hj => (loc1 j hj).elim (fun h => by cases h) (fun h => Nat.le_trans BA.out.size h))
  have N1 := Lib.hid hn1
  clear k1 o1 loc1 h1 hS hR hn1 HEN hld0 HK HV HB
  go_wp2_with fail
  go_loopg [4] m (fun k v4 wr => ∃ (lc : Value) (oc : List Key) (S : Lx) (q : Option Addr) (n c : Nat), v4 = .slice q n c ∧ Hid (n = S.length) ∧ Hid (WK W0 wr wk g bm ml X fv lc oc) ∧ Hid (Sk wr W0.heap.size lc (.slice q n c) S) ∧ Hid (Run (gr X) D k oc (stk S) o') ∧ Hid (Only (wS wk ml lv) w wr) ∧ Hid (∀ j, lc.ownBlock = some j → lv.ownBlock = some j ∨ w.heap.size ≤ j) ∧ Hid (∀ j, (Value.slice q n c).ownBlock = some j → w.heap.size ≤ j))
  case atStart => exact ⟨lv, o, S, q1, n1, c1, rfl, N1, K1, S1, R1, O1, Lib.hid (fun j hj => .inl hj), L1⟩
  case round =>
    clear N1 K1 S1 R1 O1 L1
    obtain ⟨lc, oc, S, q, n, c, rfl, HN, K, SK, R, OW, LC, LS⟩ := hrel
    cases hS : S.reverse with
    | nil =>
      obtain rfl : S = [] := by simpa using hS
      obtain rfl : n = 0 := HN.out
      clear hS
      go_wp2_with fail
      refine bodyPost_end (results_none rfl _ _ _) rfl ?_
      have e := R.out.done
      subst e
      exact ⟨rfl, lc, K.out, OW.out, LC.out⟩
    | cons x0 S' =>
      obtain ⟨S2, rfl⟩ : ∃ S2, S = S2 ++ [x0] := ⟨S'.reverse, by rw [← List.reverse_reverse S, hS, List.reverse_cons]⟩
      clear hS S'
      obtain ⟨h, u, ps⟩ := x0
      obtain ⟨sb, cur, rfl, hB, hn, hnc, hg, hrg⟩ := SK.out.top
      dsimp only at hrg
      have hlen := R.out.len
      have hstl : (stk (S2 ++ [(h, (u, ps))])).length = S2.length + 1 := by simp [stk]
      rw [hstl] at hlen
      have hh32 : h.length = 32 := SK.out.h32 (h, (u, ps)) (by simp)
      obtain ⟨hus, hp32, hub⟩ := SK.out.lit (h, (u, ps)) (by simp)
      dsimp only at hus hp32 hub
      obtain ⟨pu, cu, rfl⟩ := hus.shape
      obtain ⟨m, hm⟩ : ∃ m, m = S2.length := ⟨_, rfl⟩
      rw [← hm] at hn hrg hlen
      subst hn
      obtain ⟨i1, i2, i3, i4⟩ := vis_idx (t := m) (by have := HO.out; omega)
      have hcm : (m : Int) ≤ (c : Int) := by omega
      have hcu : wr.cell? ⟨sb, m * 33 + 32, none⟩ = some (.slice pu ps.length cu) := hrg 32 _ (by rw [List.getElem?_append_right (by rw [usn_length, hh32]; exact Nat.le_refl _), usn_length, hh32]; rfl)
      have hldh := hld_range hh32 (rng_pre hrg)
      have HH := Lib.hid hh32
      have HM := Lib.hid hm
      have HLN : Hid (oc.length + 1 ≤ 1000 ∧ S2.length + 1 ≤ 1000) := Lib.hid (by have := HO.out; omega)
      have HUS := Lib.hid hus
      have HP32 := Lib.hid hp32
      have HR : Hid (Run (gr X) D gk oc ((h, ps) :: stk S2) o') := Lib.hid (by have := R.out; rwa [stk_snoc] at this)
      have HRNG := Lib.hid hrg
      have HG := Lib.hid hg
      obtain ⟨lu, hlu⟩ : ∃ lu, lu = ps.length := ⟨_, rfl⟩
      rw [← hlu] at hcu HUS
      rw [← hlu] at SK
      have HLU := Lib.hid hlu
      clear hg hrg hlen hstl hh32 hus hp32 hub hm hlu HN R hB hnc
      cases ps with
      | nil =>
        obtain rfl : lu = 0 := HLU.out
        go_wp2_with fail
        refine (wadd_to W0 wr wk g bm ml X fv lc oc K.out h HH.out (by have := HLN.out; omega)).mono ?_
        rintro e w5 ⟨rfl, lc', k5, o5, l5⟩
        have SK5 := Lib.hid (SK.out.wk K.out o5 l5).cut
        obtain ⟨m', hm', r'⟩ := HR.out.pop
        have HM5 := Lib.hid hm'
        have R5 := Lib.hid r'
        have K5 := Lib.hid k5
        have OW5 : Hid (Only (wS wk ml lv) w w5) := Lib.hid (OW.out.trans o5 (fun _ h => h) (fun j hj h => by
          rcases h with h | h | h
          · exact .inl h
          · exact .inr (.inl h)
          · rcases LC.out j h with h | h
            · exact .inr (.inr h)
            · omega))
        have LC5 : Hid (∀ j, lc'.ownBlock = some j → lv.ownBlock = some j ∨ w.heap.size ≤ j) := Lib.hid (fun j hj => (l5 j hj).elim (LC.out j) (fun h => .inr (Nat.le_trans OW.out.size h)))
        clear k5 o5 l5 hm' r' hcu hldh
        go_wp2_with fail
        go_roundg m'
        case measure => exact HM5.out
        case rel => exact ⟨lc', oc ++ [h], S2, _, m, c, rfl, HM, K5, Lib.hid (by rw [HM.out]; exact SK5.out), R5, OW5, LC5, Lib.hid (fun j hj => LS.out j hj)⟩
      | cons p ps =>
        obtain ⟨lw, rfl⟩ : ∃ lw, lu = lw + 1 := ⟨ps.length, HLU.out⟩
        have hp0 : p.length = 32 := HP32.out p List.mem_cons_self
        obtain ⟨b, o0, c', e1, hr0⟩ := HUS.out.at HP32.out (i := 0) (by simp)
        injection e1 with e1 e2 e3
        subst e1
        rw [Nat.zero_mul, Nat.add_zero] at hr0
        have hldp := hld_range hp0 hr0
        have hlc : lw + 1 ≤ cu := by
          rcases HUS.out with ⟨h1, _⟩ | ⟨a, cap, h1, h2, _⟩
          · cases h1
          · injection h1 with _ h1 h3; omega
        have HLC := Lib.hid hlc
        have st := hst_cells p hp0 wr
        have hks : (hv p).size = 32 := by rw [hv_size, hp0]
        have AL := Lib.hid (below_al11 wr (.cells (hv p) 27))
        have HBP := Lib.hid (heap_alloc_last wr (.cells (hv p) 27))
        have K5 := Lib.hid (K.out.kb AL.out)
        have SK5 := Lib.hid (SK.out.kb AL.out)
        have OW5 : Hid (Only (wS wk ml lv) w (wr.alloc (.cells (hv p) 27))) := Lib.hid (OW.out.trans (Only.of_below (S := wS wk ml lv) AL.out) (fun _ h => h) (fun _ _ h => h))
        have HG5 := Lib.hid ((mild_below AL.out).cells HG.out)
        have HUS5 := Lib.hid (HUS.out.mild (mild_below AL.out))
        have HP := Lib.hid hp0
        have hcu5 := (mild_below AL.out).cell hcu
        have hf5 : (wr.alloc (.cells (hv p) 27)).frozen? ⟨sb, m * 33 + 32, none⟩ = false := frozen_of_row _ _ _ _ _ HG5.out
        have hb1 : (1 : Int) ≤ (lw : Int) + 1 := by omega
        have hb2 : (lw : Int) + 1 ≤ cu := by omega
        have hb3 : (1 : Int) ≤ cu := by omega
        clear hp0 e2 e3 hr0 hlc
        go_upto_region 8 with fail
        clear st
        generalize wr.alloc (.cells (hv p) 27) = w5 at *
        generalize wr.heap.size = pb at *
        go_upto_region 9 with fail
        have hTL : HSeen w5 (.slice (if cu = 1 then some ⟨b, o0, none⟩ else some ⟨b, o0 + 32, none⟩) lw (cu - 1)) ps := HUS5.out.tail HP.out
        have hSB : ∀ b', sblk (.slice (if cu = 1 then some ⟨b, o0, none⟩ else some ⟨b, o0 + 32, none⟩) lw (cu - 1)) = some b' → sblk (.slice (some ⟨b, o0, none⟩) (lw + 1) cu) = some b' := fun b' h9 => by
          split at h9 <;> exact h9
        have hset := SK5.out.set hTL (fun y hy => HP32.out y (List.mem_cons_of_mem _ hy)) hSB
        rw [← HM.out] at hset
        obtain ⟨s6, o6⟩ := hset
        have SK6 := Lib.hid s6
        have K6 := Lib.hid (K5.out.stk SK5.out.own o6)
        have HB6 := Lib.hid ((o6.block pb (Array.getElem?_eq_some_iff.1 HBP.out).1 (own_apart SK5.out.own HBP.out (by decide))).trans HBP.out)
        have OW6 := Lib.hid (OW5.out.trans o6 (fun _ h => h) (fun j hj h => by have := LS.out j h; omega))
        clear hTL hSB s6 o6 hcu5 hf5 hb1 hb2 hb3 hldp K5 SK5 OW5 HBP HG5 HUS5
        generalize (Value.slice (if cu = 1 then some ⟨b, o0, none⟩ else some ⟨b, o0 + 32, none⟩) lw (cu - 1)) = u' at *
        generalize w5.setCell ⟨sb, m * 33 + 32, none⟩ u' = w6 at *
        have hld6 := hld_row HP.out HB6.out
        have HEN := Lib.hid (enter_to W0 w6 wk g bm ml X fv lc oc K6.out D HDN.out HWF.out (.slice (some ⟨sb, 0, none⟩) (m + 1) c) (S2 ++ [(h, (u', ps))]) SK6.out p HP.out (by have := HLN.out; rw [List.length_append, List.length_singleton]; omega))
        go_wp2_with fail
        refine HEN.out.mono ?_
        rintro e w7 ⟨v7, rfl, k7, o7, loc7, h7⟩
        obtain ⟨m', hm', r1, r2⟩ := HR.out.next
        obtain ⟨S7, hS7, hR7⟩ : ∃ S7, Sk w7 W0.heap.size lc v7 S7 ∧ Run (gr X) D m' oc (stk S7) o' := by
          rcases h7 with ⟨hk, rfl, hs⟩ | ⟨h8, h9, u, hs⟩
          · exact ⟨_, hs, by rw [stk_snoc]; exact r1 hk⟩
          · exact ⟨_, hs, by rw [stk_snoc, stk_snoc]; exact r2 h8 h9⟩
        have HM7 := Lib.hid hm'
        have K7 := Lib.hid k7
        have SK7 := Lib.hid hS7
        have R7 := Lib.hid hR7
        have OW7 : Hid (Only (wS wk ml lv) w w7) := Lib.hid (OW6.out.trans o7 (fun _ h => h) (fun j hj h => by have := LS.out j h; omega))
        have LS7 : Hid (∀ j, v7.ownBlock = some j → w.heap.size ≤ j) := Lib.hid (fun j hj => (loc7 j hj).elim (LS.out j) (fun h => Nat.le_trans OW6.out.size h))
        obtain ⟨q7, n7, c7, rfl, hn7⟩ := hS7.shape
        have HN7 := Lib.hid hn7
        clear k7 o7 loc7 h7 hm' r1 r2 hS7 hR7 hn7 HEN hld6
        go_wp2_with fail
        go_roundg m'
        case measure => exact HM7.out
        case rel => exact ⟨lc, oc, S7, q7, n7, c7, rfl, HN7, K7, SK7, R7, OW7, LC, LS7⟩
end Go.Proofs.Ytnpeahbbcolfmaa
namespace Go.Proofs.Ytnpeahbbcolfmaa
open Go.RowKit
open Go.Maps
theorem Dn.kb {w W0 : World} {fv : Value} {D : Key → Bool} (h : Dn w fv D) (b : Below w.heap.size w W0) : Dn W0 fv D := by
  rcases h with h | ⟨k, c, h1, h2, h3⟩
  · exact .inl h
  · exact .inr ⟨k, c, h1, h2, fun V hV => h3 V (b.trans (hV.mono b.size))⟩
theorem Dn.none (w : World) : Dn w .nilFunc fun _ => false := .inl ⟨rfl, fun _ => rfl⟩
theorem Dn.cells {w : World} {fv : Value} {D : Key → Bool} (h : Dn w fv D) : fv = .nilFunc ∨ ∃ k c, fv = .func (.func k) #[] c := by
  rcases h with ⟨rfl, _⟩ | ⟨k, c, h1, _, _⟩
  · exact .inl rfl
  · exact .inr ⟨k, c, h1⟩
set_option maxRecDepth 20000 in
theorem newwalk_to (w : World) (g : Nat) (fv : Value) (hf : fv = .nilFunc ∨ ∃ k c, fv = .func (.func k) #[] c) :
    Calls Try.prog 29 #[gp g, fv] w fun e w' => e = .returned (wkp (w.heap.size + 1)) ∧ w'.heap[w.heap.size + 1]? = some (.cells #[gp g, fv, .slice none 0 0, .map (some w.heap.size)] 74 (0, 0)) ∧ SetH w' w.heap.size [] ∧ Below w.heap.size w w' := by
  have hmm := @run_makeMap Try.prog
  have b1 : Below w.heap.size w (w.alloc (.map #[] 0)) := (Below.refl _ w).alloc (Nat.le_refl _) _
  have hs1 : (w.alloc (.map #[] 0)).heap.size = w.heap.size + 1 := by simp
  have B2 : Hid (∀ cs, Below w.heap.size w ((w.alloc (.map #[] 0)).alloc (.cells cs 74))) := Lib.hid (fun cs => b1.alloc b1.size _)
  have S2 : Hid (∀ cs, SetH ((w.alloc (.map #[] 0)).alloc (.cells cs 74)) w.heap.size []) := Lib.hid (fun cs => (setH_made w).kb (below_al11 (w.alloc (.map #[] 0)) (.cells cs 74)) (by rw [hs1]; exact Nat.lt_succ_self _))
  have H2 : Hid (∀ cs, ((w.alloc (.map #[] 0)).alloc (.cells cs 74)).heap[w.heap.size + 1]? = some (.cells cs 74 (0, 0))) := Lib.hid (fun cs => by have := heap_alloc_last (w.alloc (.map #[] 0)) (.cells cs 74); rwa [hs1] at this)
  clear b1
  rcases hf with rfl | ⟨k, c, rfl⟩
  · go_enter Try.func29, Try.ntmps29
    go_wp2
    go_ret
    exact ⟨rfl, H2.out _, S2.out _, B2.out _⟩
  · go_enter Try.func29, Try.ntmps29
    go_wp2
    go_ret
    exact ⟨rfl, H2.out _, S2.out _, B2.out _⟩
theorem wk_new {W0 W : World} {g bm : Nat} {X : Lx} {fv : Value} (b : Below W0.heap.size W0 W) (hga : GA W0 g bm X) (hc : W.heap[W0.heap.size + 1]? = some (.cells #[gp g, fv, .slice none 0 0, .map (some W0.heap.size)] 74 (0, 0))) (hs : SetH W W0.heap.size []) : WK W0 W (W0.heap.size + 1) g bm W0.heap.size X fv (.slice none 0 0) [] :=
  ⟨b, hc, hga, World.ownsRow_nil _ _ _ _, ⟨[], hs, fun _ => Iff.rfl⟩, H32.nil, ⟨Nat.le_succ _, Nat.le_refl _⟩⟩
/-- What a walk has listed is among the graph's commits, none of it twice. -/
theorem vl_len {G : Gr} {D : Key → Bool} (W : Wf G) {n : Nat} {hs o : List Key} (v : VL G D n [] hs o) (h : ∀ x ∈ hs, (aget x G).isSome = true) : o.length ≤ 1000 :=
  Nat.le_trans (in_len (v.nodup W List.nodup_nil) (v.inG W.clo (fun _ h => by cases h) h)) W.few
/-- A row of hashes of one's own stays as the walk turns. -/
theorem own_wk {W0 W W' : World} {wk g bm ml B : Nat} {X : Lx} {fv lv v : Value} {o E : List Key} (h : HOwn W B v E) (K : WK W0 W wk g bm ml X fv lv o) (ho : Only (wS wk ml lv) W W') (hne : ∀ j, v.ownBlock = some j → lv.ownBlock ≠ some j) : HOwn W' B v E := by
  obtain ⟨es, cc, hml⟩ : ∃ es cc, W.heap[ml]? = some (.map es cc) := by
    obtain ⟨R, h4, _⟩ := K.set
    obtain ⟨M, h5, _⟩ := h4.ex
    exact h5.ismap
  refine own_keep h ho (fun j hj e => ?_)
  rcases e with rfl | rfl | e
  · exact own_apart h K.cell (by decide) hj
  · exact own_nomap h hml hj
  · exact hne j hj e
def hasB (G : Gr) (h : Key) : Bool := (aget h G).isSome
set_option linter.unusedSimpArgs false in
set_option maxRecDepth 20000 in
set_option maxHeartbeats 8000000 in
attribute [local go_sem ↓] hld_open in
theorem walk_to (w : World) (g bm : Nat) (X : Lx) (H : GA w g bm X) (HW : Wf (gr X)) (v : Value) (E : List Key) (hE : HSeen w v E) (h32 : H32 E) (hEl : E.length ≤ 1000000) (fv : Value) (D : Key → Bool) (hD : Dn w fv D) :
    Calls Try.prog 10 #[gp g, v, fv] w fun e w' => ∃ v' o', e = .returned v' ∧ HOwn w' w.heap.size v' o' ∧ (∃ N, VL (gr X) D N [] (E.filter (hasB (gr X))) o') ∧ Below w.heap.size w w' := by
  obtain ⟨pe, ce, rfl⟩ := hE.shape
  obtain ⟨ne, hne⟩ : ∃ ne, ne = E.length := ⟨_, rfl⟩
  rw [← hne] at hE hEl ⊢
  have hnp : ∀ w : World, (binOp .eql 23 (gp g) (.pointer none)).run Try.prog w = .ok (.bool false) w := fun w => by kernel_rfl
  have HCP := Lib.hid (copy_to w g bm X H)
  have HWF := Lib.hid HW
  have HE := Lib.hid hE
  have H3 := Lib.hid h32
  have HL := Lib.hid hEl
  have HN := Lib.hid hne
  have HDN := Lib.hid hD
  clear H HW hE h32 hEl hne hD
  go_enter Try.func10, Try.ntmps10
  go_wp2_with fail
  refine HCP.out.mono ?_
  rintro e w1 ⟨g', rfl, _, hga, b1⟩
  have B1 := Lib.hid b1
  have HGA := Lib.hid hga
  have HD1 := Lib.hid (HDN.out.kb b1)
  clear hga b1 HCP
  generalize w.heap.size = bm' at HGA
  go_wp2_with fail
  refine (newwalk_to w1 g' fv HD1.out.cells).mono ?_
  rintro e w2 ⟨rfl, hc, hs, b2⟩
  have K2 := Lib.hid (wk_new b2 HGA.out hc hs)
  have B2 : Hid (Below w.heap.size w w2) := Lib.hid (B1.out.trans (b2.mono B1.out.size))
  clear hc hs b2
  obtain ⟨wk, hwk⟩ : ∃ wk, wk = w1.heap.size + 1 := ⟨_, rfl⟩
  obtain ⟨ml, hml⟩ : ∃ ml, ml = w1.heap.size := ⟨_, rfl⟩
  have K2' : Hid (WK w1 w2 wk g' bm' ml X fv (.slice none 0 0) []) := Lib.hid (by rw [hwk, hml]; exact K2.out)
  rw [← hwk]
  clear K2 hwk hml
  go_wp2_with fail
  refine (hclone_any w2 _ E H3.out (by have := HL.out; have := HN.out; omega) (HE.out.mild (mild_below B2.out))).mono ?_
  rintro e w3 ⟨v3, rfl, o3, b3⟩
  obtain ⟨pc, nc, cc, rfl, hnc⟩ := own_sh o3
  rw [← HN.out] at hnc
  subst nc
  have O3 := Lib.hid o3
  have K3 := Lib.hid (K2'.out.kb b3)
  clear o3 b3 K2'
  go_wp2_with fail
  go_loopw [19] (fun v19 wr => ∃ i : Nat, v19 = .int .i64 i ∧ i ≤ ne ∧ Hid (∃ lc oc N, WK w1 wr wk g' bm' ml X fv lc oc ∧ VL (gr X) D N [] ((E.take i).filter (hasB (gr X))) oc ∧ ∀ j, (Value.slice pc ne cc).ownBlock = some j → lc.ownBlock ≠ some j) ∧ Hid (HOwn wr w2.heap.size (.slice pc ne cc) E)) (fun v19 _ => ne - (intOf v19).toNat)
  case atStart => exact ⟨0, rfl, Nat.zero_le _, Lib.hid ⟨_, [], 0, K3.out, by simpa using VL.nil [], fun _ _ h => by cases h⟩, O3⟩
  case round =>
    obtain ⟨i, rfl, hi, HK, O⟩ := hrel
    clear O3 K3
    obtain ⟨lc, oc, N, k0, v0, hne⟩ := HK.out
    have K := Lib.hid k0
    have V := Lib.hid v0
    have HNE := Lib.hid hne
    clear k0 v0 hne HK
    by_cases hlt : i < ne
    · obtain ⟨j1, j2, j3⟩ := next_fit hlt HL.out
      have hiE : i < E.length := by rw [← HN.out]; exact hlt
      obtain ⟨bb, o, c', e1, hrg⟩ := (HSeen.own O.out).at H3.out hiE
      injection e1 with e1 e2 e3
      subst e1
      have htk : E.take (i + 1) = E.take i ++ [E[i]] := List.take_succ_eq_append_getElem hiE
      obtain ⟨x, hx⟩ : ∃ x, x = E[i] := ⟨_, rfl⟩
      rw [← hx] at hrg htk
      have HX : Hid (x.length = 32) := Lib.hid (by rw [hx]; exact H3.out.at hiE)
      have hld0 := hld_range HX.out hrg
      have st := hst_cells x HX.out wr
      have hks : (hv x).size = 32 := by rw [hv_size, HX.out]
      have AL := Lib.hid (below_al11 wr (.cells (hv x) 27))
      have HB := Lib.hid (heap_alloc_last wr (.cells (hv x) 27))
      have K4 := Lib.hid (K.out.kb AL.out)
      have O4 := Lib.hid (own_below O.out AL.out)
      have HTK := Lib.hid htk
      have HIN := Lib.hid hlt
      have HJ1 := Lib.hid j1
      clear hx hrg htk hiE e2 e3 hi hlt K O
      go_upto_region 7 with fail
      clear st hld0
      generalize wr.alloc (.cells (hv x) 27) = w4 at *
      generalize wr.heap.size = hb at *
      have bq : Below w4.heap.size w4 w4.drew := blw_qt _ 1 w4
      have K5 := Lib.hid (K4.out.kb bq)
      have O5 := Lib.hid (own_below O4.out bq)
      have HB5 := Lib.hid ((mild_below bq).cells HB.out)
      clear bq K4 O4 HB
      obtain ⟨q, hq⟩ : ∃ q, q = hasB (gr X) x := ⟨_, rfl⟩
      have HQ := Lib.hid hq
      clear hq
      go_wp2_with fail
      try simp only [List.append]
      refine wp_region_noPanic ?_
      refine wp_region_held_drew (S := (fun V => V.cell? ⟨wk, 0, none⟩ = some (gp g') ∧ (hld ⟨hb, 0, none⟩).run Try.prog V = .ok (.agg (hv x)) V)) (by kernel_rfl) ⟨K5.out.c (i := 0) rfl, hld_row HX.out HB5.out⟩ (fun hHeld => ?_)
      generalize w4.drew = cw at *
      refine wpAnyH_take (i := 0) (v := ?_) (by simp only [List.getElem?_toArray, List.getElem?_cons_zero]; rfl) (by kernel_rfl) (by kernel_rfl) (by kernel_rfl) (fun _ _ _ h => h) (Or.inl ⟨by rfl, ?_⟩) (by assumption) ?_
      rotate_left
      · intro w hSw
        try dsimp only at hSw
        go_simp
        try with_reducible rfl
      try simp only [Act.put, List.setIfInBounds_toArray, List.set_cons_zero, List.set_cons_succ]
      refine wpAnyH_take (i := 1) (v := ?_) (by simp only [List.getElem?_toArray, List.getElem?_cons_succ, List.getElem?_cons_zero]; rfl) (by kernel_rfl) (by kernel_rfl) (by kernel_rfl) (fun _ _ _ h => h) (Or.inl ⟨by rfl, ?_⟩) (by assumption) ?_
      rotate_left
      · intro w hSw
        try dsimp only at hSw
        go_simp
        try with_reducible rfl
      try simp only [Act.put, List.setIfInBounds_toArray, List.set_cons_zero, List.set_cons_succ]
      refine wpAnyH_take (i := 2) (v := ?_) (by simp only [List.getElem?_toArray, List.getElem?_cons_succ, List.getElem?_cons_zero]; rfl) (by kernel_rfl) (by kernel_rfl) (by kernel_rfl) (fun _ _ _ h => h) (Or.inl ⟨by rfl, ?_⟩) (by assumption) ?_
      rotate_left
      · intro w hSw
        try dsimp only at hSw
        go_simp
        try with_reducible rfl
      try simp only [Act.put, List.setIfInBounds_toArray, List.set_cons_zero, List.set_cons_succ]
      refine wpAnyH_take (i := 3) (v := ?_) (by simp only [List.getElem?_toArray, List.getElem?_cons_succ, List.getElem?_cons_zero]; rfl) (by kernel_rfl) (by kernel_rfl) (by kernel_rfl) (fun _ _ _ h => h) (Or.inl ⟨by rfl, ?_⟩) (by assumption) ?_
      rotate_left
      · intro w hSw
        try dsimp only at hSw
        go_simp
        try with_reducible rfl
      try simp only [Act.put, List.setIfInBounds_toArray, List.set_cons_zero, List.set_cons_succ]
      refine wpAnyH_take (i := 4) (v := ?_) (by simp only [List.getElem?_toArray, List.getElem?_cons_succ, List.getElem?_cons_zero]; rfl) (by kernel_rfl) (by kernel_rfl) (by kernel_rfl) (fun _ _ _ h => h) (Or.inl ⟨by rfl, ?_⟩) (by assumption) ?_
      rotate_left
      · intro w hSw
        try dsimp only at hSw
        go_simp
        try with_reducible rfl
      try simp only [Act.put, List.setIfInBounds_toArray, List.set_cons_zero, List.set_cons_succ]
      refine wpAnyH_ready (rs := [5]) (by kernel_rfl) (by simp) ?_
      refine AllReadyH.cons (by simp only [List.getElem?_toArray, List.getElem?_cons_succ, List.getElem?_cons_zero]; rfl) (fun K hK => ?_) AllReadyH.nil
      go_simp
      have hhs := has_to cw g' bm' X x HX.out K5.out.g
      rw [show (aget x (gr X)).isSome = q from HQ.out.symm] at hhs
      refine hhs.mono ?_
      clear hhs
      rintro e cx ⟨rfl, bb1⟩
      have K6 := Lib.hid (K5.out.kb bb1)
      have O6 := Lib.hid (own_below O5.out bb1)
      have HB6 := Lib.hid ((mild_below bb1).cells HB5.out)
      clear bb1 K5 O5 HB5
      go_wp2_with fail
      refine hK.out _ _ ⟨K6.out.c (i := 0) rfl, hld_row HX.out HB6.out⟩ (fun hHeld => ?_)
      clear hK K
      try simp only [Act.put, List.setIfInBounds_toArray, List.set_cons_zero, List.set_cons_succ]
      refine wpAnyH_done (by kernel_rfl) ?_ _
      refine NoPanic.normal ?_
      clear hHeld
      rename World => w6
      cases q with
      | false =>
        go_wp2_with fail
        refine ⟨⟨i + 1, by first | rw [HJ1.out] | rfl, HIN.out, Lib.hid ⟨lc, oc, N, K6.out, ?_, HNE.out⟩, O6⟩, ?_⟩
        · rw [HTK.out, List.filter_append]
          simp only [List.filter_cons, List.filter_nil, ← HQ.out, Bool.false_eq_true, if_false, List.append_nil]
          exact V.out
        · first | exact meas_nv HIN.out HJ1.out | exact meas_nw HIN.out
      | true =>
        obtain ⟨N2, o2, v2⟩ := VL.ex' HWF.out D [x] oc
        obtain ⟨N3, v3⟩ := V.out.app v2
        have hfl : (E.take (i + 1)).filter (hasB (gr X)) = (E.take i).filter (hasB (gr X)) ++ [x] := by
          rw [HTK.out, List.filter_append]
          simp only [List.filter_cons, List.filter_nil, ← HQ.out, if_true]
        have V3 : Hid (VL (gr X) D N3 [] ((E.take (i + 1)).filter (hasB (gr X))) o2) := Lib.hid (by rw [hfl]; exact v3)
        have HO2 : Hid (o2.length ≤ 1000) := Lib.hid (vl_len HWF.out V3.out (fun y hy => (List.mem_filter.1 hy).2))
        have HVI := Lib.hid (visit_to w1 w6 wk g' bm' ml X fv lc oc K6.out D HD1.out HWF.out x HX.out N2 o2 v2 HO2.out)
        have hld6 := hld_row HX.out HB6.out
        clear v2 v3 hfl
        go_wp2_with fail
        refine HVI.out.mono ?_
        rintro e w7 ⟨rfl, lc', k7, o7, l7⟩
        have K7 := Lib.hid k7
        have O7 := Lib.hid (own_wk O6.out K6.out o7 HNE.out)
        have HNE7 : Hid (∀ j, (Value.slice (some ⟨bb, o, none⟩) ne cc).ownBlock = some j → lc'.ownBlock ≠ some j) := Lib.hid (fun j hj e => (l7 j e).elim (HNE.out j hj) (fun h => by have := own_lt O6.out j hj; omega))
        clear k7 o7 l7 hld6
        go_wp2_with fail
        refine ⟨⟨i + 1, by first | rw [HJ1.out] | rfl, HIN.out, Lib.hid ⟨lc', o2, N3, K7.out, V3.out, HNE7.out⟩, O7⟩, ?_⟩
        first | exact meas_nv HIN.out HJ1.out | exact meas_nw HIN.out
    · obtain rfl : i = ne := by omega
      have hl2 : decide ((i : Int) < i) = false := by simp
      have hcl := K.out.c (i := 2) rfl
      clear hlt hi
      go_wp2_with fail
      go_ret
      refine ⟨lc, oc, rfl, own_lower K.out.own B1.out.size, ⟨N, ?_⟩, B1.out.trans (K.out.bel.mono B1.out.size)⟩
      have h := V.out
      rwa [List.take_of_length_le (by rw [HN.out]; exact Nat.le_refl _)] at h
end Go.Proofs.Ytnpeahbbcolfmaa
namespace Go.Proofs.Ytnpeahbbcolfmaa
open Go.RowKit
open Go.Maps
end Go.Proofs.Ytnpeahbbcolfmaa
namespace Go.Proofs.Ytnpeahbbcolfmaa
open Go.RowKit Go.Extern.Stop Go.Stop Go.Extern
open Go.Maps
def l3 (x y : UInt8) : Key := [x, y, 1, 0, 0, 0, 0, 0, 0, 0, 0, 0, 0, 0, 0, 0, 0, 0, 0, 0, 0, 0, 0, 0, 0, 0, 0, 0, 0, 0, 0, 0]
theorem l3_built (x y : UInt8) : Try.prog.built 27 [(0, .int .u8 (x.toNat : Int)), (1, .int .u8 (y.toNat : Int)), (2, .int .u8 1)] = some (hv (l3 x y)) := by kernel_rfl
/-- The hash of number k. -/
def lk (k : Nat) : Key := l3 (UInt8.ofNat (k / 256)) (UInt8.ofNat k)
theorem lk_len (k : Nat) : (lk k).length = 32 := rfl
theorem lk_lt {j k : Nat} (h : j < k) (hk : k < 65536) : bytesBefore (lk j) (lk k) = true := by
  unfold lk l3
  simp only [bytesBefore, Bool.or_eq_true, Bool.and_eq_true, decide_eq_true_eq, beq_iff_eq, UInt8.lt_iff_toNat_lt, ← UInt8.toNat_inj, UInt8.toNat_ofNat']
  omega
theorem lk_inj {j k : Nat} (hj : j < 65536) (hk : k < 65536) (h : lk j = lk k) : j = k := by
  rcases Nat.lt_trichotomy j k with h1 | h1 | h1
  · have := lk_lt h1 hk; rw [h, bb_irrefl] at this; cases this
  · exact h1
  · have := lk_lt h1 hj; rw [h, bb_irrefl] at this; cases this
def lp (k : Nat) : List Key := if k = 0 then [] else [lk (k - 1)]
abbrev lcm (k : Nat) : Cm := (lk k, lp k)
/-- m commits from number a on. -/
def seg (a m : Nat) : List Cm := (List.range' a m).map lcm
theorem seg_len (a m : Nat) : (seg a m).length = m := by simp [seg]
theorem seg_cons (a m : Nat) : seg a (m + 1) = lcm a :: seg (a + 1) m := by simp [seg, List.range'_succ]
theorem seg_snoc (a m : Nat) : seg a (m + 1) = seg a m ++ [lcm (a + m)] := by
  unfold seg
  rw [List.range'_concat, List.map_append, Nat.one_mul]
  rfl
theorem seg_mem {a m : Nat} {c : Cm} : c ∈ seg a m ↔ ∃ k, a ≤ k ∧ k < a + m ∧ c = lcm k := by
  unfold seg
  simp only [List.mem_map, List.mem_range'_1]
  exact ⟨fun ⟨k, h, e⟩ => ⟨k, h.1, h.2, e.symm⟩, fun ⟨k, h1, h2, e⟩ => ⟨k, ⟨h1, h2⟩, e.symm⟩⟩
theorem seg_asc {a m : Nat} (h : a + m ≤ 65536) : AAsc (seg a m) := by
  unfold AAsc seg
  refine List.pairwise_map.2 ((List.pairwise_lt_range' (s := a) (n := m)).imp_of_mem fun {x y} hx hy hxy => lk_lt hxy ?_)
  have := (List.mem_range'_1.1 hy).2
  omega
theorem seg_get {a m k : Nat} (h : a + m ≤ 65536) (h1 : a ≤ k) (h2 : k < a + m) : aget (lk k) (seg a m) = some (lp k) :=
  aget_of_mem (seg_asc h) (seg_mem.2 ⟨k, h1, h2, rfl⟩)
theorem seg_none {a m k : Nat} (h : a + m ≤ 65536) (hk : k < 65536) (h1 : k < a ∨ a + m ≤ k) : aget (lk k) (seg a m) = none := by
  cases e : aget (lk k) (seg a m) with
  | none => rfl
  | some ps =>
    obtain ⟨j, g1, g2, g3⟩ := seg_mem.1 (aget_mem e)
    have := lk_inj hk (by omega) (congrArg Prod.fst g3)
    omega
theorem ains_end {α : Type} {x : Key × α} : ∀ {l : List (Key × α)}, (∀ y ∈ l, bytesBefore x.1 y.1 = false) → ains x l = l ++ [x]
  | [], _ => rfl
  | y :: l, h => by
    rw [ains, h y List.mem_cons_self]
    simp only [Bool.false_eq_true, if_false, List.cons_append]
    rw [ains_end fun z hz => h z (List.mem_cons_of_mem _ hz)]
theorem adel_off {α : Type} {n : Key} {l : List (Key × α)} (h : ∀ y ∈ l, y.1 ≠ n) : adel n l = l := List.filter_eq_self.2 fun y hy => by simpa using h y hy
theorem seg_put {a m : Nat} (h : a + m < 65536) : aput (lk (a + m)) (lp (a + m)) (seg a m) = seg a (m + 1) := by
  have hne : ∀ y ∈ seg a m, ∃ k, y.1 = lk k ∧ k < a + m := fun y hy => by
    obtain ⟨k, _, g2, rfl⟩ := seg_mem.1 hy
    exact ⟨k, rfl, g2⟩
  unfold aput
  rw [adel_off fun y hy e => (by obtain ⟨k, e1, e2⟩ := hne y hy; rw [e1] at e; have := lk_inj (by omega) h e; omega), ains_end fun y hy => ?_, seg_snoc]
  obtain ⟨k, e1, e2⟩ := hne y hy
  rw [e1]
  cases hb : bytesBefore (lk (a + m)) (lk k) with
  | false => rfl
  | true =>
    have := bb_trans _ _ _ hb (lk_lt e2 h)
    rw [bb_irrefl] at this
    cases this
/-- The line of n commits. -/
abbrev chn (n : Nat) : Gr := seg 0 n
theorem chn_adds : ∀ (m a : Nat), a + m ≤ 65536 → adds (chn a) (seg a m) = chn (a + m)
  | 0, _, _ => rfl
  | m + 1, a, h => by
    rw [seg_cons, adds, if_neg (by rw [seg_none (by omega) (by omega) (by omega)]; simp)]
    have := seg_put (a := 0) (m := a) (by omega)
    rw [Nat.zero_add] at this
    rw [this, chn_adds m (a + 1) (by omega)]
    congr 1
    omega
theorem chn_addA : ∀ (m a j : Nat), a + j + m ≤ 65536 → addA (chn a) (seg a j) (seg (a + j) m) = seg a (j + m)
  | 0, _, _, _ => rfl
  | m + 1, a, j, h => by
    rw [seg_cons, addA, if_neg (by rw [seg_none (a := 0) (by omega) (by omega) (by omega), seg_none (by omega) (by omega) (by omega)]; simp), seg_put (by omega), show a + j + 1 = a + (j + 1) by omega, chn_addA m a (j + 1) (by omega)]
    congr 1
    omega
theorem chn_ck3 : ∀ (m a j : Nat), a + j + m ≤ 65536 → ck3 (chn a) (seg a j) (seg (a + j) m) = none
  | 0, _, _, _ => rfl
  | m + 1, a, j, h => by
    rw [seg_cons, ck3, seg_none (a := 0) (by omega) (by omega) (by omega), seg_none (by omega) (by omega) (by omega)]
    simp only [Option.or_none]
    rw [seg_put (by omega), show a + j + 1 = a + (j + 1) by omega]
    exact chn_ck3 m a (j + 1) (by omega)
theorem lp_len (k : Nat) : (lp k).length ≤ 1 := by unfold lp; split <;> simp
theorem lp_nd (k : Nat) : (lp k).Nodup := by unfold lp; split <;> simp
theorem lp_h32 (k : Nat) : H32 (lp k) := fun x hx => by
  unfold lp at hx
  split at hx
  · cases hx
  · rw [List.mem_singleton.1 hx]; rfl
theorem seg_ok (a m : Nat) : COk (seg a m) := fun c hc => by
  obtain ⟨k, _, _, rfl⟩ := seg_mem.1 hc
  exact ⟨lk_len k, lp_h32 k⟩
theorem seg_ck2 : ∀ (m a : Nat), ck2 (seg a m) = none
  | 0, _ => rfl
  | m + 1, a => by
    have := lp_len a
    rw [seg_cons, ck2, if_neg (by simp only; omega), if_pos (lp_nd a)]
    exact seg_ck2 m (a + 1)
theorem seg_ck4 (G A : Gr) : ∀ (m a : Nat), (∀ k, k < a + m → (aget (lk k) G).isSome = true ∨ (aget (lk k) A).isSome = true) → ck4 G A (seg a m) = none
  | 0, _, _ => rfl
  | m + 1, a, h => by
    have hm : miss G A (lp a) = none := by
      unfold lp
      split
      · rfl
      · rw [miss, if_pos (by rcases h (a - 1) (by omega) with h1 | h1 <;> simp [h1]), miss]
    rw [seg_cons, ck4]
    simp only [hm]
    exact seg_ck4 G A m (a + 1) fun k hk => h k (by omega)
theorem up_low {A : Gr} (hA : ∀ k, k < 65536 → ∀ q ∈ adj A (lk k), k ≠ 0 ∧ q = lk (k - 1)) {p x : Key} (h : Up (adj A) p x) : ∀ k, k < 65536 → p = lk k → ∃ i, i ≤ k ∧ x = lk i := by
  induction h with
  | refl => exact fun k _ e => ⟨k, Nat.le_refl _, e⟩
  | step h1 _ ih =>
    intro k hk e
    subst e
    obtain ⟨h2, h3⟩ := hA k hk _ h1
    obtain ⟨i, h4, h5⟩ := ih (k - 1) (by omega) h3
    exact ⟨i, by omega, h5⟩
theorem seg_adj {a m k : Nat} (h : a + m ≤ 65536) (hk : k < 65536) {q : Key} (hq : q ∈ adj (seg a m) (lk k)) : k ≠ 0 ∧ q = lk (k - 1) := by
  unfold adj at hq
  cases e : aget (lk k) (seg a m) with
  | none => rw [e] at hq; cases hq
  | some ps =>
    rw [e] at hq
    obtain ⟨j, g1, g2, g3⟩ := seg_mem.1 (aget_mem e)
    obtain rfl := lk_inj hk (by omega) (congrArg Prod.fst g3)
    obtain rfl : ps = lp k := congrArg Prod.snd g3
    simp only [Option.getD_some] at hq
    unfold lp at hq
    split at hq
    · cases hq
    · exact ⟨by omega, List.mem_singleton.1 hq⟩
theorem seg_ck6 {A : Gr} (hA : ∀ k, k < 65536 → ∀ q ∈ adj A (lk k), k ≠ 0 ∧ q = lk (k - 1)) : ∀ (m a : Nat), a + m ≤ 65536 → ck6 A (seg a m) = none
  | 0, _, _ => rfl
  | m + 1, a, h => by
    rw [seg_cons, ck6, if_neg ?_]
    · exact seg_ck6 hA m (a + 1) (by omega)
    · rintro ⟨p, hp, hu⟩
      have hp : p ∈ lp a := hp
      unfold lp at hp
      split at hp
      · cases hp
      · obtain ⟨i, h1, h2⟩ := up_low hA hu (a - 1) (by omega) (List.mem_singleton.1 hp)
        have := lk_inj (by omega) (by omega) h2
        omega
theorem chn_chk {a m : Nat} (h : a + m ≤ 1000) (hm : m ≤ 200) : chk (chn a) 2 (seg a m) [] = none := by
  have hA : addA (chn a) [] (seg a m) = seg a m := by
    have := chn_addA m a 0 (by omega)
    rwa [Nat.add_zero, Nat.zero_add] at this
  have h3 : ck3 (chn a) [] (seg a m) = none := by
    have := chn_ck3 m a 0 (by omega)
    rwa [Nat.add_zero] at this
  refine chk_fine.2 ⟨by simp [bnd, seg_len, hm], seg_ck2 m a, h3, ?_, rfl, ?_, by rw [hA, seg_len, seg_len]; exact h⟩
  · rw [hA]
    refine seg_ck4 _ _ m a fun k hk => ?_
    by_cases h1 : k < a
    · exact .inl (by rw [seg_get (a := 0) (by omega) (by omega) (by omega)]; rfl)
    · exact .inr (by rw [seg_get (by omega) (by omega) hk]; rfl)
  · rw [hA]
    exact seg_ck6 (fun k hk q hq => seg_adj (by omega) hk hq) m a (by omega)
/-- The hashes from the first one on. -/
def lks (n : Nat) : List Key := (List.range' 0 n).map lk
theorem lks_succ (n : Nat) : lks (n + 1) = lks n ++ [lk n] := by
  unfold lks
  rw [List.range'_concat, List.map_append, Nat.one_mul, Nat.zero_add]
  rfl
theorem lks_h32 (n : Nat) : H32 (lks n) := fun x hx => by
  obtain ⟨k, _, rfl⟩ := List.mem_map.1 hx
  rfl
theorem lks_len (n : Nat) : (lks n).length = n := by simp [lks]
theorem chn_walk {n : Nat} (h : n ≤ 65536) : ∀ k, k < n → ∃ N, VL (chn n) (fun _ => false) N [] [lk k] (lks (k + 1))
  | 0, hk => ⟨_, .go (o1 := []) (by simp) rfl (by unfold adj; rw [seg_get (by omega) (by omega) (by omega)]; exact .nil []) (.nil _)⟩
  | k + 1, hk => by
    obtain ⟨N, v⟩ := chn_walk h k (by omega)
    refine ⟨_, .go (o1 := lks (k + 1)) (by simp) rfl (n := N) ?_ (m := 0) ?_⟩
    · unfold adj
      rw [seg_get (by omega) (by omega) (by omega)]
      exact v
    · rw [lks_succ (k + 1)]
      exact .nil _
theorem chn_walked {n N : Nat} (h0 : 0 < n) (h : n ≤ 65536) {o : List Key} (v : VL (chn n) (fun _ => false) N [] ([lk (n - 1)].filter (hasB (chn n))) o) : o = lks n := by
  rw [List.filter_cons_of_pos (by unfold hasB; rw [seg_get (by omega) (by omega) (by omega)]; rfl), List.filter_nil] at v
  obtain ⟨M, u⟩ := chn_walk h (n - 1) (by omega)
  have := v.det u
  rwa [Nat.sub_add_cancel h0] at this
end Go.Proofs.Ytnpeahbbcolfmaa
