/- What a graph becomes: plain mathematics. No condition. · Add. Conditions: hashes of 32 bytes; no more than a million commits and parents. · What the hand tells of a refusal: Kind, Whose. Condition: errors.errorType holds what its text lays. -/
import Derived.Test.YthfkmfepeafgjaaGphO
namespace Go.Proofs.Ythfkmfepeafgjaa
open Go.RowKit
open Go.Maps

/-- The graph with some commits more. -/
def adds (G : Gr) : List Cm → Gr
  | [] => G
  | c :: cs => adds (if (aget c.1 G).isSome then G else aput c.1 c.2 G) cs
structure Wf (G : Gr) : Prop where
  asc : AAsc G
  h32 : COk G
  par : ∀ c ∈ G, c.2.length ≤ 4 ∧ c.2.Nodup
  clo : Clo G
  acy : ∀ h, ∀ p ∈ adj G h, ¬ Up (adj G) p h
  few : G.length ≤ 1000
theorem Wf.nil : Wf [] := ⟨.nil, fun _ h => (by cases h), fun _ h => (by cases h), fun _ _ h => (by unfold adj at h; simp [aget] at h), fun _ _ h => (by unfold adj at h; simp [aget] at h), Nat.zero_le _⟩
theorem aput_new_len {α : Type} {k : Key} {v : α} {M : List (Key × α)} (ha : AAsc M) (h : aget k M = none) : (aput k v M).length = M.length + 1 := by
  have := asum_put (fun _ => 1) k v ha
  rw [h] at this
  simp only [asum_one, olen] at this
  omega
theorem aget_put {α : Type} {x k : Key} {v : α} {M : List (Key × α)} : aget x (aput k v M) = if x = k then some v else aget x M := by
  by_cases e : x = k
  · subst e; rw [aget_put_same, if_pos rfl]
  · rw [aget_put_other _ _ _ e, if_neg e]
/-- M is G and A together. -/
structure Jn (G A M : Gr) : Prop where
  ascA : AAsc A
  ascM : AAsc M
  get : ∀ x, aget x M = (aget x G).or (aget x A)
  dis : ∀ x, (aget x A).isSome = true → aget x G = none
  len : M.length = G.length + A.length
theorem Jn.nil {G : Gr} (h : AAsc G) : Jn G [] G := ⟨.nil, h, fun x => by simp [aget], fun x h => by simp [aget] at h, by simp⟩
theorem Jn.adds {G : Gr} : ∀ {cs : List Cm} {A M : Gr}, Jn G A M → Jn G (addA G A cs) (adds M cs)
  | [], _, _, h => h
  | c :: cs, A, M, h => by
    rw [addA, Go.Proofs.Ythfkmfepeafgjaa.adds, h.get]
    by_cases e : ((aget c.1 G).or (aget c.1 A)).isSome = true
    · rw [if_pos e, if_pos e]
      exact Jn.adds h
    · rw [if_neg e, if_neg e]
      have e1 : aget c.1 G = none := by cases hg : aget c.1 G with
        | none => rfl
        | some y => rw [hg] at e; exact absurd rfl e
      have e2 : aget c.1 A = none := by
        rw [e1] at e
        cases hg : aget c.1 A with
        | none => rfl
        | some y => rw [hg] at e; exact absurd rfl e
      have e3 : aget c.1 M = none := by rw [h.get, e1, e2]; rfl
      refine Jn.adds ⟨h.ascA.put _ _, h.ascM.put _ _, fun x => ?_, fun x hx => ?_, ?_⟩
      · rw [aget_put, aget_put]
        by_cases ex : x = c.1
        · subst ex; rw [if_pos rfl, if_pos rfl, e1]; rfl
        · rw [if_neg ex, if_neg ex, h.get]
      · rw [aget_put] at hx
        by_cases ex : x = c.1
        · rw [ex, e1]
        · rw [if_neg ex] at hx; exact h.dis x hx
      · rw [aput_new_len h.ascM e3, aput_new_len h.ascA e2, h.len]; omega
theorem adds_jn {G : Gr} (h : AAsc G) (cs : List Cm) : Jn G (addA G [] cs) (adds G cs) := Jn.adds (Jn.nil h)
theorem or_some {r s : Rf} (h : r.or s = none) : r = none ∧ s = none := by cases r <;> simp at h ⊢; exact h
/-- What OK means. -/
structure Fine (G : Gr) (grp : Int) (cs : List Cm) (hs : List Key) : Prop where
  bd : bnd grp cs hs = true
  c2 : ck2 cs = none
  c3 : ck3 G [] cs = none
  c4 : ck4 G (addA G [] cs) cs = none
  c5 : ck5 G (addA G [] cs) hs = none
  c6 : ck6 (addA G [] cs) cs = none
  c7 : G.length + (addA G [] cs).length ≤ 1000
theorem chk_fine {G : Gr} {grp : Int} {cs : List Cm} {hs : List Key} : chk G grp cs hs = none ↔ Fine G grp cs hs := by
  unfold chk
  constructor
  · intro h
    by_cases hb : bnd grp cs hs = true
    · rw [if_pos hb] at h
      obtain ⟨h2, h⟩ := or_some h
      obtain ⟨h3, h⟩ := or_some h
      obtain ⟨h4, h⟩ := or_some h
      obtain ⟨h5, h⟩ := or_some h
      obtain ⟨h6, h⟩ := or_some h
      exact ⟨hb, h2, h3, h4, h5, h6, by split at h; cases h; omega⟩
    · rw [if_neg hb] at h; cases h
  · intro h
    rw [if_pos h.bd, h.c2, h.c3, h.c4, h.c5, h.c6, if_neg (by have := h.c7; omega)]; rfl
theorem miss_none {G A : Gr} : ∀ {E : List Key}, miss G A E = none → ∀ p ∈ E, (aget p G).isSome = true ∨ (aget p A).isSome = true
  | [], _, _, hp => by cases hp
  | q :: E, h, p, hp => by
    rw [miss] at h
    by_cases e : ((aget q G).isSome || (aget q A).isSome) = true
    · rw [if_pos e] at h
      rcases List.mem_cons.1 hp with rfl | hp
      · simpa using e
      · exact miss_none h p hp
    · rw [if_neg e] at h; cases h
theorem ck4_none {G A : Gr} : ∀ {cs : List Cm}, ck4 G A cs = none → ∀ c ∈ cs, ∀ p ∈ c.2, (aget p G).isSome = true ∨ (aget p A).isSome = true
  | [], _, _, hc => by cases hc
  | d :: cs, h, c, hc => by
    rw [ck4] at h
    cases hm : miss G A d.2 with
    | some p => rw [hm] at h; cases h
    | none =>
      rw [hm] at h
      rcases List.mem_cons.1 hc with rfl | hc
      · exact miss_none hm
      · exact ck4_none h c hc
theorem ck6_none {A : Gr} : ∀ {cs : List Cm}, ck6 A cs = none → ∀ c ∈ cs, ¬ ∃ p ∈ c.2, Up (adj A) p c.1
  | [], _, _, hc => by cases hc
  | d :: cs, h, c, hc => by
    rw [ck6] at h
    by_cases e : ∃ p ∈ d.2, Up (adj A) p d.1
    · rw [if_pos e] at h; cases h
    · rw [if_neg e] at h
      rcases List.mem_cons.1 hc with rfl | hc
      · exact e
      · exact ck6_none h c hc
theorem addA_keep {G : Gr} {x : Key} {ps : List Key} : ∀ {cs : List Cm} {A : Gr}, aget x A = some ps → aget x (addA G A cs) = some ps
  | [], _, h => h
  | c :: cs, A, h => by
    rw [addA]
    refine addA_keep ?_
    split
    · exact h
    · rename_i e
      rw [aget_put, if_neg, h]
      rintro rfl
      rw [h] at e
      cases hg : aget c.1 G with
      | none => rw [hg] at e; exact e rfl
      | some y => rw [hg] at e; exact e rfl
theorem ck3_none {G : Gr} : ∀ {cs : List Cm} {A : Gr}, ck3 G A cs = none → ∀ c ∈ cs, (aget c.1 G).or (aget c.1 (addA G A cs)) = some c.2
  | [], _, _, _, hc => by cases hc
  | d :: cs, A, h, c, hc => by
    rw [ck3] at h
    rw [addA]
    cases ho : (aget d.1 G).or (aget d.1 A) with
    | some ps =>
      rw [ho] at h
      simp only at h
      by_cases e : ps = d.2
      · rw [if_pos e] at h
        simp only [Option.isSome_some, if_true]
        rcases List.mem_cons.1 hc with rfl | hc
        · cases hg : aget c.1 G with
          | some y => rw [hg] at ho; rw [← e]; exact ho
          | none =>
            rw [hg] at ho
            rw [addA_keep (x := c.1) (ps := ps) (by simpa using ho), e]; rfl
        · exact ck3_none h c hc
      · rw [if_neg e] at h; cases h
    | none =>
      rw [ho] at h
      simp only at h
      simp only [Option.isSome_none, Bool.false_eq_true, if_false]
      rcases List.mem_cons.1 hc with rfl | hc
      · have hg : aget c.1 G = none := by cases hg : aget c.1 G with
          | none => rfl
          | some y => rw [hg] at ho; cases ho
        rw [hg, addA_keep (x := c.1) (ps := c.2) (aget_put_same _ _ _)]; rfl
      · exact ck3_none h c hc
theorem up_old {G M : Gr} (hc : Clo G) (hm : ∀ x, (aget x G).isSome = true → adj M x = adj G x) {a b : Key} (h : Up (adj M) a b) : (aget a G).isSome = true → Up (adj G) a b ∧ (aget b G).isSome = true := by
  induction h with
  | refl => exact fun h => ⟨.refl _, h⟩
  | step h1 _ ih =>
    intro ha
    rw [hm _ ha] at h1
    obtain ⟨h2, h3⟩ := ih (hc _ _ h1)
    exact ⟨.step h1 h2, h3⟩
theorem up_new {G A M : Gr} (hc : Clo G) (hm : ∀ x, (aget x G).isSome = true → adj M x = adj G x) (hn : ∀ x, (aget x G).isSome = false → adj M x = adj A x) {a b : Key} (h : Up (adj M) a b) (hb : (aget b G).isSome = false) : Up (adj A) a b := by
  induction h with
  | refl => exact .refl _
  | @step a c b h1 k ih =>
    cases ha : (aget a G).isSome with
    | true =>
      have := (up_old hc hm (.step h1 k) ha).2
      rw [hb] at this; cases this
    | false => exact .step (by rw [← hn _ ha]; exact h1) (ih hb)
theorem Jn.old {G A M : Gr} (j : Jn G A M) (x : Key) (h : (aget x G).isSome = true) : adj M x = adj G x := by
  unfold adj
  rw [j.get]
  cases hg : aget x G with
  | none => rw [hg] at h; cases h
  | some y => rfl
theorem Jn.new {G A M : Gr} (j : Jn G A M) (x : Key) (h : (aget x G).isSome = false) : adj M x = adj A x := by
  unfold adj
  rw [j.get]
  cases hg : aget x G with
  | none => rfl
  | some y => rw [hg] at h; cases h
theorem up_mono {f g : Key → List Key} (h : ∀ x, ∀ p ∈ f x, p ∈ g x) {a b : Key} (k : Up f a b) : Up g a b := by
  induction k with
  | refl => exact .refl _
  | step h1 _ ih => exact .step (h _ _ h1) ih
/-- A commit of the request that is its own ancestor: in the whole graph, or among the new ones alone. -/
theorem round_iff {G : Gr} {cs : List Cm} (W : Wf G) (h3 : ck3 G [] cs = none) {c : Cm} (hc : c ∈ cs) :
    (∃ p ∈ adj (adds G cs) c.1, Up (adj (adds G cs)) p c.1) ↔ ∃ p ∈ c.2, Up (adj (addA G [] cs)) p c.1 := by
  have j := adds_jn W.asc cs
  have hg := ck3_none h3 c hc
  have hadj : adj (adds G cs) c.1 = c.2 := by unfold adj; rw [j.get, hg]; rfl
  rw [hadj]
  constructor
  · rintro ⟨p, hp, hu⟩
    refine ⟨p, hp, ?_⟩
    cases hG : (aget c.1 G).isSome with
    | true =>
      exfalso
      have hpG : p ∈ adj G c.1 := by rw [← j.old _ hG, hadj]; exact hp
      exact W.acy _ _ hpG (up_old W.clo j.old hu (W.clo _ _ hpG)).1
    | false => exact up_new W.clo j.old j.new hu hG
  · rintro ⟨p, hp, hu⟩
    refine ⟨p, hp, up_mono (fun x q hq => ?_) hu⟩
    obtain ⟨ps, e1, e2⟩ := adj_some hq
    have hn := j.dis _ (by rw [e1]; rfl)
    unfold adj
    rw [j.get, hn, e1]
    exact e2
theorem add_wf {G : Gr} {grp : Int} {cs : List Cm} {hs : List Key} (W : Wf G) (ok : COk cs) (F : Fine G grp cs hs) : Wf (adds G cs) := by
  have j := adds_jn W.asc cs
  have hfrom : ∀ x ps, aget x (adds G cs) = some ps → aget x G = some ps ∨ ((x, ps) ∈ cs ∧ aget x G = none) := fun x ps h => by
    rw [j.get] at h
    cases hg : aget x G with
    | some y => rw [hg] at h; exact .inl h
    | none =>
      rw [hg] at h
      rcases addA_mem (by simpa using h) with h | h
      · cases h
      · exact .inr ⟨h, rfl⟩
  have hm : ∀ c ∈ adds G cs, c ∈ G ∨ c ∈ cs := fun c hc => by
    rcases hfrom c.1 c.2 (aget_of_mem j.ascM hc) with h | h
    · exact .inl (aget_mem h)
    · exact .inr h.1
  have hclo : Clo (adds G cs) := fun k p hp => by
    obtain ⟨ps, e1, e2⟩ := adj_some hp
    rw [j.get]
    rcases hfrom k ps e1 with h | h
    · have : p ∈ adj G k := by unfold adj; rw [h]; exact e2
      have := W.clo _ _ this
      cases hg : aget p G with
      | none => rw [hg] at this; cases this
      | some y => rfl
    · rcases ck4_none F.c4 _ h.1 p e2 with h | h
      · cases hg : aget p G with
        | none => rw [hg] at h; cases h
        | some y => rfl
      · cases hg : aget p G with
        | none => rw [show (none : Option (List Key)).or (aget p (addA G [] cs)) = aget p (addA G [] cs) from rfl]; exact h
        | some y => rfl
  refine ⟨j.ascM, fun c hc => (hm c hc).elim (W.h32 c) (ok c), fun c hc => (hm c hc).elim (W.par c) (ck2_none F.c2 c), hclo, fun h p hp hu => ?_, by rw [j.len]; exact F.c7⟩
  obtain ⟨ps, e1, e2⟩ := adj_some hp
  rcases hfrom h ps e1 with hG | hG
  · have hp' : p ∈ adj G h := by unfold adj; rw [hG]; exact e2
    exact W.acy _ _ hp' (up_old W.clo j.old hu (W.clo _ _ hp')).1
  · exact ck6_none F.c6 _ hG.1 ((round_iff W F.c3 hG.1).1 ⟨p, hp, hu⟩)
end Go.Proofs.Ythfkmfepeafgjaa
namespace Go.Proofs.Ythfkmfepeafgjaa
open Go.RowKit
open Go.Maps

section
variable {ops : Array Oper} {o : Oper} {a : Act} {w : World} {K : Act → World → Prop} {Q : Exit → Act → World → Prop} {X : Prop}
theorem step_upd {t : TypeId} (hgd : o.guard = none) (m k v : Operand) (ho : o.op = .mapUpdate t m k v) {mv kv vv : Value} (hm : a.eval m = mv) (hk : a.eval k = kv) (hv' : a.eval v = vv) {w' : World} (hr : (Instr.mapUpdate t mv kv vv).run Try.prog w = .ok () w') (h : K (a.put o.dst undef) w') :
    if Region.wanted o (yielded ops a.tmps) = true then Oper.wp Try.prog o a w K Q else X := by
  have hw : Region.wanted o (yielded ops a.tmps) = true := by simp [Region.wanted, hgd]
  rw [if_pos hw]
  unfold Oper.wp execOp
  simp [ho, hm, hk, hv', hr, Result.andThen]
  exact h
end
theorem GA.only {w w' : World} {g bm : Nat} {X : Lx} {S : Nat → Prop} (h : GA w g bm X) (ho : Only S w w') (m : Mild w w') (hb : ¬ S bm) : GA w' g bm X :=
  ⟨m.cells h.cell, h.at_.mild m (ho.block bm h.at_.mp.lt hb)⟩
theorem GA.store {w w' : World} {g bm : Nat} {X : Lx} {k : Key} {v : Value} {E : List Key} (h : GA w g bm X) (mp' : MpH w' bm (aput k v (kvs X))) (ho : Only (fun j => j = bm) w w') (hv' : HSeen w v E) (hE : H32 E) : GA w' g bm (aput k (v, E) X) :=
  ⟨(mild_map h.at_.mp ho).cells h.cell, h.at_.store mp' ho hv' hE⟩
/-- What Add hands back. -/
def AddPost (w : World) (g bm : Nat) (X : Lx) (cs : List Cm) (e : Ending) (w' : World) : Prop :=
  ∃ x, e = .returned x ∧ ErrW w' x (chk (gr X) 2 cs []) ∧ Only (fun k => k = bm) w w' ∧
    ((chk (gr X) 2 cs []).isSome = true ∧ Below w.heap.size w w' ∨ ∃ X', chk (gr X) 2 cs [] = none ∧ GA w' g bm X' ∧ gr X' = adds (gr X) cs)
theorem par_of {G : Gr} (W : Wf G) {X : Lx} (hX : gr X = G) : ∀ x ∈ X, x.2.2.length ≤ 4 ∧ x.2.2.Nodup := fun x hx => by
  have : (x.1, x.2.2) ∈ gr X := List.mem_map.2 ⟨x, hx, rfl⟩
  rw [hX] at this
  exact W.par _ this
set_option linter.unusedSimpArgs false in
set_option maxRecDepth 20000 in
set_option maxHeartbeats 8000000 in
attribute [local go_sem ↓] hld_open cld_open in
theorem add_to (w : World) (g bm : Nat) (X : Lx) (v : Value) (cs : List Cm) (H : GA w g bm X) (W : Wf (gr X)) (hv' : CSeen w v cs) (hok : COk cs) (hl : cs.length ≤ 1000000) (hp : ∀ c ∈ cs, c.2.length ≤ 1000000) :
    Calls Try.prog 26 #[gp g, v] w (AddPost w g bm X cs) := by
  obtain ⟨p, cap, rfl, hc⟩ := id hv'
  clear hc
  obtain ⟨n, hn⟩ : ∃ n, n = cs.length := ⟨_, rfl⟩
  rw [← hn] at hv' hl ⊢
  have HV := Lib.hid hv'
  have HO := Lib.hid hok
  have HN := Lib.hid hn
  have HL := Lib.hid hl
  have HP := Lib.hid hp
  have HG0 := Lib.hid H
  have HW := Lib.hid W
  have hXl : X.length ≤ 1000 := by have := W.few; rwa [gr_len] at this
  have HXL := Lib.hid hXl
  have hne := nn_iface
  have hnn := nn_nil
  have HCK := Lib.hid (check_to w g bm X (.slice p n cap) (.slice none 0 0) 2 cs [] H hXl (fun x hx => Nat.le_trans (par_of W rfl x hx).1 (by decide)) hv' (.inl ⟨rfl, rfl⟩) hok H32.nil (by rw [← hn]; exact hl) hp (by simp))
  clear hv' hok hl hn hp H W hXl
  go_enter Try.func26, Try.ntmps26
  go_wp2_with fail
  refine HCK.out.mono ?_
  rintro e w1 ⟨x1, rfl, e1, b1⟩
  have B1 := Lib.hid b1
  have E1 := Lib.hid e1
  clear b1
  rcases e1.form with ⟨hn1, rfl⟩ | ⟨hs1, t1, y1, rfl⟩
  · have N1 := Lib.hid hn1
    have G1 := Lib.hid (HG0.out.kb B1.out)
    have O1 : Hid (Only (fun k => k = bm) w w1) := Lib.hid (Only.of_below B1.out)
    clear e1 hn1 E1
    go_wp2_with fail
    go_loopw [17] (fun s wr => ∃ (i : Nat) (Z : Lx), s = .int .i64 i ∧ i ≤ n ∧ Hid (adds (gr X) cs = adds (gr Z) (cs.drop i)) ∧ Hid (GA wr g bm Z ∧ Z.length ≤ X.length + i) ∧ Hid (Only (fun k => k = bm) w wr))
      (fun s _ => n - (intOf s).toNat)
    case atStart => exact ⟨0, X, rfl, Nat.zero_le _, Lib.hid rfl, Lib.hid ⟨G1.out, Nat.le_refl _⟩, O1⟩
    case round =>
      clear O1 G1
      obtain ⟨i, Z, rfl, hi, T, HZ, B⟩ := hrel
      by_cases hlt : i < n
      · obtain ⟨j1, j2, j3⟩ := next_fit hlt HL.out
        have hiE : i < cs.length := by rw [← HN.out]; exact hlt
        obtain ⟨p', cap', e1, hc⟩ := HV.out.mild (mild_map HG0.out.at_.mp B.out)
        injection e1 with e1 e2 e3
        obtain ⟨b, o, u, rfl, hrg, hsn⟩ := hc i cs[i] (List.getElem?_eq_getElem hiE)
        subst e1
        have hdr : cs.drop i = cs[i] :: cs.drop (i + 1) := drop_at hiE
        have hoki := HO.out _ (List.getElem_mem hiE)
        have hmemi := List.getElem_mem hiE
        obtain ⟨⟨h, E⟩, hce⟩ : ∃ c : Cm, c = cs[i] := ⟨_, rfl⟩
        rw [← hce] at hrg hsn hdr hoki hmemi
        dsimp only at hrg hsn hoki
        have hh := hoki.1
        have hld0 := cld_range hh hrg
        have st := cst_cells h u hh hsn.one wr
        have hks : (cmv h u).size = 33 := cmv_size hh u
        have b3 : Below wr.heap.size wr (wr.alloc (.cells (cmv h u) 49)) := (Below.refl _ _).alloc (Nat.le_refl _) _
        have B3 : Hid (Only (fun k => k = bm) w (wr.alloc (.cells (cmv h u) 49))) := Lib.hid (B.out.alloc _)
        have HV3 := heap_alloc_last wr (.cells (cmv h u) 49)
        have hsn3 := hsn.mild (mild_below b3)
        have hs3 : (wr.alloc (.cells (cmv h u) 49)).heap.size = wr.heap.size + 1 := by simp
        obtain ⟨pu, cu, rfl⟩ := hsn3.shape
        have HH3 := Lib.hid HV3
        have HSN := Lib.hid hsn3
        have HOK := Lib.hid hoki
        have HDR := Lib.hid hdr
        have HMI := Lib.hid hmemi
        obtain ⟨m, hm⟩ : ∃ m, m = E.length := ⟨_, rfl⟩
        rw [← hm] at hld0 st hks HH3 HSN hs3 B3
        have HB3 := Lib.hid b3
        rw [← hm] at HB3
        have HM := Lib.hid hm
        have HPI : Hid (E.length ≤ 1000000) := Lib.hid (HP.out _ hmemi)
        have HZ3 : Hid (GA (wr.alloc (.cells (cmv h (.slice pu m cu)) 49)) g bm Z) := Lib.hid (HZ.out.1.kb HB3.out)
        clear hrg hsn hdr hoki hmemi hh b3 HV3 hsn3 hc e2 e3 hce hm hiE
        generalize hw3 : wr.alloc (.cells (cmv h (.slice pu m cu)) 49) = w3 at *
        have hld3 := cm_hld (w := w3) HOK.out.1 HH3.out
        have had : adds (gr X) cs = adds (if (aget h (gr Z)).isSome then gr Z else aput h E (gr Z)) (cs.drop (i + 1)) := by rw [T.out, HDR.out]; rfl
        have HHS := Lib.hid (has_to w3 g bm Z h HOK.out.1 HZ3.out)
        have HCM := Lib.hid (fun W (hW : Below w3.heap.size w3 W) => cm_cell (w := W) HOK.out.1 ((mild_below hW).cells HH3.out))
        have HLD := Lib.hid (fun W (hW : Below w3.heap.size w3 W) => cm_hld (w := W) HOK.out.1 ((mild_below hW).cells HH3.out))
        have HLM := Lib.hid (fun W (m : Mild w3 W) => cm_hld (w := W) HOK.out.1 (m.cells HH3.out))
        have HCL := Lib.hid (fun W (hW : Below w3.heap.size w3 W) => hclone_any W (.slice pu m cu) E HOK.out.2 (srt_fit HPI.out) (HSN.out.mild (mild_below hW)))
        have HAD := Lib.hid had
        clear had
        generalize cmv h (.slice pu m cu) = q33 at *
        cases hh : (aget h (gr Z)).isSome with
        | true =>
          rw [hh] at HHS
          have HA2 : Hid (adds (gr X) cs = adds (gr Z) (cs.drop (i + 1))) := Lib.hid (by rw [HAD.out, if_pos hh])
          clear HAD hh
          go_wp2_with fail
          refine HHS.out.mono ?_
          rintro e w4 ⟨rfl, b4⟩
          have B4 : Hid (Only (fun k => k = bm) w w4) := Lib.hid (B3.out.trans (Only.of_below (S := fun k => k = bm) b4) (fun _ h => h) (fun _ _ h => h))
          have HZ4 := Lib.hid (HZ3.out.kb b4)
          clear b4
          go_wp2_with fail
          refine ⟨⟨i + 1, Z, by rw [j1], hlt, HA2, Lib.hid ⟨HZ4.out, Nat.le_trans HZ.out.2 (by omega)⟩, B4⟩, ?_⟩
          rw [j1]; simp only [intOf]; omega
        | false =>
          rw [hh] at HHS
          have HA2 : Hid (adds (gr X) cs = adds (aput h E (gr Z)) (cs.drop (i + 1))) := Lib.hid (by rw [HAD.out, if_neg (by rw [hh]; decide)])
          clear HAD hh
          go_wp2_with fail
          refine HHS.out.mono ?_
          rintro e w4 ⟨rfl, b4⟩
          have B4 : Hid (Only (fun k => k = bm) w w4) := Lib.hid (B3.out.trans (Only.of_below (S := fun k => k = bm) b4) (fun _ h => h) (fun _ _ h => h))
          have HZ4 := Lib.hid (HZ3.out.kb b4)
          have c0 := HZ4.out.c0
          have c32 := HCM.out w4 b4
          have b4d : Below w3.heap.size w3 w4.drew := b4.trans ((blw_qt _ 1 w4).mono b4.size)
          have l0 := HLD.out w4.drew b4d
          have HB4 := Lib.hid b4d
          clear b4 b4d
          go_wp2_with fail
          try simp only [List.append]
          refine wp_region_noPanic ?_
          refine wp_region_held_drew (S := (fun W => W.cell? ⟨g, 0, none⟩ = some (.map (some bm)) ∧ (hld ⟨wr.heap.size, 0, none⟩).run Try.prog W = .ok (.agg (hv h)) W ∧ W.cell? ⟨wr.heap.size, 32, none⟩ = some (.slice pu m cu))) (by kernel_rfl) ⟨c0, l0, c32⟩ (fun hHeld => ?_)
          refine wpAnyH_take (i := 0) (v := ?_) (by simp only [List.getElem?_toArray, List.getElem?_cons_zero]; rfl) (by kernel_rfl) (by kernel_rfl) (by kernel_rfl) (fun _ _ _ h => h) (Or.inl ⟨by rfl, ?_⟩) (by assumption) ?_
          rotate_left
          · intro w hSw
            try dsimp only at hSw
            go_simp
            try with_reducible rfl
          try simp only [Act.put, List.setIfInBounds_toArray, List.set_cons_zero, List.set_cons_succ]
          refine wpAnyH_take (i := 1) (v := ?_) (by simp only [List.getElem?_toArray, List.getElem?_cons_succ, List.getElem?_cons_zero]; rfl) (by kernel_rfl) (by kernel_rfl) (by kernel_rfl) (fun _ _ _ h => h) (Or.inl ⟨by rfl, ?_⟩) (by assumption) ?_
          rotate_left
          · intro w hSw
            try dsimp only at hSw
            go_simp
            try with_reducible rfl
          try simp only [Act.put, List.setIfInBounds_toArray, List.set_cons_zero, List.set_cons_succ]
          refine wpAnyH_take (i := 2) (v := ?_) (by simp only [List.getElem?_toArray, List.getElem?_cons_succ, List.getElem?_cons_zero]; rfl) (by kernel_rfl) (by kernel_rfl) (by kernel_rfl) (fun _ _ _ h => h) (Or.inl ⟨by rfl, ?_⟩) (by assumption) ?_
          rotate_left
          · intro w hSw
            try dsimp only at hSw
            go_simp
            try with_reducible rfl
          try simp only [Act.put, List.setIfInBounds_toArray, List.set_cons_zero, List.set_cons_succ]
          refine wpAnyH_take (i := 3) (v := ?_) (by simp only [List.getElem?_toArray, List.getElem?_cons_succ, List.getElem?_cons_zero]; rfl) (by kernel_rfl) (by kernel_rfl) (by kernel_rfl) (fun _ _ _ h => h) (Or.inl ⟨by rfl, ?_⟩) (by assumption) ?_
          rotate_left
          · intro w hSw
            try dsimp only at hSw
            go_simp
            try with_reducible rfl
          try simp only [Act.put, List.setIfInBounds_toArray, List.set_cons_zero, List.set_cons_succ]
          refine wpAnyH_take (i := 4) (v := ?_) (by simp only [List.getElem?_toArray, List.getElem?_cons_succ, List.getElem?_cons_zero]; rfl) (by kernel_rfl) (by kernel_rfl) (by kernel_rfl) (fun _ _ _ h => h) (Or.inl ⟨by rfl, ?_⟩) (by assumption) ?_
          rotate_left
          · intro w hSw
            try dsimp only at hSw
            go_simp
            try with_reducible rfl
          try simp only [Act.put, List.setIfInBounds_toArray, List.set_cons_zero, List.set_cons_succ]
          refine wpAnyH_take (i := 5) (v := ?_) (by simp only [List.getElem?_toArray, List.getElem?_cons_succ, List.getElem?_cons_zero]; rfl) (by kernel_rfl) (by kernel_rfl) (by kernel_rfl) (fun _ _ _ h => h) (Or.inl ⟨by rfl, ?_⟩) (by assumption) ?_
          rotate_left
          · intro w hSw
            try dsimp only at hSw
            go_simp
            try with_reducible rfl
          try simp only [Act.put, List.setIfInBounds_toArray, List.set_cons_zero, List.set_cons_succ]
          refine wpAnyH_take (i := 6) (v := ?_) (by simp only [List.getElem?_toArray, List.getElem?_cons_succ, List.getElem?_cons_zero]; rfl) (by kernel_rfl) (by kernel_rfl) (by kernel_rfl) (fun _ _ _ h => h) (Or.inl ⟨by rfl, ?_⟩) (by assumption) ?_
          rotate_left
          · intro w hSw
            try dsimp only at hSw
            go_simp
            try with_reducible rfl
          try simp only [Act.put, List.setIfInBounds_toArray, List.set_cons_zero, List.set_cons_succ]
          refine wpAnyH_take (i := 7) (v := ?_) (by simp only [List.getElem?_toArray, List.getElem?_cons_succ, List.getElem?_cons_zero]; rfl) (by kernel_rfl) (by kernel_rfl) (by kernel_rfl) (fun _ _ _ h => h) (Or.inl ⟨by rfl, ?_⟩) (by assumption) ?_
          rotate_left
          · intro w hSw
            try dsimp only at hSw
            go_simp
            try with_reducible rfl
          try simp only [Act.put, List.setIfInBounds_toArray, List.set_cons_zero, List.set_cons_succ]
          refine wpAnyH_ready (rs := [8]) (by kernel_rfl) (by simp) ?_
          refine AllReadyH.cons (by simp only [List.getElem?_toArray, List.getElem?_cons_succ, List.getElem?_cons_zero]; rfl) (fun K hK => ?_) AllReadyH.nil
          go_simp
          refine (HCL.out w4.drew HB4.out).mono ?_
          rintro e w5 ⟨v5, rfl, o5, b5⟩
          have b5' := HB4.out.trans (b5.mono HB4.out.size)
          have c0' := (HZ3.out.kb b5').c0
          have l0' := HLD.out w5 b5'
          have c32' := HCM.out w5 b5'
          have HZ5 := Lib.hid (HZ3.out.kb b5')
          have B5 : Hid (Only (fun k => k = bm) w w5) := Lib.hid (B3.out.trans (Only.of_below (S := fun k => k = bm) b5') (fun _ h => h) (fun _ _ h => h))
          have O5 := Lib.hid (HSeen.own o5)
          obtain ⟨p5, c5, rfl⟩ := (HSeen.own o5).shape
          have hZl : Z.length < maxLen := by have := HZ.out.2; have := HXL.out; have := HL.out; unfold maxLen; omega
          obtain ⟨w6, hmu, mp6, o6⟩ := HZ5.out.at_.mp.store Try.underlying81 h HOK.out.1 (by rw [kvs_len]; exact hZl) (.slice p5 E.length c5)
          have HZ6 := Lib.hid (HZ5.out.store mp6 o6 O5.out HOK.out.2)
          have B6 : Hid (Only (fun k => k = bm) w w6) := Lib.hid (B5.out.trans o6 (fun _ h => h) (fun _ _ h => h))
          have l6 : (hld ⟨wr.heap.size, 0, none⟩).run Try.prog w6 = .ok (.agg (hv h)) w6 := HLM.out w6 ((mild_below b5').trans (mild_map HZ5.out.at_.mp o6))
          have c6 := (mild_map HZ5.out.at_.mp o6).cell c32'
          have g6 := HZ6.out.c0
          have HMU := Lib.hid hmu
          clear o5 b5 b5' mp6 o6 hmu
          go_wp2_with fail
          refine hK.out _ _ ⟨c0', l0', c32'⟩ (fun hHeld => ?_)
          clear hK K
          try simp only [Act.put, List.setIfInBounds_toArray, List.set_cons_zero, List.set_cons_succ]
          refine wpAnyH_ready (rs := [9]) (by kernel_rfl) (by simp) ?_
          refine AllReadyH.cons (by simp only [List.getElem?_toArray, List.getElem?_cons_succ, List.getElem?_cons_zero]; rfl) (fun K hK => ?_) AllReadyH.nil
          refine step_upd (by rfl) (.tmp 29) (.tmp 31) (.tmp 34) (by rfl) (by rfl) (by rfl) (by rfl) HMU.out ?_
          refine hK.out _ _ ⟨g6, l6, c6⟩ (fun hHeld => ?_)
          clear hK K
          try simp only [Act.put, List.setIfInBounds_toArray, List.set_cons_zero, List.set_cons_succ]
          refine wpAnyH_done (by kernel_rfl) ?_ _
          refine NoPanic.normal ?_
          go_wp2_with fail
          refine ⟨⟨i + 1, aput h (.slice p5 E.length c5, E) Z, by rw [j1], hlt, Lib.hid (by rw [gr_put]; exact HA2.out), Lib.hid ⟨HZ6.out, Nat.le_trans (aput_len _ _ _) (by have := HZ.out.2; omega)⟩, B6⟩, ?_⟩
          rw [j1]; simp only [intOf]; omega
      · obtain rfl : i = n := by omega
        go_wp2
        go_ret
        have hT := T.out
        rw [List.drop_eq_nil_of_le (by rw [HN.out]; exact Nat.le_refl _)] at hT
        exact ⟨_, rfl, by rw [N1.out]; rfl, B.out, .inr ⟨Z, N1.out, HZ.out.1, hT.symm⟩⟩
  · have HS1 := Lib.hid hs1
    clear e1 hs1
    go_wp2
    go_ret
    exact ⟨_, rfl, E1.out, Only.of_below B1.out, .inl ⟨HS1.out, B1.out⟩⟩
end Go.Proofs.Ythfkmfepeafgjaa
namespace Go.Proofs.Ythfkmfepeafgjaa
open Go.RowKit Go.Extern.Stop Go.Stop Go.Extern
open Go.Maps

def kindOf : Rf → Int
  | none => 0
  | some (k, _) => k
def whoH : Rf → Key
  | some (_, some h) => h
  | _ => hz
def whoB : Rf → Bool
  | some (_, some _) => true
  | _ => false
theorem load_back {w : World} {b : Nat} {q : Key} (hq : q.length = 32) (ht : w.there b 0 32) : (hld ⟨b, 0, none⟩).run Try.prog (w.setCells b 0 (hv q).toList) = .ok (.agg (hv q)) (w.setCells b 0 (hv q).toList) := by
  have := loaded (P := Try.prog) (t := 28) (q := hv q) (by rw [hv_size, hq]; exact ht) Try.underlying28 rfl (hinfo (hv q) (by rw [hv_size, hq]))
  exact this
theorem there32 {w : World} {b : Nat} {q : Array Value} {t : TypeId} (hs : q.size = 32) (h : w.heap[b]? = some (.cells q t (0, 0))) : w.there b 0 32 := by
  have := there_row h
  rwa [hs] at this
theorem hv_all (h : Key) : (hv h).all (·.oneCell') = true := hv_one h
end Go.Proofs.Ythfkmfepeafgjaa
