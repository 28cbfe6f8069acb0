/- What a graph becomes: plain mathematics. No condition. -/
import Derived.Test.YtakbdnkodnlkdaaDoorGphO
namespace Go.Proofs.YtakbdnkodnlkdaaDoor
open Go.RowKit
open Go.Maps

/-- The graph with some commits more. -/
def adds (G : Gr) : List Cm → Gr
  | [] => G
  | c :: cs => adds (if (aget c.1 G).isSome then G else aput c.1 c.2 G) cs
structure Wf (G : Gr) : Prop where
  asc : AAsc G
  h32 : COk G
  par : ∀ c ∈ G, c.2.length ≤ 4 ∧ c.2.Nodup
  clo : Clo G
  acy : ∀ h, ∀ p ∈ adj G h, ¬ Up (adj G) p h
  few : G.length ≤ 1000
theorem Wf.nil : Wf [] := ⟨.nil, fun _ h => (by cases h), fun _ h => (by cases h), fun _ _ h => (by unfold adj at h; simp [aget] at h), fun _ _ h => (by unfold adj at h; simp [aget] at h), Nat.zero_le _⟩
theorem aput_new_len {α : Type} {k : Key} {v : α} {M : List (Key × α)} (ha : AAsc M) (h : aget k M = none) : (aput k v M).length = M.length + 1 := by
  have := asum_put (fun _ => 1) k v ha
  rw [h] at this
  simp only [asum_one, olen] at this
  omega
theorem aget_put {α : Type} {x k : Key} {v : α} {M : List (Key × α)} : aget x (aput k v M) = if x = k then some v else aget x M := by
  by_cases e : x = k
  · subst e; rw [aget_put_same, if_pos rfl]
  · rw [aget_put_other _ _ _ e, if_neg e]
/-- M is G and A together. -/
structure Jn (G A M : Gr) : Prop where
  ascA : AAsc A
  ascM : AAsc M
  get : ∀ x, aget x M = (aget x G).or (aget x A)
  dis : ∀ x, (aget x A).isSome = true → aget x G = none
  len : M.length = G.length + A.length
theorem Jn.nil {G : Gr} (h : AAsc G) : Jn G [] G := ⟨.nil, h, fun x => by simp [aget], fun x h => by simp [aget] at h, by simp⟩
theorem Jn.adds {G : Gr} : ∀ {cs : List Cm} {A M : Gr}, Jn G A M → Jn G (addA G A cs) (adds M cs)
  | [], _, _, h => h
  | c :: cs, A, M, h => by
    rw [addA, Go.Proofs.YtakbdnkodnlkdaaDoor.adds, h.get]
    by_cases e : ((aget c.1 G).or (aget c.1 A)).isSome = true
    · rw [if_pos e, if_pos e]
      exact Jn.adds h
    · rw [if_neg e, if_neg e]
      have e1 : aget c.1 G = none := by cases hg : aget c.1 G with
        | none => rfl
        | some y => rw [hg] at e; exact absurd rfl e
      have e2 : aget c.1 A = none := by
        rw [e1] at e
        cases hg : aget c.1 A with
        | none => rfl
        | some y => rw [hg] at e; exact absurd rfl e
      have e3 : aget c.1 M = none := by rw [h.get, e1, e2]; rfl
      refine Jn.adds ⟨h.ascA.put _ _, h.ascM.put _ _, fun x => ?_, fun x hx => ?_, ?_⟩
      · rw [aget_put, aget_put]
        by_cases ex : x = c.1
        · subst ex; rw [if_pos rfl, if_pos rfl, e1]; rfl
        · rw [if_neg ex, if_neg ex, h.get]
      · rw [aget_put] at hx
        by_cases ex : x = c.1
        · rw [ex, e1]
        · rw [if_neg ex] at hx; exact h.dis x hx
      · rw [aput_new_len h.ascM e3, aput_new_len h.ascA e2, h.len]; omega
theorem adds_jn {G : Gr} (h : AAsc G) (cs : List Cm) : Jn G (addA G [] cs) (adds G cs) := Jn.adds (Jn.nil h)
theorem or_some {r s : Rf} (h : r.or s = none) : r = none ∧ s = none := by cases r <;> simp at h ⊢; exact h
/-- What OK means. -/
structure Fine (G : Gr) (grp : Int) (cs : List Cm) (hs : List Key) : Prop where
  bd : bnd grp cs hs = true
  c2 : ck2 cs = none
  c3 : ck3 G [] cs = none
  c4 : ck4 G (addA G [] cs) cs = none
  c5 : ck5 G (addA G [] cs) hs = none
  c6 : ck6 (addA G [] cs) cs = none
  c7 : G.length + (addA G [] cs).length ≤ 1000
theorem chk_fine {G : Gr} {grp : Int} {cs : List Cm} {hs : List Key} : chk G grp cs hs = none ↔ Fine G grp cs hs := by
  unfold chk
  constructor
  · intro h
    by_cases hb : bnd grp cs hs = true
    · rw [if_pos hb] at h
      obtain ⟨h2, h⟩ := or_some h
      obtain ⟨h3, h⟩ := or_some h
      obtain ⟨h4, h⟩ := or_some h
      obtain ⟨h5, h⟩ := or_some h
      obtain ⟨h6, h⟩ := or_some h
      exact ⟨hb, h2, h3, h4, h5, h6, by split at h; cases h; omega⟩
    · rw [if_neg hb] at h; cases h
  · intro h
    rw [if_pos h.bd, h.c2, h.c3, h.c4, h.c5, h.c6, if_neg (by have := h.c7; omega)]; rfl
theorem miss_none {G A : Gr} : ∀ {E : List Key}, miss G A E = none → ∀ p ∈ E, (aget p G).isSome = true ∨ (aget p A).isSome = true
  | [], _, _, hp => by cases hp
  | q :: E, h, p, hp => by
    rw [miss] at h
    by_cases e : ((aget q G).isSome || (aget q A).isSome) = true
    · rw [if_pos e] at h
      rcases List.mem_cons.1 hp with rfl | hp
      · simpa using e
      · exact miss_none h p hp
    · rw [if_neg e] at h; cases h
theorem ck4_none {G A : Gr} : ∀ {cs : List Cm}, ck4 G A cs = none → ∀ c ∈ cs, ∀ p ∈ c.2, (aget p G).isSome = true ∨ (aget p A).isSome = true
  | [], _, _, hc => by cases hc
  | d :: cs, h, c, hc => by
    rw [ck4] at h
    cases hm : miss G A d.2 with
    | some p => rw [hm] at h; cases h
    | none =>
      rw [hm] at h
      rcases List.mem_cons.1 hc with rfl | hc
      · exact miss_none hm
      · exact ck4_none h c hc
theorem ck6_none {A : Gr} : ∀ {cs : List Cm}, ck6 A cs = none → ∀ c ∈ cs, ¬ ∃ p ∈ c.2, Up (adj A) p c.1
  | [], _, _, hc => by cases hc
  | d :: cs, h, c, hc => by
    rw [ck6] at h
    by_cases e : ∃ p ∈ d.2, Up (adj A) p d.1
    · rw [if_pos e] at h; cases h
    · rw [if_neg e] at h
      rcases List.mem_cons.1 hc with rfl | hc
      · exact e
      · exact ck6_none h c hc
theorem addA_keep {G : Gr} {x : Key} {ps : List Key} : ∀ {cs : List Cm} {A : Gr}, aget x A = some ps → aget x (addA G A cs) = some ps
  | [], _, h => h
  | c :: cs, A, h => by
    rw [addA]
    refine addA_keep ?_
    split
    · exact h
    · rename_i e
      rw [aget_put, if_neg, h]
      rintro rfl
      rw [h] at e
      cases hg : aget c.1 G with
      | none => rw [hg] at e; exact e rfl
      | some y => rw [hg] at e; exact e rfl
theorem ck3_none {G : Gr} : ∀ {cs : List Cm} {A : Gr}, ck3 G A cs = none → ∀ c ∈ cs, (aget c.1 G).or (aget c.1 (addA G A cs)) = some c.2
  | [], _, _, _, hc => by cases hc
  | d :: cs, A, h, c, hc => by
    rw [ck3] at h
    rw [addA]
    cases ho : (aget d.1 G).or (aget d.1 A) with
    | some ps =>
      rw [ho] at h
      simp only at h
      by_cases e : ps = d.2
      · rw [if_pos e] at h
        simp only [Option.isSome_some, if_true]
        rcases List.mem_cons.1 hc with rfl | hc
        · cases hg : aget c.1 G with
          | some y => rw [hg] at ho; rw [← e]; exact ho
          | none =>
            rw [hg] at ho
            rw [addA_keep (x := c.1) (ps := ps) (by simpa using ho), e]; rfl
        · exact ck3_none h c hc
      · rw [if_neg e] at h; cases h
    | none =>
      rw [ho] at h
      simp only at h
      simp only [Option.isSome_none, Bool.false_eq_true, if_false]
      rcases List.mem_cons.1 hc with rfl | hc
      · have hg : aget c.1 G = none := by cases hg : aget c.1 G with
          | none => rfl
          | some y => rw [hg] at ho; cases ho
        rw [hg, addA_keep (x := c.1) (ps := c.2) (aget_put_same _ _ _)]; rfl
      · exact ck3_none h c hc
theorem up_old {G M : Gr} (hc : Clo G) (hm : ∀ x, (aget x G).isSome = true → adj M x = adj G x) {a b : Key} (h : Up (adj M) a b) : (aget a G).isSome = true → Up (adj G) a b ∧ (aget b G).isSome = true := by
  induction h with
  | refl => exact fun h => ⟨.refl _, h⟩
  | step h1 _ ih =>
    intro ha
    rw [hm _ ha] at h1
    obtain ⟨h2, h3⟩ := ih (hc _ _ h1)
    exact ⟨.step h1 h2, h3⟩
theorem up_new {G A M : Gr} (hc : Clo G) (hm : ∀ x, (aget x G).isSome = true → adj M x = adj G x) (hn : ∀ x, (aget x G).isSome = false → adj M x = adj A x) {a b : Key} (h : Up (adj M) a b) (hb : (aget b G).isSome = false) : Up (adj A) a b := by
  induction h with
  | refl => exact .refl _
  | @step a c b h1 k ih =>
    cases ha : (aget a G).isSome with
    | true =>
      have := (up_old hc hm (.step h1 k) ha).2
      rw [hb] at this; cases this
    | false => exact .step (by rw [← hn _ ha]; exact h1) (ih hb)
theorem Jn.old {G A M : Gr} (j : Jn G A M) (x : Key) (h : (aget x G).isSome = true) : adj M x = adj G x := by
  unfold adj
  rw [j.get]
  cases hg : aget x G with
  | none => rw [hg] at h; cases h
  | some y => rfl
theorem Jn.new {G A M : Gr} (j : Jn G A M) (x : Key) (h : (aget x G).isSome = false) : adj M x = adj A x := by
  unfold adj
  rw [j.get]
  cases hg : aget x G with
  | none => rfl
  | some y => rw [hg] at h; cases h
theorem up_mono {f g : Key → List Key} (h : ∀ x, ∀ p ∈ f x, p ∈ g x) {a b : Key} (k : Up f a b) : Up g a b := by
  induction k with
  | refl => exact .refl _
  | step h1 _ ih => exact .step (h _ _ h1) ih
/-- A commit of the request that is its own ancestor: in the whole graph, or among the new ones alone. -/
theorem round_iff {G : Gr} {cs : List Cm} (W : Wf G) (h3 : ck3 G [] cs = none) {c : Cm} (hc : c ∈ cs) :
    (∃ p ∈ adj (adds G cs) c.1, Up (adj (adds G cs)) p c.1) ↔ ∃ p ∈ c.2, Up (adj (addA G [] cs)) p c.1 := by
  have j := adds_jn W.asc cs
  have hg := ck3_none h3 c hc
  have hadj : adj (adds G cs) c.1 = c.2 := by unfold adj; rw [j.get, hg]; rfl
  rw [hadj]
  constructor
  · rintro ⟨p, hp, hu⟩
    refine ⟨p, hp, ?_⟩
    cases hG : (aget c.1 G).isSome with
    | true =>
      exfalso
      have hpG : p ∈ adj G c.1 := by rw [← j.old _ hG, hadj]; exact hp
      exact W.acy _ _ hpG (up_old W.clo j.old hu (W.clo _ _ hpG)).1
    | false => exact up_new W.clo j.old j.new hu hG
  · rintro ⟨p, hp, hu⟩
    refine ⟨p, hp, up_mono (fun x q hq => ?_) hu⟩
    obtain ⟨ps, e1, e2⟩ := adj_some hq
    have hn := j.dis _ (by rw [e1]; rfl)
    unfold adj
    rw [j.get, hn, e1]
    exact e2
theorem add_wf {G : Gr} {grp : Int} {cs : List Cm} {hs : List Key} (W : Wf G) (ok : COk cs) (F : Fine G grp cs hs) : Wf (adds G cs) := by
  have j := adds_jn W.asc cs
  have hfrom : ∀ x ps, aget x (adds G cs) = some ps → aget x G = some ps ∨ ((x, ps) ∈ cs ∧ aget x G = none) := fun x ps h => by
    rw [j.get] at h
    cases hg : aget x G with
    | some y => rw [hg] at h; exact .inl h
    | none =>
      rw [hg] at h
      rcases addA_mem (by simpa using h) with h | h
      · cases h
      · exact .inr ⟨h, rfl⟩
  have hm : ∀ c ∈ adds G cs, c ∈ G ∨ c ∈ cs := fun c hc => by
    rcases hfrom c.1 c.2 (aget_of_mem j.ascM hc) with h | h
    · exact .inl (aget_mem h)
    · exact .inr h.1
  have hclo : Clo (adds G cs) := fun k p hp => by
    obtain ⟨ps, e1, e2⟩ := adj_some hp
    rw [j.get]
    rcases hfrom k ps e1 with h | h
    · have : p ∈ adj G k := by unfold adj; rw [h]; exact e2
      have := W.clo _ _ this
      cases hg : aget p G with
      | none => rw [hg] at this; cases this
      | some y => rfl
    · rcases ck4_none F.c4 _ h.1 p e2 with h | h
      · cases hg : aget p G with
        | none => rw [hg] at h; cases h
        | some y => rfl
      · cases hg : aget p G with
        | none => rw [show (none : Option (List Key)).or (aget p (addA G [] cs)) = aget p (addA G [] cs) from rfl]; exact h
        | some y => rfl
  refine ⟨j.ascM, fun c hc => (hm c hc).elim (W.h32 c) (ok c), fun c hc => (hm c hc).elim (W.par c) (ck2_none F.c2 c), hclo, fun h p hp hu => ?_, by rw [j.len]; exact F.c7⟩
  obtain ⟨ps, e1, e2⟩ := adj_some hp
  rcases hfrom h ps e1 with hG | hG
  · have hp' : p ∈ adj G h := by unfold adj; rw [hG]; exact e2
    exact W.acy _ _ hp' (up_old W.clo j.old hu (W.clo _ _ hp')).1
  · exact ck6_none F.c6 _ hG.1 ((round_iff W F.c3 hG.1).1 ⟨p, hp, hu⟩)
end Go.Proofs.YtakbdnkodnlkdaaDoor
