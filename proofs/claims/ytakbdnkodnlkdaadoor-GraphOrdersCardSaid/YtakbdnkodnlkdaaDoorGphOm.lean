/- Commits in another order, some of them twice, make the same graph: plain mathematics. No condition. -/
import Derived.Test.YtakbdnkodnlkdaaDoorGphUn
namespace Go.Proofs.YtakbdnkodnlkdaaDoor
open Go.RowKit
open Go.Maps

/-- The same hash has the same parents. -/
def Cons1 (l : List Cm) : Prop := ∀ c ∈ l, ∀ d ∈ l, c.1 = d.1 → c.2 = d.2
theorem ck3_cons {cs : List Cm} (h : ck3 [] [] cs = none) : Cons1 cs := fun c hc d hd e => by
  have h1 := ck3_none h c hc
  have h2 := ck3_none h d hd
  rw [e] at h1
  exact Option.some.inj (h1.symm.trans h2)
theorem cons_ck3 : ∀ {l : List Cm} {A : Gr}, Cons1 l → (∀ c ∈ l, ∀ ps, aget c.1 A = some ps → ps = c.2) → ck3 [] A l = none
  | [], _, _, _ => rfl
  | c :: l, A, hc, hA => by
    rw [ck3]
    have h0 : aget c.1 ([] : Gr) = none := rfl
    rw [h0]
    cases ha : aget c.1 A with
    | some ps =>
      simp only [Option.none_or]
      rw [if_pos (hA c List.mem_cons_self ps ha)]
      exact cons_ck3 (fun a h1 b h2 => hc a (List.mem_cons_of_mem _ h1) b (List.mem_cons_of_mem _ h2)) (fun d hd => hA d (List.mem_cons_of_mem _ hd))
    | none =>
      simp only [Option.none_or]
      refine cons_ck3 (fun a h1 b h2 => hc a (List.mem_cons_of_mem _ h1) b (List.mem_cons_of_mem _ h2)) (fun d hd ps hps => ?_)
      rw [aget_put] at hps
      by_cases e : d.1 = c.1
      · rw [if_pos e] at hps
        injection hps with hps
        rw [← hps]
        exact hc c List.mem_cons_self d (List.mem_cons_of_mem _ hd) e.symm
      · rw [if_neg e] at hps
        exact hA d (List.mem_cons_of_mem _ hd) ps hps
theorem addA_some {l : List Cm} (h : ck3 [] [] l = none) (x : Key) (ps : List Key) : aget x (addA [] [] l) = some ps ↔ (x, ps) ∈ l := by
  constructor
  · intro h1
    rcases addA_mem h1 with h2 | h2
    · cases h2
    · exact h2
  · intro h1
    exact ck3_none h (x, ps) h1
theorem ck2_ok : ∀ {l : List Cm}, (∀ c ∈ l, c.2.length ≤ 4 ∧ c.2.Nodup) → ck2 l = none
  | [], _ => rfl
  | c :: l, h => by
    have h1 := h c List.mem_cons_self
    rw [ck2, if_neg (by omega), if_pos h1.2]
    exact ck2_ok fun d hd => h d (List.mem_cons_of_mem _ hd)
theorem miss_ok {G A : Gr} : ∀ {E : List Key}, (∀ p ∈ E, (aget p G).isSome = true ∨ (aget p A).isSome = true) → miss G A E = none
  | [], _ => rfl
  | p :: E, h => by
    rw [miss, if_pos (by simpa using h p List.mem_cons_self)]
    exact miss_ok fun q hq => h q (List.mem_cons_of_mem _ hq)
theorem ck4_ok {G A : Gr} : ∀ {l : List Cm}, (∀ c ∈ l, ∀ p ∈ c.2, (aget p G).isSome = true ∨ (aget p A).isSome = true) → ck4 G A l = none
  | [], _ => rfl
  | c :: l, h => by
    rw [ck4, miss_ok (h c List.mem_cons_self)]
    exact ck4_ok fun d hd => h d (List.mem_cons_of_mem _ hd)
theorem ck6_ok {A : Gr} : ∀ {l : List Cm}, (∀ c ∈ l, ¬ ∃ p ∈ c.2, Up (adj A) p c.1) → ck6 A l = none
  | [], _ => rfl
  | c :: l, h => by
    rw [ck6, if_neg (h c List.mem_cons_self)]
    exact ck6_ok fun d hd => h d (List.mem_cons_of_mem _ hd)
/-- The same commits, in another order, some of them twice. -/
theorem order_same {cs l : List Cm} (h : chk [] 2 cs [] = none) (hm : ∀ c, c ∈ l ↔ c ∈ cs) (hl : l.length ≤ 200) : chk [] 2 l [] = none ∧ adds [] l = adds [] cs := by
  have F := chk_fine.1 h
  have hc := ck3_cons F.c3
  have h3 : ck3 [] [] l = none := cons_ck3 (fun a h1 b h2 => hc a ((hm a).1 h1) b ((hm b).1 h2)) (fun d _ ps hps => by simp [aget] at hps)
  have j1 := adds_jn AAsc.nil (G := []) cs
  have j2 := adds_jn AAsc.nil (G := []) l
  have hA : addA [] [] l = addA [] [] cs := aext j2.ascA j1.ascA fun x => by
    cases h1 : aget x (addA [] [] cs) with
    | some ps => exact (addA_some h3 x ps).2 ((hm _).2 ((addA_some F.c3 x ps).1 h1))
    | none =>
      cases h2 : aget x (addA [] [] l) with
      | none => rfl
      | some ps =>
        have := (addA_some F.c3 x ps).2 ((hm _).1 ((addA_some h3 x ps).1 h2))
        rw [h1] at this; cases this
  refine ⟨chk_fine.2 ⟨?_, ck2_ok fun c hc => ck2_none F.c2 c ((hm c).1 hc), h3, ?_, ?_, ?_, ?_⟩, aext j2.ascM j1.ascM fun x => by rw [j1.get, j2.get, hA]⟩
  · unfold bnd
    simp [hl]
  · rw [hA]; exact ck4_ok fun c hc => ck4_none F.c4 c ((hm c).1 hc)
  · rfl
  · rw [hA]; exact ck6_ok fun c hc => ck6_none F.c6 c ((hm c).1 hc)
  · rw [hA]; exact F.c7
end Go.Proofs.YtakbdnkodnlkdaaDoor
