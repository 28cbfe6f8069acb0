/- Pairs put in any order: plain mathematics. No condition. -/
import Derived.Test.YtbpccbhlggcmfaaGreatDoorRadTy
namespace Go.Proofs.YtbpccbhlggcmfaaGreatDoor
open Go.RowKit

/-- The number that a hash has in the statement. -/
def val9 (h : List UInt8) : Int := 1 + ((h.getD 2 0).toNat : Int)
def Pr.fix (x : Pr) : Pr := { x with v := val9 x.hash }
theorem val9_small (h : List UInt8) : 0 ≤ val9 h ∧ val9 h ≤ 1000000 := by
  have := (h.getD 2 0).toNat_lt
  unfold val9
  omega
def kputs (a : En) (l : List Pr) : En := l.foldl (fun a x => kput a x.hash x.v) a
theorem kputs_snoc (a : En) (l : List Pr) (x : Pr) : kputs a (l ++ [x]) = kput (kputs a l) x.hash x.v := by
  unfold kputs
  rw [List.foldl_append]; rfl
theorem kputs_get : ∀ (l : List Pr), (∀ x ∈ l, x.v = val9 x.hash) → ∀ (a : En) (g : List UInt8), kget g (kputs a l) = if g ∈ l.map Pr.hash then some (val9 g) else kget g a
  | [], _, a, g => by rw [if_neg (by simp)]; rfl
  | x :: l, hl, a, g => by
    have ih := kputs_get l (fun y hy => hl y (List.mem_cons_of_mem _ hy)) (kput a x.hash x.v) g
    show kget g (kputs (kput a x.hash x.v) l) = _
    rw [ih]
    by_cases h1 : g ∈ l.map Pr.hash
    · rw [if_pos h1, if_pos (by rw [List.map_cons]; exact List.mem_cons_of_mem _ h1)]
    · rw [if_neg h1]
      by_cases h2 : g = x.hash
      · subst h2
        rw [kget_put_same, if_pos (by rw [List.map_cons]; exact List.mem_cons_self), hl x List.mem_cons_self]
      · rw [kget_put_other _ _ _ h2, if_neg (by rw [List.map_cons, List.mem_cons]; exact fun e => e.elim h2 h1)]
/-- What is left to be put: behind it the tree holds what was kept. -/
structure LeftI (k k2 : En) (l : List Pr) : Prop where
  good : ∀ x ∈ l, x.v = val9 x.hash ∧ x.h.length = 32
  get : ∀ g, kget g k2 = if g ∈ l.map Pr.hash then some (val9 g) else kget g k
theorem LeftI.start {l : List Pr} (h : ∀ x ∈ l, x.v = val9 x.hash ∧ x.h.length = 32) : LeftI [] (kputs [] l) l := ⟨h, fun g => kputs_get l (fun x hx => (h x hx).1) [] g⟩
theorem LeftI.step {k k2 : En} {l : List Pr} {j : Nat} (h : LeftI k k2 l) (hj : j < l.length) : LeftI (kput k l[j].hash l[j].v) k2 (l.take j ++ l.drop (j + 1)) := by
  have hm : ∀ g, g ∈ l.map Pr.hash ↔ g = l[j].hash ∨ g ∈ (l.take j ++ l.drop (j + 1)).map Pr.hash := fun g => by
    have e : l = l.take j ++ (l[j] :: l.drop (j + 1)) := by rw [List.getElem_cons_drop, List.take_append_drop]
    conv => lhs; rw [e]
    simp only [List.map_append, List.map_cons, List.mem_append, List.mem_cons]
    constructor
    · rintro (h | h | h)
      · exact .inr (.inl h)
      · exact .inl h
      · exact .inr (.inr h)
    · rintro (h | h | h)
      · exact .inr (.inl h)
      · exact .inl h
      · exact .inr (.inr h)
  refine ⟨fun x hx => h.good x ?_, fun g => ?_⟩
  · rcases List.mem_append.1 hx with h1 | h1
    · exact List.mem_of_mem_take h1
    · exact List.mem_of_mem_drop h1
  · rw [h.get g]
    by_cases h1 : g ∈ (l.take j ++ l.drop (j + 1)).map Pr.hash
    · rw [if_pos h1, if_pos ((hm g).2 (.inr h1))]
    · rw [if_neg h1]
      by_cases h2 : g = l[j].hash
      · subst h2
        rw [if_pos ((hm _).2 (.inl rfl)), kget_put_same, (h.good _ (List.getElem_mem hj)).1]
      · rw [if_neg (fun e => ((hm g).1 e).elim h2 h1), kget_put_other _ _ _ h2]
theorem LeftI.done {k k2 : En} (h : LeftI k k2 []) : EqE k k2 := fun g => by rw [h.get g, if_neg (by simp)]
/-- A tree told by other entries that hold the same. -/
theorem CT.eqe {W : World} {B tb : Nat} {T : Nd} {ρ : Nat → Nat} {k k2 : En} (H : CT W B tb T ρ k) (he : EqE k k2) (h32 : H32 (keys k2)) (hn : (keys k2).Nodup) : CT W B tb T ρ k2 :=
  { H with tk := ⟨H.tk.eq.trans he, h32, hn⟩ }
theorem hv_2 {h : List UInt8} (hh : h.length = 32) : (hv h).getD 2 undef = .int .u8 ((h.getD 2 0).toNat : Int) := by
  rw [hv_getD (by omega), List.getD_eq_getElem?_getD, List.getElem?_eq_getElem (by omega)]; rfl
end Go.Proofs.YtbpccbhlggcmfaaGreatDoor
