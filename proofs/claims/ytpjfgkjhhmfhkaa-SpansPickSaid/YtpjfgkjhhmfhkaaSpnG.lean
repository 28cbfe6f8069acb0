/- Merging of ascending spans: plain mathematics. No condition. -/
import Derived.Test.YtpjfgkjhhmfhkaaSpnT
namespace Go.Proofs.Ytpjfgkjhhmfhkaa

/-- One span more, behind what begins no later. -/
def mg1 (L : List Sp) (s : Sp) : List Sp :=
  match L.getLast? with
  | none => [s]
  | some t => if t.2 < s.1 - 1 then L ++ [s] else L.dropLast ++ [(t.1, max t.2 s.2)]
structure MgI (E : List Sp) (k : Nat) (L : List Sp) : Prop where
  nrm : Nrm L
  has : ∀ x, Has L x ↔ Has (E.take k) x
  low : ∀ t ∈ L, ∃ u ∈ E.take k, t.1 ≤ u.1
  len : L.length ≤ k
theorem MgI.start (E : List Sp) : MgI E 0 [] := ⟨trivial, fun x => by simp, fun t ht => by simp at ht, Nat.le_refl _⟩
theorem MgI.first {E : List Sp} {k : Nat} {s : Sp} (H : MgI E k []) (hs : E[k]? = some s) (h : 0 ≤ s.1 ∧ s.1 ≤ s.2) : MgI E (k + 1) [s] := by
  have e : E.take (k + 1) = E.take k ++ [s] := by rw [List.take_add_one, hs]; rfl
  refine ⟨nrm_one h.1 h.2, fun x => ?_, fun t ht => ?_, by simp⟩
  · rw [e, has_app, ← H.has, has_nil]; simp
  · obtain rfl : t = s := by simpa using ht
    exact ⟨t, by rw [e]; simp, Int.le_refl _⟩
theorem MgI.snoc {E : List Sp} {k : Nat} {L : List Sp} {s t : Sp} (H : MgI E k (L ++ [t])) (hs : E[k]? = some s) (h : 0 ≤ s.1 ∧ s.1 ≤ s.2) (c : t.2 < s.1 - 1) : MgI E (k + 1) (L ++ [t] ++ [s]) := by
  have e : E.take (k + 1) = E.take k ++ [s] := by rw [List.take_add_one, hs]; rfl
  refine ⟨nrm_snoc.2 ⟨H.nrm, h.1, h.2, fun u hu => ?_⟩, fun x => ?_, fun u hu => ?_, ?_⟩
  · obtain rfl : t = u := by simpa using hu
    omega
  · rw [e, has_app (l := L ++ [t]), has_app (l := E.take k), H.has]
  · rcases List.mem_append.1 hu with hu | hu
    · obtain ⟨y, hy, h1⟩ := H.low u hu
      exact ⟨y, by rw [e]; exact List.mem_append_left _ hy, h1⟩
    · obtain rfl : u = s := by simpa using hu
      exact ⟨u, by rw [e]; simp, Int.le_refl _⟩
  · have := H.len
    simp at this ⊢; omega
theorem MgI.wide {E : List Sp} {k : Nat} {L : List Sp} {s t : Sp} (hp : E.Pairwise (fun a b => a.1 ≤ b.1)) (H : MgI E k (L ++ [t])) (hs : E[k]? = some s) (c : ¬ t.2 < s.1 - 1) : MgI E (k + 1) (L ++ [(t.1, max t.2 s.2)]) := by
  have e : E.take (k + 1) = E.take k ++ [s] := by rw [List.take_add_one, hs]; rfl
  have ht := H.nrm.right
  have hts : t.1 ≤ s.1 := by
    obtain ⟨u, hu, h1⟩ := H.low t (by simp)
    have hp' : (E.take (k + 1)).Pairwise (fun a b => a.1 ≤ b.1) := hp.sublist (List.take_sublist _ _)
    rw [e, List.pairwise_append] at hp'
    have := hp'.2.2 u hu s (by simp)
    omega
  refine ⟨H.nrm.left.app (nrm_one ht.1 (by have := ht.2.1; simp only; omega)) fun u hu v hv => ?_, fun x => ?_, fun u hu => ?_, by have := H.len; simp at this ⊢; omega⟩
  · obtain rfl : v = (t.1, max t.2 s.2) := by simpa using hv
    exact H.nrm.mid u hu t (by simp)
  · rw [e, has_app, has_app, ← H.has, has_app, has_one, has_one, has_one, or_assoc]
    refine or_congr Iff.rfl ?_
    simp only
    omega
  · rcases List.mem_append.1 hu with hu | hu
    · obtain ⟨y, hy, h1⟩ := H.low u (List.mem_append_left _ hu)
      exact ⟨y, by rw [e]; exact List.mem_append_left _ hy, h1⟩
    · obtain rfl : u = (t.1, max t.2 s.2) := by simpa using hu
      exact ⟨s, by rw [e]; simp, hts⟩
theorem mgI_done {E l : List Sp} {L : List Sp} (H : MgI E E.length L) (hm : ∀ a, a ∈ E ↔ a ∈ clip l) : L = mk l := by
  refine mk_eq H.nrm fun x => ?_
  rw [H.has, List.take_length, has_perm hm, clip_has]
end Go.Proofs.Ytpjfgkjhhmfhkaa
