/- What was put, as plain mathematics: entries by hash; two ways to hold the same entries tell the same. No condition. -/
import Derived.Test.YtbpccbhlggcmfaaDoorHexS
namespace Go.Proofs.YtbpccbhlggcmfaaDoor
open Go.Op

/-- Entries: a hash and its number. -/
abbrev En := List (List UInt8 × Int)
def kput : En → List UInt8 → Int → En
  | [], h, n => [(h, n)]
  | y :: l, h, n => if y.1 = h then (y.1, n) :: l else y :: kput l h n
def kget (h : List UInt8) : En → Option Int
  | [] => none
  | y :: l => if y.1 = h then some y.2 else kget h l
def keys (l : En) : List (List UInt8) := l.map (·.1)
theorem keys_length (l : En) : (keys l).length = l.length := by simp [keys]
theorem kget_put_same (h : List UInt8) (n : Int) : ∀ l, kget h (kput l h n) = some n
  | [] => by simp [kput, kget]
  | y :: l => by
    unfold kput
    by_cases e : y.1 = h
    · rw [if_pos e]; unfold kget; rw [if_pos e]
    · rw [if_neg e]; unfold kget; rw [if_neg e]; exact kget_put_same h n l
theorem kget_put_other (h g : List UInt8) (n : Int) (hg : g ≠ h) : ∀ l, kget g (kput l h n) = kget g l
  | [] => by simp [kput, kget, Ne.symm hg]
  | y :: l => by
    unfold kput
    by_cases e : y.1 = h
    · rw [if_pos e]
      unfold kget
      have : ¬ y.1 = g := fun e2 => hg (e2.symm.trans e)
      rw [if_neg this, if_neg this]
    · rw [if_neg e]
      unfold kget
      by_cases e2 : y.1 = g
      · rw [if_pos e2, if_pos e2]
      · rw [if_neg e2, if_neg e2]; exact kget_put_other h g n hg l
theorem kget_some (h : List UInt8) : ∀ l, (kget h l).isSome = true ↔ h ∈ keys l
  | [] => by simp [kget, keys]
  | y :: l => by
    unfold kget
    by_cases e : y.1 = h
    · rw [if_pos e]; simp [keys, e]
    · rw [if_neg e, kget_some h l]; simp [keys, Ne.symm e]
theorem keys_put (h : List UInt8) (n : Int) : ∀ l, keys (kput l h n) = if h ∈ keys l then keys l else keys l ++ [h]
  | [] => by simp [keys, kput]
  | y :: l => by
    unfold kput
    by_cases e : y.1 = h
    · rw [if_pos e, if_pos (by simp [keys, e])]; rfl
    · rw [if_neg e]
      have ih := keys_put h n l
      show y.1 :: keys (kput l h n) = _
      rw [ih]
      have hm : h ∈ keys (y :: l) ↔ h ∈ keys l := by simp [keys, Ne.symm e]
      by_cases hin : h ∈ keys l
      · rw [if_pos hin, if_pos (hm.2 hin)]; rfl
      · rw [if_neg hin, if_neg (fun x => hin (hm.1 x))]; rfl
theorem keys_put_nodup {l : En} (hl : (keys l).Nodup) (h : List UInt8) (n : Int) : (keys (kput l h n)).Nodup := by
  rw [keys_put]
  split
  · exact hl
  · rename_i hn
    rw [List.nodup_append]
    refine ⟨hl, by simp, fun a ha b hb e => ?_⟩
    rw [List.mem_singleton.1 hb] at e
    exact hn (e ▸ ha)
theorem kput_length (l : En) (h : List UInt8) (n : Int) : (kput l h n).length ≤ l.length + 1 := by
  rw [← keys_length, ← keys_length, keys_put]
  split
  · omega
  · simp
/-- Both hold the same. -/
def EqE (a b : En) : Prop := ∀ h, kget h a = kget h b
theorem EqE.refl (a : En) : EqE a a := fun _ => rfl
theorem EqE.symm {a b : En} (h : EqE a b) : EqE b a := fun x => (h x).symm
theorem EqE.trans {a b c : En} (h : EqE a b) (k : EqE b c) : EqE a c := fun x => (h x).trans (k x)
theorem EqE.mem {a b : En} (h : EqE a b) (x : List UInt8) : x ∈ keys a ↔ x ∈ keys b := by rw [← kget_some, ← kget_some, h x]
theorem EqE.put {a b : En} (h : EqE a b) (x : List UInt8) (n : Int) : EqE (kput a x n) (kput b x n) := fun g => by
  by_cases e : g = x
  · subst e; rw [kget_put_same, kget_put_same]
  · rw [kget_put_other x g n e, kget_put_other x g n e]; exact h g
/-- Puts of two hashes that differ may change places. -/
theorem kput_comm (a : En) {x y : List UInt8} (h : x ≠ y) (n m : Int) : EqE (kput (kput a x n) y m) (kput (kput a y m) x n) := fun g => by
  by_cases e1 : g = x
  · subst e1; rw [kget_put_other y g m h, kget_put_same, kget_put_same]
  · by_cases e2 : g = y
    · subst e2; rw [kget_put_same, kget_put_other x g n e1, kget_put_same]
    · rw [kget_put_other y g m e2, kget_put_other x g n e1, kget_put_other x g n e1, kget_put_other y g m e2]
/-- A put again of what is there changes nothing. -/
theorem kput_again {a : En} {x : List UInt8} {n : Int} (h : kget x a = some n) : EqE (kput a x n) a := fun g => by
  by_cases e : g = x
  · subst e; rw [kget_put_same, h]
  · rw [kget_put_other x g n e]
theorem EqE.sort {a b : En} (h : EqE a b) : rsort (keys a) = rsort (keys b) := asc_ext _ _ (rsort_asc _) (rsort_asc _) fun x => by rw [rsort_mem, rsort_mem, h.mem]
/-- What an ascending way of holding the entries tells. -/
theorem EqE.asc {a b : En} (h : EqE a b) (ha : Asc (keys a)) : keys a = rsort (keys b) := by rw [← h.sort]; exact (rsort_self ha).symm
theorem rput_len (h : List UInt8) : ∀ l, Asc l → (rput l h).length = if h ∈ l then l.length else l.length + 1
  | [], _ => by simp [rput]
  | x :: l, hl => by
    unfold rput
    by_cases h1 : bytesLess x h = true
    · rw [if_pos h1]
      have hne : h ≠ x := fun e => by rw [e, less_irrefl] at h1; cases h1
      have ih := rput_len h l (List.pairwise_cons.1 hl).2
      rw [List.length_cons, ih]
      by_cases hin : h ∈ l
      · rw [if_pos hin, if_pos (List.mem_cons_of_mem _ hin), List.length_cons]
      · rw [if_neg hin, if_neg (by simp [hne, hin]), List.length_cons]
    · rw [if_neg h1]
      by_cases h2 : x = h
      · rw [if_pos h2, if_pos (by simp [h2])]
      · rw [if_neg h2, if_neg ?_]
        · rfl
        · intro hm
          rcases List.mem_cons.1 hm with e | e
          · exact h2 e.symm
          · exact h1 ((List.pairwise_cons.1 hl).1 h e)
theorem rsort_go_length (l : List (List UInt8)) : ∀ s, Asc s → l.Nodup → (∀ x ∈ l, x ∉ s) → (l.foldl rput s).length = s.length + l.length := by
  induction l with
  | nil => intro s _ _ _; rfl
  | cons x l ih =>
    intro s hs hn hd
    have h1 := rput_len x s hs
    rw [if_neg (hd x List.mem_cons_self)] at h1
    have hn' := List.nodup_cons.1 hn
    rw [List.foldl_cons, ih _ (rput_asc x s hs) hn'.2 (fun y hy hm => ?_), h1, List.length_cons]
    · omega
    · rcases (rput_mem y x s).1 hm with e | e
      · exact hn'.1 (e ▸ hy)
      · exact hd y (List.mem_cons_of_mem _ hy) e
theorem rsort_len {l : List (List UInt8)} (h : l.Nodup) : (rsort l).length = l.length := by
  have := rsort_go_length l [] .nil h (fun _ _ hm => by cases hm)
  simpa [rsort] using this
/-- Both hold as many. -/
theorem EqE.count {a b : En} (h : EqE a b) (ha : (keys a).Nodup) (hb : (keys b).Nodup) : a.length = b.length := by
  rw [← keys_length, ← keys_length, ← rsort_len ha, ← rsort_len hb, h.sort]
theorem asc_nodup {l : List (List UInt8)} (h : Asc l) : l.Nodup := h.imp fun {a b} hab e => by rw [e, less_irrefl] at hab; cases hab
end Go.Proofs.YtbpccbhlggcmfaaDoor
