/- Lists of hashes: their cells in a row, neighbours that are alike left out, ascending lists. Plain mathematics. No condition. -/
import Derived.Test.YthfkmfepeafgjaaHexH
import Derived.Test.YthfkmfepeafgjaaGenApp
namespace Go.Proofs.Ythfkmfepeafgjaa
open Go.RowKit Go.Op

/-- The cells of hashes in a row. -/
def fl (E : List (List UInt8)) : List Value := E.flatMap fun h => us (nmb h)
/-- All are hashes. -/
def H32 (E : List (List UInt8)) : Prop := ∀ h ∈ E, h.length = 32
theorem H32.nil : H32 [] := fun _ h => by cases h
theorem H32.app {E F : List (List UInt8)} (h : H32 E) (k : H32 F) : H32 (E ++ F) := fun x hx => by
  rcases List.mem_append.1 hx with hx | hx
  · exact h x hx
  · exact k x hx
theorem H32.one {h : List UInt8} (hh : h.length = 32) : H32 [h] := fun x hx => by rw [List.mem_singleton.1 hx]; exact hh
theorem H32.take {E : List (List UInt8)} (h : H32 E) (k : Nat) : H32 (E.take k) := fun x hx => h x (List.mem_of_mem_take hx)
theorem H32.drop {E : List (List UInt8)} (h : H32 E) (k : Nat) : H32 (E.drop k) := fun x hx => h x (List.mem_of_mem_drop hx)
theorem H32.at {E : List (List UInt8)} (h : H32 E) {i : Nat} (hi : i < E.length) : E[i].length = 32 := h _ (List.getElem_mem hi)
theorem H32.set {E : List (List UInt8)} (h : H32 E) {i : Nat} {x : List UInt8} (hx : x.length = 32) : H32 (E.set i x) := fun y hy => by
  rcases List.mem_or_eq_of_mem_set hy with hy | rfl
  · exact h y hy
  · exact hx
theorem usn_length (h : List UInt8) : (us (nmb h)).length = h.length := by rw [us, List.length_map, nm_length]
theorem fl_cons (h : List UInt8) (E : List (List UInt8)) : fl (h :: E) = us (nmb h) ++ fl E := by simp [fl]
theorem fl_app (E F : List (List UInt8)) : fl (E ++ F) = fl E ++ fl F := by simp [fl]
theorem fl_one (h : List UInt8) : fl [h] = us (nmb h) := by simp [fl]
theorem fl_length : ∀ {E : List (List UInt8)}, H32 E → (fl E).length = E.length * 32
  | [], _ => rfl
  | h :: E, hE => by
    rw [fl_cons, List.length_append, usn_length, fl_length (fun x hx => hE x (List.mem_cons_of_mem _ hx)), hE h (List.mem_cons_self ..), List.length_cons]
    omega
theorem fl_take {E : List (List UInt8)} (hE : H32 E) (i : Nat) : (fl E).take (i * 32) = fl (E.take i) := by
  by_cases hi : i ≤ E.length
  · conv => lhs; rw [← List.take_append_drop i E, fl_app]
    rw [List.take_append_of_le_length (by rw [fl_length (hE.take i), List.length_take]; omega), List.take_of_length_le (by rw [fl_length (hE.take i), List.length_take]; omega)]
  · rw [List.take_of_length_le (by rw [fl_length hE]; omega), List.take_of_length_le (by omega)]
theorem fl_drop {E : List (List UInt8)} (hE : H32 E) (i : Nat) (hi : i ≤ E.length) : (fl E).drop (i * 32) = fl (E.drop i) := by
  conv => lhs; rw [← List.take_append_drop i E, fl_app]
  rw [List.drop_append_of_le_length (by rw [fl_length (hE.take i), List.length_take]; omega), List.drop_of_length_le (by rw [fl_length (hE.take i), List.length_take]; omega), List.nil_append]
theorem fl_at {E : List (List UInt8)} (hE : H32 E) {i c : Nat} (hi : i < E.length) (hc : c < 32) : (fl E)[i * 32 + c]? = (us (nmb E[i]))[c]? := by
  have h1 : ((fl E).drop (i * 32))[c]? = (fl E)[i * 32 + c]? := by rw [List.getElem?_drop]
  rw [← h1, fl_drop hE i (by omega), List.drop_eq_getElem_cons hi, fl_cons, List.getElem?_append_left (by rw [usn_length, hE.at hi]; exact hc)]
theorem fl_one' (E : List (List UInt8)) : ∀ u ∈ fl E, u.oneCell' = true := by
  intro u hu
  simp only [fl, List.mem_flatMap] at hu
  obtain ⟨h, _, hx⟩ := hu
  obtain ⟨x, _, rfl⟩ := List.mem_map.1 hx
  rfl

theorem puts_fl {E : List (List UInt8)} (hE : H32 E) (R : List Value) {i : Nat} (hi : i < E.length) {h : List UInt8} (hh : h.length = 32) : puts (fl E ++ R) (i * 32) (us (nmb h)) = fl (E.set i h) ++ R := by
  unfold puts
  have hl := fl_length hE
  rw [usn_length, hh, show i * 32 + 32 = (i + 1) * 32 from by omega, List.take_append_of_le_length (by omega), fl_take hE, List.drop_append_of_le_length (by omega), fl_drop hE (i + 1) (by omega)]
  rw [List.set_eq_take_append_cons_drop, if_pos hi, fl_app, fl_cons]
  simp
theorem puts_zero {E : List (List UInt8)} (hE : H32 E) (R : List Value) {k m : Nat} (hk : k + m = E.length) : puts (fl E ++ R) (k * 32) (fl (List.replicate m hz)) = fl (E.take k ++ List.replicate m hz) ++ R := by
  unfold puts
  have hl := fl_length hE
  have hz32 : H32 (List.replicate m hz) := fun x hx => by rw [List.eq_of_mem_replicate hx]; rfl
  have hlz := fl_length hz32
  rw [List.length_replicate] at hlz
  rw [hlz, List.take_append_of_le_length (by omega), fl_take hE, show k * 32 + m * 32 = (fl E).length from by omega, List.drop_left, fl_app]

/-- Neighbours that are alike are left out. -/
def cpt : List (List UInt8) → List (List UInt8)
  | [] => []
  | [x] => [x]
  | x :: y :: l => if x = y then cpt (y :: l) else x :: cpt (y :: l)
theorem cpt_snoc : ∀ (l : List (List UInt8)) (z x : List UInt8), cpt (l ++ [z, x]) = cpt (l ++ [z]) ++ (if x = z then [] else [x])
  | [], z, x => by
    by_cases h : z = x
    · subst h; simp [cpt]
    · have h' : ¬ x = z := fun e => h e.symm
      simp [cpt, h, h']
  | [a], z, x => by
    have ih := cpt_snoc [] z x
    simp only [List.nil_append] at ih
    simp only [List.cons_append, List.nil_append, cpt]
    have e : cpt [z, x] = cpt [z] ++ (if x = z then [] else [x]) := ih
    simp only [cpt] at e
    rw [e]
    by_cases h : a = z <;> simp [h]
  | a :: b :: l, z, x => by
    have ih := cpt_snoc (b :: l) z x
    simp only [List.cons_append, cpt] at ih ⊢
    rw [ih]
    by_cases h : a = b <;> simp [h]
theorem cpt_step {d : List (List UInt8)} {m : Nat} (h0 : 0 < m) (hm : m < d.length) : cpt (d.take (m + 1)) = cpt (d.take m) ++ (if d[m] = d[m - 1] then [] else [d[m]]) := by
  have e : d.take m = d.take (m - 1) ++ [d[m - 1]] := by
    conv => lhs; rw [show m = m - 1 + 1 from by omega]
    rw [List.take_succ_eq_append_getElem (by omega)]
  have e2 : d.take (m + 1) = d.take (m - 1) ++ [d[m - 1], d[m]] := by
    rw [List.take_succ_eq_append_getElem hm, e, List.append_assoc]; rfl
  rw [e2, cpt_snoc, ← e]
theorem cpt_mem (a : List UInt8) : ∀ l, a ∈ cpt l ↔ a ∈ l
  | [] => Iff.rfl
  | [_] => Iff.rfl
  | x :: y :: l => by
    have ih := cpt_mem a (y :: l)
    rw [cpt]
    by_cases h : x = y
    · subst h; rw [if_pos rfl, ih]; simp
    · rw [if_neg h, List.mem_cons, ih, List.mem_cons]; simp
theorem cpt_length : ∀ l, (cpt l).length ≤ l.length
  | [] => Nat.le_refl _
  | [_] => Nat.le_refl _
  | x :: y :: l => by
    have ih := cpt_length (y :: l)
    rw [cpt]
    split
    · simp at ih ⊢; omega
    · simp at ih ⊢; omega
theorem cpt_none : ∀ l : List (List UInt8), (∀ i, (h : i + 1 < l.length) → l[i + 1] ≠ l[i]) → cpt l = l
  | [], _ => rfl
  | [_], _ => rfl
  | x :: y :: l, h => by
    have h0 := h 0 (by simp)
    have ih := cpt_none (y :: l) (fun i hi => h (i + 1) (by simpa using hi))
    rw [cpt, if_neg (fun e => h0 e.symm), ih]

/-- Each one comes ahead of all behind it. -/
abbrev Asc (l : List (List UInt8)) : Prop := l.Pairwise fun a b => bytesLess a b = true
theorem cpt_asc : ∀ l : List (List UInt8), l.Pairwise (fun a b => bytesLess b a = false) → Asc (cpt l)
  | [], _ => .nil
  | [_], _ => by simp [cpt, Asc]
  | x :: y :: l, h => by
    have ih := cpt_asc (y :: l) h.tail
    rw [cpt]
    by_cases e : x = y
    · rw [if_pos e]; exact ih
    · rw [if_neg e]
      refine List.pairwise_cons.2 ⟨fun a ha => ?_, ih⟩
      have hxy := (List.pairwise_cons.1 h).1 y (by simp)
      have hlt : bytesLess x y = true := by
        cases hb : bytesLess x y with
        | true => rfl
        | false => exact absurd (less_total x y hb hxy) e
      rcases List.mem_cons.1 ((cpt_mem a (y :: l)).1 ha) with rfl | hm
      · exact hlt
      · have h2 := (List.pairwise_cons.1 h.tail).1 a hm
        cases hb : bytesLess y a with
        | true => exact less_trans x y a hlt hb
        | false => rw [← less_total y a hb h2]; exact hlt
theorem asc_ext : ∀ (l m : List (List UInt8)), Asc l → Asc m → (∀ a, a ∈ l ↔ a ∈ m) → l = m
  | [], [], _, _, _ => rfl
  | [], y :: m, _, _, h => by have := (h y).2 (by simp); cases this
  | x :: l, [], _, _, h => by have := (h x).1 (by simp); cases this
  | x :: l, y :: m, hl, hm, h => by
    have hl1 := List.pairwise_cons.1 hl
    have hm1 := List.pairwise_cons.1 hm
    have e : x = y := by
      rcases List.mem_cons.1 ((h x).1 (by simp)) with e | hx
      · exact e
      · rcases List.mem_cons.1 ((h y).2 (by simp)) with e | hy
        · exact e.symm
        · have h1 := hm1.1 x hx
          have h2 := hl1.1 y hy
          rw [less_asymm h1] at h2; cases h2
    subst e
    rw [asc_ext l m hl1.2 hm1.2 fun a => ?_]
    constructor
    · intro ha
      rcases List.mem_cons.1 ((h a).1 (List.mem_cons_of_mem _ ha)) with rfl | h2
      · have := hl1.1 _ ha; rw [less_irrefl] at this; cases this
      · exact h2
    · intro ha
      rcases List.mem_cons.1 ((h a).2 (List.mem_cons_of_mem _ ha)) with rfl | h2
      · have := hm1.1 _ ha; rw [less_irrefl] at this; cases this
      · exact h2

/-- One more hash, in its place. -/
def rput : List (List UInt8) → List UInt8 → List (List UInt8)
  | [], h => [h]
  | x :: l, h => if bytesLess x h = true then x :: rput l h else if x = h then x :: l else h :: x :: l
theorem rput_mem (a h : List UInt8) : ∀ l, a ∈ rput l h ↔ a = h ∨ a ∈ l
  | [] => by simp [rput]
  | x :: l => by
    rw [rput]
    by_cases h1 : bytesLess x h = true
    · rw [if_pos h1, List.mem_cons, rput_mem a h l, List.mem_cons]
      constructor
      · rintro (h | h | h)
        · exact .inr (.inl h)
        · exact .inl h
        · exact .inr (.inr h)
      · rintro (h | h | h)
        · exact .inr (.inl h)
        · exact .inl h
        · exact .inr (.inr h)
    · rw [if_neg h1]
      by_cases h2 : x = h
      · subst h2; rw [if_pos rfl]; simp
      · rw [if_neg h2]; simp
theorem rput_asc (h : List UInt8) : ∀ l, Asc l → Asc (rput l h)
  | [], _ => by simp [rput, Asc]
  | x :: l, hl => by
    have hl1 := List.pairwise_cons.1 hl
    rw [rput]
    by_cases h1 : bytesLess x h = true
    · rw [if_pos h1]
      refine List.pairwise_cons.2 ⟨fun a ha => ?_, rput_asc h l hl1.2⟩
      rcases (rput_mem a h l).1 ha with rfl | ha
      · exact h1
      · exact hl1.1 a ha
    · rw [if_neg h1]
      by_cases h2 : x = h
      · rw [if_pos h2]; exact hl
      · rw [if_neg h2]
        have hx : bytesLess h x = true := by
          cases hb : bytesLess h x with
          | true => rfl
          | false => exact absurd (less_total x h (by simpa using h1) hb) h2
        refine List.pairwise_cons.2 ⟨fun a ha => ?_, hl⟩
        rcases List.mem_cons.1 ha with rfl | ha
        · exact hx
        · exact less_trans h x a hx (hl1.1 a ha)
/-- Sorted, each once. -/
def rsort (l : List (List UInt8)) : List (List UInt8) := l.foldl rput []
theorem rsort_go (l : List (List UInt8)) : ∀ s, Asc s → Asc (l.foldl rput s) ∧ ∀ a, a ∈ l.foldl rput s ↔ a ∈ s ∨ a ∈ l := by
  induction l with
  | nil => intro s hs; exact ⟨hs, fun a => by simp⟩
  | cons x l ih =>
    intro s hs
    obtain ⟨h1, h2⟩ := ih (rput s x) (rput_asc x s hs)
    refine ⟨h1, fun a => ?_⟩
    rw [List.foldl_cons, h2, rput_mem, List.mem_cons]
    constructor
    · rintro ((h | h) | h)
      · exact .inr (.inl h)
      · exact .inl h
      · exact .inr (.inr h)
    · rintro (h | h | h)
      · exact .inl (.inr h)
      · exact .inl (.inl h)
      · exact .inr h
theorem rsort_asc (l : List (List UInt8)) : Asc (rsort l) := (rsort_go l [] .nil).1
theorem rsort_mem (l : List (List UInt8)) (a : List UInt8) : a ∈ rsort l ↔ a ∈ l := by rw [rsort, (rsort_go l [] .nil).2]; simp
theorem rsort_h32 {l : List (List UInt8)} (h : H32 l) : H32 (rsort l) := fun x hx => h x ((rsort_mem l x).1 hx)
/-- A sorted list's neighbours left out is the list sorted, each once. -/
theorem cpt_rsort {l E : List (List UInt8)} (hs : E.Pairwise fun a b => bytesLess b a = false) (hm : ∀ a, a ∈ E ↔ a ∈ l) : cpt E = rsort l :=
  asc_ext _ _ (cpt_asc E hs) (rsort_asc l) fun a => by rw [cpt_mem, hm, rsort_mem]
theorem rsort_self {l : List (List UInt8)} (h : Asc l) : rsort l = l := asc_ext _ _ (rsort_asc l) h fun a => rsort_mem l a
end Go.Proofs.Ythfkmfepeafgjaa
