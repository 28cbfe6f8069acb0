/- Sets of numbers as spans: plain mathematics. No condition. -/
import Derived.Test.YtadglppplgeldaaGenOps
namespace Go.Proofs.Ytadglppplgeldaa

/-- A span: its two ends. -/
abbrev Sp := Int × Int
/-- What some spans contain. -/
def Has (l : List Sp) (x : Int) : Prop := 0 ≤ x ∧ ∃ s ∈ l, s.1 ≤ x ∧ x ≤ s.2
/-- Ascending, with gaps. -/
def Nrm : List Sp → Prop
  | [] => True
  | s :: l => 0 ≤ s.1 ∧ s.1 ≤ s.2 ∧ (∀ t ∈ l, s.2 + 1 < t.1) ∧ Nrm l
theorem has_nil {x : Int} : Has [] x ↔ False := ⟨fun h => by obtain ⟨_, s, hs, _⟩ := h; simp at hs, False.elim⟩
theorem has_app {l m : List Sp} {x : Int} : Has (l ++ m) x ↔ Has l x ∨ Has m x := by
  constructor
  · rintro ⟨h0, s, hs, h⟩
    rcases List.mem_append.1 hs with hs | hs
    · exact .inl ⟨h0, s, hs, h⟩
    · exact .inr ⟨h0, s, hs, h⟩
  · rintro (⟨h0, s, hs, h⟩ | ⟨h0, s, hs, h⟩)
    · exact ⟨h0, s, List.mem_append_left _ hs, h⟩
    · exact ⟨h0, s, List.mem_append_right _ hs, h⟩
theorem has_one {s : Sp} {x : Int} : Has [s] x ↔ 0 ≤ x ∧ s.1 ≤ x ∧ x ≤ s.2 := by
  unfold Has; simp
theorem has_cons {s : Sp} {l : List Sp} {x : Int} : Has (s :: l) x ↔ (0 ≤ x ∧ s.1 ≤ x ∧ x ≤ s.2) ∨ Has l x := by
  rw [show s :: l = [s] ++ l from rfl, has_app, has_one]
theorem has_nneg {l : List Sp} {x : Int} (h : Has l x) : 0 ≤ x := h.1
theorem has_perm {l m : List Sp} (h : ∀ s, s ∈ l ↔ s ∈ m) {x : Int} : Has l x ↔ Has m x := by
  unfold Has; simp only [h]
theorem Nrm.tail {s : Sp} {l : List Sp} (h : Nrm (s :: l)) : Nrm l := h.2.2.2
theorem Nrm.mem : ∀ {l : List Sp}, Nrm l → ∀ s ∈ l, 0 ≤ s.1 ∧ s.1 ≤ s.2
  | _ :: _, h, s, hs => by
    rcases List.mem_cons.1 hs with rfl | hs
    · exact ⟨h.1, h.2.1⟩
    · exact h.tail.mem s hs
theorem Nrm.gap {s : Sp} {l : List Sp} (h : Nrm (s :: l)) {x : Int} (hx : Has l x) : s.2 + 1 < x := by
  obtain ⟨_, t, ht, h1, _⟩ := hx
  have := h.2.2.1 t ht
  omega
theorem Nrm.lo {l : List Sp} (h : Nrm l) {s : Sp} (hs : s ∈ l) : Has l s.1 := ⟨(h.mem s hs).1, s, hs, by omega, (h.mem s hs).2⟩
theorem Nrm.hi {l : List Sp} (h : Nrm l) {s : Sp} (hs : s ∈ l) : Has l s.2 := ⟨by have := h.mem s hs; omega, s, hs, (h.mem s hs).2, by omega⟩
theorem nrm_cons {s : Sp} {l : List Sp} (h0 : 0 ≤ s.1) (h1 : s.1 ≤ s.2) (hl : Nrm l) (h : ∀ x, Has l x → s.2 + 1 < x) : Nrm (s :: l) :=
  ⟨h0, h1, fun t ht => h t.1 (hl.lo ht), hl⟩
theorem Nrm.app : ∀ {l m : List Sp}, Nrm l → Nrm m → (∀ s ∈ l, ∀ t ∈ m, s.2 + 1 < t.1) → Nrm (l ++ m)
  | [], _, _, hm, _ => hm
  | s :: l, m, hl, hm, h => ⟨hl.1, hl.2.1, fun t ht => by
      rcases List.mem_append.1 ht with ht | ht
      · exact hl.2.2.1 t ht
      · exact h s List.mem_cons_self t ht, hl.tail.app hm fun u hu => h u (List.mem_cons_of_mem _ hu)⟩
theorem Nrm.left : ∀ {l m : List Sp}, Nrm (l ++ m) → Nrm l
  | [], _, _ => trivial
  | _ :: _, _, h => ⟨h.1, h.2.1, fun t ht => h.2.2.1 t (List.mem_append_left _ ht), (Nrm.tail h).left⟩
theorem Nrm.right : ∀ {l m : List Sp}, Nrm (l ++ m) → Nrm m
  | [], _, h => h
  | _ :: _, _, h => (Nrm.tail h).right
theorem Nrm.mid : ∀ {l m : List Sp}, Nrm (l ++ m) → ∀ s ∈ l, ∀ t ∈ m, s.2 + 1 < t.1
  | _ :: _, _, h, s, hs, t, ht => by
    rcases List.mem_cons.1 hs with rfl | hs
    · exact h.2.2.1 t (List.mem_append_right _ ht)
    · exact (Nrm.tail h).mid s hs t ht
theorem nrm_one {s : Sp} (h0 : 0 ≤ s.1) (h1 : s.1 ≤ s.2) : Nrm [s] := ⟨h0, h1, fun t ht => by simp at ht, trivial⟩
theorem Nrm.nil_of {l : List Sp} (h : Nrm l) (hx : ∀ x, ¬ Has l x) : l = [] := by
  cases l with
  | nil => rfl
  | cons s l => exact absurd (h.lo List.mem_cons_self) (hx _)
theorem Nrm.low {s : Sp} {a : List Sp} (ha : Nrm (s :: a)) {x : Int} (hx : Has (s :: a) x) : s.1 ≤ x := by
  rcases has_cons.1 hx with hx | hx
  · exact hx.2.1
  · have := ha.gap hx; have := ha.2.1; omega
/-- A set has one normal form. -/
theorem uniq : ∀ {a b : List Sp}, Nrm a → Nrm b → (∀ x, Has a x ↔ Has b x) → a = b
  | [], b, _, hb, h => (hb.nil_of fun x hx => has_nil.1 ((h x).2 hx)).symm
  | s :: a, [], ha, _, h => ha.nil_of fun x hx => has_nil.1 ((h x).1 hx)
  | s :: a, t :: b, ha, hb, h => by
    have e1 : s.1 = t.1 := by
      have h1 := hb.low ((h _).1 (ha.lo List.mem_cons_self))
      have h2 := ha.low ((h _).2 (hb.lo List.mem_cons_self))
      omega
    have hi : ∀ {s t : Sp} {a b : List Sp}, Nrm (s :: a) → Nrm (t :: b) → s.1 = t.1 → (∀ x, Has (t :: b) x → Has (s :: a) x) → t.2 ≤ s.2 := fun {s t a b} ha hb e h => by
      refine Classical.byContradiction fun hn => ?_
      have h1 := h (s.2 + 1) ⟨by have := ha.1; have := ha.2.1; omega, t, List.mem_cons_self, by have := ha.2.1; omega, by omega⟩
      rcases has_cons.1 h1 with h2 | h2
      · omega
      · have := ha.gap h2; omega
    have e2 : s.2 = t.2 := by
      have h1 := hi ha hb e1 fun x => (h x).2
      have h2 := hi hb ha e1.symm fun x => (h x).1
      omega
    have e : s = t := Prod.ext e1 e2
    subst e
    rw [uniq ha.tail hb.tail fun x => ?_]
    constructor
    · intro hx
      rcases has_cons.1 ((h x).1 (has_cons.2 (.inr hx))) with h1 | h1
      · have := ha.gap hx; omega
      · exact h1
    · intro hx
      rcases has_cons.1 ((h x).2 (has_cons.2 (.inr hx))) with h1 | h1
      · have := hb.gap hx; omega
      · exact h1

/-- A set with a span more. -/
def jn : List Sp → Sp → List Sp
  | [], s => [s]
  | x :: l, s => if x.2 < s.1 - 1 then x :: jn l s else if s.2 < x.1 - 1 then s :: x :: l else jn l (min s.1 x.1, max s.2 x.2)
theorem jn_ok : ∀ {l : List Sp} {s : Sp}, Nrm l → 0 ≤ s.1 → s.1 ≤ s.2 → Nrm (jn l s) ∧ ∀ x, Has (jn l s) x ↔ Has l x ∨ (s.1 ≤ x ∧ x ≤ s.2)
  | [], s, _, h0, h1 => ⟨nrm_one h0 h1, fun x => by unfold jn; rw [has_one, has_nil, false_or]; constructor <;> intro h <;> omega⟩
  | y :: l, s, hl, h0, h1 => by
    unfold jn
    have hy := hl.mem y List.mem_cons_self
    by_cases c1 : y.2 < s.1 - 1
    · rw [if_pos c1]
      obtain ⟨i1, i2⟩ := jn_ok hl.tail h0 h1
      refine ⟨nrm_cons hy.1 hy.2 i1 fun x hx => ?_, fun x => ?_⟩
      · rcases (i2 x).1 hx with hx | hx
        · exact hl.gap hx
        · omega
      · rw [has_cons, i2, has_cons, or_assoc]
    · rw [if_neg c1]
      by_cases c2 : s.2 < y.1 - 1
      · rw [if_pos c2]
        refine ⟨nrm_cons h0 h1 hl fun x hx => ?_, fun x => ?_⟩
        · rcases has_cons.1 hx with hx | hx
          · omega
          · have := hl.gap hx; omega
        · rw [has_cons]
          constructor
          · rintro (h | h)
            · exact .inr h.2
            · exact .inl h
          · rintro (h | h)
            · exact .inr h
            · exact .inl ⟨by omega, h⟩
      · rw [if_neg c2]
        obtain ⟨i1, i2⟩ := jn_ok (l := l) (s := (min s.1 y.1, max s.2 y.2)) hl.tail (by simp only; omega) (by simp only; omega)
        refine ⟨i1, fun x => ?_⟩
        rw [i2, has_cons]
        constructor
        · rintro (h | h)
          · exact .inl (.inr h)
          · simp only at h
            by_cases h2 : s.1 ≤ x ∧ x ≤ s.2
            · exact .inr h2
            · exact .inl (.inl (by omega))
        · rintro ((h | h) | h)
          · exact .inr (by simp only; omega)
          · exact .inl h
          · exact .inr (by simp only; omega)
theorem jn_len : ∀ (l : List Sp) (s : Sp), (jn l s).length ≤ l.length + 1
  | [], _ => by simp [jn]
  | y :: l, s => by
    unfold jn
    split
    · have := jn_len l s; simp; omega
    · split
      · simp
      · have := jn_len l (min s.1 y.1, max s.2 y.2); simp; omega
/-- Without what is below 0, and empty ones. -/
def clip (l : List Sp) : List Sp := (l.map fun s => ((max s.1 0, s.2) : Sp)).filter fun s => decide (s.1 ≤ s.2)
theorem clip_mem {l : List Sp} {s : Sp} (h : s ∈ clip l) : 0 ≤ s.1 ∧ s.1 ≤ s.2 := by
  unfold clip at h
  obtain ⟨h1, h2⟩ := List.mem_filter.1 h
  obtain ⟨t, _, rfl⟩ := List.mem_map.1 h1
  exact ⟨by simp only; omega, by simpa using h2⟩
theorem clip_has (l : List Sp) (x : Int) : Has (clip l) x ↔ Has l x := by
  unfold Has clip
  constructor
  · rintro ⟨h0, s, hs, h⟩
    obtain ⟨h1, _⟩ := List.mem_filter.1 hs
    obtain ⟨t, ht, rfl⟩ := List.mem_map.1 h1
    exact ⟨h0, t, ht, by simp only at h; omega, h.2⟩
  · rintro ⟨h0, t, ht, h⟩
    refine ⟨h0, (max t.1 0, t.2), List.mem_filter.2 ⟨List.mem_map.2 ⟨t, ht, rfl⟩, ?_⟩, ?_, h.2⟩
    · simp only [decide_eq_true_eq]; omega
    · simp only; omega
theorem clip_len (l : List Sp) : (clip l).length ≤ l.length := by
  unfold clip
  have := List.length_filter_le (fun s : Sp => decide (s.1 ≤ s.2)) (l.map fun s => ((max s.1 0, s.2) : Sp))
  simpa using this
theorem clip_app (l m : List Sp) : clip (l ++ m) = clip l ++ clip m := by simp [clip]
theorem clip_one (s : Sp) : clip [s] = if max s.1 0 ≤ s.2 then [(max s.1 0, s.2)] else [] := by
  unfold clip
  by_cases h : max s.1 0 ≤ s.2
  · rw [if_pos h]; simp [h]
  · rw [if_neg h]; simp [h]
/-- The normal form. -/
def mk (l : List Sp) : List Sp := (clip l).foldl jn []
theorem fold_ok : ∀ (l m : List Sp), (∀ s ∈ l, 0 ≤ s.1 ∧ s.1 ≤ s.2) → Nrm m → Nrm (l.foldl jn m) ∧ ∀ x, Has (l.foldl jn m) x ↔ Has m x ∨ Has l x
  | [], m, _, hm => ⟨hm, fun x => by rw [has_nil]; simp⟩
  | s :: l, m, hl, hm => by
    have hs := hl s List.mem_cons_self
    obtain ⟨j1, j2⟩ := jn_ok hm hs.1 hs.2
    obtain ⟨i1, i2⟩ := fold_ok l (jn m s) (fun t ht => hl t (List.mem_cons_of_mem _ ht)) j1
    refine ⟨i1, fun x => ?_⟩
    rw [List.foldl_cons, i2, j2, has_cons, or_assoc]
    constructor
    · rintro (h | h | h)
      · exact .inl h
      · exact .inr (.inl ⟨by omega, h⟩)
      · exact .inr (.inr h)
    · rintro (h | h | h)
      · exact .inl h
      · exact .inr (.inl h.2)
      · exact .inr (.inr h)
theorem mk_nrm (l : List Sp) : Nrm (mk l) := (fold_ok (clip l) [] (fun _ h => clip_mem h) trivial).1
theorem mk_has (l : List Sp) (x : Int) : Has (mk l) x ↔ Has l x := by
  rw [mk, (fold_ok (clip l) [] (fun _ h => clip_mem h) trivial).2, has_nil, clip_has]; simp
theorem mk_eq {l m : List Sp} (hm : Nrm m) (h : ∀ x, Has m x ↔ Has l x) : m = mk l := uniq hm (mk_nrm l) fun x => by rw [h, mk_has]
theorem mk_self {l : List Sp} (h : Nrm l) : mk l = l := (mk_eq h fun _ => Iff.rfl).symm
theorem mk_congr {l m : List Sp} (h : ∀ x, Has l x ↔ Has m x) : mk l = mk m := uniq (mk_nrm l) (mk_nrm m) fun x => by rw [mk_has, mk_has, h]
theorem fold_len : ∀ (l m : List Sp), (l.foldl jn m).length ≤ l.length + m.length
  | [], m => by simp
  | s :: l, m => by
    have := fold_len l (jn m s)
    have := jn_len m s
    simp only [List.foldl_cons, List.length_cons]; omega
theorem mk_len (l : List Sp) : (mk l).length ≤ l.length := by
  have := fold_len (clip l) []
  have := clip_len l
  unfold mk
  simp only [List.length_nil] at *; omega
theorem mk_nil : mk [] = [] := rfl
/-- All ends are at most M. -/
def Top (M : Int) (l : List Sp) : Prop := ∀ s ∈ l, s.2 ≤ M
theorem top_has {M : Int} {l : List Sp} (h : Top M l) {x : Int} (hx : Has l x) : x ≤ M := by
  obtain ⟨_, s, hs, _, h2⟩ := hx
  have := h s hs; omega
theorem top_of {M : Int} {l : List Sp} (hl : Nrm l) (h : ∀ x, Has l x → x ≤ M) : Top M l := fun _ hs => h _ (hl.hi hs)
theorem mk_top {M : Int} {l : List Sp} (h : Top M l) : Top M (mk l) := top_of (mk_nrm l) fun x hx => top_has h ((mk_has l x).1 hx)

/-- The numbers from one to another. -/
def rng (lo hi : Int) : List Int := (List.range (hi - lo + 1).toNat).map fun k : Nat => lo + (k : Int)
theorem mem_rng {lo hi x : Int} : x ∈ rng lo hi ↔ lo ≤ x ∧ x ≤ hi := by
  unfold rng
  rw [List.mem_map]
  constructor
  · rintro ⟨k, hk, rfl⟩
    rw [List.mem_range] at hk
    omega
  · rintro ⟨h1, h2⟩
    exact ⟨(x - lo).toNat, by rw [List.mem_range]; omega, by omega⟩
theorem rng_len (lo hi : Int) : (rng lo hi).length = (hi - lo + 1).toNat := by simp [rng]
theorem rng_asc (lo hi : Int) : (rng lo hi).Pairwise (· < ·) := by
  unfold rng
  rw [List.pairwise_map]
  exact List.pairwise_lt_range.imp fun h => by omega
theorem rng_cut {lo m hi : Int} (h1 : lo ≤ m) (h2 : m ≤ hi + 1) : rng lo hi = rng lo (m - 1) ++ rng m hi := by
  have e : (hi - lo + 1).toNat = (m - 1 - lo + 1).toNat + (hi - m + 1).toNat := by omega
  unfold rng
  rw [e, List.range_add, List.map_append, List.map_map]
  congr 1
  refine List.map_congr_left fun k _ => ?_
  simp only [Function.comp]
  omega
/-- All numbers of a set, ascending. -/
def els (l : List Sp) : List Int := l.flatMap fun s => rng s.1 s.2
theorem els_cons (s : Sp) (l : List Sp) : els (s :: l) = rng s.1 s.2 ++ els l := rfl
theorem els_app (l m : List Sp) : els (l ++ m) = els l ++ els m := by simp [els]
theorem els_one (s : Sp) : els [s] = rng s.1 s.2 := by simp [els]
theorem els_nil : els [] = [] := rfl
theorem mem_els {l : List Sp} (hl : Nrm l) {x : Int} : x ∈ els l ↔ Has l x := by
  unfold els
  rw [List.mem_flatMap]
  constructor
  · rintro ⟨s, hs, hx⟩
    rw [mem_rng] at hx
    exact ⟨by have := hl.mem s hs; omega, s, hs, hx⟩
  · rintro ⟨_, s, hs, hx⟩
    exact ⟨s, hs, mem_rng.2 hx⟩
theorem els_asc : ∀ {l : List Sp}, Nrm l → (els l).Pairwise (· < ·)
  | [], _ => List.Pairwise.nil
  | s :: l, h => by
    rw [els_cons, List.pairwise_append]
    refine ⟨rng_asc _ _, els_asc h.tail, fun x hx y hy => ?_⟩
    have h1 := h.gap ((mem_els h.tail).1 hy)
    rw [mem_rng] at hx
    omega
theorem els_inj {l m : List Sp} (hl : Nrm l) (hm : Nrm m) (h : ∀ x, x ∈ els l ↔ x ∈ els m) : l = m := uniq hl hm fun x => by rw [← mem_els hl, ← mem_els hm, h]
/-- How many. -/
def cnt (l : List Sp) : Nat := (els l).length
theorem cnt_cons (s : Sp) (l : List Sp) : cnt (s :: l) = (s.2 - s.1 + 1).toNat + cnt l := by unfold cnt; rw [els_cons, List.length_append, rng_len]
theorem cnt_app (l m : List Sp) : cnt (l ++ m) = cnt l + cnt m := by unfold cnt; rw [els_app, List.length_append]
theorem cnt_one (s : Sp) : cnt [s] = (s.2 - s.1 + 1).toNat := by rw [cnt_cons]; rfl
theorem cnt_top : ∀ {l : List Sp} {M : Int}, Nrm l → Top M l → ∀ {k : Int}, (∀ s ∈ l, k ≤ s.1) → (cnt l : Int) ≤ max 0 (M + 1 - k)
  | [], _, _, _, _, _ => by have : cnt [] = 0 := rfl; omega
  | s :: l, M, h, ht, k, hk => by
    have ih := cnt_top h.tail (fun t hm => ht t (List.mem_cons_of_mem _ hm)) (k := s.2 + 1) fun t hm => by have := h.2.2.1 t hm; omega
    have h1 := hk s List.mem_cons_self
    have h2 := ht s List.mem_cons_self
    have h3 := h.2.1
    rw [cnt_cons]
    omega
theorem cnt_le {l : List Sp} {M : Int} (h : Nrm l) (ht : Top M l) (hM : 0 ≤ M) : (cnt l : Int) ≤ M + 1 := by
  have := cnt_top h ht (k := 0) fun s hs => (h.mem s hs).1
  omega
theorem len_cnt : ∀ {l : List Sp}, Nrm l → l.length ≤ cnt l
  | [], _ => Nat.zero_le _
  | s :: l, h => by
    have := len_cnt h.tail
    have := h.2.1
    rw [cnt_cons, List.length_cons]; omega

/-- One span more of a set that is cut after n of its numbers. -/
def spl1 (x : (List Sp × List Sp) × Nat) (s : Sp) : (List Sp × List Sp) × Nat :=
  if (s.2 - s.1 + 1).toNat ≤ x.2 then ((x.1.1 ++ [s], x.1.2), x.2 - (s.2 - s.1 + 1).toNat)
  else if 0 < x.2 then ((x.1.1 ++ [(s.1, s.1 + x.2 - 1)], x.1.2 ++ [(s.1 + x.2, s.2)]), 0)
  else ((x.1.1, x.1.2 ++ [s]), 0)
def splf (l : List Sp) (n : Nat) := l.foldl spl1 (([], []), n)
/-- The n smallest, and all others. -/
def lows (l : List Sp) (n : Nat) : List Sp := (splf l n).1.1
def rest (l : List Sp) (n : Nat) : List Sp := (splf l n).1.2
/-- What is cut so far. -/
structure SplI (l b a : List Sp) (n m : Nat) : Prop where
  nb : Nrm b
  na : Nrm a
  eb : els b = (els l).take n
  ea : els a = (els l).drop n
  em : m = n - cnt l
  lb : b.length + a.length ≤ l.length + (if m = 0 then 1 else 0)
  la : m ≠ 0 → a = []
theorem SplI.step {l b a : List Sp} {n m : Nat} {s : Sp} (H : SplI l b a n m) (hl : Nrm (l ++ [s])) : SplI (l ++ [s]) (spl1 ((b, a), m) s).1.1 (spl1 ((b, a), m) s).1.2 n (spl1 ((b, a), m) s).2 := by
  have hs := hl.mem s (by simp)
  have hml := hl.left
  have hg : ∀ x, Has l x → x + 1 < s.1 := fun x hx => by
    obtain ⟨_, t, ht, _, h2⟩ := hx
    have := hl.mid t ht s (by simp); omega
  have gb : ∀ t ∈ b, t.2 + 1 < s.1 := fun t ht => hg _ ((mem_els hml).1 (List.mem_of_mem_take (i := n) (by rw [← H.eb]; exact (mem_els H.nb).2 (H.nb.hi ht))))
  have ga : ∀ t ∈ a, t.2 + 1 < s.1 := fun t ht => hg _ ((mem_els hml).1 (List.mem_of_mem_drop (i := n) (by rw [← H.ea]; exact (mem_els H.na).2 (H.na.hi ht))))
  have hn1 : Nrm [s] := nrm_one hs.1 hs.2
  have hc : cnt (l ++ [s]) = cnt l + (s.2 - s.1 + 1).toNat := by rw [cnt_app, cnt_one]
  have hbl : n ≤ cnt l → b.length + a.length ≤ l.length + 1 := fun _ => by have := H.lb; split at this <;> omega
  unfold spl1
  by_cases c1 : (s.2 - s.1 + 1).toNat ≤ m
  · simp only [if_pos c1]
    have hm : m = n - cnt l := H.em
    have ha : a = [] := H.la (by omega)
    refine ⟨H.nb.app hn1 fun t ht u hu => ?_, H.na, ?_, ?_, by omega, ?_, fun h => H.la (by omega)⟩
    · obtain rfl : u = s := by simpa using hu
      exact gb t ht
    · rw [els_app, H.eb, els_app, els_one, List.take_of_length_le (by unfold cnt at hm; omega), List.take_of_length_le]
      rw [List.length_append, rng_len]; unfold cnt at hm; omega
    · rw [ha, els_nil, els_app, els_one, List.drop_of_length_le]
      rw [List.length_append, rng_len]; unfold cnt at hm; omega
    · have := H.lb
      rw [if_neg (by omega)] at this
      simp only [List.length_append, List.length_cons, List.length_nil]
      split <;> omega
  · simp only [if_neg c1]
    by_cases c2 : 0 < m
    · simp only [if_pos c2]
      have hm : m = n - cnt l := H.em
      have ha : a = [] := H.la (by omega)
      have hL : (els l).length = cnt l := rfl
      have e1 : els (l ++ [s]) = (els l ++ rng s.1 (s.1 + m - 1)) ++ rng (s.1 + m) s.2 := by
        rw [els_app, els_one, rng_cut (m := s.1 + m) (by omega) (by omega), List.append_assoc]
      have e2 : (els l ++ rng s.1 (s.1 + m - 1)).length = n := by
        rw [List.length_append, rng_len, hL]; omega
      refine ⟨H.nb.app (nrm_one hs.1 (by simp only; omega)) fun t ht u hu => ?_, ?_, ?_, ?_, by omega, ?_, fun h => absurd rfl h⟩
      · obtain rfl : u = (s.1, s.1 + (m : Int) - 1) := by simpa using hu
        exact gb t ht
      · rw [ha, List.nil_append]
        exact nrm_one (by simp only; omega) (by simp only; omega)
      · rw [els_app, H.eb, els_one, e1, List.take_left' e2, List.take_of_length_le (by omega)]
      · rw [ha, List.nil_append, els_one, e1, List.drop_left' e2]
      · have := H.lb
        rw [if_neg (by omega)] at this
        rw [if_pos rfl, ha]
        simp only [List.length_append, List.length_cons, List.length_nil]
        rw [ha] at this
        simp only [List.length_nil] at this
        omega
    · simp only [if_neg c2]
      have hm : m = n - cnt l := H.em
      have hL : (els l).length = cnt l := rfl
      refine ⟨H.nb, H.na.app hn1 fun t ht u hu => ?_, ?_, ?_, by omega, ?_, fun h => absurd rfl h⟩
      · obtain rfl : u = s := by simpa using hu
        exact ga t ht
      · rw [H.eb, els_app, List.take_append_of_le_length (by omega)]
      · rw [els_app, els_one, H.ea, els_app, els_one, List.drop_append_of_le_length (by omega)]
      · have := H.lb
        rw [if_pos (by omega)] at this
        rw [if_pos rfl]
        simp only [List.length_append, List.length_cons, List.length_nil]
        omega
theorem SplI.start (n : Nat) : SplI [] [] [] n n := ⟨trivial, trivial, by simp [els], by simp [els], by simp [cnt, els], by simp, fun _ => rfl⟩
theorem splI_fold : ∀ (m l b a : List Sp) (n k : Nat), SplI l b a n k → Nrm (l ++ m) → SplI (l ++ m) (m.foldl spl1 ((b, a), k)).1.1 (m.foldl spl1 ((b, a), k)).1.2 n (m.foldl spl1 ((b, a), k)).2
  | [], l, b, a, n, k, H, _ => by simpa using H
  | s :: m, l, b, a, n, k, H, hl => by
    have e : l ++ s :: m = (l ++ [s]) ++ m := by simp
    rw [e] at hl ⊢
    exact splI_fold m (l ++ [s]) _ _ n _ (H.step hl.left) hl
theorem splI_all {l : List Sp} (hl : Nrm l) (n : Nat) : SplI l (lows l n) (rest l n) n (splf l n).2 := splI_fold l [] [] [] n n (SplI.start n) hl
theorem lows_nrm {l : List Sp} (hl : Nrm l) (n : Nat) : Nrm (lows l n) := (splI_all hl n).nb
theorem rest_nrm {l : List Sp} (hl : Nrm l) (n : Nat) : Nrm (rest l n) := (splI_all hl n).na
theorem lows_els {l : List Sp} (hl : Nrm l) (n : Nat) : els (lows l n) = (els l).take n := (splI_all hl n).eb
theorem rest_els {l : List Sp} (hl : Nrm l) (n : Nat) : els (rest l n) = (els l).drop n := (splI_all hl n).ea
theorem lows_len {l : List Sp} (hl : Nrm l) (n : Nat) : (lows l n).length ≤ l.length + 1 := by have := (splI_all hl n).lb; split at this <;> omega
theorem rest_len {l : List Sp} (hl : Nrm l) (n : Nat) : (rest l n).length ≤ l.length + 1 := by have := (splI_all hl n).lb; split at this <;> omega
theorem lows_cnt {l : List Sp} (hl : Nrm l) (n : Nat) : cnt (lows l n) = min n (cnt l) := by unfold cnt; rw [lows_els hl, List.length_take]
theorem rest_cnt {l : List Sp} (hl : Nrm l) (n : Nat) : cnt (rest l n) = cnt l - n := by unfold cnt; rw [rest_els hl, List.length_drop]
/-- The first n, the last n, all but the first n, as the document counts. -/
def fir (l : List Sp) (n : Nat) : List Sp := rest (mk l) (cnt (mk l) - min (cnt (mk l)) n)
def las (l : List Sp) (n : Nat) : List Sp := lows (mk l) n
def ski (l : List Sp) (n : Nat) : List Sp := lows (mk l) (cnt (mk l) - min (cnt (mk l)) n)
/-- What is in both. -/
def bo (a b : List Sp) : List Sp := mk ((mk a).flatMap fun s => (mk b).map fun t => ((max s.1 t.1, min s.2 t.2) : Sp))
theorem pairs_has (a b : List Sp) (x : Int) : Has (a.flatMap fun s => b.map fun t => ((max s.1 t.1, min s.2 t.2) : Sp)) x ↔ Has a x ∧ Has b x := by
  constructor
  · rintro ⟨h0, u, hu, h⟩
    obtain ⟨s, hs, hu⟩ := List.mem_flatMap.1 hu
    obtain ⟨t, ht, rfl⟩ := List.mem_map.1 hu
    simp only at h
    exact ⟨⟨h0, s, hs, by omega, by omega⟩, h0, t, ht, by omega, by omega⟩
  · rintro ⟨⟨h0, s, hs, h1⟩, _, t, ht, h2⟩
    exact ⟨h0, _, List.mem_flatMap.2 ⟨s, hs, List.mem_map.2 ⟨t, ht, rfl⟩⟩, by simp only; omega, by simp only; omega⟩
theorem bo_has (a b : List Sp) (x : Int) : Has (bo a b) x ↔ Has a x ∧ Has b x := by unfold bo; rw [mk_has, pairs_has, mk_has, mk_has]
theorem bo_nrm (a b : List Sp) : Nrm (bo a b) := mk_nrm _
theorem pairs_len : ∀ (a b : List Sp), (a.flatMap fun s => b.map fun t => ((max s.1 t.1, min s.2 t.2) : Sp)).length = a.length * b.length
  | [], b => by simp
  | s :: a, b => by rw [List.flatMap_cons, List.length_append, pairs_len a b, List.length_map, List.length_cons, Nat.add_mul]; omega
theorem bo_len (a b : List Sp) : (bo a b).length ≤ a.length * b.length := by
  unfold bo
  have h := mk_len ((mk a).flatMap fun s => (mk b).map fun t => ((max s.1 t.1, min s.2 t.2) : Sp))
  rw [pairs_len] at h
  exact Nat.le_trans h (Nat.mul_le_mul (mk_len a) (mk_len b))
theorem bo_top {M : Int} {a : List Sp} (b : List Sp) (h : Top M a) : Top M (bo a b) := top_of (bo_nrm a b) fun x hx => top_has h ((bo_has a b x).1 hx).1
/-- All numbers of a span and up that a set, from there on, does not have, up to M. -/
def wo (M : Int) : Int → List Sp → List Sp
  | lo, [] => if lo ≤ M then [(lo, M)] else []
  | lo, s :: l => (if lo < s.1 then [(lo, s.1 - 1)] else []) ++ wo M (s.2 + 1) l
theorem wo_has {M : Int} : ∀ (l : List Sp) (lo : Int), 0 ≤ lo → Nrm l → Top M l → (∀ s ∈ l, lo ≤ s.1) → ∀ x, Has (wo M lo l) x ↔ lo ≤ x ∧ x ≤ M ∧ ¬ Has l x
  | [], lo, h0, _, _, _, x => by
    unfold wo
    split
    · rw [has_one, has_nil]; simp only [not_false_eq_true, and_true]; omega
    · rw [has_nil]; simp only [not_false_eq_true, and_true, false_iff]; omega
  | s :: l, lo, h0, hl, ht, hlo, x => by
    have hs := hl.mem s List.mem_cons_self
    have hls := hlo s List.mem_cons_self
    have hts := ht s List.mem_cons_self
    have ih := wo_has l (s.2 + 1) (by omega) hl.tail (fun t h => ht t (List.mem_cons_of_mem _ h)) (fun t h => by have := hl.2.2.1 t h; omega) x
    unfold wo
    rw [has_app, ih, has_cons]
    have h1 : Has (if lo < s.1 then [(lo, s.1 - 1)] else []) x ↔ lo ≤ x ∧ x < s.1 := by
      split
      · rw [has_one]; simp only; omega
      · rw [has_nil, false_iff]; omega
    rw [h1]
    constructor
    · rintro (h | ⟨h2, h3, h4⟩)
      · refine ⟨h.1, by omega, ?_⟩
        rintro (h5 | h5)
        · omega
        · have := hl.gap h5; omega
      · refine ⟨by omega, h3, ?_⟩
        rintro (h5 | h5)
        · omega
        · exact h4 h5
    · rintro ⟨h2, h3, h4⟩
      by_cases c : x < s.1
      · exact .inl ⟨h2, c⟩
      · refine .inr ⟨?_, h3, fun h => h4 (.inr h)⟩
        refine Classical.byContradiction fun hn => h4 (.inl ?_)
        omega
theorem wo_nrm {M : Int} : ∀ (l : List Sp) (lo : Int), 0 ≤ lo → Nrm l → Top M l → (∀ s ∈ l, lo ≤ s.1) → Nrm (wo M lo l)
  | [], lo, h0, _, _, _ => by
    unfold wo
    split
    · exact nrm_one h0 (by simpa)
    · trivial
  | s :: l, lo, h0, hl, ht, hlo => by
    have hs := hl.mem s List.mem_cons_self
    have hA : ∀ t ∈ l, s.2 + 1 ≤ t.1 := fun t h => by have := hl.2.2.1 t h; omega
    have hT : Top M l := fun t h => ht t (List.mem_cons_of_mem _ h)
    have i1 := wo_nrm l (s.2 + 1) (by omega) hl.tail hT hA
    have ih := wo_has l (s.2 + 1) (by omega) hl.tail hT hA
    unfold wo
    split
    · refine nrm_cons h0 (by simp only; omega) i1 fun x hx => ?_
      have := (ih x).1 hx
      simp only; omega
    · exact i1
theorem wo_len {M : Int} : ∀ (l : List Sp) (lo : Int), (wo M lo l).length ≤ l.length + 1
  | [], lo => by unfold wo; split <;> simp
  | s :: l, lo => by
    have := wo_len (M := M) l (s.2 + 1)
    unfold wo
    rw [List.length_append, List.length_cons]
    split <;> simp <;> omega
/-- What is left of one without another. -/
def mi (M : Int) (a b : List Sp) : List Sp := bo a (wo M 0 (mk b))
theorem mi_has {M : Int} {a b : List Sp} (ha : Top M a) (hb : Top M b) (x : Int) : Has (mi M a b) x ↔ Has a x ∧ ¬ Has b x := by
  unfold mi
  rw [bo_has, wo_has (mk b) 0 (by omega) (mk_nrm b) (mk_top hb) (fun s hs => ((mk_nrm b).mem s hs).1), mk_has]
  constructor
  · rintro ⟨h1, _, _, h2⟩
    exact ⟨h1, h2⟩
  · rintro ⟨h1, h2⟩
    exact ⟨h1, h1.1, top_has ha h1, h2⟩
theorem mi_nrm (M : Int) (a b : List Sp) : Nrm (mi M a b) := bo_nrm _ _
theorem mi_top {M : Int} {a : List Sp} (b : List Sp) (h : Top M a) : Top M (mi M a b) := bo_top _ h
theorem mi_len (M : Int) (a b : List Sp) : (mi M a b).length ≤ a.length * (b.length + 1) := by
  have h1 := bo_len a (wo M 0 (mk b))
  have h2 := wo_len (M := M) (mk b) 0
  have h3 := mk_len b
  exact Nat.le_trans h1 (Nat.mul_le_mul_left _ (by omega))
end Go.Proofs.Ytadglppplgeldaa
