/- What the segments of a table are: plain mathematics. No condition. -/
import Derived.Test.YtadglppplgeldaaFltW
import Derived.Test.YtadglppplgeldaaFltM
namespace Go.Proofs.Ytadglppplgeldaa
open Go.RowKit

/-- The segment of the places from a on, up to b. -/
structure SegOf (low : Int) (L : List (List Int)) (a : Nat) (s : Sg) (b : Nat) : Prop where
  lo : s.lo = low + a
  hi : s.hi = low + b - 1
  lt : a < b
  par : L[a]? = some s.par
  root : s.root = s.par.isEmpty
  first : ¬ (0 < a ∧ s.par = [low + (a : Int) - 1])
  line : ∀ k, a < k → k < b → L[k]? = some [low + (k : Int) - 1]
def Cov (low : Int) (L : List (List Int)) : Nat → List Sg → Nat → Prop
  | a, [], b => a = b
  | a, s :: l, b => ∃ c, SegOf low L a s c ∧ Cov low L c l b
theorem SegOf.app {low : Int} {L : List (List Int)} {a b : Nat} {s : Sg} (h : SegOf low L a s b) (M : List (List Int)) : SegOf low (L ++ M) a s b := by
  refine ⟨h.lo, h.hi, h.lt, ?_, h.root, h.first, fun k h1 h2 => ?_⟩
  · rw [List.getElem?_append_left (List.getElem?_eq_some_iff.1 h.par).1]; exact h.par
  · have h3 := h.line k h1 h2
    rw [List.getElem?_append_left (List.getElem?_eq_some_iff.1 h3).1]; exact h3
theorem Cov.app {low : Int} {L : List (List Int)} (M : List (List Int)) : ∀ {l : List Sg} {a b : Nat}, Cov low L a l b → Cov low (L ++ M) a l b
  | [], _, _, h => h
  | _ :: _, _, _, ⟨c, h1, h2⟩ => ⟨c, h1.app M, Cov.app M h2⟩
theorem cov_app {low : Int} {L : List (List Int)} {m : List Sg} : ∀ {l : List Sg} {a b : Nat}, Cov low L a (l ++ m) b ↔ ∃ c, Cov low L a l c ∧ Cov low L c m b
  | [], a, b => ⟨fun h => ⟨a, rfl, h⟩, fun ⟨c, h1, h2⟩ => by cases h1; exact h2⟩
  | s :: l, a, b => by
    constructor
    · rintro ⟨c, h1, h2⟩
      obtain ⟨d, h3, h4⟩ := cov_app.1 h2
      exact ⟨d, ⟨c, h1, h3⟩, h4⟩
    · rintro ⟨d, ⟨c, h1, h3⟩, h4⟩
      exact ⟨c, h1, cov_app.2 ⟨d, h3, h4⟩⟩
theorem setHi_snoc (l : List Sg) (s : Sg) (id : Int) : setHi (l ++ [s]) id = l ++ [{ s with hi := id }] := by
  unfold setHi; simp
theorem cov_sgs (low : Int) (L : List (List Int)) : Cov low L 0 (sgs low L) L.length := by
  refine snoc_ind (P := fun L => Cov low L 0 (sgs low L) L.length) rfl (fun L x ih => ?_) L
  have hx : (L ++ [x])[L.length]? = some x := by simp
  rw [sgs_snoc, List.length_append]
  show Cov low (L ++ [x]) 0 _ (L.length + 1)
  by_cases hc : 0 < L.length ∧ x = [low + (L.length : Int) - 1]
  · rw [if_pos hc]
    rcases List.eq_nil_or_concat (sgs low L) with h | ⟨l, s, h⟩
    · exact absurd h (sgs_ne hc.1)
    · rw [List.concat_eq_append] at h
      rw [h] at ih ⊢
      rw [setHi_snoc]
      obtain ⟨c, h1, d, h2, h3⟩ := cov_app.1 ih
      cases h3
      have h4 := h2.app [x]
      refine cov_app.2 ⟨c, h1.app [x], L.length + 1, ⟨h4.lo, ?_, Nat.lt_succ_of_lt h4.lt, h4.par, h4.root, h4.first, fun k k1 k2 => ?_⟩, rfl⟩
      · show low + (L.length : Int) = low + ((L.length + 1 : Nat) : Int) - 1
        omega
      · by_cases e : k = L.length
        · rw [e, hx, hc.2]
        · exact h4.line k k1 (by omega)
  · rw [if_neg hc]
    refine cov_app.2 ⟨L.length, ih.app [x], L.length + 1, ⟨rfl, ?_, Nat.lt_succ_self _, hx, rfl, hc, fun k k1 k2 => by omega⟩, rfl⟩
    show low + (L.length : Int) = low + ((L.length + 1 : Nat) : Int) - 1
    omega
/-- How many IDs a segment has. -/
def Sg.size (s : Sg) : Nat := (s.hi - s.lo + 1).toNat
def cum (l : List Sg) : Nat := (l.map Sg.size).sum
theorem cum_nil : cum [] = 0 := rfl
theorem cum_app (l m : List Sg) : cum (l ++ m) = cum l + cum m := by unfold cum; rw [List.map_append, List.sum_append]
theorem SegOf.size {low : Int} {L : List (List Int)} {a b : Nat} {s : Sg} (h : SegOf low L a s b) : a + s.size = b := by
  have := h.lt
  unfold Sg.size
  rw [h.lo, h.hi]
  omega
theorem cov_at {low : Int} {L : List (List Int)} : ∀ {l : List Sg} {a b : Nat} (_ : Cov low L a l b) {i : Nat} {s : Sg}, l[i]? = some s → SegOf low L (a + cum (l.take i)) s (a + cum (l.take (i + 1)))
  | [], _, _, _, i, s, hi => by simp at hi
  | x :: l, a, b, ⟨c, h1, h2⟩, 0, s, hi => by
    obtain rfl : x = s := by simpa using hi
    have e := h1.size
    rw [show cum ((x :: l).take 0) = 0 from rfl, show cum ((x :: l).take 1) = x.size by simp [cum], e]
    exact h1
  | x :: l, a, b, ⟨c, h1, h2⟩, i + 1, s, hi => by
    have ih := cov_at h2 (i := i) (s := s) (by simpa using hi)
    have e := h1.size
    have e1 : a + cum ((x :: l).take (i + 1)) = c + cum (l.take i) := by
      rw [List.take_succ_cons, show cum (x :: l.take i) = x.size + cum (l.take i) from by simp [cum]]; omega
    have e2 : a + cum ((x :: l).take (i + 1 + 1)) = c + cum (l.take (i + 1)) := by
      rw [List.take_succ_cons, show cum (x :: l.take (i + 1)) = x.size + cum (l.take (i + 1)) from by simp [cum]]; omega
    rw [e1, e2]
    exact ih
theorem cov_sum {low : Int} {L : List (List Int)} : ∀ {l : List Sg} {a b : Nat}, Cov low L a l b → a + cum l = b
  | [], _, _, h => h
  | s :: l, a, b, ⟨c, h1, h2⟩ => by
    have ih := cov_sum h2
    have e := h1.size
    rw [show cum (s :: l) = s.size + cum l from by simp [cum]]; omega
/-- The group of a segment: where it begins, its lists, what lies ahead of it. -/
def Grp (M O : List (List Int)) (low : Int) (L : List (List Int)) (base : Nat) : Prop := (low = 0 ∧ L = M ∧ base = 0) ∨ (low = spl ∧ L = O ∧ base = M.length)
theorem flt_at {M O : List (List Int)} {i : Nat} {s : Sg} (h : (flt M O)[i]? = some s) : ∃ low L base a b, Grp M O low L base ∧ SegOf low L a s b ∧ cum ((flt M O).take i) = base + a ∧ cum ((flt M O).take (i + 1)) = base + b := by
  unfold flt at h ⊢
  by_cases hi : i < (sgs 0 M).length
  · rw [List.getElem?_append_left hi] at h
    have h1 := cov_at (cov_sgs 0 M) h
    rw [List.take_append_of_le_length (by omega), List.take_append_of_le_length (by omega)]
    exact ⟨0, M, 0, _, _, .inl ⟨rfl, rfl, rfl⟩, h1, by omega, by omega⟩
  · rw [List.getElem?_append_right (by omega)] at h
    have h1 := cov_at (cov_sgs spl O) h
    have h2 := cov_sum (cov_sgs 0 M)
    refine ⟨spl, O, M.length, _, _, .inr ⟨rfl, rfl, rfl⟩, h1, ?_, ?_⟩
    · rw [List.take_append, cum_app, List.take_of_length_le (by omega)]; omega
    · rw [List.take_append, cum_app, List.take_of_length_le (by omega), show i + 1 - (sgs 0 M).length = i - (sgs 0 M).length + 1 by omega]; omega
theorem flt_sum (M O : List (List Int)) : cum (flt M O) = M.length + O.length := by
  have h1 := cov_sum (cov_sgs 0 M)
  have h2 := cov_sum (cov_sgs spl O)
  unfold flt
  rw [cum_app]; omega
theorem alls_at {M O : List (List Int)} {low : Int} {L : List (List Int)} {base k : Nat} (g : Grp M O low L base) (hk : k < L.length) : (alls M.length O.length)[base + k]? = some (low + (k : Int)) := by
  unfold alls
  rcases g with ⟨rfl, rfl, rfl⟩ | ⟨rfl, rfl, rfl⟩
  · rw [List.getElem?_append_left (by simp; omega)]
    simp [hk]
  · rw [List.getElem?_append_right (by simp)]
    simp [hk]
theorem tpar_at {M O : List (List Int)} {low : Int} {L : List (List Int)} {base k : Nat} {l : List Int} (g : Grp M O low L base) (hm : (M.length : Int) < spl) (hk : L[k]? = some l) : tpar M O (low + (k : Int)) = some l := by
  have hlt := (List.getElem?_eq_some_iff.1 hk).1
  unfold tpar
  unfold spl at *
  rcases g with ⟨rfl, rfl, rfl⟩ | ⟨rfl, rfl, rfl⟩
  · rw [if_pos (by omega), show ((0 : Int) + (k : Int)).toNat = k by omega]; exact hk
  · rw [if_neg (by unfold spl; omega), if_pos (by unfold spl; omega), show (spl + (k : Int) - 1099511627776).toNat = k by unfold spl; omega]; exact hk
/-- Not even the first one of a group stands on the number ahead of it. -/
theorem no_line {M O : List (List Int)} {low : Int} {L : List (List Int)} {base a b : Nat} {s : Sg} (g : Grp M O low L base) (hm : (M.length : Int) < spl - 1) (ok : okt M O) (h : SegOf low L a s b) : s.par ≠ [low + (a : Int) - 1] := fun e => by
  by_cases ha : 0 < a
  · exact h.first ⟨ha, e⟩
  · obtain rfl : a = 0 := by omega
    have hok : okl M.length O.length low L := by
      rcases g with ⟨rfl, rfl, rfl⟩ | ⟨rfl, rfl, rfl⟩
      · exact ok.1
      · exact ok.2
    have h1 := ((hok 0 _ h.par).2 0 (low + ((0 : Nat) : Int) - 1) (by rw [e]; rfl)).1
    unfold inT at h1
    unfold spl at *
    rcases g with ⟨rfl, rfl, rfl⟩ | ⟨rfl, rfl, rfl⟩ <;> simp at h1 <;> (try unfold spl at *) <;> omega
theorem mem_alls {n m : Nat} {p : Int} : p ∈ alls n m ↔ (0 ≤ p ∧ p < n) ∨ (spl ≤ p ∧ p < spl + m) := by
  unfold alls
  rw [List.mem_append, List.mem_map, List.mem_map]
  constructor
  · rintro (⟨i, hi, rfl⟩ | ⟨i, hi, rfl⟩)
    · have := List.mem_range.1 hi; left; omega
    · have := List.mem_range.1 hi; right; omega
  · rintro (h | h)
    · exact .inl ⟨p.toNat, List.mem_range.2 (by omega), by omega⟩
    · exact .inr ⟨(p - spl).toNat, List.mem_range.2 (by omega), by omega⟩
theorem tbG_at {f : Nat → List Int} : ∀ (xs : List Int) {k : Nat} {l : List Int}, (tbG f xs)[k]? = some l → ∃ x, xs[k]? = some x ∧ l = prn x (f k) := by
  refine fun xs => snoc_ind (P := fun xs => ∀ {k : Nat} {l : List Int}, (tbG f xs)[k]? = some l → ∃ x, xs[k]? = some x ∧ l = prn x (f k)) (fun {k l} h => by simp [tbG] at h) (fun xs x ih {k l} h => ?_) xs
  rw [tbG_snoc] at h
  have hl := tbG_len f xs
  by_cases hk : k < xs.length
  · rw [List.getElem?_append_left (by omega)] at h
    rw [List.getElem?_append_left hk]
    exact ih h
  · rw [List.getElem?_append_right (by omega)] at h
    have hk2 : k - (tbG f xs).length = 0 := by
      have := (List.getElem?_eq_some_iff.1 h).1
      simp at this; omega
    rw [hk2] at h
    have e : k = xs.length := by omega
    refine ⟨x, by rw [e]; simp, ?_⟩
    rw [e]
    exact (by simpa using h : _ = l).symm
theorem raw_ok (xs ys : List Int) (hx : xs.length ≤ 25) : okt (tbG (fun j => alls j 0) xs) (tbG (alls xs.length) ys) := by
  refine ⟨fun k l h => ?_, fun k l h => ?_⟩
  · obtain ⟨x, h1, rfl⟩ := tbG_at xs h
    have hk := (List.getElem?_eq_some_iff.1 h1).1
    refine ⟨Nat.le_trans prn_len (by decide), fun j p hj => ?_⟩
    have hm := mem_alls.1 (prn_mem p (List.mem_of_getElem? hj))
    refine ⟨?_, ?_, prn_nodup j p hj⟩
    · rw [tbG_len]
      unfold inT
      rcases hm with hm | hm
      · have e1 : 0 ≤ p := hm.1
        have e2 : p < (xs.length : Int) := by omega
        simp [e1, e2]
      · omega
    · rcases hm with hm | hm <;> omega
  · obtain ⟨x, h1, rfl⟩ := tbG_at ys h
    have hk := (List.getElem?_eq_some_iff.1 h1).1
    refine ⟨Nat.le_trans prn_len (by decide), fun j p hj => ?_⟩
    have hm := mem_alls.1 (prn_mem p (List.mem_of_getElem? hj))
    refine ⟨?_, ?_, prn_nodup j p hj⟩
    · rw [tbG_len, tbG_len]
      unfold inT
      rcases hm with hm | hm
      · have e1 : 0 ≤ p := hm.1
        have e2 : p < (xs.length : Int) := hm.2
        simp [e1, e2]
      · have e1 : spl ≤ p := hm.1
        have e2 : p < spl + (ys.length : Int) := by omega
        simp [e1, e2]
    · unfold spl at *
      rcases hm with hm | hm <;> omega
end Go.Proofs.Ytadglppplgeldaa
