/- Sets at hand, and each call as one step on them. No condition but on how many spans. -/
import Derived.Test.YtpjfgkjhhmfhkaaSpnB
import Derived.Test.YtpjfgkjhhmfhkaaSpnE
import Derived.Test.YtpjfgkjhhmfhkaaSpnF
import Derived.Test.YtpjfgkjhhmfhkaaSpnJ
import Derived.Test.YtpjfgkjhhmfhkaaSpnP
namespace Go.Proofs.Ytpjfgkjhhmfhkaa
open Go.RowKit

/-- A slice, its spans, a bound on their number. -/
structure Ent where
  v : Value
  l : List Sp
  n : Nat
/-- What is at hand in the world W; all that lay there at w lies as it lay. -/
structure Kp (w W : World) (xs : List Ent) : Prop where
  bel : Below w.heap.size w W
  ent : ∀ x ∈ xs, SSeen W x.v x.l ∧ x.l.length ≤ x.n ∧ Top topN x.l
theorem Kp.start (w : World) : Kp w w [] := ⟨Below.refl _ w, fun x h => by simp at h⟩
section
variable {w W W' : World} {xs : List Ent} {x y : Ent}
theorem Kp.next (K : Kp w W xs) (b : Below W.heap.size W W') : Kp w W' xs := ⟨K.bel.trans (b.mono K.bel.size), fun x h => ⟨(K.ent x h).1.kb b, (K.ent x h).2⟩⟩
theorem Kp.push (K : Kp w W xs) (h : SSeen W x.v x.l) (hn : x.l.length ≤ x.n) (ht : Top topN x.l) : Kp w W (x :: xs) :=
  ⟨K.bel, fun y hy => by
    rcases List.mem_cons.1 hy with rfl | hy
    · exact ⟨h, hn, ht⟩
    · exact K.ent y hy⟩
theorem Kp.at (K : Kp w W xs) {i : Nat} (h : xs[i]? = some x) : SSeen W x.v x.l ∧ x.l.length ≤ x.n ∧ Top topN x.l := K.ent x (List.mem_of_getElem? h)
theorem kmake (K : Kp w W xs) (i : Nat) (hi : xs[i]? = some x) (h : x.n ≤ 900000) : Calls Try.prog 22 #[x.v] W fun e W' => ∃ v', e = .returned v' ∧ Kp w W' (⟨v', mk x.l, x.n⟩ :: xs) := by
  obtain ⟨h1, h2, h3⟩ := K.at hi
  refine (make_to W x.v x.l h1 (by omega) h3).mono ?_
  rintro e W' ⟨v', rfl, o, b⟩
  exact ⟨v', rfl, (K.next b).push o.seen (Nat.le_trans (mk_len _) h2) (mk_top h3)⟩
theorem kunion (K : Kp w W xs) (i j : Nat) (hi : xs[i]? = some x) (hj : xs[j]? = some y) (h : x.n + y.n ≤ 900000) : Calls Try.prog 25 #[x.v, y.v] W fun e W' => ∃ v', e = .returned v' ∧ Kp w W' (⟨v', mk (x.l ++ y.l), x.n + y.n⟩ :: xs) := by
  obtain ⟨h1, h2, h3⟩ := K.at hi
  obtain ⟨g1, g2, g3⟩ := K.at hj
  refine (union_to W x.v y.v x.l y.l h1 g1 (by omega) h3 g3).mono ?_
  rintro e W' ⟨v', rfl, o, b⟩
  refine ⟨v', rfl, (K.next b).push o.seen ?_ (mk_top fun s hs => (List.mem_append.1 hs).elim (h3 s) (g3 s))⟩
  have := mk_len (x.l ++ y.l)
  rw [List.length_append] at this
  show (mk (x.l ++ y.l)).length ≤ x.n + y.n
  omega
theorem both_top {a : List Sp} (b : List Sp) (h : Top topN a) : Top topN (bo a b) := bo_top b h
theorem kboth (K : Kp w W xs) (i j : Nat) (hi : xs[i]? = some x) (hj : xs[j]? = some y) (h : x.n + y.n ≤ 900000) : Calls Try.prog 27 #[x.v, y.v] W fun e W' => ∃ v', e = .returned v' ∧ Kp w W' (⟨v', bo x.l y.l, x.n * y.n⟩ :: xs) := by
  obtain ⟨h1, h2, h3⟩ := K.at hi
  obtain ⟨g1, g2, g3⟩ := K.at hj
  refine (both_to W x.v y.v x.l y.l h1 g1 (by omega) (by omega) (by omega) h3 g3).mono ?_
  rintro e W' ⟨v', rfl, o, b⟩
  exact ⟨v', rfl, (K.next b).push o.seen (Nat.le_trans (bo_len _ _) (Nat.mul_le_mul h2 g2)) (bo_top _ h3)⟩
theorem kminus (K : Kp w W xs) (i j : Nat) (hi : xs[i]? = some x) (hj : xs[j]? = some y) (h : x.n + y.n ≤ 900000) : Calls Try.prog 9 #[x.v, y.v] W fun e W' => ∃ v', e = .returned v' ∧ Kp w W' (⟨v', mi topN x.l y.l, x.n * (y.n + 1)⟩ :: xs) := by
  obtain ⟨h1, h2, h3⟩ := K.at hi
  obtain ⟨g1, g2, g3⟩ := K.at hj
  refine (minus_to W x.v y.v x.l y.l h1 g1 (by omega) h3 g3).mono ?_
  rintro e W' ⟨v', rfl, o, b⟩
  exact ⟨v', rfl, (K.next b).push o.seen (Nat.le_trans (mi_len _ _ _) (Nat.mul_le_mul h2 (by omega))) (mi_top _ h3)⟩
/-- Nothing is found: a slice of no span. -/
theorem kboth_nil (K : Kp w W xs) (i j : Nat) (hi : xs[i]? = some x) (hj : xs[j]? = some y) (h : x.n + y.n ≤ 900000) (h0 : bo x.l y.l = []) : Calls Try.prog 27 #[x.v, y.v] W fun e W' => ∃ p c, e = .returned (.slice p 0 c) ∧ Kp w W' xs := by
  obtain ⟨h1, h2, h3⟩ := K.at hi
  obtain ⟨g1, g2, g3⟩ := K.at hj
  refine (both_to W x.v y.v x.l y.l h1 g1 (by omega) (by omega) (by omega) h3 g3).mono ?_
  rintro e W' ⟨v', rfl, o, b⟩
  rw [h0] at o
  obtain ⟨p, c, rfl⟩ := o.shape
  exact ⟨p, c, rfl, K.next b⟩
theorem kminus_nil (K : Kp w W xs) (i j : Nat) (hi : xs[i]? = some x) (hj : xs[j]? = some y) (h : x.n + y.n ≤ 900000) (h0 : mi topN x.l y.l = []) : Calls Try.prog 9 #[x.v, y.v] W fun e W' => ∃ p c, e = .returned (.slice p 0 c) ∧ Kp w W' xs := by
  obtain ⟨h1, h2, h3⟩ := K.at hi
  obtain ⟨g1, g2, g3⟩ := K.at hj
  refine (minus_to W x.v y.v x.l y.l h1 g1 (by omega) h3 g3).mono ?_
  rintro e W' ⟨v', rfl, o, b⟩
  rw [h0] at o
  obtain ⟨p, c, rfl⟩ := o.shape
  exact ⟨p, c, rfl, K.next b⟩
theorem ksame (K : Kp w W xs) (i j : Nat) (hi : xs[i]? = some x) (hj : xs[j]? = some y) (h : x.n ≤ 900000) (h0 : x.l = y.l) : Calls Try.prog 21 #[x.v, y.v] W fun e W' => e = .returned (.bool true) ∧ Kp w W' xs := by
  obtain ⟨h1, h2, h3⟩ := K.at hi
  obtain ⟨g1, g2, g3⟩ := K.at hj
  refine (sameSpans_to W x.v y.v x.l y.l h1 g1 (by omega)).mono ?_
  rintro e W' ⟨⟨r, rfl, hr⟩, b⟩
  rw [hr.2 h0]
  exact ⟨rfl, K.next b⟩
theorem kset (K : Kp w W xs) (v : Value) (l : List Int) (wild : Bool) (hs : NSeen w v l) : Calls Try.prog 20 #[v, .bool wild] W fun e W' => ∃ v' L, e = .returned v' ∧ OkSet wild L ∧ Kp w W' (⟨v', L, 12⟩ :: xs) := by
  refine (set_to W v l wild (hs.kb K.bel)).mono ?_
  rintro e W' ⟨v', L, rfl, o, hl, ok, b⟩
  exact ⟨v', L, rfl, ok, (K.next b).push o.seen hl ok.top⟩
theorem kknown (K : Kp w W xs) : Calls Try.prog 15 #[] W fun e W' => e = .returned (.bool true) ∧ Kp w W' xs := by
  refine (known10_to W).mono ?_
  rintro e W' ⟨rfl, b⟩
  exact ⟨rfl, K.next b⟩
theorem kright (K : Kp w W xs) (i : Nat) (hi : xs[i]? = some x) (h : x.n ≤ 900000) (hn : Nrm x.l) : Calls Try.prog 18 #[x.v] W fun e W' => e = .returned (.bool true) ∧ Kp w W' xs := by
  obtain ⟨h1, h2, h3⟩ := K.at hi
  refine (right_to W x.v x.l h1 h3 (by omega)).mono ?_
  rintro e W' ⟨⟨r, rfl, hr⟩, b⟩
  rw [hr.2 hn]
  exact ⟨rfl, K.next b⟩
theorem khas (K : Kp w W xs) (i : Nat) (hi : xs[i]? = some x) (h : x.n ≤ 900000) (z : Int) : Calls Try.prog 32 #[x.v, .int .i64 z] W fun e W' => e = .returned (.bool (decide (0 ≤ z) && hasB x.l z)) ∧ Kp w W' xs := by
  obtain ⟨h1, h2, h3⟩ := K.at hi
  refine (has_to W x.v x.l z h1 (by omega)).mono ?_
  rintro e W' ⟨rfl, b⟩
  exact ⟨rfl, K.next b⟩
theorem kcount (K : Kp w W xs) (i : Nat) (hi : xs[i]? = some x) (h : x.n ≤ 900000) : Calls Try.prog 16 #[x.v] W fun e W' => e = .returned (.int .i64 (min (cnt (mk x.l) : Int) 9223372036854775807)) ∧ Kp w W' xs := by
  obtain ⟨h1, h2, h3⟩ := K.at hi
  refine (count_to W x.v x.l h1 (by omega) h3).mono ?_
  rintro e W' ⟨rfl, b⟩
  exact ⟨rfl, K.next b⟩
theorem fir_len (l : List Sp) (n : Nat) : (fir l n).length ≤ l.length + 1 := by have := rest_len (mk_nrm l) (cnt (mk l) - min (cnt (mk l)) n); have := mk_len l; unfold fir; omega
theorem ski_len (l : List Sp) (n : Nat) : (ski l n).length ≤ l.length + 1 := by have := lows_len (mk_nrm l) (cnt (mk l) - min (cnt (mk l)) n); have := mk_len l; unfold ski; omega
theorem las_len (l : List Sp) (n : Nat) : (las l n).length ≤ l.length + 1 := by have := lows_len (mk_nrm l) n; have := mk_len l; unfold las; omega
theorem part_top {l m : List Sp} (hl : Top topN l) (hm : Nrm m) (h : ∀ z, z ∈ els m → z ∈ els (mk l)) : Top topN m :=
  top_of hm fun z hz => top_has (mk_top hl) ((mem_els (mk_nrm l)).1 (h z ((mem_els hm).2 hz)))
theorem fir_nrm (l : List Sp) (n : Nat) : Nrm (fir l n) := rest_nrm (mk_nrm l) _
theorem ski_nrm (l : List Sp) (n : Nat) : Nrm (ski l n) := lows_nrm (mk_nrm l) _
theorem las_nrm (l : List Sp) (n : Nat) : Nrm (las l n) := lows_nrm (mk_nrm l) _
theorem fir_els (l : List Sp) (n : Nat) : els (fir l n) = (els (mk l)).drop (cnt (mk l) - min (cnt (mk l)) n) := rest_els (mk_nrm l) _
theorem ski_els (l : List Sp) (n : Nat) : els (ski l n) = (els (mk l)).take (cnt (mk l) - min (cnt (mk l)) n) := lows_els (mk_nrm l) _
theorem las_els (l : List Sp) (n : Nat) : els (las l n) = (els (mk l)).take n := lows_els (mk_nrm l) _
theorem fir_top {l : List Sp} (h : Top topN l) (n : Nat) : Top topN (fir l n) := part_top h (fir_nrm l n) fun z hz => List.mem_of_mem_drop (by rw [← fir_els]; exact hz)
theorem ski_top {l : List Sp} (h : Top topN l) (n : Nat) : Top topN (ski l n) := part_top h (ski_nrm l n) fun z hz => List.mem_of_mem_take (by rw [← ski_els]; exact hz)
theorem las_top {l : List Sp} (h : Top topN l) (n : Nat) : Top topN (las l n) := part_top h (las_nrm l n) fun z hz => List.mem_of_mem_take (by rw [← las_els]; exact hz)
theorem kfirst (K : Kp w W xs) (i : Nat) (hi : xs[i]? = some x) (h : x.n ≤ 900000) (n : Int) (hn : n < 9223372036854775808) : Calls Try.prog 10 #[x.v, .int .i64 n] W fun e W' => ∃ v', e = .returned v' ∧ Kp w W' (⟨v', fir x.l n.toNat, x.n + 1⟩ :: xs) := by
  obtain ⟨h1, h2, h3⟩ := K.at hi
  refine (first_to W x.v x.l n h1 (by omega) h3 hn).mono ?_
  rintro e W' ⟨v', rfl, o, b⟩
  exact ⟨v', rfl, (K.next b).push o.seen (Nat.le_trans (fir_len _ _) (by show x.l.length + 1 ≤ x.n + 1; omega)) (fir_top h3 _)⟩
theorem kskip (K : Kp w W xs) (i : Nat) (hi : xs[i]? = some x) (h : x.n ≤ 900000) (n : Int) (hn : n < 9223372036854775808) : Calls Try.prog 19 #[x.v, .int .i64 n] W fun e W' => ∃ v', e = .returned v' ∧ Kp w W' (⟨v', ski x.l n.toNat, x.n + 1⟩ :: xs) := by
  obtain ⟨h1, h2, h3⟩ := K.at hi
  refine (skip_to W x.v x.l n h1 (by omega) h3 hn).mono ?_
  rintro e W' ⟨v', rfl, o, b⟩
  exact ⟨v', rfl, (K.next b).push o.seen (Nat.le_trans (ski_len _ _) (by show x.l.length + 1 ≤ x.n + 1; omega)) (ski_top h3 _)⟩
theorem klast (K : Kp w W xs) (i : Nat) (hi : xs[i]? = some x) (h : x.n ≤ 900000) (n : Int) (hn : n < 9223372036854775808) : Calls Try.prog 11 #[x.v, .int .i64 n] W fun e W' => ∃ v', e = .returned v' ∧ Kp w W' (⟨v', las x.l n.toNat, x.n + 1⟩ :: xs) := by
  obtain ⟨h1, h2, h3⟩ := K.at hi
  refine (last_to W x.v x.l n h1 (by omega) h3 hn).mono ?_
  rintro e W' ⟨v', rfl, o, b⟩
  exact ⟨v', rfl, (K.next b).push o.seen (Nat.le_trans (las_len _ _) (by show x.l.length + 1 ≤ x.n + 1; omega)) (las_top h3 _)⟩
end
end Go.Proofs.Ytpjfgkjhhmfhkaa
