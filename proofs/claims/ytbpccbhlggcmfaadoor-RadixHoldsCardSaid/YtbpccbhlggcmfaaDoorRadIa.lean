/- What the statements' own comparison asks, as plain mathematics. No condition. -/
import Derived.Test.YtbpccbhlggcmfaaDoorRadKq
import Derived.Test.YtbpccbhlggcmfaaDoorRadPr
namespace Go.Proofs.YtbpccbhlggcmfaaDoor
open Go.RowKit

theorem kget_nth : ∀ (k : En) (i : Nat) (h : List UInt8) (x : Int), (keys k).Nodup → (keys k)[i]? = some h → (nums k)[i]? = some x → kget h k = some x
  | [], i, _, _, _, hi, _ => by simp [keys] at hi
  | y :: k, 0, h, x, _, hi, hx => by
    have e : y.1 = h := by simpa [keys] using hi
    have e2 : y.2 = x := by simpa [nums] using hx
    unfold kget; rw [if_pos e, e2]
  | y :: k, i + 1, h, x, hn, hi, hx => by
    have hi' : (keys k)[i]? = some h := by simpa [keys] using hi
    have hn' := List.nodup_cons.1 (show (y.1 :: keys k).Nodup from hn)
    have e : y.1 ≠ h := fun e => hn'.1 (e ▸ List.mem_of_getElem? hi')
    unfold kget; rw [if_neg e]
    exact kget_nth k i h x hn'.2 hi' (by simpa [nums] using hx)
/-- The first m of an owned row of hashes. -/
theorem hown_take {w : World} {B cap m : Nat} {p : Option Addr} {E : List (List UInt8)} (hE : H32 E) (h : HOwn w B (.slice p E.length cap) E) (hm : m ≤ E.length) : HOwn w B (.slice p m cap) (E.take m) := by
  by_cases h0 : E.length = 0
  · obtain rfl : E = [] := List.eq_nil_of_length_eq_zero h0
    obtain rfl : m = 0 := by simpa using hm
    exact h
  · obtain ⟨g, cap', R, e, hb, hg, hc, hmx, hR⟩ := HOwn.row h (by omega)
    injection e with e1 e2 e3
    subst e1 e3
    have hl : (E.take m).length = m := by rw [List.length_take]; omega
    refine hown_mk (R := fl (E.drop m) ++ R) (hE.take m) hl.symm hb ?_ (by omega) hmx ?_
    · rw [← List.append_assoc, ← fl_app, List.take_append_drop]; exact hg
    · rw [List.length_append, fl_length (hE.drop m), List.length_drop, hR, hl, ← Nat.add_mul]
      congr 1
      omega
theorem cut_str (l : List UInt8) (n : Nat) : (⟨l.toArray⟩ : ByteArray).extract 0 n = ⟨(l.take n).toArray⟩ := by
  apply ByteArray.ext
  rw [ByteArray.data_extract]
  simp
/-- What is asked is a beginning of a hash's text, or nothing begins so. -/
def Ask (k : En) (p : List UInt8) : Prop := p.length ≤ 64 ∧ (p = [] ∨ pre p = true ∨ selL k p = [])
theorem ask_text (k : En) {h : List UInt8} (hh : h.length = 32) {q : Nat} (hq : q ≤ 64) : Ask k ((tx h).take q) := by
  have hl : ((tx h).take q).length = q := by rw [List.length_take, tx_length, hh]; omega
  refine ⟨by omega, ?_⟩
  by_cases h0 : q = 0
  · exact .inl (by rw [h0]; rfl)
  · refine .inr (.inl ?_)
    unfold pre
    have hd : digs ((tx h).take q) = true := by
      have := tx_digs h
      unfold digs at this ⊢
      rw [List.all_eq_true] at this ⊢
      exact fun x hx => this x (List.mem_of_mem_take hx)
    rw [hl, hd, decide_eq_true (by omega), decide_eq_true hq]; rfl
theorem xyz_no (x : List UInt8) : ([120, 121, 122] : List UInt8).isPrefixOf (tx x) = false := by
  cases hb : ([120, 121, 122] : List UInt8).isPrefixOf (tx x) with
  | false => rfl
  | true =>
    rw [List.isPrefixOf_iff_prefix] at hb
    obtain ⟨r, hr⟩ := hb
    have hd := tx_digs x
    rw [← hr] at hd
    unfold digs at hd
    simp only [List.cons_append, List.all_cons, Bool.and_eq_true, decide_eq_true_eq] at hd
    exact absurd hd.1 (by decide)
theorem ask_xyz (k : En) : Ask k [120, 121, 122] := by
  refine ⟨by decide, .inr (.inr ?_)⟩
  unfold selL
  rw [List.filter_eq_nil_iff]
  intro x _ h
  rw [xyz_no] at h
  cases h
theorem Ask.all {k : En} {p : List UInt8} (h : Ask k p) (M : Int) : allL k p M = (selL k p).take M.toNat := by
  unfold allL
  rcases h.2 with e | e | e
  · rw [if_pos (.inl e)]
  · rw [if_pos (.inr e)]
  · rw [e, List.take_nil]; split <;> rfl
/-- The error that is wanted. -/
def wantL (k : En) (p : List UInt8) : Int := if pre p = false then 1 else if (selL k p).length = 0 then 11 else if 1 < (selL k p).length then 14 else 0
theorem want_is (k : En) (p : List UInt8) : (preL k p).2 = wantL k p := by
  unfold preL wantL
  split
  · rfl
  · generalize selL k p = L
    match L with
    | [] => rfl
    | [h] => rfl
    | a :: b :: l =>
      rw [if_neg (by simp), if_pos (by simp)]; rfl
theorem want_zero {k : En} {p : List UInt8} (h : wantL k p = 0) : ∃ x, selL k p = [x] ∧ preL k p = (x, 0) ∧ pre p = true := by
  unfold wantL at h
  by_cases hp : pre p = false
  · rw [if_pos hp] at h; cases h
  · rw [if_neg hp] at h
    unfold preL
    rw [if_neg hp]
    have hp' : pre p = true := by simpa using hp
    generalize selL k p = L at *
    match L with
    | [] => simp at h
    | [x] => exact ⟨x, rfl, rfl, hp'⟩
    | a :: b :: l => rw [if_neg (by simp), if_pos (by simp)] at h; cases h
theorem want_nz {k : En} {p : List UInt8} (h : wantL k p ≠ 0) : preL k p = (hz, wantL k p) := by
  rw [← want_is]
  unfold wantL at h
  unfold preL
  by_cases hp : pre p = false
  · rw [if_pos hp]
  · rw [if_neg hp] at h ⊢
    generalize selL k p = L at *
    match L with
    | [] => rfl
    | [x] => simp at h
    | a :: b :: l => rfl
theorem sel_h32 {k : En} (h : H32 (keys k)) (p : List UInt8) : H32 (selL k p) := fun x hx => h x ((rsort_mem _ _).1 (List.mem_filter.1 hx).1)
theorem sel_nil (k : En) : selL k [] = rsort (keys k) := List.filter_eq_self.2 fun _ _ => rfl
theorem sel_length (k : En) (p : List UInt8) : (selL k p).length ≤ k.length := by
  have h1 := List.length_filter_le (fun x => p.isPrefixOf (tx x)) (rsort (keys k))
  have h2 := rsort_length (keys k)
  rw [keys_length] at h2
  exact Nat.le_trans h1 h2
/-- The hashes that begin so among the first j. -/
def selT (k : En) (p : List UInt8) (j : Nat) : List (List UInt8) := ((rsort (keys k)).take j).filter fun x => p.isPrefixOf (tx x)
theorem selT_zero (k : En) (p : List UInt8) : selT k p 0 = [] := rfl
theorem selT_succ (k : En) (p : List UInt8) {j : Nat} (h : j < (rsort (keys k)).length) : selT k p (j + 1) = selT k p j ++ if p.isPrefixOf (tx (rsort (keys k))[j]) = true then [(rsort (keys k))[j]] else [] := by
  unfold selT
  rw [List.take_succ_eq_append_getElem h, List.filter_append]
  congr 1
  by_cases e : p.isPrefixOf (tx (rsort (keys k))[j]) = true
  · rw [if_pos e]; simp [e]
  · rw [if_neg e]; simp [e]
theorem selT_all (k : En) (p : List UInt8) : selT k p (rsort (keys k)).length = selL k p := by
  unfold selT; rw [List.take_length]; rfl
theorem selT_length (k : En) (p : List UInt8) (j : Nat) : (selT k p j).length ≤ k.length := by
  have h1 := List.length_filter_le (fun x => p.isPrefixOf (tx x)) ((rsort (keys k)).take j)
  have h2 := rsort_length (keys k)
  rw [keys_length] at h2
  have h3 := List.length_take_le j (rsort (keys k))
  have h4 : ((rsort (keys k)).take j).length ≤ (rsort (keys k)).length := by rw [List.length_take]; omega
  unfold selT
  omega
theorem selT_h32 {k : En} (h : H32 (keys k)) (p : List UInt8) (j : Nat) : H32 (selT k p j) := fun x hx => h x ((rsort_mem _ _).1 (List.mem_of_mem_take (List.mem_filter.1 hx).1))
end Go.Proofs.YtbpccbhlggcmfaaDoor
