/- Cutting a log on a disk whose one file it is: plain mathematics. No condition. -/
import Derived.Test.YtcolkgeflokgeaaLogI
import Derived.Test.YtcolkgeflokgeaaLogU
namespace Go.Proofs.Ytcolkgeflokgeaa
open Go.RowKit
open Go.Maps

theorem encs_take (R : List Rc) (k : Nat) : (encs R).take (ends (R.take k)) = encs (R.take k) := by
  have e : encs R = encs (R.take k) ++ encs (R.drop k) := by rw [← encs_app, List.take_append_drop]
  rw [e, ← encs_len]
  exact List.take_left' rfl
theorem ends_take_le (R : List Rc) (k : Nat) : ends (R.take k) ≤ ends R := by
  have e : ends R = ends (R.take k) + ends (R.drop k) := by rw [← ends_app, List.take_append_drop]
  omega
section
variable {s : St} {X : List Int} {wk : Nat}
theorem OneF.trunc (h : OneF s X wk) (n : Nat) (hn : n ≤ X.length) (h0 : (aget [102] s.files).isSome = true) : (s.truncate [102] n).1 = 0 ∧ OneF (s.truncate [102] n).2 (X.take n) (wk + 1) := by
  have e : s.truncate [102] n = s.work ⟨1, [102], [], [], n⟩ := by
    unfold St.truncate
    rw [if_neg (by decide), if_neg (by rw [h.dead]; decide), if_neg (by rw [h0]; decide), if_neg (by rw [h.fb]; omega), Int.toNat_natCast]
  have ht : turn s.files ⟨1, [102], [], [], n⟩ = aput [102] ((fbytes [102] s.files).take n) s.files := rfl
  rw [e]
  refine ⟨(h.work _).1, h.worked _ ?_ ?_⟩
  · rw [ht, fbytes_put_same, h.fb]
  · have h1 := totF_put [102] ((fbytes [102] s.files).take n) h.asc
    rw [ht]
    rw [h.fb, h.tot] at h1
    rw [h.fb]
    omega
theorem OneF.cut {R : List Rc} (h : OneF s (encs R) wk) (k : Nat) (hk : k ≤ R.length) :
    (cutS s [102] R (ends (R.take k))).1 = 0 ∧ (cutS s [102] R (ends (R.take k))).2.2 = R.take k ∧ OneF (cutS s [102] R (ends (R.take k))).2.1 (encs (R.take k)) (wk + 1) := by
  have hc : cutAt R (ends (R.take k) : Nat) = some k := cutAt_some hk rfl
  have hh : s.has [102] = (aget [102] s.files).isSome := by unfold St.has; rw [if_neg (by rw [h.dead]; decide)]
  unfold cutS
  rw [hc]
  simp only
  by_cases h0 : ((ends (R.take k) : Nat) : Int) = 0 ∧ s.has [102] = false
  · have ht : trS s [102] (ends (R.take k) : Nat) = (0, s) := by unfold trS; rw [if_pos h0]
    rw [ht, if_pos rfl]
    refine ⟨rfl, rfl, ?_⟩
    have hx : encs R = [] := by rw [← h.fb]; exact fbytes_none (by rw [← hh]; exact h0.2)
    have hy : encs (R.take k) = [] := by rw [← encs_take, hx]; exact List.take_nil
    simp only
    rw [hy]
    rw [hx] at h
    exact h.mono (Nat.le_succ _)
  · have ht : trS s [102] (ends (R.take k) : Nat) = s.truncate [102] (ends (R.take k) : Nat) := by unfold trS; rw [if_neg h0]
    have hs : (aget [102] s.files).isSome = true := by
      by_cases hx : encs R = []
      · have h2 : ends R = 0 := by rw [← encs_len, hx]; rfl
        have h3 := ends_take_le R k
        rw [← hh]
        cases hb : s.has [102] with
        | true => rfl
        | false => exact absurd ⟨by omega, hb⟩ h0
      · exact some_of_bytes (by rw [h.fb]; exact hx)
    obtain ⟨a, b⟩ := h.trunc (ends (R.take k)) (by rw [encs_len]; exact ends_take_le R k) hs
    rw [ht, if_pos a]
    rw [encs_take] at b
    exact ⟨rfl, rfl, b⟩
end
/-- Where the records end, the beginning ahead of them. -/
def lens (R : List Rc) : List Nat := (List.range (R.length + 1)).map fun j => ends (R.take j)
def iss (l : List Nat) : List Value := l.map fun (n : Nat) => Value.int .i64 ((n : Nat) : Int)
theorem lens_length (R : List Rc) : (lens R).length = R.length + 1 := by simp [lens]
theorem iss_length (l : List Nat) : (iss l).length = l.length := by simp [iss]
theorem lens_snoc (R : List Rc) (r : Rc) : lens (R ++ [r]) = lens R ++ [ends (R ++ [r])] := by
  unfold lens
  rw [List.length_append, List.length_singleton, List.range_succ, List.map_append]
  congr 1
  · refine List.map_congr_left fun j hj => ?_
    have hj' := List.mem_range.1 hj
    rw [List.take_append_of_le_length (by omega)]
  · simp [List.take_of_length_le]
theorem lens_at (R : List Rc) {j : Nat} (hj : j ≤ R.length) : (iss (lens R))[j]? = some (.int .i64 ((ends (R.take j) : Nat) : Int)) := by
  have h : j < R.length + 1 := by omega
  simp [iss, lens, h]
theorem iss_snoc (l : List Nat) (n : Nat) : iss (l ++ [n]) = iss l ++ [.int .i64 (n : Int)] := by simp [iss]
end Go.Proofs.Ytcolkgeflokgeaa
