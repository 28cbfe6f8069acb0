/- Pieces appended one after the other: plain mathematics; slices of slices of bytes that came in. No condition. -/
import Derived.Test.YtcolkgeflokgeaaDskRn
import Derived.Test.YtcolkgeflokgeaaGenIn
import Derived.Test.YtcolkgeflokgeaaGenFew3
import Derived.Deep.Slices
import Derived.Deep.Fields
import Derived.ChangeSame
namespace Go.Proofs.Ytcolkgeflokgeaa
open Go.RowKit Go.ChangeShapes Go.WideShapes Go.Deep
open Go.Maps

def wks (xs : List (List Int)) : List Wk := xs.map fun x => ⟨0, [102], [], x, 0⟩
theorem wks_app (xs : List (List Int)) (x : List Int) : wks (xs ++ [x]) = wks xs ++ [⟨0, [102], [], x, 0⟩] := by simp [wks]
theorem wks_take (xs : List (List Int)) (d : Nat) : (wks xs).take d = wks (xs.take d) := by simp [wks, List.map_take]
theorem run_wks : ∀ (xs : List (List Int)) (F : Fil), AAsc F → AAsc (run F (wks xs)) ∧ fbytes [102] (run F (wks xs)) = fbytes [102] F ++ xs.flatten ∧ totF (run F (wks xs)) = totF F + xs.flatten.length
  | [], F, h => ⟨h, by simp [wks, run], by simp [wks, run]⟩
  | x :: xs, F, h => by
    have ht : turn F ⟨0, [102], [], x, 0⟩ = aput [102] (fbytes [102] F ++ x) F := rfl
    obtain ⟨h1, h2, h3⟩ := run_wks xs (turn F ⟨0, [102], [], x, 0⟩) (turn_asc h _)
    refine ⟨h1, ?_, ?_⟩
    · show fbytes [102] (run (turn F ⟨0, [102], [], x, 0⟩) (wks xs)) = _
      rw [h2, ht, fbytes_put_same]; simp
    · show totF (run (turn F ⟨0, [102], [], x, 0⟩) (wks xs)) = _
      rw [h3, turn_app_tot F h]; simp; omega
def sO (xs : List (List Int)) : St := ⟨10000, [], wks xs, -1, false, xs.length⟩
theorem sO_nil : St.new 10000 = sO [] := r0
theorem sO_used (xs : List (List Int)) : (sO xs).used = xs.flatten.length := by
  have := (run_wks xs [] AAsc.nil).2.2
  unfold St.used St.files
  show totF (run [] (wks xs)) = _
  rw [this]; simp [totF, asum]
theorem sO_app (xs : List (List Int)) (x : List Int) (h : xs.flatten.length + x.length ≤ 10000) : (sO xs).append [102] x = (0, sO (xs ++ [x])) := by
  unfold St.append
  rw [if_neg (by decide), if_neg (by show ¬ false = true; decide), if_neg (by rw [sO_used]; show ¬ ((10000 : Int) - _ < _); omega)]
  unfold St.work sO
  rw [if_neg (by show ¬ (-1 : Int) = 0; decide)]
  simp [wks]
/-- What is left behind a crash. -/
def leftO (xs : List (List Int)) (d : Nat) (cut : Int) : List Int := (xs.take d).flatten ++ (match xs[d]? with | some x => x.take (cut % ((x.length : Int) + 1)).toNat | none => [])
theorem crashF_wks (xs : List (List Int)) (d : Nat) (cut : Int) : fbytes [102] (crashF [] (wks xs) d cut) = leftO xs d cut := by
  unfold crashF leftO
  rw [wks_take]
  obtain ⟨h1, h2, _⟩ := run_wks (xs.take d) [] AAsc.nil
  have h2' : fbytes [102] (run [] (wks (xs.take d))) = (xs.take d).flatten := by rw [h2]; rfl
  have hg : (wks xs)[d]? = (xs[d]?).map fun x => ⟨0, [102], [], x, 0⟩ := by simp [wks]
  rw [hg]
  cases hx : xs[d]? with
  | none => simp [h2']
  | some x =>
    simp only [Option.map_some]
    unfold part
    rw [if_pos rfl]
    by_cases h0 : cut % ((x.length : Int) + 1) = 0
    · rw [if_pos h0, h0, h2']; simp
    · rw [if_neg h0, fbytes_put_same, h2']
theorem sO_crash (xs : List (List Int)) (cut : Int) (d : Nat) (hd : d ≤ xs.length) : (sO xs).crash d cut = { sO xs with kept := crashF [] (wks xs) d cut, pend := [], fuse := -1, dead := false } := by
  have hl : ((sO xs).pend.length : Int) = xs.length := by simp [sO, wks]
  unfold St.crash
  rw [hl]
  have : ((d : Int) % ((xs.length : Int) + 1)).toNat = d := by rw [Int.emod_eq_of_lt (by omega) (by omega)]; omega
  rw [this]; rfl
theorem take_two (A x R : List Int) (m : Nat) : A ++ x.take m = (A ++ (x ++ R)).take (A.length + min m x.length) := by
  rw [List.take_length_add_append, List.take_append_of_le_length (Nat.min_le_right _ _), ← List.take_eq_take_min]
/-- It is a beginning of all, no shorter than the first d pieces and no longer than one more. -/
theorem leftO_take (xs : List (List Int)) (d : Nat) (cut : Int) : leftO xs d cut = xs.flatten.take (leftO xs d cut).length ∧ (xs.take d).flatten.length ≤ (leftO xs d cut).length ∧ (leftO xs d cut).length ≤ (xs.take (d + 1)).flatten.length := by
  have e : xs.flatten = (xs.take d).flatten ++ (xs.drop d).flatten := by rw [← List.flatten_append, List.take_append_drop]
  cases hx : xs[d]? with
  | none =>
    have hl : leftO xs d cut = (xs.take d).flatten := by unfold leftO; rw [hx]; simp
    have hd : xs.length ≤ d := List.getElem?_eq_none_iff.1 hx
    have e1 : xs.take d = xs := List.take_of_length_le hd
    have e2 : xs.take (d + 1) = xs := List.take_of_length_le (by omega)
    rw [hl, e1, e2]
    exact ⟨by rw [List.take_length], Nat.le_refl _, Nat.le_refl _⟩
  | some x =>
    have hd : d < xs.length := (List.getElem?_eq_some_iff.1 hx).1
    have hxx : xs[d] = x := (List.getElem?_eq_some_iff.1 hx).2
    have hl : leftO xs d cut = (xs.take d).flatten ++ x.take (cut % ((x.length : Int) + 1)).toNat := by unfold leftO; rw [hx]
    have e2 : (xs.drop d).flatten = x ++ (xs.drop (d + 1)).flatten := by rw [List.drop_eq_getElem_cons hd, List.flatten_cons, hxx]
    have e3 : (xs.take (d + 1)).flatten = (xs.take d).flatten ++ x := by rw [take_step hd, List.flatten_append, hxx]; simp
    have hm := Int.emod_lt_of_pos cut (show (0 : Int) < (x.length : Int) + 1 by omega)
    have hm0 := Int.emod_nonneg cut (show (x.length : Int) + 1 ≠ 0 by omega)
    rw [hl, e, e2, e3]
    generalize (cut % ((x.length : Int) + 1)).toNat = m at *
    simp only [List.length_append, List.length_take]
    exact ⟨take_two _ _ _ _, by omega, by omega⟩
theorem strs_app (a b : List Int) : strOfNums (a ++ b) = strOfNums a ++ strOfNums b := by
  apply ByteArray.ext
  simp [strOfNums]
theorem strs_extract (a : List Int) (n : Nat) : (strOfNums a).extract 0 n = strOfNums (a.take n) := by
  apply ByteArray.ext
  rw [ByteArray.data_extract]
  simp [strOfNums]
/-- Slices of bytes that came in. -/
def LSeen (w : World) (p : Option Addr) (E : List (List Int)) : Prop := ∀ j x, E[j]? = some x → ∃ a q c, p = some a ∧ w.cell? (a.add j) = some (.slice q x.length c) ∧ Seen w (.slice q x.length c) x
theorem rowCells : Try.prog.cellsOf 32 = 1 := by kernel_rfl
theorem lists_in {H : Type} {enc : TypeId × Value → H} {w : World} {base : Nat} {spare : Nat → Bool} {held : Bool} {a0 : Option Addr} {len cap fuel : Nat} {d : DataW H} {p : List MemPlace}
    (h : DataW.trod enc Try.prog w base spare held fuel 22 [.slice a0 len cap] = some (d, p)) : ∃ E : List (List Int), E.length = len ∧ LSeen w a0 E := by
  rcases open_slice Try.underlying22 h with ⟨h1, h2⟩ | ⟨a, len', cap', m, n, D, Pl, hcs, hb, hl, hm, hmm, hx, hi⟩
  · simp at h1
    obtain ⟨rfl, rfl, rfl⟩ := h1
    exact ⟨[], rfl, fun j x hj => by simp at hj⟩
  · simp at hcs
    obtain ⟨rfl, rfl, rfl⟩ := hcs
    obtain ⟨f, hf⟩ := choose_lt (n := len) (α := List Int) (p := fun i x => ∃ q c, w.cell? (a.add i) = some (.slice q x.length c) ∧ Seen w (.slice q x.length c) x) (fun i hil => by
      have him : i < m := by rw [hmm]; split <;> omega
      obtain ⟨cs, h3, h4⟩ := hi i him
      rw [rowCells] at h3
      obtain ⟨hbase, hcl, hat⟩ := World.cells?_some h3
      obtain ⟨z0, rfl⟩ : ∃ z, cs = [z] := List.length_eq_one_iff.1 hcl
      have g0 := hat 0 (by omega)
      simp only [List.getElem?_cons_zero, Nat.mul_one] at g0
      obtain ⟨q, n0, c0, rfl⟩ : ∃ q n c, z0 = .slice q n c := by
        rcases open_slice Try.underlying32 h4 with ⟨h1, _⟩ | ⟨a', l', c', _, _, _, _, h1, _⟩
        · simp at h1; exact ⟨_, _, _, h1⟩
        · simp at h1; exact ⟨_, _, _, h1⟩
      obtain ⟨x, hxl, _, hs, _⟩ := bytes_in h4
      subst hxl
      refine ⟨x, q, c0, ?_, hs⟩
      rwa [add_add, Nat.add_zero] at g0)
    refine ⟨(List.range len).map f, by simp, fun j x hj => ?_⟩
    have hjl := (List.getElem?_eq_some_iff.1 hj).1
    simp at hjl
    obtain ⟨q, c, h1, h2⟩ := hf j hjl
    simp [hjl] at hj
    subst hj
    exact ⟨a, q, c, rfl, h1, h2⟩
end Go.Proofs.Ytcolkgeflokgeaa
