/- SameSegment: alike or not. Condition: no more than a million parents. -/
import Derived.Test.YtadglppplgeldaaFltK
namespace Go.Proofs.Ytadglppplgeldaa
open Go.RowKit
set_option maxRecDepth 20000

abbrev sgv (x : Value) (s : Sg) : Value := .agg #[.int .i64 s.lo, .int .i64 s.hi, x, .bool s.root, .bool s.head]
set_option maxHeartbeats 8000000 in
theorem sameSeg_to (w : World) (x y : Value) (s t : Sg) (hx : NSeen w x s.par) (hy : NSeen w y t.par) (hl : s.par.length ≤ 1000000) :
    Calls Try.prog 28 #[sgv x s, sgv y t] w fun e w' => (∃ r, e = .returned (.bool r) ∧ (r = true ↔ s = t)) ∧ Below w.heap.size w w' := by
  obtain ⟨lo, hi, par, root, head⟩ := s
  obtain ⟨lo2, hi2, par2, root2, head2⟩ := t
  simp only at hx hy hl
  obtain ⟨p, c, rfl⟩ := hx.form
  obtain ⟨q, d, rfl⟩ := hy.form
  obtain ⟨n, hn⟩ : ∃ n, n = par.length := ⟨_, rfl⟩
  obtain ⟨m, hm⟩ : ∃ m, m = par2.length := ⟨_, rfl⟩
  rw [← hn] at hx
  rw [← hm] at hy
  simp only [← hn, ← hm]
  have HL := Lib.hid hl
  have B2 := Lib.hid (show Below w.heap.size w ((w.alloc (.cells #[.int .i64 lo, .int .i64 hi, .slice p n c, .bool root, .bool head] 33)).alloc (.cells #[.int .i64 lo2, .int .i64 hi2, .slice q m d, .bool root2, .bool head2] 33)) from ((Below.refl _ w).alloc (Nat.le_refl _) _).alloc (by simp) _)
  have HX := Lib.hid (hx.kb B2.out)
  have HY := Lib.hid (hy.kb B2.out)
  clear hx hy hl hn hm
  have fals : ∀ P : Prop, ¬ P → (false = true ↔ P) := fun P h => ⟨fun h2 => (by cases h2), fun h2 => absurd h2 h⟩
  have FA := Lib.hid fals
  clear fals
  go_enter Try.func28, Try.ntmps28
  by_cases c1 : lo = lo2
  · subst c1
    by_cases c2 : hi = hi2
    · subst c2
      by_cases c3 : root = root2
      · subst c3
        by_cases c4 : head = head2
        · subst c4
          go_wp2_with fail
          refine (sameInts_to _ _ _ par par2 HX.out HY.out (Nat.le_trans HL.out (by decide))).mono ?_
          rintro e w3 ⟨⟨r, rfl, hr⟩, b3⟩
          have HR := Lib.hid hr
          have B3 := Lib.hid (B2.out.trans (b3.mono B2.out.size))
          clear hr b3
          go_wp2_with fail
          go_ret
          refine ⟨⟨r, by simp, ?_⟩, B3.out⟩
          rw [HR.out]
          constructor
          · rintro rfl; rfl
          · intro h; injection h
        · have d : (head == head2) = false := by simpa using c4
          have C := Lib.hid c4
          clear c4
          go_wp2_with fail
          go_ret
          exact ⟨⟨false, rfl, FA.out _ (fun h => C.out (by injection h))⟩, B2.out⟩
      · have d : (root == root2) = false := by simpa using c3
        have C := Lib.hid c3
        clear c3
        go_wp2_with fail
        go_ret
        exact ⟨⟨false, rfl, FA.out _ (fun h => C.out (by injection h))⟩, B2.out⟩
    · have d : (hi == hi2) = false := by simpa using c2
      have C := Lib.hid c2
      clear c2
      go_wp2_with fail
      go_ret
      exact ⟨⟨false, rfl, FA.out _ (fun h => C.out (by injection h))⟩, B2.out⟩
  · have d : (lo == lo2) = false := by simpa using c1
    have C := Lib.hid c1
    clear c1
    go_wp2_with fail
    go_ret
    exact ⟨⟨false, rfl, FA.out _ (fun h => C.out (by injection h))⟩, B2.out⟩
end Go.Proofs.Ytadglppplgeldaa
