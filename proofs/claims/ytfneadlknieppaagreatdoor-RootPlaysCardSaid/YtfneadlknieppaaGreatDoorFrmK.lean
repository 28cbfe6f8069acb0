/- known() of the statements about frame returns true and makes new memory alone. Condition: errors.errorType holds what its text lays. -/
import Derived.Test.YtfneadlknieppaaGreatDoorFrmN
import Derived.Test.YtfneadlknieppaaGreatDoorOctKnown
import Derived.Lib.SlBytesConst
import Derived.Lib.SmallJoins
namespace Go.Proofs.YtfneadlknieppaaGreatDoor
open Go.RowKit

theorem next_to (w : World) (v : Value) (l : List Int) {k n c : Int} {xs : List Int} (h : nxt l = (k, xs, n, c)) (ok : Okb l) (hl : l.length ≤ 140737488351232) (hs : SeenR w v l) :
    Calls Tryz.prog 81 #[v] w fun e w' => ∃ u, e = .returned (.tuple #[.int .i64 k, u, .int .i64 n, errOf c]) ∧ SeenR w' u xs ∧ Below w.heap.size w w' := by
  refine (next_any w v l ok hl hs).mono fun e w' hp => ?_
  unfold NextPost at hp
  rw [h] at hp
  obtain ⟨u, h1, h2, h3⟩ := hp
  exact ⟨u, h1, SeenR.own h2, h3⟩
theorem next_own (w : World) (v : Value) (l : List Int) {k n c : Int} {xs : List Int} (h : nxt l = (k, xs, n, c)) (ok : Okb l) (hl : l.length ≤ 140737488351232) (hs : SeenR w v l) :
    Calls Tryz.prog 81 #[v] w fun e w' => ∃ u, e = .returned (.tuple #[.int .i64 k, u, .int .i64 n, errOf c]) ∧ w'.ownsRow w.heap.size 5 1 u xs.length (us xs) ∧ Below w.heap.size w w' := by
  refine (next_any w v l ok hl hs).mono fun e w' hp => ?_
  unfold NextPost at hp
  rw [h] at hp
  exact hp
theorem seen_lit (w : World) (l : List Int) (n c : Nat) (hn : l.length = n) (hc : n ≤ c) (e : TypeId) (fr : Nat × Nat) (b : Nat) (hb : b = w.heap.size) : SeenR (w.alloc (.cells (us l).toArray e fr)) (.slice (some ⟨b, 0, none⟩) n c) l := by
  subst hb
  subst hn
  refine .inr ⟨w.heap.size, 0, c, rfl, hc, fun j u h => ?_⟩
  rw [Nat.zero_add, World.cell?_alloc_mark w _ e fr j]
  simpa using h

theorem okb_a' : Okb [97] := by unfold Okb; decide
theorem nxt_nil : nxt [] = (0, [], 0, 3) := rfl
theorem nxt_a : nxt (frm 1 [97]) = (1, [97], 10, 0) := by decide +kernel

end Go.Proofs.YtfneadlknieppaaGreatDoor
