/- known() returns true, and nothing that was there has turned. · known() of the statements about frame returns true and makes new memory alone. Condition: errors.errorType holds what its text lays. -/
import Derived.Test.YtbpccbhlggcmfaaGreatDoorOctW
import Derived.Test.YtbpccbhlggcmfaaGreatDoorOctEnc
import Derived.Test.YtbpccbhlggcmfaaGreatDoorOctR
import Derived.Laws.BytesArg
import Derived.Test.YtbpccbhlggcmfaaGreatDoorFrmN
import Derived.Lib.SlBytesConst
import Derived.Lib.SmallJoins
namespace Go.Proofs.YtbpccbhlggcmfaaGreatDoor
open Go.RowKit

theorem conv_any {w : World} {v : Value} {l : List Int} (h : SeenR w v l) : (convert 71 9 v).run Tryz.prog w = .ok (.string (strOfNums l)) w := by
  rcases h with ⟨rfl, rfl⟩ | ⟨g, o, cap, rfl, hc, hu⟩
  · exact run_convert_bytes_nil w _ _ Tryz.underlying71 Tryz.underlying5 0 0 _ Tryz.underlying9
  · refine run_convert_bytes_arg w _ _ Tryz.underlying71 Tryz.underlying5 g o _ cap l rfl (fun i hi => ?_) _ Tryz.underlying9
    exact hu i _ (by simp [us, List.getElem?_map, List.getD, List.getElem?_eq_getElem hi])

theorem known_bytes : ([] ++ be 1 1) ++ leb 9 (IntKind.u64.wrap 300) = [1, 172, 2] := by decide
theorem known_str : strOfNums [1, 172, 2] = ⟨#[1, 172, 2]⟩ := rfl

end Go.Proofs.YtbpccbhlggcmfaaGreatDoor
namespace Go.Proofs.YtbpccbhlggcmfaaGreatDoor
open Go.RowKit

theorem next_to (w : World) (v : Value) (l : List Int) {k n c : Int} {xs : List Int} (h : nxt l = (k, xs, n, c)) (ok : Okb l) (hl : l.length ≤ 140737488351232) (hs : SeenR w v l) :
    Calls Tryz.prog 50 #[v] w fun e w' => ∃ u, e = .returned (.tuple #[.int .i64 k, u, .int .i64 n, errOf c]) ∧ SeenR w' u xs ∧ Below w.heap.size w w' := by
  refine (next_any w v l ok hl hs).mono fun e w' hp => ?_
  unfold NextPost at hp
  rw [h] at hp
  obtain ⟨u, h1, h2, h3⟩ := hp
  exact ⟨u, h1, SeenR.own h2, h3⟩
theorem next_own (w : World) (v : Value) (l : List Int) {k n c : Int} {xs : List Int} (h : nxt l = (k, xs, n, c)) (ok : Okb l) (hl : l.length ≤ 140737488351232) (hs : SeenR w v l) :
    Calls Tryz.prog 50 #[v] w fun e w' => ∃ u, e = .returned (.tuple #[.int .i64 k, u, .int .i64 n, errOf c]) ∧ w'.ownsRow w.heap.size 5 1 u xs.length (us xs) ∧ Below w.heap.size w w' := by
  refine (next_any w v l ok hl hs).mono fun e w' hp => ?_
  unfold NextPost at hp
  rw [h] at hp
  exact hp
theorem seen_lit (w : World) (l : List Int) (n c : Nat) (hn : l.length = n) (hc : n ≤ c) (e : TypeId) (fr : Nat × Nat) (b : Nat) (hb : b = w.heap.size) : SeenR (w.alloc (.cells (us l).toArray e fr)) (.slice (some ⟨b, 0, none⟩) n c) l := by
  subst hb
  subst hn
  refine .inr ⟨w.heap.size, 0, c, rfl, hc, fun j u h => ?_⟩
  rw [Nat.zero_add, World.cell?_alloc_mark w _ e fr j]
  simpa using h

theorem okb_a' : Okb [97] := by unfold Okb; decide
theorem nxt_nil : nxt [] = (0, [], 0, 3) := rfl
theorem nxt_a : nxt (frm 1 [97]) = (1, [97], 10, 0) := by decide +kernel

end Go.Proofs.YtbpccbhlggcmfaaGreatDoor
