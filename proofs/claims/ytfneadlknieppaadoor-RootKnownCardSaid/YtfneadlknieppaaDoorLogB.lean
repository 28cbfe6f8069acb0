/- The small calls of a log: end, Length, Count, Record. No condition but that it lies so. · decode: the records at the beginning of bytes. Condition: the bytes are no more than a program's may be. -/
import Derived.Test.YtfneadlknieppaaDoorLogD
import Derived.BigQuiet
import Derived.Test.YtfneadlknieppaaDoorFrmK
namespace Go.Proofs.YtfneadlknieppaaDoor
open Go.RowKit
open Go.Maps

theorem lcell_kb {w w' : World} {a : Addr} {u : Value} (h : w.cell? a = some u) (hb : Below w.heap.size w w') : w'.cell? a = some u := by
  rw [World.cell?_of_block (w := w) (hb.block _ (World.block_lt_of_cell? w _ h))]; exact h
/-- What Record answers. -/
def recR (R : List Rc) (k : Int) : Int × List Int × Bool := if k < 0 ∨ (R.length : Int) ≤ k then (0, [], false) else match R[k.toNat]? with | some r => (r.1, r.2, true) | none => (0, [], false)
def RecPost (w : World) (R : List Rc) (k : Int) (e : Ending) (w' : World) : Prop :=
  ∃ v, e = .returned (.tuple #[.int .i64 (recR R k).1, v, .bool (recR R k).2.2]) ∧ BOwn w' w.heap.size v (recR R k).2.1 ∧ Below w.heap.size w w'
end Go.Proofs.YtfneadlknieppaaDoor
namespace Go.Proofs.YtfneadlknieppaaDoor
open Go.RowKit
open Go.Maps

theorem rrow_one (a : Nat) {e : Re} (h : e.1.oneCell' = true) : ∀ u ∈ rrow a e, u.oneCell' = true := by
  intro u hu
  simp only [rrow, List.mem_cons, List.not_mem_nil, or_false] at hu
  rcases hu with rfl | rfl | rfl
  all_goals first | rfl | exact h
theorem own_one {w : World} {B e size n : Nat} {v : Value} {xs : List Value} (h : w.ownsRow B e size v n xs) : v.oneCell' = true := by
  obtain ⟨p, cap, rfl⟩ := own_slice h; rfl
theorem dec_fits {n : Nat} (h : n ≤ 111111111) : n + 1 ≤ maxLen ∧ (n + 1) * 40 ≤ 140737488355328 := by unfold maxLen; omega
theorem dec_step {l : List Int} {m : Nat} {kk sz : Int} {xs : List Int} (ok : Okb (l.drop m)) (hm : m < l.length) (hx : nxt (l.drop m) = (kk, xs, sz, 0)) : dec (l.drop m) = ((kk, xs) :: (dec (l.drop (m + (9 + xs.length)))).1, (dec (l.drop (m + (9 + xs.length)))).2) := by
  have hs := (nxt_size ok (by rw [hx])).1
  rw [hx] at hs
  simp only at hs
  rw [dec_good ok (by intro e; have := congrArg List.length e; rw [List.length_drop] at this; simp at this; omega) (by rw [hx]), hx]
  simp only [List.drop_drop]
  rw [show sz.toNat = 9 + xs.length from by omega]
theorem errOf_nz {c : Int} (h : ¬ c = 0) : errOf c = kind c := by unfold errOf; rw [if_neg h]
theorem seenr_drop {w : World} {l : List Int} {g o cap : Nat} (h : SeenR w (.slice (some ⟨g, o, none⟩) l.length cap) l) (m : Nat) (hm : m ≤ l.length) : SeenR w (.slice (some ⟨g, o + m, none⟩) (l.length - m) (cap - m)) (l.drop m) := by
  rcases h with ⟨h, _⟩ | ⟨g', o', cap', h, h2, hu⟩
  · cases h
  · cases h
    have e : (l.drop m).length = l.length - m := List.length_drop
    refine .inr ⟨g, o + m, cap - m, by rw [e], by rw [e]; omega, fun j u hj => ?_⟩
    have := hu (m + j) u (by simpa [us, List.getElem?_drop] using hj)
    rwa [← Nat.add_assoc] at this
end Go.Proofs.YtfneadlknieppaaDoor
