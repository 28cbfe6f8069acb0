/- The chapter's example returns true. No condition. -/
import Derived.Test.YtfneadlknieppaaGreatDoorDskN
import Derived.Lib.SlBytesConst
namespace Go.Proofs.YtfneadlknieppaaGreatDoor
open Go.RowKit
open Go.Maps

theorem conv_own {w : World} {B : Nat} {v : Value} {l : List Int} (h : BOwn w B v l) : (convert 37 9 v).run Tryz.prog w = .ok (.string (strOfNums l)) w := by
  have hs := Seen.own h
  rcases h.2 with ⟨rfl, h0⟩ | ⟨g, cap, cur, rfl, _⟩
  · obtain rfl : l = [] := List.eq_nil_of_length_eq_zero h0
    exact run_convert_bytes_nil w _ _ Tryz.underlying37 Tryz.underlying5 0 0 _ Tryz.underlying9
  · rcases hs with ⟨h1, _⟩ | ⟨a, cap', h1, hc, hu⟩
    · cases h1
    · cases h1
      refine run_convert_bytes_arg w _ _ Tryz.underlying37 Tryz.underlying5 g 0 _ cap l rfl (fun i hi => ?_) _ Tryz.underlying9
      have := hu i _ (show (us l)[i]? = some (.int .u8 (l.getD i 0)) from by simp [us, List.getElem?_map, List.getD, List.getElem?_eq_getElem hi])
      rwa [Addr.add_lit] at this
theorem seen_lit2 (w : World) (l : List Int) (n c : Nat) (hn : l.length = n) (hc : n ≤ c) (e : TypeId) (fr : Nat × Nat) (b : Nat) (hb : b = w.heap.size) : Seen (w.alloc (.cells (us l).toArray e fr)) (.slice (some ⟨b, 0, none⟩) n c) l := by
  subst hb
  subst hn
  refine .inr ⟨⟨w.heap.size, 0, none⟩, c, rfl, hc, fun j u h => ?_⟩
  rw [Addr.add_lit, Nat.zero_add, World.cell?_alloc_mark w _ e fr j]
  simpa using h
theorem DS.lt {w : World} {B b : Nat} {S : Nat → Prop} {s : St} (h : DS w B b S s) : ∀ k, S k → k < w.heap.size := by
  obtain ⟨c, L, P, h⟩ := h
  exact h.lt
def ks0 : St := St.new 100
theorem ka1 : (ks0.append [102] [97, 98, 99]).1 = 0 := by decide +kernel
def ks1 : St := (ks0.append [102] [97, 98, 99]).2
def ks2 : St := ks1.crash 0 2
theorem ka2 : ks1.works ≤ 1000000000 := by decide +kernel
theorem ka3 : fbytes [102] ks2.files = [97, 98] ∧ (aget [102] ks2.files).isSome = true ∧ ks2.dead = false ∧ ks2.pend.length = 0 ∧ ks2.works = 1 := by decide +kernel
end Go.Proofs.YtfneadlknieppaaGreatDoor
