/- Few, at a slice's own length, hands back a slice of its own with the same bytes. -/
import Derived.Test.YtfneadlknieppaaDoorOctKit
namespace Go.Proofs.YtfneadlknieppaaDoor
open Go.RowKit

set_option maxHeartbeats 800000 in
theorem few_any (w : World) (v : Value) (l : List Int) (n : Int) (hn : n = l.length) (hl : l.length ≤ 140737488351232) (hs : Seen w v l) :
    Calls Tryd.prog 16 #[v, .int .i64 n] w fun e w' => ∃ g cap, e = .returned (.slice (some ⟨g, 0, none⟩) l.length cap) ∧ w'.ownsRow w.heap.size 5 1 (.slice (some ⟨g, 0, none⟩) l.length cap) l.length (us l) ∧ Below w.heap.size w w' := by
  subst hn
  obtain ⟨i0, hi0, hz0, hz1, hz2⟩ := info_parts u8info
  have hown := World.ownsRow_made (base := w.heap.size) (e := 5) (size := 1) w #[] 0 (Nat.le_refl _) (by decide) rfl
  rcases hs with ⟨rfl, rfl⟩ | ⟨a, cap, rfl, hc, hu⟩
  · go_enter Tryd.func16, Tryd.ntmps16
    go_wp2
    go_ret
    exact ⟨w.heap.size, 0, rfl, hown, (Below.refl _ _).alloc (Nat.le_refl _) _⟩
  · have hnews : Hid (∀ j u, (us l)[j]? = some u → (w.alloc (.cells #[] 5)).cell? (a.add j) = some u) := Lib.hid fun j u hj => by
      have h1 := hu j u hj
      have h2 := World.block_lt_of_cell? w _ h1
      rw [World.cell?_of_block (w := w) (Below.heap_alloc w _ _ h2)]; exact h1
    clear hu
    go_enter Tryd.func16, Tryd.ntmps16
    go_wp2_with (at_builtin; refine wpList_append_own _ (by rfl) (.tmp 5) (.tmp 11) _ (by rfl) w.heap.size 5 i0 _ 1 1 Tryd.underlying29 hi0 hz0 hz1 hz2 rfl (by omega) (.slice (some ⟨w.heap.size, 0, none⟩) 0 0) 0 [] (by rfl) hown a l.length cap (us l) (by rfl) (by simp) hnews.out (by intro u hu; obtain ⟨x, _, rfl⟩ := List.mem_map.1 hu; rfl) (by simp [maxLen]; omega) (by omega) (by simp) ?_; intro v' w' hown' hgrow hiff; have HOWN := Lib.hid hown'; have HI := Lib.hid hiff; clear hown' hiff)
    go_ret
    have hown' := HOWN.out
    simp only [Nat.zero_add, List.nil_append] at hown'
    have hb := ((Below.refl _ _).alloc (Nat.le_refl _) _).grown hgrow (by simp) (by intro k hk; cases hk; exact Nat.le_refl _)
    rcases hown'.2 with ⟨rfl, h0⟩ | ⟨g, cap', cur, rfl, h1⟩
    · have := (HI.out.1 rfl).1
      cases this
    · exact ⟨g, cap', rfl, hown', hb⟩
end Go.Proofs.YtfneadlknieppaaDoor
