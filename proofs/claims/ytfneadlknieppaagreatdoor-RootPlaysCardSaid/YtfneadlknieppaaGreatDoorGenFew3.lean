/- Few hands back a slice of its own with the first bytes. · Few hands back a slice of its own with the first bytes. -/
import Derived.Test.YtfneadlknieppaaGreatDoorOctKit
namespace Go.Proofs.YtfneadlknieppaaGreatDoor
open Go.RowKit

set_option maxRecDepth 20000 in
set_option maxHeartbeats 800000 in
theorem few_to (w : World) (v : Value) (l : List Int) (n : Nat) (hn : n ≤ 1000000000) (hl : l.length ≤ 140737488351232) (hs : Seen w v l) :
    Calls Tryz.prog 28 #[v, .int .i64 n] w fun e w' => ∃ g cap, e = .returned (.slice (some ⟨g, 0, none⟩) (l.take n).length cap) ∧ w'.ownsRow w.heap.size 5 1 (.slice (some ⟨g, 0, none⟩) (l.take n).length cap) (l.take n).length (us (l.take n)) ∧ Below w.heap.size w w' := by
  obtain ⟨i0, hi0, hz0, hz1, hz2⟩ := info_parts u8info
  have hown := World.ownsRow_made (base := w.heap.size) (e := 5) (size := 1) w #[] 0 (Nat.le_refl _) (by decide) rfl
  rcases hs with ⟨rfl, rfl⟩ | ⟨a, cap, rfl, hc, hu⟩
  · have hm : min (0 : Int) (n : Int) = 0 := by omega
    go_enter Tryz.func28, Tryz.ntmps28
    go_wp2
    go_ret
    rw [List.take_nil]
    exact ⟨w.heap.size, 0, rfl, hown, (Below.refl _ _).alloc (Nat.le_refl _) _⟩
  · obtain ⟨m, hm⟩ : ∃ m, m = (l.take n).length := ⟨_, rfl⟩
    have hml : m = min n l.length := by rw [hm, List.length_take]
    have hmi : min (l.length : Int) (n : Int) = (m : Int) := by omega
    have hmc : m ≤ cap := by omega
    have hmc' : (m : Int) ≤ cap := by omega
    have hm0 : 0 ≤ (m : Int) := by omega
    have hnews : Hid (∀ j u, (us (l.take n))[j]? = some u → (w.alloc (.cells #[] 5)).cell? (a.add j) = some u) := Lib.hid fun j u hj => by
      have hj2 : (us l)[j]? = some u := by
        rw [us, List.map_take, List.getElem?_take] at hj
        split at hj
        · exact hj
        · cases hj
      have h1 := hu j u hj2
      have h2 := World.block_lt_of_cell? w _ h1
      rw [World.cell?_of_block (w := w) (Below.heap_alloc w _ _ h2)]; exact h1
    have hML : Hid (m ≤ 140737488351232) := Lib.hid (by omega)
    have hM1 : Hid (0 + m ≤ maxLen) := Lib.hid (by unfold maxLen; omega)
    have hM2 : Hid ((0 + m) * 1 ≤ 140737488355328) := Lib.hid (by omega)
    have hLE : Hid ((us (l.take n)).length = m * 1) := Lib.hid (by simp [us, hm])
    rw [← hm]
    have hOC : Hid (∀ u ∈ us (l.take n), u.oneCell' = true) := Lib.hid (by intro u hu; obtain ⟨x, _, rfl⟩ := List.mem_map.1 hu; rfl)
    generalize us (l.take n) = X at *
    rcases Nat.lt_or_ge n l.length with hlt | hge
    · have hlt' : (n : Int) < l.length := by omega
      obtain rfl : m = n := by omega
      clear hu hm hml hl hc hn hmi
      go_enter Tryz.func28, Tryz.ntmps28
      go_wp2_with (at_builtin; refine wpList_append_own _ (by rfl) (.tmp 5) (.tmp 11) _ (by rfl) w.heap.size 5 i0 _ 1 1 Tryz.underlying37 hi0 hz0 hz1 hz2 rfl (by omega) (.slice (some ⟨w.heap.size, 0, none⟩) 0 0) 0 [] (by rfl) hown a _ cap X (by rfl) hLE.out hnews.out hOC.out hM1.out hM2.out (by simp) ?_; intro v' w' hown' hgrow hiff; have HOWN := Lib.hid hown'; have HI := Lib.hid hiff)
      go_ret
      have hown' := HOWN.out
      simp only [Nat.zero_add, List.nil_append] at hown'
      have hb := ((Below.refl _ _).alloc (Nat.le_refl _) _).grown hgrow (by simp) (by intro k hk; cases hk; exact Nat.le_refl _)
      rcases hown'.2 with ⟨rfl, h0⟩ | ⟨g, cap', cur, rfl, h1⟩
      · have := (HI.out.1 rfl).1
        cases this
      · exact ⟨g, cap', rfl, hown', hb⟩
    · have hge' : ¬ n < l.length := by omega
      have hge2 : ¬ (n : Int) < l.length := by omega
      obtain rfl : m = l.length := by omega
      clear hu hm hml hl hc hn hmi
      go_enter Tryz.func28, Tryz.ntmps28
      go_wp2_with (at_builtin; refine wpList_append_own _ (by rfl) (.tmp 5) (.tmp 11) _ (by rfl) w.heap.size 5 i0 _ 1 1 Tryz.underlying37 hi0 hz0 hz1 hz2 rfl (by omega) (.slice (some ⟨w.heap.size, 0, none⟩) 0 0) 0 [] (by rfl) hown a _ cap X (by rfl) hLE.out hnews.out hOC.out hM1.out hM2.out (by simp) ?_; intro v' w' hown' hgrow hiff; have HOWN := Lib.hid hown'; have HI := Lib.hid hiff)
      go_ret
      have hown' := HOWN.out
      simp only [Nat.zero_add, List.nil_append] at hown'
      have hb := ((Below.refl _ _).alloc (Nat.le_refl _) _).grown hgrow (by simp) (by intro k hk; cases hk; exact Nat.le_refl _)
      rcases hown'.2 with ⟨rfl, h0⟩ | ⟨g, cap', cur, rfl, h1⟩
      · have := (HI.out.1 rfl).1
        cases this
      · exact ⟨g, cap', rfl, hown', hb⟩
end Go.Proofs.YtfneadlknieppaaGreatDoor
namespace Go.Proofs.YtfneadlknieppaaGreatDoor
open Go.RowKit

set_option maxRecDepth 20000 in
set_option maxHeartbeats 800000 in
theorem few_nb (w : World) (v : Value) (l : List Int) (n : Nat) (hn : n ≤ 1000000000) (hs : Seen w v l) :
    Calls Tryz.prog 28 #[v, .int .i64 n] w fun e w' => ∃ g cap, e = .returned (.slice (some ⟨g, 0, none⟩) (l.take n).length cap) ∧ w'.ownsRow w.heap.size 5 1 (.slice (some ⟨g, 0, none⟩) (l.take n).length cap) (l.take n).length (us (l.take n)) ∧ Below w.heap.size w w' := by
  obtain ⟨i0, hi0, hz0, hz1, hz2⟩ := info_parts u8info
  have hown := World.ownsRow_made (base := w.heap.size) (e := 5) (size := 1) w #[] 0 (Nat.le_refl _) (by decide) rfl
  rcases hs with ⟨rfl, rfl⟩ | ⟨a, cap, rfl, hc, hu⟩
  · have hm : min (0 : Int) (n : Int) = 0 := by omega
    go_enter Tryz.func28, Tryz.ntmps28
    go_wp2
    go_ret
    rw [List.take_nil]
    exact ⟨w.heap.size, 0, rfl, hown, (Below.refl _ _).alloc (Nat.le_refl _) _⟩
  · obtain ⟨m, hm⟩ : ∃ m, m = (l.take n).length := ⟨_, rfl⟩
    have hml : m = min n l.length := by rw [hm, List.length_take]
    have hmi : min (l.length : Int) (n : Int) = (m : Int) := by omega
    have hmc : m ≤ cap := by omega
    have hmc' : (m : Int) ≤ cap := by omega
    have hm0 : 0 ≤ (m : Int) := by omega
    have hnews : Hid (∀ j u, (us (l.take n))[j]? = some u → (w.alloc (.cells #[] 5)).cell? (a.add j) = some u) := Lib.hid fun j u hj => by
      have hj2 : (us l)[j]? = some u := by
        rw [us, List.map_take, List.getElem?_take] at hj
        split at hj
        · exact hj
        · cases hj
      have h1 := hu j u hj2
      have h2 := World.block_lt_of_cell? w _ h1
      rw [World.cell?_of_block (w := w) (Below.heap_alloc w _ _ h2)]; exact h1
    have hML : Hid (m ≤ 140737488351232) := Lib.hid (by omega)
    have hM1 : Hid (0 + m ≤ maxLen) := Lib.hid (by unfold maxLen; omega)
    have hM2 : Hid ((0 + m) * 1 ≤ 140737488355328) := Lib.hid (by omega)
    have hLE : Hid ((us (l.take n)).length = m * 1) := Lib.hid (by simp [us, hm])
    rw [← hm]
    have hOC : Hid (∀ u ∈ us (l.take n), u.oneCell' = true) := Lib.hid (by intro u hu; obtain ⟨x, _, rfl⟩ := List.mem_map.1 hu; rfl)
    generalize us (l.take n) = X at *
    rcases Nat.lt_or_ge n l.length with hlt | hge
    · have hlt' : (n : Int) < l.length := by omega
      obtain rfl : m = n := by omega
      clear hu hm hml hc hn hmi
      go_enter Tryz.func28, Tryz.ntmps28
      go_wp2_with (at_builtin; refine wpList_append_own _ (by rfl) (.tmp 5) (.tmp 11) _ (by rfl) w.heap.size 5 i0 _ 1 1 Tryz.underlying37 hi0 hz0 hz1 hz2 rfl (by omega) (.slice (some ⟨w.heap.size, 0, none⟩) 0 0) 0 [] (by rfl) hown a _ cap X (by rfl) hLE.out hnews.out hOC.out hM1.out hM2.out (by simp) ?_; intro v' w' hown' hgrow hiff; have HOWN := Lib.hid hown'; have HI := Lib.hid hiff)
      go_ret
      have hown' := HOWN.out
      simp only [Nat.zero_add, List.nil_append] at hown'
      have hb := ((Below.refl _ _).alloc (Nat.le_refl _) _).grown hgrow (by simp) (by intro k hk; cases hk; exact Nat.le_refl _)
      rcases hown'.2 with ⟨rfl, h0⟩ | ⟨g, cap', cur, rfl, h1⟩
      · have := (HI.out.1 rfl).1
        cases this
      · exact ⟨g, cap', rfl, hown', hb⟩
    · have hge' : ¬ n < l.length := by omega
      have hge2 : ¬ (n : Int) < l.length := by omega
      obtain rfl : m = l.length := by omega
      clear hu hm hml hc hn hmi
      go_enter Tryz.func28, Tryz.ntmps28
      go_wp2_with (at_builtin; refine wpList_append_own _ (by rfl) (.tmp 5) (.tmp 11) _ (by rfl) w.heap.size 5 i0 _ 1 1 Tryz.underlying37 hi0 hz0 hz1 hz2 rfl (by omega) (.slice (some ⟨w.heap.size, 0, none⟩) 0 0) 0 [] (by rfl) hown a _ cap X (by rfl) hLE.out hnews.out hOC.out hM1.out hM2.out (by simp) ?_; intro v' w' hown' hgrow hiff; have HOWN := Lib.hid hown'; have HI := Lib.hid hiff)
      go_ret
      have hown' := HOWN.out
      simp only [Nat.zero_add, List.nil_append] at hown'
      have hb := ((Below.refl _ _).alloc (Nat.le_refl _) _).grown hgrow (by simp) (by intro k hk; cases hk; exact Nat.le_refl _)
      rcases hown'.2 with ⟨rfl, h0⟩ | ⟨g, cap', cur, rfl, h1⟩
      · have := (HI.out.1 rfl).1
        cases this
      · exact ⟨g, cap', rfl, hown', hb⟩
end Go.Proofs.YtfneadlknieppaaGreatDoor
