/- Rename. Conditions: the numbers are no greater than a program's may be. -/
import Derived.Test.YtcolkgeflokgeaaDoorDskN
namespace Go.Proofs.YtcolkgeflokgeaaDoor
open Go.RowKit
open Go.Maps

theorem begin_two (w : World) (b : Nat) (c : Cst) (h : DAt w b c) (n m : Key) (g cap : Nat) (ha : w.cell? ⟨g, 0, none⟩ = some (stv n)) (hb : w.cell? ⟨g, 1, none⟩ = some (stv m)) (hn : n.length ≤ 4611686018427387904) (hm : m.length ≤ 4611686018427387904) :
    Calls Tryd.prog 72 #[.pointer (some ⟨b,0,none⟩), .slice (some ⟨g, 0, none⟩) 2 cap] w fun e w' => e = .returned (if okName n = true ∧ okName m = true then (if c.dead = true then eno 7 else .nilIface) else eno 1) ∧ w = w' := by
  have c5 := h.c5
  have hsz := str_size n
  have hszm := str_size m
  clear h
  by_cases h1 : n.length < 1
  · have e : ¬ (okName n = true ∧ okName m = true) := by simp [okName]; omega
    rw [if_neg e]
    have h1' : (n.length : Int) < 1 := by omega
    go_enter Tryd.func72, Tryd.ntmps72
    go_wp2
    refine wp_loop_rounds 3 ?_
    rw [rounds_succ]
    go_wp2
    go_ret
    exact ⟨rfl, rfl⟩
  have h1' : ¬ (n.length : Int) < 1 := by omega
  by_cases h2 : 20 < n.length
  · have e : ¬ (okName n = true ∧ okName m = true) := by simp [okName]; omega
    rw [if_neg e]
    have h2' : 20 < (n.length : Int) := by omega
    go_enter Tryd.func72, Tryd.ntmps72
    go_wp2
    refine wp_loop_rounds 3 ?_
    rw [rounds_succ]
    go_wp2
    go_ret
    exact ⟨rfl, rfl⟩
  have h2' : ¬ 20 < (n.length : Int) := by omega
  by_cases h3 : m.length < 1
  · have e : ¬ (okName n = true ∧ okName m = true) := by simp [okName]; omega
    rw [if_neg e]
    have h3' : (m.length : Int) < 1 := by omega
    go_enter Tryd.func72, Tryd.ntmps72
    go_wp2
    refine wp_loop_rounds 3 ?_
    rw [rounds_succ]
    go_wp2
    rw [rounds_succ]
    go_wp2
    go_ret
    exact ⟨rfl, rfl⟩
  have h3' : ¬ (m.length : Int) < 1 := by omega
  by_cases h4 : 20 < m.length
  · have e : ¬ (okName n = true ∧ okName m = true) := by simp [okName]; omega
    rw [if_neg e]
    have h4' : 20 < (m.length : Int) := by omega
    go_enter Tryd.func72, Tryd.ntmps72
    go_wp2
    refine wp_loop_rounds 3 ?_
    rw [rounds_succ]
    go_wp2
    rw [rounds_succ]
    go_wp2
    go_ret
    exact ⟨rfl, rfl⟩
  have h4' : ¬ 20 < (m.length : Int) := by omega
  have e : okName n = true ∧ okName m = true := by simp [okName]; omega
  rw [if_pos e]
  cases hd : c.dead <;> rw [hd] at c5
  all_goals
    go_enter Tryd.func72, Tryd.ntmps72
    go_wp2
    refine wp_loop_rounds 3 ?_
    rw [rounds_succ]
    go_wp2
    rw [rounds_succ]
    go_wp2
    rw [rounds_succ]
    go_wp2
    go_ret
    exact ⟨rfl, rfl⟩
def St.rename (s : St) (n m : Key) : Int × St :=
  if ¬ (okName n = true ∧ okName m = true) then (1, s) else if s.dead = true then (7, s) else if (aget n s.files).isSome = false then (11, s) else s.work ⟨2, n, m, [], 0⟩
theorem ok20 {n : Key} (h : okName n = true) : n.length ≤ 20 := by unfold okName at h; simp at h; omega
def renChg (n m : Key) (L : List (Key × Ent)) : Chg := { kind := 2, name := n, to := m, size := 0, was := (aget m (adel n L)).isSome, lost := valAt m (adel n L), xs := bytesAt m (adel n L) }
theorem turn_ren_tot (F : Fil) (hF : AAsc F) (n m : Key) : totF (turn F ⟨2, n, m, [], 0⟩) ≤ totF F ∧ (turn F ⟨2, n, m, [], 0⟩).length ≤ F.length + 1 := by
  have ht : turn F ⟨2, n, m, [], 0⟩ = aput m (fbytes n F) (adel n F) := rfl
  rw [ht]
  have h1 := totF_put m (fbytes n F) (hF.del n)
  have h2 : totF (adel n F) + (fbytes n F).length = totF F := by
    have := asum_del List.length n hF
    unfold totF fbytes
    rw [← this]
    cases aget n F <;> rfl
  have h3 := aput_length m (fbytes n F) (adel n F)
  have h4 := adel_length n F
  omega
end Go.Proofs.YtcolkgeflokgeaaDoor
