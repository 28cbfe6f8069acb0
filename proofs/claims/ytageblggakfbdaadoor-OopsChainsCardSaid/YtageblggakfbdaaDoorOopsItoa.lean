/- strconv.Itoa of a number below a thousand: some text that is not empty, whatever the table of powers holds. Condition: the table's cells are there. -/
import Derived.Test.YtageblggakfbdaaDoorOctKit
import Derived.Lib.Hide
namespace Go.Proofs.YtageblggakfbdaaDoor
open Go.RowKit

theorem tab_in (b : ByteArray) (lo hi L H : Nat) (hb : ((List.range (hi + 1 - lo)).all fun j => decide (L ≤ (b.data.toList.getD (lo + j) 0).toNat ∧ (b.data.toList.getD (lo + j) 0).toNat ≤ H)) = true)
    (m : Nat) (h : m < b.size) (h0 : lo ≤ m) (h1 : m ≤ hi) : L ≤ (b[m]'h).toNat ∧ (b[m]'h).toNat ≤ H := by
  have := List.all_eq_true.1 hb (m - lo) (List.mem_range.2 (by omega))
  rw [show lo + (m - lo) = m from by omega] at this
  have he : b.data.toList.getD m 0 = b[m]'h := by
    have hd : m < b.data.toList.length := by rw [Array.length_toList]; exact h
    rw [List.getD_eq_getElem?_getD, List.getElem?_eq_getElem hd]
    rfl
  rw [he] at this
  simpa using this

theorem fin_lo (b : ByteArray) (m : Nat) (h : m < b.size) (hb : ((List.range (3 + 1 - 1)).all fun j => decide (1 ≤ (b.data.toList.getD (1 + j) 0).toNat ∧ (b.data.toList.getD (1 + j) 0).toNat ≤ 2)) = true) (h0 : 1 ≤ m) (h1 : m ≤ 3) :
    7 ≤ wrap64 (8 + wrap64 ((b[m]'h).toNat : Int)) ∧ wrap64 (8 + wrap64 ((b[m]'h).toNat : Int)) ≤ 10 := by
  have := tab_in b 1 3 1 2 hb m h h0 h1
  rw [IntWalk.wrap64_in ((b[m]'h).toNat : Int) (by omega), IntWalk.wrap64_in _ (by omega)]
  omega
theorem fin_hi (b : ByteArray) (m : Nat) (h : m < b.size) (hb : ((List.range (255 + 1 - 100)).all fun j => decide (7 ≤ (b.data.toList.getD (100 + j) 0).toNat ∧ (b.data.toList.getD (100 + j) 0).toNat ≤ 8)) = true) (h0 : 100 ≤ m) (h1 : m ≤ 255) :
    7 ≤ wrap64 (wrap64 ((b[m]'h).toNat : Int)) ∧ wrap64 (wrap64 ((b[m]'h).toNat : Int)) ≤ 10 := by
  have := tab_in b 100 255 7 8 hb m h h0 h1
  rw [IntWalk.wrap64_in ((b[m]'h).toNat : Int) (by omega), IntWalk.wrap64_in _ (by omega)]
  omega

set_option maxRecDepth 20000 in
set_option maxHeartbeats 1000000 in
theorem len64_any (w : World) (u : Int) (h0 : 100 ≤ u) (h1 : u ≤ 999) : Calls Tryd.prog 81 #[.int .u64 u] w fun e w' => (∃ n : Int, e = .returned (.int .i64 n) ∧ 7 ≤ n ∧ n ≤ 10) ∧ w = w' := by
  have e1 : ¬ 4294967296 ≤ u := by omega
  have e2 : ¬ 65536 ≤ u := by omega
  by_cases h : 256 ≤ u
  · go_enter Tryd.func81, Tryd.ntmps81
    go_wp2
    go_ret
    refine ⟨⟨_, rfl, ?_⟩, rfl⟩
    refine fin_lo _ _ _ ?hb ?hl ?hh
    case hb => decide +kernel
    case hl => omega
    case hh => omega
  · go_enter Tryd.func81, Tryd.ntmps81
    go_wp2
    go_ret
    refine ⟨⟨_, rfl, ?_⟩, rfl⟩
    refine fin_hi _ _ _ ?hb ?hl ?hh
    case hb => decide +kernel
    case hl => omega
    case hh => omega

theorem bool2_any (w : World) (c : Bool) : Calls Tryd.prog 82 #[.bool c] w fun e w' => e = .returned (.int .i64 (if c then 1 else 0)) ∧ w = w' := by
  cases c
  all_goals
    go_enter Tryd.func82, Tryd.ntmps82
    go_wp2
    go_ret
    exact ⟨rfl, rfl⟩

theorem log10_any (w : World) (n : Int) (h0 : 7 ≤ n) (h1 : n ≤ 10) : Calls Tryd.prog 80 #[.int .i64 n] w fun e w' => (∃ m : Nat, e = .returned (.int .i64 m) ∧ 2 ≤ m ∧ m ≤ 3) ∧ w = w' := by
  rcases (show n = 7 ∨ n = 8 ∨ n = 9 ∨ n = 10 from by omega) with rfl | rfl | rfl | rfl
  all_goals
    clear h0 h1
    go_enter Tryd.func80, Tryd.ntmps80
    go_wp2
    go_ret
  · exact ⟨⟨2, rfl, by decide, by decide⟩, rfl⟩
  · exact ⟨⟨2, rfl, by decide, by decide⟩, rfl⟩
  · exact ⟨⟨2, rfl, by decide, by decide⟩, rfl⟩
  · exact ⟨⟨3, rfl, by decide, by decide⟩, rfl⟩

/-- The table's cells are there. -/
def Tab (w : World) : Prop := ∀ n : Nat, n < 20 → ∃ z : Int, w.cell? ⟨1, n, none⟩ = some (.int .u64 z)

set_option maxHeartbeats 1000000 in
theorem digits_any (w : World) (ht : Tab w) (u : Int) (h0 : 100 ≤ u) (h1 : u ≤ 999) : Calls Tryd.prog 77 #[.int .u64 u] w fun e w' => (∃ m : Nat, e = .returned (.int .i64 m) ∧ 2 ≤ m ∧ m ≤ 4) ∧ w = w' := by
  have HT := Lib.hid ht
  have HL := Lib.hid (len64_any w u h0 h1)
  clear ht h0 h1
  go_enter Tryd.func77, Tryd.ntmps77
  go_wp2_with fail
  refine HL.out.mono ?_
  rintro e _ ⟨⟨n, rfl, n0, n1⟩, rfl⟩
  have HG := Lib.hid (log10_any w n n0 n1)
  clear n0 n1 HL
  go_wp2_with fail
  refine HG.out.mono ?_
  rintro e _ ⟨⟨m, rfl, m0, m1⟩, rfl⟩
  obtain ⟨z, hz⟩ := HT.out m (by omega)
  clear HG HT
  rcases (show m = 2 ∨ m = 3 from by omega) with rfl | rfl
  all_goals
    clear m0 m1
    go_wp2_with fail
    refine (bool2_any _ _).mono ?_
    rintro e _ ⟨rfl, rfl⟩
    go_wp2
  all_goals go_ret
  · exact ⟨⟨3, rfl, by decide, by decide⟩, rfl⟩
  · exact ⟨⟨2, rfl, by decide, by decide⟩, rfl⟩
  · exact ⟨⟨4, rfl, by decide, by decide⟩, rfl⟩
  · exact ⟨⟨3, rfl, by decide, by decide⟩, rfl⟩

theorem set_row {w : World} {b j : Nat} {cs : Array Value} {t : TypeId} (v : Value) (h : w.heap[b]? = some (.cells cs t (0, 0))) : (w.setCell ⟨b, j, none⟩ v).heap[b]? = some (.cells (cs.setIfInBounds j v) t (0, 0)) := by
  simp only [World.setCell]
  rw [Array.getElem?_modify, if_pos rfl, h]
  rfl

/-- A row of 24 bytes. -/
def Row24 (w : World) (B : Nat) : Prop := ∃ cs : Array Value, w.heap[B]? = some (.cells cs 148 (0, 0)) ∧ cs.size = 24 ∧ ∀ j, j < 24 → ∃ x : Int, cs[j]? = some (.int .u8 x) ∧ 0 ≤ x ∧ x < 256
theorem Row24.set {w : World} {B : Nat} (h : Row24 w B) (j : Nat) (x : Int) (h0 : 0 ≤ x) (h1 : x < 256) : Row24 (w.setCell ⟨B, j, none⟩ (.int .u8 x)) B := by
  obtain ⟨cs, hc, hs, hx⟩ := h
  refine ⟨_, set_row _ hc, by simp [hs], fun k hk => ?_⟩
  obtain ⟨y, hy, hy0, hy1⟩ := hx k hk
  by_cases e : j = k
  · subst e
    exact ⟨x, by simp [hs, hk], h0, h1⟩
  · exact ⟨y, by rw [Array.getElem?_setIfInBounds_ne e]; exact hy, hy0, hy1⟩
theorem Row24.cell {w : World} {B : Nat} (h : Row24 w B) (j : Nat) (hj : j < 24) : (∃ v, w.cell? ⟨B, j, none⟩ = some v) ∧ w.frozen? ⟨B, j, none⟩ = false := by
  obtain ⟨cs, hc, hs, hx⟩ := h
  obtain ⟨y, hy, _⟩ := hx j hj
  refine ⟨⟨.int .u8 y, ?_⟩, ?_⟩
  · rw [cell_of_row w B j cs _ (0, 0) hc]; exact hy
  · simp [World.frozen?, hc]
theorem Row24.drew {w : World} {B : Nat} (h : Row24 w B) : Row24 w.drew B := h

theorem u8_lt (x : UInt8) : 0 ≤ (x.toNat : Int) ∧ (x.toNat : Int) < 256 := ⟨Int.natCast_nonneg _, by have := x.toNat_lt; omega⟩
theorem Row24.put {w : World} {B : Nat} (h : Row24 w B) (j : Nat) (x : UInt8) : Row24 (w.setCell ⟨B, j, none⟩ (.int .u8 (x.toNat : Int))) B := h.set j _ (u8_lt x).1 (u8_lt x).2

set_option maxRecDepth 20000 in
set_option maxHeartbeats 4000000 in
theorem base10_two (w : World) (B : Nat) (u : Int) (h0 : 100 ≤ u) (h1 : u ≤ 999) (hr : Row24 w B) : Calls Tryd.prog 78 #[.slice (some ⟨B, 1, none⟩) 2 23, .int .u64 u] w fun e w' => e = .returned (.tuple #[]) ∧ Only (fun k => k = B) w w' ∧ Row24 w' B := by
  have HR := Lib.hid hr
  obtain ⟨⟨v1, c1⟩, f1⟩ := hr.cell 1 (by decide)
  obtain ⟨⟨v2, c2⟩, f2⟩ := hr.cell 2 (by decide)
  have m0a : 0 ≤ u % 100 * 2 := by omega
  have m0b : u % 100 * 2 < 200 := by omega
  have m0c : 0 ≤ u % 100 * 2 + 1 := by omega
  have m0d : u % 100 * 2 + 1 < 200 := by omega
  have m0e : IntKind.u32.wrap (u % 100 * 2 + 1) = u % 100 * 2 + 1 := by rw [show IntKind.u32.wrap (u % 100 * 2 + 1) = (u % 100 * 2 + 1) % 4294967296 from rfl]; omega
  clear hr
  go_enter Tryd.func78, Tryd.ntmps78
  go_wp2
  refine wp_loop_rounds 1 ?_
  rw [rounds_succ]
  go_wp2
  go_region
  all_goals go_wp2
  all_goals
    go_end0
    refine ⟨rfl, ?_, ?_⟩
    · repeat' first | exact Only.refl _ _ | refine Only.drew ?_ | refine Only.setCell (S := fun k => k = B) ?_ ?_ _ | rfl
    · repeat' first | exact HR.out | refine Row24.drew ?_ | refine Row24.put ?_ _ _ | refine Row24.set ?_ _ _ (by omega) (by omega)

set_option maxRecDepth 20000 in
set_option maxHeartbeats 4000000 in
theorem base10_three (w : World) (B : Nat) (u : Int) (h0 : 100 ≤ u) (h1 : u ≤ 999) (hr : Row24 w B) : Calls Tryd.prog 78 #[.slice (some ⟨B, 1, none⟩) 3 23, .int .u64 u] w fun e w' => e = .returned (.tuple #[]) ∧ Only (fun k => k = B) w w' ∧ Row24 w' B := by
  have HR := Lib.hid hr
  obtain ⟨⟨v1, c1⟩, f1⟩ := hr.cell 1 (by decide)
  obtain ⟨⟨v2, c2⟩, f2⟩ := hr.cell 2 (by decide)
  obtain ⟨⟨v3, c3⟩, f3⟩ := hr.cell 3 (by decide)
  have m0a : 0 ≤ u % 100 * 2 := by omega
  have m0b : u % 100 * 2 < 200 := by omega
  have m0c : 0 ≤ u % 100 * 2 + 1 := by omega
  have m0d : u % 100 * 2 + 1 < 200 := by omega
  have m0e : IntKind.u32.wrap (u % 100 * 2 + 1) = u % 100 * 2 + 1 := by rw [show IntKind.u32.wrap (u % 100 * 2 + 1) = (u % 100 * 2 + 1) % 4294967296 from rfl]; omega
  clear hr
  go_enter Tryd.func78, Tryd.ntmps78
  go_wp2
  refine wp_loop_rounds 1 ?_
  rw [rounds_succ]
  go_wp2
  go_region
  all_goals go_wp2
  all_goals
    go_end0
    refine ⟨rfl, ?_, ?_⟩
    · repeat' first | exact Only.refl _ _ | refine Only.drew ?_ | refine Only.setCell (S := fun k => k = B) ?_ ?_ _ | rfl
    · repeat' first | exact HR.out | refine Row24.drew ?_ | refine Row24.put ?_ _ _ | refine Row24.set ?_ _ _ (by omega) (by omega)

set_option maxRecDepth 20000 in
set_option maxHeartbeats 4000000 in
theorem base10_four (w : World) (B : Nat) (u : Int) (h0 : 100 ≤ u) (h1 : u ≤ 999) (hr : Row24 w B) : Calls Tryd.prog 78 #[.slice (some ⟨B, 1, none⟩) 4 23, .int .u64 u] w fun e w' => e = .returned (.tuple #[]) ∧ Only (fun k => k = B) w w' ∧ Row24 w' B := by
  have HR := Lib.hid hr
  obtain ⟨⟨v1, c1⟩, f1⟩ := hr.cell 1 (by decide)
  obtain ⟨⟨v2, c2⟩, f2⟩ := hr.cell 2 (by decide)
  obtain ⟨⟨v3, c3⟩, f3⟩ := hr.cell 3 (by decide)
  obtain ⟨⟨v4, c4⟩, f4⟩ := hr.cell 4 (by decide)
  have m0a : 0 ≤ u % 10000 / 100 * 2 := by omega
  have m0b : u % 10000 / 100 * 2 < 200 := by omega
  have m0c : 0 ≤ u % 10000 / 100 * 2 + 1 := by omega
  have m0d : u % 10000 / 100 * 2 + 1 < 200 := by omega
  have m0e : IntKind.u32.wrap (u % 10000 / 100 * 2 + 1) = u % 10000 / 100 * 2 + 1 := by rw [show IntKind.u32.wrap (u % 10000 / 100 * 2 + 1) = (u % 10000 / 100 * 2 + 1) % 4294967296 from rfl]; omega
  have m1a : 0 ≤ u % 100 * 2 := by omega
  have m1b : u % 100 * 2 < 200 := by omega
  have m1c : 0 ≤ u % 100 * 2 + 1 := by omega
  have m1d : u % 100 * 2 + 1 < 200 := by omega
  have m1e : IntKind.u32.wrap (u % 100 * 2 + 1) = u % 100 * 2 + 1 := by rw [show IntKind.u32.wrap (u % 100 * 2 + 1) = (u % 100 * 2 + 1) % 4294967296 from rfl]; omega
  clear hr
  go_enter Tryd.func78, Tryd.ntmps78
  go_wp2
  refine wp_loop_rounds 1 ?_
  rw [rounds_succ]
  go_wp2
  go_region
  all_goals go_wp2
  all_goals go_region
  all_goals go_wp2
  all_goals
    go_end0
    refine ⟨rfl, ?_, ?_⟩
    · repeat' first | exact Only.refl _ _ | refine Only.drew ?_ | refine Only.setCell (S := fun k => k = B) ?_ ?_ _ | rfl
    · repeat' first | exact HR.out | refine Row24.drew ?_ | refine Row24.put ?_ _ _ | refine Row24.set ?_ _ _ (by omega) (by omega)
end Go.Proofs.YtageblggakfbdaaDoor
