/- Steps and Whose of nil, errors.New, and what is not the empty text. No condition. -/
import Derived.Test.YtnepdkelnpengaaDoorOopsKn
import Derived.Test.YtnepdkelnpengaaDoorOopsSteps2
namespace Go.Proofs.YtnepdkelnpengaaDoor
open Go.RowKit

theorem walk_nil (f : Value) (w : World) : Calls Tryd.prog 27 #[.nilIface, .int .i64 0, f] w fun e w' => e = .returned (.bool true) ∧ w = w' := by
  go_enter Tryd.func27, Tryd.ntmps27
  go_wp2
  go_ret
  exact ⟨rfl, rfl⟩

theorem steps_nil (w : World) : Calls Tryd.prog 11 #[.nilIface] w fun e w' => e = .returned (.slice none 0 0) ∧ Below w.heap.size w w' := by
  have hmf : ∀ (fn : Fn) (first cap : Array Value) (w : World), (Instr.makeFunc fn first cap).run Tryd.prog w = .ok (.func fn first cap) w := fun _ _ _ _ => rfl
  go_enter_defers Tryd.func11, Tryd.ntmps11
  go_wp2_with (go_at_call 27; refine (walk_nil _ _).mono ?_; rintro e w' ⟨rfl, rfl⟩)
  refine leaves_cons (f := 26) (args := #[.pointer (some ⟨w.heap.size, 0, none⟩)]) (by simp) (by simp [go_sem]) ?_
  refine (idleT _ _).mono ?_
  rintro e u' w'' ⟨rfl, rfl, rfl⟩
  simp [Leaves, settle, results, Tryd.results11, go_sem]
  exact (((Only.refl (fun k => w.heap.size ≤ k) w).alloc _)).below (Nat.le_refl _) (fun _ h => h)

set_option maxHeartbeats 1000000 in
theorem firstW_nil (w : World) : Calls Tryd.prog 31 #[.nilIface] w fun e w' => e = .returned (.tuple #[.pointer none, .bool false]) ∧ Below w.heap.size w w' := by
  have hmf : ∀ (fn : Fn) (first cap : Array Value) (w : World), (Instr.makeFunc fn first cap).run Tryd.prog w = .ok (.func fn first cap) w := fun _ _ _ _ => rfl
  go_enter_defers Tryd.func31, Tryd.ntmps31
  go_wp2_with (first
    | (go_at_call 27; refine (walk_nil _ _).mono ?_; rintro e w' ⟨rfl, rfl⟩)
    | (go_at_call 14; refine (as_nil _ _).mono ?_; rintro e w2 ⟨rfl, rfl⟩))
  go_region
  all_goals go_wp2
  all_goals
    refine leaves_cons (f := 41) (args := #[.pointer (some ⟨w.heap.size, 0, none⟩), .pointer (some ⟨w.heap.size + 1, 0, none⟩)]) (by simp) (by simp [go_sem]) ?_
    refine (idleW _ _ _).mono ?_
    rintro e u' w'' ⟨rfl, rfl, rfl⟩
    simp [Leaves, settle, results, Tryd.results31, go_sem]
    exact ((((Only.refl (fun k => w.heap.size ≤ k) w).alloc _).alloc _).drew).below (Nat.le_refl _) (fun _ h => h)

set_option maxRecDepth 20000 in
set_option maxHeartbeats 1000000 in
theorem whose_nil (w : World) : Calls Tryd.prog 13 #[.nilIface] w fun e w' => e = .returned (.tuple #[.agg zeros, .bool false]) ∧ Below w.heap.size w w' := by
  have bl := (Below.refl w.heap.size w).alloc (Nat.le_refl _) (.cells zeros 23)
  have HF := Lib.hid (firstW_nil (w.alloc (.cells zeros 23)))
  have hlast := heap_alloc_last w (.cells zeros 23)
  have HB := Lib.hid bl
  have HL := Lib.hid hlast
  clear bl hlast
  go_enter Tryd.func13, Tryd.ntmps13
  go_wp2_with (first
    | (go_at_call 31; refine HF.out.mono ?_; rintro e w' ⟨rfl, R⟩; have HT := Lib.hid (there_row ((R.block w.heap.size (by simp)).trans HL.out)); have HR := Lib.hid R; clear R)
    | (refine build_to (vals := #[]) zeros_built ?hv ?_; (case hv => simp); refine store_to HT.out (size_hash zeros rfl) zeros_one ?hx ?hy ?_; (case hx => rfl); (case hy => rfl)))
  refine bodyPost_ret (v := .tuple #[.agg zeros, .bool false]) ?_ rfl ⟨rfl, ?_⟩
  · have hl := loaded (P := Tryd.prog) (t := 23) (q := zeros) HT.out Tryd.underlying23 rfl (size_hash zeros rfl)
    generalize w'.setCells w.heap.size 0 (zeros).toList = W3 at hl ⊢
    simp only [results, Tryd.results13]
    simp [hl, asAddr]
  · exact (((Only.of_below HB.out).trans (Only.of_below (S := fun k => w.heap.size ≤ k) HR.out) (fun _ h => h) (fun _ _ h => h)).setCells (b := w.heap.size) (Nat.le_refl _) _ 0).below (Nat.le_refl _) (fun _ h => h)

theorem new_any (w : World) (s : ByteArray) : Calls Tryd.prog 16 #[.string s] w fun e w' => e = .returned (.iface 88 (.pointer (some ⟨w.heap.size, 0, none⟩))) ∧ Below w.heap.size w w' := by
  go_enter Tryd.func16, Tryd.ntmps16
  go_wp2
  go_ret
  exact ⟨rfl, (Below.refl _ _).alloc (Nat.le_refl _) _⟩

/-- A text that is longer than nothing is not the empty text. -/
theorem not_empty (t : ByteArray) (h : 0 < t.size) : (t.toList == (⟨#[]⟩ : ByteArray).toList) = false := by
  rw [ByteArray.toList_eq, ByteArray.toList_eq]
  have hl : 0 < t.data.toList.length := by rw [Array.length_toList]; exact h
  cases hd : t.data.toList with
  | nil => rw [hd] at hl; cases hl
  | cons x l => rfl

theorem meth_err (v : Value) (w : World) : (Go.method 262 54 v "Error").run Tryd.prog w = .ok (68, v) w := by kernel_rfl

/-- The hash that begins with seven. -/
def seven : Array Value := #[.int .u8 7, .int .u8 0, .int .u8 0, .int .u8 0, .int .u8 0, .int .u8 0, .int .u8 0, .int .u8 0, .int .u8 0, .int .u8 0, .int .u8 0, .int .u8 0, .int .u8 0, .int .u8 0, .int .u8 0, .int .u8 0, .int .u8 0, .int .u8 0, .int .u8 0, .int .u8 0, .int .u8 0, .int .u8 0, .int .u8 0, .int .u8 0, .int .u8 0, .int .u8 0, .int .u8 0, .int .u8 0, .int .u8 0, .int .u8 0, .int .u8 0, .int .u8 0]
theorem seven_built : Tryd.prog.built 23 (#[(0, .int .u8 7)] : Array (Nat × Value)).toList = some seven := by kernel_rfl
theorem seven_one : seven.all (·.oneCell') = true := by simp [seven, Value.oneCell']
theorem seven_byt : Byt seven := by
  intro j hj
  match j, hj with
  | 0, _ => exact ⟨_, rfl⟩
  | 1, _ => exact ⟨_, rfl⟩
  | 2, _ => exact ⟨_, rfl⟩
  | 3, _ => exact ⟨_, rfl⟩
  | 4, _ => exact ⟨_, rfl⟩
  | 5, _ => exact ⟨_, rfl⟩
  | 6, _ => exact ⟨_, rfl⟩
  | 7, _ => exact ⟨_, rfl⟩
  | 8, _ => exact ⟨_, rfl⟩
  | 9, _ => exact ⟨_, rfl⟩
  | 10, _ => exact ⟨_, rfl⟩
  | 11, _ => exact ⟨_, rfl⟩
  | 12, _ => exact ⟨_, rfl⟩
  | 13, _ => exact ⟨_, rfl⟩
  | 14, _ => exact ⟨_, rfl⟩
  | 15, _ => exact ⟨_, rfl⟩
  | 16, _ => exact ⟨_, rfl⟩
  | 17, _ => exact ⟨_, rfl⟩
  | 18, _ => exact ⟨_, rfl⟩
  | 19, _ => exact ⟨_, rfl⟩
  | 20, _ => exact ⟨_, rfl⟩
  | 21, _ => exact ⟨_, rfl⟩
  | 22, _ => exact ⟨_, rfl⟩
  | 23, _ => exact ⟨_, rfl⟩
  | 24, _ => exact ⟨_, rfl⟩
  | 25, _ => exact ⟨_, rfl⟩
  | 26, _ => exact ⟨_, rfl⟩
  | 27, _ => exact ⟨_, rfl⟩
  | 28, _ => exact ⟨_, rfl⟩
  | 29, _ => exact ⟨_, rfl⟩
  | 30, _ => exact ⟨_, rfl⟩
  | 31, _ => exact ⟨_, rfl⟩
  | j + 32, h => omega
end Go.Proofs.YtnepdkelnpengaaDoor
