/- Two hashes held against each other by '==' and '!='. No condition. -/
import Derived.Test.YtbpccbhlggcmfaaDoorHexH
import Derived.ChangeKeysEq
namespace Go.Proofs.YtbpccbhlggcmfaaDoor
open Go.RowKit

/-- Two hashes are compared: one step. -/
noncomputable def heqS (a b : Array Value) : Sem Value := binOp .eql 33 (.agg a) (.agg b)
theorem heq_open (a b : Array Value) : binOp .eql 33 (.agg a) (.agg b) = heqS a b := rfl
noncomputable def hneS (a b : Array Value) : Sem Value := binOp .neq 33 (.agg a) (.agg b)
theorem hne_open (a b : Array Value) : binOp .neq 33 (.agg a) (.agg b) = hneS a b := rfl
theorem heq_guard (x y : Operand) (a b : Array Value) (w : World) : (eqGuard .eql 33 x y (.agg a) (.agg b)).run Tryd.prog w = .ok () w := run_eqGuard_agg _ _ _ _ _ _ _ (by kernel_rfl)
theorem hne_guard (x y : Operand) (a b : Array Value) (w : World) : (eqGuard .neq 33 x y (.agg a) (.agg b)).run Tryd.prog w = .ok () w := run_eqGuard_agg _ _ _ _ _ _ _ (by kernel_rfl)

theorem u8_beq (x y : UInt8) : (((x.toNat : Int)) == ((y.toNat : Int))) = (x == y) := by
  rw [Bool.eq_iff_iff, beq_iff_eq, beq_iff_eq]
  constructor
  · intro h; exact UInt8.toNat_inj.1 (by omega)
  · intro h; rw [h]
theorem items_hv (a b : List UInt8) (ha : a.length = 32) (hb : b.length = 32) (w : World) : ∀ is : List Nat, (∀ j ∈ is, j < 32) →
    (Op.eqItems 9999 5 1 (hv a) (hv b) is).run Tryd.prog w = .ok (is.all fun j => a.getD j 0 == b.getD j 0) w := by
  intro is
  induction is with
  | nil => intro _; simp [Op.eqItems]
  | cons j is ih =>
    intro h
    have hj : j < 32 := h j (List.mem_cons_self ..)
    have hja : j < a.length := by omega
    have hjb : j < b.length := by omega
    have p1 : (part 5 (hv a) (j * 1)).run Tryd.prog w = .ok (.int .u8 (a[j].toNat : Int)) w := run_part_plain w (by kernel_rfl) (by rw [Nat.mul_one]; exact hv_get hja)
    have p2 : (part 5 (hv b) (j * 1)).run Tryd.prog w = .ok (.int .u8 (b[j].toNat : Int)) w := run_part_plain w (by kernel_rfl) (by rw [Nat.mul_one]; exact hv_get hjb)
    have he := run_equalIn_int (P := Tryd.prog) w 9998 5 .u8 .u8 (a[j].toNat : Int) (b[j].toNat : Int) Tryd.underlying5
    simp only [Op.eqItems, Sem.run_bind, p1, p2, Result.andThen_ok, he, u8_beq]
    rw [List.all_cons, show a.getD j 0 = a[j] from by simp [List.getD, hja], show b.getD j 0 = b[j] from by simp [List.getD, hjb]]
    cases hc : a[j] == b[j] with
    | false => simp
    | true => simpa using ih fun k hk => h k (List.mem_cons_of_mem _ hk)
theorem all_eq (a b : List UInt8) (ha : a.length = 32) (hb : b.length = 32) : ((List.range 32).all fun j => a.getD j 0 == b.getD j 0) = decide (a = b) := by
  rw [Bool.eq_iff_iff, decide_eq_true_eq, List.all_eq_true]
  constructor
  · intro h
    refine List.ext_getElem (by omega) fun j h1 h2 => ?_
    have := h j (List.mem_range.2 (by omega))
    rw [beq_iff_eq, show a.getD j 0 = a[j] from by simp [List.getD, h1], show b.getD j 0 = b[j] from by simp [List.getD, h2]] at this
    exact this
  · rintro rfl j _; simp
theorem equal_hv (a b : List UInt8) (ha : a.length = 32) (hb : b.length = 32) (w : World) : (Op.equalIn 10000 33 (.agg (hv a)) (.agg (hv b))).run Tryd.prog w = .ok (decide (a = b)) w := by
  obtain ⟨i, hi⟩ : ∃ i, Tryd.prog.info? 5 = some i := by
    cases h : Tryd.prog.info? 5 with
    | none => have := u8info; rw [h] at this; cases this
    | some i => exact ⟨i, rfl⟩
  have hc : Tryd.prog.cellsOf 5 = 1 := by kernel_rfl
  rw [run_equalIn_array w 9999 (hv a) (hv b) Tryd.underlying33 hi, hc, items_hv a b ha hb w _ (fun j hj => List.mem_range.1 hj), all_eq a b ha hb]
theorem heq_hv {a b : List UInt8} (ha : a.length = 32) (hb : b.length = 32) (w : World) : (heqS (hv a) (hv b)).run Tryd.prog w = .ok (.bool (decide (a = b))) w := by
  show (binOp .eql 33 (.agg (hv a)) (.agg (hv b))).run Tryd.prog w = _
  rw [run_eql_struct, equal_hv a b ha hb]
  rfl
theorem hne_hv {a b : List UInt8} (ha : a.length = 32) (hb : b.length = 32) (w : World) : (hneS (hv a) (hv b)).run Tryd.prog w = .ok (.bool (!decide (a = b))) w := by
  show (binOp .neq 33 (.agg (hv a)) (.agg (hv b))).run Tryd.prog w = _
  rw [run_neq_struct, equal_hv a b ha hb]
  rfl
end Go.Proofs.YtbpccbhlggcmfaaDoor
