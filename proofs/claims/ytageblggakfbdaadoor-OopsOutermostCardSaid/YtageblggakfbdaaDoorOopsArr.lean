/- Hashes by value: a load, a store, a comparison of one, each met as one step; and what Wrap, At, Of make of a chain. No condition. -/
import Derived.Test.YtageblggakfbdaaDoorOopsHash
import Derived.ChangeKeysEq
namespace Go.Proofs.YtageblggakfbdaaDoor
open Go.RowKit

/-- A hash is loaded. -/
noncomputable def ldH (a : Addr) : Sem Value := loadVar 23 a
theorem ld_open (a : Addr) : loadVar 23 a = ldH a := rfl
/-- Two hashes are compared. -/
noncomputable def eqH (a b : Array Value) : Sem Value := binOp .eql 23 (.agg a) (.agg b)
theorem eq_open (a b : Array Value) : binOp .eql 23 (.agg a) (.agg b) = eqH a b := rfl
theorem guard_hash (x y : Operand) (a b : Array Value) (w : World) : (eqGuard .eql 23 x y (.agg a) (.agg b)).run Tryd.prog w = .ok () w := run_eqGuard_agg _ _ _ _ _ _ _ (by kernel_rfl)

theorem ld_row {w : World} {p : Nat} {q : Array Value} {t : TypeId} (hs : q.size = 32) (hp : w.heap[p]? = some (.cells q t (0, 0))) : (ldH ⟨p, 0, none⟩).run Tryd.prog w = .ok (.agg q) w := by
  have := run_loadVar_mid (P := Tryd.prog) w p 0 23 q.toList _ (range_row hp) Tryd.underlying23 rfl (size_hash' q hs)
  rw [Array.toArray_toList] at this
  exact this
theorem ld_push {w : World} {p : Nat} {q : Array Value} {u : Value} {t : TypeId} (hs : q.size = 32) (hp : w.heap[p]? = some (.cells (q.push u) t (0, 0))) : (ldH ⟨p, 0, none⟩).run Tryd.prog w = .ok (.agg q) w := by
  have := run_loadVar_mid (P := Tryd.prog) w p 0 23 q.toList _ (range_push hp) Tryd.underlying23 rfl (size_hash' q hs)
  rw [Array.toArray_toList] at this
  exact this
theorem st_cells (q : Array Value) (hs : q.size = 32) (h1 : q.all (·.oneCell') = true) (w : World) :
    (storeCells ⟨w.heap.size, 0, none⟩ q.toList).run Tryd.prog (w.alloc (.cells #[.int .u8 0, .int .u8 0, .int .u8 0, .int .u8 0, .int .u8 0, .int .u8 0, .int .u8 0, .int .u8 0, .int .u8 0, .int .u8 0, .int .u8 0, .int .u8 0, .int .u8 0, .int .u8 0, .int .u8 0, .int .u8 0, .int .u8 0, .int .u8 0, .int .u8 0, .int .u8 0, .int .u8 0, .int .u8 0, .int .u8 0, .int .u8 0, .int .u8 0, .int .u8 0, .int .u8 0, .int .u8 0, .int .u8 0, .int .u8 0, .int .u8 0, .int .u8 0] 23)) = .ok () (w.alloc (.cells q 23)) :=
  run_storeCells_new (P := Tryd.prog) w 23 zeros q (size_hash q hs) (by rw [hs]; rfl) h1

/-- Every cell of the hash is a byte. -/
def Byt (q : Array Value) : Prop := ∀ j, j < 32 → ∃ x, q[j]? = some (.int .u8 x)
theorem eq_self (q : Array Value) (hq : Byt q) (w : World) : (eqH q q).run Tryd.prog w = .ok (.bool true) w := by
  show (binOp .eql 23 (.agg q) (.agg q)).run Tryd.prog w = _
  rw [run_eql_struct]
  obtain ⟨i, hi⟩ : ∃ i, Tryd.prog.info? 5 = some i := by
    cases h : Tryd.prog.info? 5 with
    | none => have := u8info; rw [h] at this; cases this
    | some i => exact ⟨i, rfl⟩
  have hc : Tryd.prog.cellsOf 5 = 1 := by kernel_rfl
  rw [run_equalIn_array w 9999 q q Tryd.underlying23 hi, hc]
  have hall : ∀ is : List Nat, (∀ j ∈ is, j < 32) → (Op.eqItems 9999 5 1 q q is).run Tryd.prog w = .ok true w := by
    intro is
    induction is with
    | nil => intro _; simp [Op.eqItems]
    | cons j is ih =>
      intro h
      obtain ⟨x, hx⟩ := hq j (h j (List.mem_cons_self ..))
      have hp : (part 5 q (j * 1)).run Tryd.prog w = .ok (.int .u8 x) w := run_part_plain w (by kernel_rfl) (by rw [Nat.mul_one]; exact hx)
      have he := run_equalIn_int (P := Tryd.prog) w 9998 5 .u8 .u8 x x Tryd.underlying5
      simp only [Op.eqItems, Sem.run_bind, hp, Result.andThen_ok, he]
      simp only [beq_self_eq_true, Bool.not_true, Bool.false_eq_true, if_false]
      exact ih fun k hk => h k (List.mem_cons_of_mem _ hk)
  rw [hall _ (fun j hj => List.mem_range.1 hj)]
  rfl

theorem meas_le {w : World} {b : Value} (hm : meas b ≤ w.heap.size) : ∀ {L : List Lnk}, Ch w L b → meas (val L b) ≤ w.heap.size
  | [], _ => hm
  | _ :: _, h => (Array.getElem?_eq_some_iff.1 h.1).1

theorem wrap_ch (w : World) (s : ByteArray) (L : List Lnk) (b : Value) (hb : Base b) (hm : meas b ≤ w.heap.size) (hc : Ch w L b) : Calls Tryd.prog 7 #[.string s, val L b] w fun e w' =>
    e = .returned (.iface 54 (.pointer (some ⟨w.heap.size, 0, none⟩))) ∧ Ch w' (.step w.heap.size s :: L) b ∧ Below w.heap.size w w' ∧ meas b ≤ w'.heap.size := by
  obtain ⟨t, x, hv⟩ := val_iface hb L
  have hml := meas_le hm hc
  rw [hv] at hml ⊢
  refine (wrap_any w s t x).mono ?_
  rintro e w' ⟨rfl, rfl⟩
  have hbel := (Below.refl w.heap.size w).alloc (Nat.le_refl _) (.cells #[.string s, .iface t x] 59)
  exact ⟨rfl, ⟨by rw [hv]; exact heap_alloc_last w _, trivial, by rw [hv]; exact hml, hc.kb hbel⟩, hbel, Nat.le_trans hm hbel.size⟩
theorem at_ch (w : World) (n : Int) (L : List Lnk) (b : Value) (hb : Base b) (hm : meas b ≤ w.heap.size) (hc : Ch w L b) : Calls Tryd.prog 9 #[.int .i64 n, val L b] w fun e w' =>
    e = .returned (.iface 55 (.pointer (some ⟨w.heap.size, 0, none⟩))) ∧ Ch w' (.place w.heap.size n :: L) b ∧ Below w.heap.size w w' ∧ meas b ≤ w'.heap.size := by
  obtain ⟨t, x, hv⟩ := val_iface hb L
  have hml := meas_le hm hc
  rw [hv] at hml ⊢
  refine (at_any w n t x).mono ?_
  rintro e w' ⟨rfl, rfl⟩
  have hbel := (Below.refl w.heap.size w).alloc (Nat.le_refl _) (.cells #[.int .i64 n, .iface t x] 62)
  exact ⟨rfl, ⟨by rw [hv]; exact heap_alloc_last w _, trivial, by rw [hv]; exact hml, hc.kb hbel⟩, hbel, Nat.le_trans hm hbel.size⟩
theorem of_ch (w : World) (q : Array Value) (hs : q.size = 32) (L : List Lnk) (b : Value) (hb : Base b) (hm : meas b ≤ w.heap.size) (hc : Ch w L b) : Calls Tryd.prog 8 #[.agg q, val L b] w fun e w' =>
    ∃ p, e = .returned (.iface 37 (.pointer (some ⟨p, 0, none⟩))) ∧ Ch w' (.which p q :: L) b ∧ Below w.heap.size w w' ∧ meas b ≤ w'.heap.size := by
  obtain ⟨t, x, hv⟩ := val_iface hb L
  have hml := meas_le hm hc
  rw [hv] at hml ⊢
  refine (of_any w q hs t x).mono ?_
  rintro e w' ⟨rfl, rfl⟩
  have hbel := ((Below.refl w.heap.size w).alloc (Nat.le_refl _) (.cells q 23)).alloc (by simp) (.cells (q.push (.iface t x)) 41)
  have hla := heap_alloc_last (w.alloc (.cells q 23)) (.cells (q.push (.iface t x)) 41)
  rw [show (w.alloc (.cells q 23)).heap.size = w.heap.size + 1 from by simp] at hla
  exact ⟨_, rfl, ⟨by rw [hv]; exact hla, hs, by rw [hv]; exact Nat.le_succ_of_le hml, hc.kb hbel⟩, hbel, Nat.le_trans hm hbel.size⟩

theorem nil_ne (t : TypeId) (x : Value) (w : World) : (binOp .neq 25 (.iface t x) .nilIface).run Tryd.prog w = .ok (.bool true) w := by kernel_rfl
end Go.Proofs.YtageblggakfbdaaDoor
