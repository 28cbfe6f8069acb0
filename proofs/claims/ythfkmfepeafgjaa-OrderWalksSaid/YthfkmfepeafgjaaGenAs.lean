/- Closed facts of this program for errors.As at a target of type api.Errno, over an error that is one. No condition. · errors.As at a target of type api.Errno over an error that is an api.Errno, and taproothand.Kind of such errors. Condition: errors.errorType holds what its text lays. -/
import Derived.Test.YthfkmfepeafgjaaGenOps
import Derived.Stop.Asserts
import Derived.LaidEql
import Derived.RowKitTokens
namespace Go.Proofs.Ythfkmfepeafgjaa
open Go.RowKit Go.Extern.Stop Go.Stop Go.Extern

/-- A type's handle. -/
abbrev hd (t : Nat) : Value := .pointer (some ⟨1, t, none⟩)
theorem rlm (z : Sem Value) (f : TypeId → Addr → Nat → Nat → Sem Value) (v : Value) :
    ReflectliteValue.method z f #[v] = (do match ← ReflectliteValue.parts v with | none => z | some (t, a, fl) => f t a fl (fl % 32)) := rfl
theorem rls (v x : Value) : ReflectliteValue.set #[v, x] = (do
    let (some (dst, a, fl), some (src, b, _)) := (← ReflectliteValue.parts v, ← ReflectliteValue.parts x)
      | unsupported (.noEntry "extern/(internal/reflectlite.Value).Set.zeroValue")
    if fl / ReflectliteValue.flagAddr % 2 == 0 then unsupported (.noEntry "extern/(internal/reflectlite.Value).Set.unaddressable")
    let val ← loadVar src b
    if ← Rtype.directlyAssignable dst src then storeVar dst a val
    else if ← Rtype.implements dst src then
      if (← Rtype.kind src) == 20 then
        match val with
        | .nilIface => unsupported (.noEntry "extern/reflectlite: a nil value of one interface type handed on as a value of another")
        | _ => storeVar dst a val
      else storeVar dst a (.iface src val)
    else panicString ("reflectlite.Set: value of type " ++ (← Rtype.spelt src) ++ " is not assignable to type " ++ (← Rtype.spelt dst))
    pure (.tuple #[])) := rfl
theorem partsE2 (a : Addr) (w : World) : (ReflectliteValue.parts (.agg #[hd 69, .pointer (some a), .int .u64 386])).run Try.prog w = .ok (some (69, a, 386)) w := by kernel_rfl
theorem partsE3 (a : Addr) (w : World) : (ReflectliteValue.parts (.agg #[hd 69, .pointer (some a), .int .u64 130])).run Try.prog w = .ok (some (69, a, 130)) w := by kernel_rfl
theorem mkE (p : Addr) (w : World) : (ReflectliteValue.mk 69 p ReflectliteValue.flagAddr).run Try.prog w = .ok (.agg #[hd 69, .pointer (some p), .int .u64 386]) w := by kernel_rfl
theorem diE (w : World) : (Rtype.directlyAssignable 69 69).run Try.prog w = .ok true w := by kernel_rfl
theorem szE (w : World) : (sizeOf 69).run Try.prog w = .ok 1 w := by kernel_rfl
theorem k2E (w : World) : ((ReflectliteType.abiMethod fun t => (fun a : Nat => Value.int IntKind.u8 (a : Int)) <$> Rtype.kind t) #[hd 69]).run Try.prog w = .ok (.int .u8 2) w := by kernel_rfl
theorem vsE (e : Int) (w : World) : (ReflectliteValue.unpack (.iface 69 (.int .i64 e))).run Try.prog w = .ok (.agg #[hd 69, .pointer (some ⟨w.heap.size, 0, none⟩), .int .u64 130]) (w.alloc (.cells #[.int .i64 e] 69)) := by kernel_rfl
theorem stE (ta b : Addr) (e : Int) (old : Value) (W : World) (hb : W.cell? b = some (.int .i64 e)) (ht : W.cell? ta = some old) (hf : W.frozen? ta = false) :
    (ReflectliteValue.set #[.agg #[hd 69, .pointer (some ta), .int .u64 386], .agg #[hd 69, .pointer (some b), .int .u64 130]]).run Try.prog W = .ok (.tuple #[]) (W.setCell ta (.int .i64 e)) := by
  rw [rls]
  simp only [Sem.run_bind, partsE2, partsE3, Result.andThen]
  simp [ReflectliteValue.flagAddr, loadVar, isAgg, underlying, Try.underlying69, hb, Result.andThen, diE, storeVar, Value.cells, storeCells, Addr.add]
  rw [run_store Try.prog W ta _ _ (by rfl)]
  simp [ht, hf]
theorem nil_iface (t : TypeId) (x : Value) (w : World) : (binOp .eql 51 (.iface t x) .nilIface).run Try.prog w = .ok (.bool false) w := by kernel_rfl
theorem nil_nil (w : World) : (binOp .eql 51 .nilIface .nilIface).run Try.prog w = .ok (.bool true) w := by kernel_rfl
end Go.Proofs.Ythfkmfepeafgjaa
namespace Go.Proofs.Ythfkmfepeafgjaa
open Go.RowKit Go.Extern.Stop Go.Stop Go.Extern

/-- Behind errors.As: the target at block tb holds what was found, or what it held. -/
def AsPost (w : World) (tb : Nat) (t : TypeId) (old : Value) (r : Option Value) (e : Ending) (w' : World) : Prop :=
  e = .returned (.bool r.isSome) ∧ Only (fun k => k = tb) w w' ∧ w'.heap[tb]? = some (.cells #[r.getD old] t (0, 0))

theorem cell_obj {w : World} {p : Nat} {cs : Array Value} {T : TypeId} (h : w.heap[p]? = some (.cells cs T (0, 0))) (j : Nat) {u : Value} (hu : cs[j]? = some u) : w.cell? ⟨p, j, none⟩ = some u := by
  rw [cell_of_row w p j cs T (0, 0) h]; exact hu

theorem post_hit {t : TypeId} {w : World} {tb a : Nat} {old x : Value} {r : Option Value} {o1 o2 : Obj} (hr : r = some x) (htb : w.heap[tb]? = some (.cells #[old] t (0, 0))) (ha : a = tb) :
    AsPost w tb t old r (.returned (.bool true)) (((w.alloc o1).alloc o2).setCell ⟨a, 0, none⟩ x) := by
  subst hr
  subst ha
  have hlt := (Array.getElem?_eq_some_iff.1 htb).1
  refine ⟨rfl, Only.setCell (S := fun k => k = a) (((Only.refl _ _).alloc _).alloc _) rfl _, ?_⟩
  refine one_setCell (v := old) ?_
  rw [Below.heap_alloc _ _ _ (by simp; omega), Below.heap_alloc _ _ _ hlt]
  exact htb

/-- The error that is the kind k. -/
abbrev kind (k : Int) : Value := .iface 69 (.int .i64 k)

theorem postE_up {t : TypeId} {w : World} {tb : Nat} {old : Value} {r : Option Value} {o1 o2 : Obj} {e : Ending} {w' : World} (h : AsPost ((w.alloc o1).alloc o2) tb t old r e w') : AsPost w tb t old r e w' :=
  ⟨h.1, (((Only.refl (fun k => k = tb) w).alloc o1).alloc o2).trans h.2.1 (fun _ h => h) (fun _ _ h => h), h.2.2⟩

/-- An error or none, by its number: none for 0. -/
def errOf (k : Int) : Value := if k = 0 then .nilIface else kind k

end Go.Proofs.Ythfkmfepeafgjaa
