/- Closed facts of this program for errors.As, errors.Is and errors.Unwrap over the errors that it makes. No condition. -/
import Derived.Test.YtageblggakfbdaaDoorOopsCh
import Derived.Stop.Asserts
import Derived.LaidEql
import Derived.RowKitTokens
namespace Go.Proofs.YtageblggakfbdaaDoor
open Go.RowKit Go.Extern.Stop Go.Stop Go.Extern

theorem toS (v : Value) (w : World) : (ReflectliteType.typeOf #[.iface 54 v]).run Tryd.prog w = .ok (.iface 110 (.agg #[hd 54])) w := by kernel_rfl
theorem noAsS (v : Value) (xT : TypeId) (w : World) : (Instr.typeAssert (.iface 54 v) xT 114 true).run Tryd.prog w = .ok (.tuple #[.nilIface, .bool false]) w := run_typeAssert_lacksB Tryd.underlying114 (by kernel_rfl) (by kernel_rfl) v xT w
theorem noIsS (v : Value) (xT : TypeId) (w : World) : (Instr.typeAssert (.iface 54 v) xT 121 true).run Tryd.prog w = .ok (.tuple #[.nilIface, .bool false]) w := run_typeAssert_lacksB Tryd.underlying121 (by kernel_rfl) (by kernel_rfl) v xT w
theorem hasUS (v : Value) (xT : TypeId) (w : World) : (Instr.typeAssert (.iface 54 v) xT 98 true).run Tryd.prog w = .ok (.tuple #[.iface 54 v, .bool true]) w := run_typeAssert_hasB Tryd.underlying98 (by kernel_rfl) v xT w
theorem mUS (v : Value) (w : World) : (Go.method 284 54 v "Unwrap").run Tryd.prog w = .ok (23, v) w := by kernel_rfl
theorem toP (v : Value) (w : World) : (ReflectliteType.typeOf #[.iface 55 v]).run Tryd.prog w = .ok (.iface 110 (.agg #[hd 55])) w := by kernel_rfl
theorem noAsP (v : Value) (xT : TypeId) (w : World) : (Instr.typeAssert (.iface 55 v) xT 114 true).run Tryd.prog w = .ok (.tuple #[.nilIface, .bool false]) w := run_typeAssert_lacksB Tryd.underlying114 (by kernel_rfl) (by kernel_rfl) v xT w
theorem noIsP (v : Value) (xT : TypeId) (w : World) : (Instr.typeAssert (.iface 55 v) xT 121 true).run Tryd.prog w = .ok (.tuple #[.nilIface, .bool false]) w := run_typeAssert_lacksB Tryd.underlying121 (by kernel_rfl) (by kernel_rfl) v xT w
theorem hasUP (v : Value) (xT : TypeId) (w : World) : (Instr.typeAssert (.iface 55 v) xT 98 true).run Tryd.prog w = .ok (.tuple #[.iface 55 v, .bool true]) w := run_typeAssert_hasB Tryd.underlying98 (by kernel_rfl) v xT w
theorem mUP (v : Value) (w : World) : (Go.method 284 55 v "Unwrap").run Tryd.prog w = .ok (24, v) w := by kernel_rfl
theorem toW (v : Value) (w : World) : (ReflectliteType.typeOf #[.iface 37 v]).run Tryd.prog w = .ok (.iface 110 (.agg #[hd 37])) w := by kernel_rfl
theorem noAsW (v : Value) (xT : TypeId) (w : World) : (Instr.typeAssert (.iface 37 v) xT 114 true).run Tryd.prog w = .ok (.tuple #[.nilIface, .bool false]) w := run_typeAssert_lacksB Tryd.underlying114 (by kernel_rfl) (by kernel_rfl) v xT w
theorem noIsW (v : Value) (xT : TypeId) (w : World) : (Instr.typeAssert (.iface 37 v) xT 121 true).run Tryd.prog w = .ok (.tuple #[.nilIface, .bool false]) w := run_typeAssert_lacksB Tryd.underlying121 (by kernel_rfl) (by kernel_rfl) v xT w
theorem hasUW (v : Value) (xT : TypeId) (w : World) : (Instr.typeAssert (.iface 37 v) xT 98 true).run Tryd.prog w = .ok (.tuple #[.iface 37 v, .bool true]) w := run_typeAssert_hasB Tryd.underlying98 (by kernel_rfl) v xT w
theorem mUW (v : Value) (w : World) : (Go.method 284 37 v "Unwrap").run Tryd.prog w = .ok (25, v) w := by kernel_rfl
theorem toX (v : Value) (w : World) : (ReflectliteType.typeOf #[.iface 65 v]).run Tryd.prog w = .ok (.iface 110 (.agg #[hd 65])) w := by kernel_rfl
theorem noAsX (v : Value) (xT : TypeId) (w : World) : (Instr.typeAssert (.iface 65 v) xT 114 true).run Tryd.prog w = .ok (.tuple #[.nilIface, .bool false]) w := run_typeAssert_lacksB Tryd.underlying114 (by kernel_rfl) (by kernel_rfl) v xT w
theorem noIsX (v : Value) (xT : TypeId) (w : World) : (Instr.typeAssert (.iface 65 v) xT 121 true).run Tryd.prog w = .ok (.tuple #[.nilIface, .bool false]) w := run_typeAssert_lacksB Tryd.underlying121 (by kernel_rfl) (by kernel_rfl) v xT w
theorem noUX (v : Value) (xT : TypeId) (w : World) : (Instr.typeAssert (.iface 65 v) xT 98 true).run Tryd.prog w = .ok (.tuple #[.nilIface, .bool false]) w := run_typeAssert_lacksB Tryd.underlying98 (by kernel_rfl) (by kernel_rfl) v xT w
theorem noUsX (v : Value) (xT : TypeId) (w : World) : (Instr.typeAssert (.iface 65 v) xT 117 true).run Tryd.prog w = .ok (.tuple #[.nilIface, .bool false]) w := run_typeAssert_lacksB Tryd.underlying117 (by kernel_rfl) (by kernel_rfl) v xT w
theorem toN (v : Value) (w : World) : (ReflectliteType.typeOf #[.iface 93 v]).run Tryd.prog w = .ok (.iface 110 (.agg #[hd 93])) w := by kernel_rfl
theorem noAsN (v : Value) (xT : TypeId) (w : World) : (Instr.typeAssert (.iface 93 v) xT 114 true).run Tryd.prog w = .ok (.tuple #[.nilIface, .bool false]) w := run_typeAssert_lacksB Tryd.underlying114 (by kernel_rfl) (by kernel_rfl) v xT w
theorem noIsN (v : Value) (xT : TypeId) (w : World) : (Instr.typeAssert (.iface 93 v) xT 121 true).run Tryd.prog w = .ok (.tuple #[.nilIface, .bool false]) w := run_typeAssert_lacksB Tryd.underlying121 (by kernel_rfl) (by kernel_rfl) v xT w
theorem noUN (v : Value) (xT : TypeId) (w : World) : (Instr.typeAssert (.iface 93 v) xT 98 true).run Tryd.prog w = .ok (.tuple #[.nilIface, .bool false]) w := run_typeAssert_lacksB Tryd.underlying98 (by kernel_rfl) (by kernel_rfl) v xT w
theorem noUsN (v : Value) (xT : TypeId) (w : World) : (Instr.typeAssert (.iface 93 v) xT 117 true).run Tryd.prog w = .ok (.tuple #[.nilIface, .bool false]) w := run_typeAssert_lacksB Tryd.underlying117 (by kernel_rfl) (by kernel_rfl) v xT w
/-- What errors.As asks of its target: tt points to a variable of type t. -/
structure Tgt (tt t : TypeId) (kd f0 f1 : Int) (ok : Value → Prop) : Prop where
  vo : ∀ (a : Addr) (w : World), (ReflectliteValue.unpack (.iface tt (.pointer (some a)))).run Tryd.prog w = .ok (.agg #[hd tt, .pointer (some ⟨w.heap.size, 0, none⟩), .int .u64 150]) (w.alloc (.cells #[.pointer (some a)] tt))
  ty : ∀ (a : Addr) (w : World), (ReflectliteValue.methodAny (ReflectliteValue.valueError "reflectlite.Value.Type" 0) (fun t _ _ _ => ReflectliteType.toType t) #[.agg #[hd tt, .pointer (some a), .int .u64 150]]).run Tryd.prog w = .ok (.iface 110 (.agg #[hd tt])) w
  k1 : ∀ w : World, ((ReflectliteType.abiMethod fun t => (fun a : Nat => Value.int IntKind.u8 (a : Int)) <$> Rtype.kind t) #[hd tt]).run Tryd.prog w = .ok (.int .u8 22) w
  k2 : ∀ w : World, ((ReflectliteType.abiMethod fun t => (fun a : Nat => Value.int IntKind.u8 (a : Int)) <$> Rtype.kind t) #[hd t]).run Tryd.prog w = .ok (.int .u8 kd) w
  kn : (kd != 20) = true
  nil : ∀ (a p : Addr) (W : World), W.cell? a = some (.pointer (some p)) → (ReflectliteValue.method (ReflectliteValue.valueError "reflectlite.Value.IsNil" 0) ReflectliteValue.isNil #[.agg #[hd tt, .pointer (some a), .int .u64 150]]).run Tryd.prog W = .ok (.bool false) W
  me : ∀ w : World, (ReflectliteType.method ReflectliteType.elem #[.agg #[hd tt]]).run Tryd.prog w = .ok (.iface 110 (.agg #[hd t])) w
  im : ∀ w : World, (ReflectliteType.relation "Implements" ReflectliteType.implements_ #[.agg #[hd t], .iface 110 (.agg #[hd 25])]).run Tryd.prog w = .ok (.bool true) w
  vs : ∀ (x : Value) (w : World), ok x → (ReflectliteValue.unpack (.iface t x)).run Tryd.prog w = .ok (.agg #[hd t, .pointer (some ⟨w.heap.size, 0, none⟩), .int .u64 f0]) (w.alloc (.cells #[x] t))
  el : ∀ (a p : Addr) (W : World), W.cell? a = some (.pointer (some p)) → (ReflectliteValue.method (ReflectliteValue.valueError "reflectlite.Value.Elem" 0) ReflectliteValue.elem #[.agg #[hd tt, .pointer (some a), .int .u64 150]]).run Tryd.prog W = .ok (.agg #[hd t, .pointer (some p), .int .u64 f1]) W
  st : ∀ (ta b : Addr) (x old : Value) (W : World), ok x → W.cell? b = some x → W.cell? ta = some old → W.frozen? ta = false →
    (ReflectliteValue.set #[.agg #[hd t, .pointer (some ta), .int .u64 f1], .agg #[hd t, .pointer (some b), .int .u64 f0]]).run Tryd.prog W = .ok (.tuple #[]) (W.setCell ta x)
  asg : ∀ s, s ∈ [54, 55, 37, 29, 65, 93] → ∀ w : World, (ReflectliteType.relation "AssignableTo" ReflectliteType.assignableTo #[.agg #[hd s], .iface 110 (.agg #[hd t])]).run Tryd.prog w = .ok (.bool (decide (s = t))) w

theorem partsS1 (a : Addr) (w : World) : (ReflectliteValue.parts (.agg #[hd 56, .pointer (some a), .int .u64 150])).run Tryd.prog w = .ok (some (56, a, 150)) w := by kernel_rfl
theorem partsS2 (a : Addr) (w : World) : (ReflectliteValue.parts (.agg #[hd 54, .pointer (some a), .int .u64 406])).run Tryd.prog w = .ok (some (54, a, 406)) w := by kernel_rfl
theorem partsS3 (a : Addr) (w : World) : (ReflectliteValue.parts (.agg #[hd 54, .pointer (some a), .int .u64 150])).run Tryd.prog w = .ok (some (54, a, 150)) w := by kernel_rfl
theorem eoS (w : World) : (Rtype.elem? 56).run Tryd.prog w = .ok (some 54) w := by kernel_rfl
theorem mkS (p : Addr) (w : World) : (ReflectliteValue.mk 54 p ReflectliteValue.flagAddr).run Tryd.prog w = .ok (.agg #[hd 54, .pointer (some p), .int .u64 406]) w := by kernel_rfl
theorem diS (w : World) : (Rtype.directlyAssignable 54 54).run Tryd.prog w = .ok true w := by kernel_rfl
theorem szS (w : World) : (sizeOf 54).run Tryd.prog w = .ok 1 w := by kernel_rfl
theorem tgtS : Tgt 56 54 22 150 406 (fun x => ∃ e, x = .pointer (some e)) where
  vo := fun a w => by kernel_rfl
  ty := fun a w => by kernel_rfl
  k1 := fun w => by kernel_rfl
  k2 := fun w => by kernel_rfl
  kn := by decide
  nil := fun a p W ha => by
    rw [rlm]
    simp only [Sem.run_bind, partsS1, Result.andThen]
    simp [ReflectliteValue.isNil, loadVar, isAgg, underlying, Tryd.underlying56, ha, Result.andThen]
  me := fun w => by kernel_rfl
  im := fun w => by kernel_rfl
  vs := fun x w ⟨e, he⟩ => by subst he; kernel_rfl
  el := fun a p W ha => by
    rw [rlm]
    simp only [Sem.run_bind, partsS1, Result.andThen]
    simp [ReflectliteValue.elem, loadVar, isAgg, underlying, Tryd.underlying56, ha, Result.andThen, eoS, mkS]
  st := fun ta b x old W ⟨e, he⟩ hb ht hf => by
    subst he
    rw [rls]
    simp only [Sem.run_bind, partsS2, partsS3, Result.andThen]
    simp [ReflectliteValue.flagAddr, loadVar, isAgg, underlying, Tryd.underlying54, hb, Result.andThen, diS, storeVar, Value.cells, storeCells, Addr.add]
    rw [run_store Tryd.prog W ta _ _ (by rfl)]
    simp [ht, hf]
  asg := fun s hs w => by
    simp only [List.mem_cons, List.not_mem_nil, or_false] at hs
    rcases hs with rfl | rfl | rfl | rfl | rfl | rfl
    · kernel_rfl
    · kernel_rfl
    · kernel_rfl
    · kernel_rfl
    · kernel_rfl
    · kernel_rfl

theorem partsP1 (a : Addr) (w : World) : (ReflectliteValue.parts (.agg #[hd 57, .pointer (some a), .int .u64 150])).run Tryd.prog w = .ok (some (57, a, 150)) w := by kernel_rfl
theorem partsP2 (a : Addr) (w : World) : (ReflectliteValue.parts (.agg #[hd 55, .pointer (some a), .int .u64 406])).run Tryd.prog w = .ok (some (55, a, 406)) w := by kernel_rfl
theorem partsP3 (a : Addr) (w : World) : (ReflectliteValue.parts (.agg #[hd 55, .pointer (some a), .int .u64 150])).run Tryd.prog w = .ok (some (55, a, 150)) w := by kernel_rfl
theorem eoP (w : World) : (Rtype.elem? 57).run Tryd.prog w = .ok (some 55) w := by kernel_rfl
theorem mkP (p : Addr) (w : World) : (ReflectliteValue.mk 55 p ReflectliteValue.flagAddr).run Tryd.prog w = .ok (.agg #[hd 55, .pointer (some p), .int .u64 406]) w := by kernel_rfl
theorem diP (w : World) : (Rtype.directlyAssignable 55 55).run Tryd.prog w = .ok true w := by kernel_rfl
theorem szP (w : World) : (sizeOf 55).run Tryd.prog w = .ok 1 w := by kernel_rfl
theorem tgtP : Tgt 57 55 22 150 406 (fun x => ∃ e, x = .pointer (some e)) where
  vo := fun a w => by kernel_rfl
  ty := fun a w => by kernel_rfl
  k1 := fun w => by kernel_rfl
  k2 := fun w => by kernel_rfl
  kn := by decide
  nil := fun a p W ha => by
    rw [rlm]
    simp only [Sem.run_bind, partsP1, Result.andThen]
    simp [ReflectliteValue.isNil, loadVar, isAgg, underlying, Tryd.underlying57, ha, Result.andThen]
  me := fun w => by kernel_rfl
  im := fun w => by kernel_rfl
  vs := fun x w ⟨e, he⟩ => by subst he; kernel_rfl
  el := fun a p W ha => by
    rw [rlm]
    simp only [Sem.run_bind, partsP1, Result.andThen]
    simp [ReflectliteValue.elem, loadVar, isAgg, underlying, Tryd.underlying57, ha, Result.andThen, eoP, mkP]
  st := fun ta b x old W ⟨e, he⟩ hb ht hf => by
    subst he
    rw [rls]
    simp only [Sem.run_bind, partsP2, partsP3, Result.andThen]
    simp [ReflectliteValue.flagAddr, loadVar, isAgg, underlying, Tryd.underlying55, hb, Result.andThen, diP, storeVar, Value.cells, storeCells, Addr.add]
    rw [run_store Tryd.prog W ta _ _ (by rfl)]
    simp [ht, hf]
  asg := fun s hs w => by
    simp only [List.mem_cons, List.not_mem_nil, or_false] at hs
    rcases hs with rfl | rfl | rfl | rfl | rfl | rfl
    · kernel_rfl
    · kernel_rfl
    · kernel_rfl
    · kernel_rfl
    · kernel_rfl
    · kernel_rfl

theorem partsW1 (a : Addr) (w : World) : (ReflectliteValue.parts (.agg #[hd 39, .pointer (some a), .int .u64 150])).run Tryd.prog w = .ok (some (39, a, 150)) w := by kernel_rfl
theorem partsW2 (a : Addr) (w : World) : (ReflectliteValue.parts (.agg #[hd 37, .pointer (some a), .int .u64 406])).run Tryd.prog w = .ok (some (37, a, 406)) w := by kernel_rfl
theorem partsW3 (a : Addr) (w : World) : (ReflectliteValue.parts (.agg #[hd 37, .pointer (some a), .int .u64 150])).run Tryd.prog w = .ok (some (37, a, 150)) w := by kernel_rfl
theorem eoW (w : World) : (Rtype.elem? 39).run Tryd.prog w = .ok (some 37) w := by kernel_rfl
theorem mkW (p : Addr) (w : World) : (ReflectliteValue.mk 37 p ReflectliteValue.flagAddr).run Tryd.prog w = .ok (.agg #[hd 37, .pointer (some p), .int .u64 406]) w := by kernel_rfl
theorem diW (w : World) : (Rtype.directlyAssignable 37 37).run Tryd.prog w = .ok true w := by kernel_rfl
theorem szW (w : World) : (sizeOf 37).run Tryd.prog w = .ok 1 w := by kernel_rfl
theorem tgtW : Tgt 39 37 22 150 406 (fun x => ∃ e, x = .pointer (some e)) where
  vo := fun a w => by kernel_rfl
  ty := fun a w => by kernel_rfl
  k1 := fun w => by kernel_rfl
  k2 := fun w => by kernel_rfl
  kn := by decide
  nil := fun a p W ha => by
    rw [rlm]
    simp only [Sem.run_bind, partsW1, Result.andThen]
    simp [ReflectliteValue.isNil, loadVar, isAgg, underlying, Tryd.underlying39, ha, Result.andThen]
  me := fun w => by kernel_rfl
  im := fun w => by kernel_rfl
  vs := fun x w ⟨e, he⟩ => by subst he; kernel_rfl
  el := fun a p W ha => by
    rw [rlm]
    simp only [Sem.run_bind, partsW1, Result.andThen]
    simp [ReflectliteValue.elem, loadVar, isAgg, underlying, Tryd.underlying39, ha, Result.andThen, eoW, mkW]
  st := fun ta b x old W ⟨e, he⟩ hb ht hf => by
    subst he
    rw [rls]
    simp only [Sem.run_bind, partsW2, partsW3, Result.andThen]
    simp [ReflectliteValue.flagAddr, loadVar, isAgg, underlying, Tryd.underlying37, hb, Result.andThen, diW, storeVar, Value.cells, storeCells, Addr.add]
    rw [run_store Tryd.prog W ta _ _ (by rfl)]
    simp [ht, hf]
  asg := fun s hs w => by
    simp only [List.mem_cons, List.not_mem_nil, or_false] at hs
    rcases hs with rfl | rfl | rfl | rfl | rfl | rfl
    · kernel_rfl
    · kernel_rfl
    · kernel_rfl
    · kernel_rfl
    · kernel_rfl
    · kernel_rfl

theorem tgtE : Tgt 101 29 2 130 386 (fun x => ∃ e, x = .int .i64 e) where
  vo := fun a w => by kernel_rfl
  ty := fun a w => by kernel_rfl
  k1 := fun w => by kernel_rfl
  k2 := fun w => by kernel_rfl
  kn := by decide
  nil := fun a p W ha => by
    rw [rlm]
    simp only [Sem.run_bind, partsE1, Result.andThen]
    simp [ReflectliteValue.isNil, loadVar, isAgg, underlying, Tryd.underlying101, ha, Result.andThen]
  me := fun w => by kernel_rfl
  im := fun w => by kernel_rfl
  vs := fun x w ⟨e, he⟩ => by subst he; kernel_rfl
  el := fun a p W ha => by
    rw [rlm]
    simp only [Sem.run_bind, partsE1, Result.andThen]
    simp [ReflectliteValue.elem, loadVar, isAgg, underlying, Tryd.underlying101, ha, Result.andThen, eoE, mkE]
  st := fun ta b x old W ⟨e, he⟩ hb ht hf => by
    subst he
    rw [rls]
    simp only [Sem.run_bind, partsE2, partsE3, Result.andThen]
    simp [ReflectliteValue.flagAddr, loadVar, isAgg, underlying, Tryd.underlying29, hb, Result.andThen, diE, storeVar, Value.cells, storeCells, Addr.add]
    rw [run_store Tryd.prog W ta _ _ (by rfl)]
    simp [ht, hf]
  asg := fun s hs w => by
    simp only [List.mem_cons, List.not_mem_nil, or_false] at hs
    rcases hs with rfl | rfl | rfl | rfl | rfl | rfl
    · kernel_rfl
    · kernel_rfl
    · kernel_rfl
    · kernel_rfl
    · kernel_rfl
    · kernel_rfl

end Go.Proofs.YtageblggakfbdaaDoor
