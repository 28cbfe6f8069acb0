/- Closed facts of this program for errors.As at a target of type api.Errno, over an error that is one. No condition. · errors.As at a target of type api.Errno over an error that is an api.Errno, and taproothand.Kind of such errors. Condition: errors.errorType holds what its text lays. -/
import Derived.Test.YthfkmfepeafgjaaGreatDoorGenOps
import Derived.Stop.Asserts
import Derived.LaidEql
import Derived.RowKitTokens
namespace Go.Proofs.YthfkmfepeafgjaaGreatDoor
open Go.RowKit Go.Extern.Stop Go.Stop Go.Extern

/-- A type's handle. -/
abbrev hd (t : Nat) : Value := .pointer (some ⟨2, t, none⟩)
theorem toE (v : Value) (w : World) : (ReflectliteType.typeOf #[.iface 38 v]).run Tryz.prog w = .ok (.iface 133 (.agg #[hd 38])) w := by kernel_rfl
theorem noAsE (v : Value) (xT : TypeId) (w : World) : (Instr.typeAssert (.iface 38 v) xT 138 true).run Tryz.prog w = .ok (.tuple #[.nilIface, .bool false]) w := run_typeAssert_lacksB Tryz.underlying138 (by kernel_rfl) (by kernel_rfl) v xT w
theorem noUE (v : Value) (xT : TypeId) (w : World) : (Instr.typeAssert (.iface 38 v) xT 141 true).run Tryz.prog w = .ok (.tuple #[.nilIface, .bool false]) w := run_typeAssert_lacksB Tryz.underlying141 (by kernel_rfl) (by kernel_rfl) v xT w
theorem noUsE (v : Value) (xT : TypeId) (w : World) : (Instr.typeAssert (.iface 38 v) xT 143 true).run Tryz.prog w = .ok (.tuple #[.nilIface, .bool false]) w := run_typeAssert_lacksB Tryz.underlying143 (by kernel_rfl) (by kernel_rfl) v xT w
theorem m_kind (h : Value) (w : World) : (Go.method 295 133 (.agg #[h]) "Kind").run Tryz.prog w = .ok (110, h) w := by kernel_rfl
theorem m_elem (h : Value) (w : World) : (Go.method 295 133 (.agg #[h]) "Elem").run Tryz.prog w = .ok (122, .agg #[h]) w := by kernel_rfl
theorem m_impl (h : Value) (w : World) : (Go.method 295 133 (.agg #[h]) "Implements").run Tryz.prog w = .ok (123, .agg #[h]) w := by kernel_rfl
theorem m_asg (h : Value) (w : World) : (Go.method 295 133 (.agg #[h]) "AssignableTo").run Tryz.prog w = .ok (120, .agg #[h]) w := by kernel_rfl
theorem m_comp (v : Value) (w : World) : (Go.method 295 133 v "Comparable").run Tryz.prog w = .ok (121, v) w := by kernel_rfl
theorem rlm (z : Sem Value) (f : TypeId → Addr → Nat → Nat → Sem Value) (v : Value) :
    ReflectliteValue.method z f #[v] = (do match ← ReflectliteValue.parts v with | none => z | some (t, a, fl) => f t a fl (fl % 32)) := rfl
theorem rls (v x : Value) : ReflectliteValue.set #[v, x] = (do
    let (some (dst, a, fl), some (src, b, _)) := (← ReflectliteValue.parts v, ← ReflectliteValue.parts x)
      | unsupported (.noEntry "extern/(internal/reflectlite.Value).Set.zeroValue")
    if fl / ReflectliteValue.flagAddr % 2 == 0 then unsupported (.noEntry "extern/(internal/reflectlite.Value).Set.unaddressable")
    let val ← loadVar src b
    if ← Rtype.directlyAssignable dst src then storeVar dst a val
    else if ← Rtype.implements dst src then
      if (← Rtype.kind src) == 20 then
        match val with
        | .nilIface => unsupported (.noEntry "extern/reflectlite: a nil value of one interface type handed on as a value of another")
        | _ => storeVar dst a val
      else storeVar dst a (.iface src val)
    else panicString ("reflectlite.Set: value of type " ++ (← Rtype.spelt src) ++ " is not assignable to type " ++ (← Rtype.spelt dst))
    pure (.tuple #[])) := rfl
theorem partsE1 (a : Addr) (w : World) : (ReflectliteValue.parts (.agg #[hd 105, .pointer (some a), .int .u64 150])).run Tryz.prog w = .ok (some (105, a, 150)) w := by kernel_rfl
theorem partsE2 (a : Addr) (w : World) : (ReflectliteValue.parts (.agg #[hd 38, .pointer (some a), .int .u64 386])).run Tryz.prog w = .ok (some (38, a, 386)) w := by kernel_rfl
theorem partsE3 (a : Addr) (w : World) : (ReflectliteValue.parts (.agg #[hd 38, .pointer (some a), .int .u64 130])).run Tryz.prog w = .ok (some (38, a, 130)) w := by kernel_rfl
theorem eoE (w : World) : (Rtype.elem? 105).run Tryz.prog w = .ok (some 38) w := by kernel_rfl
theorem mkE (p : Addr) (w : World) : (ReflectliteValue.mk 38 p ReflectliteValue.flagAddr).run Tryz.prog w = .ok (.agg #[hd 38, .pointer (some p), .int .u64 386]) w := by kernel_rfl
theorem diE (w : World) : (Rtype.directlyAssignable 38 38).run Tryz.prog w = .ok true w := by kernel_rfl
theorem szE (w : World) : (sizeOf 38).run Tryz.prog w = .ok 1 w := by kernel_rfl
theorem voE (a : Addr) (w : World) : (ReflectliteValue.unpack (.iface 105 (.pointer (some a)))).run Tryz.prog w = .ok (.agg #[hd 105, .pointer (some ⟨w.heap.size, 0, none⟩), .int .u64 150]) (w.alloc (.cells #[.pointer (some a)] 105)) := by kernel_rfl
theorem tyE (a : Addr) (w : World) : (ReflectliteValue.methodAny (ReflectliteValue.valueError "reflectlite.Value.Type" 0) (fun t _ _ _ => ReflectliteType.toType t) #[.agg #[hd 105, .pointer (some a), .int .u64 150]]).run Tryz.prog w = .ok (.iface 133 (.agg #[hd 105])) w := by kernel_rfl
theorem k1E (w : World) : ((ReflectliteType.abiMethod fun t => (fun a : Nat => Value.int IntKind.u8 (a : Int)) <$> Rtype.kind t) #[hd 105]).run Tryz.prog w = .ok (.int .u8 22) w := by kernel_rfl
theorem k2E (w : World) : ((ReflectliteType.abiMethod fun t => (fun a : Nat => Value.int IntKind.u8 (a : Int)) <$> Rtype.kind t) #[hd 38]).run Tryz.prog w = .ok (.int .u8 2) w := by kernel_rfl
theorem nilE (a p : Addr) (W : World) (ha : W.cell? a = some (.pointer (some p))) : (ReflectliteValue.method (ReflectliteValue.valueError "reflectlite.Value.IsNil" 0) ReflectliteValue.isNil #[.agg #[hd 105, .pointer (some a), .int .u64 150]]).run Tryz.prog W = .ok (.bool false) W := by
  rw [rlm]
  simp only [Sem.run_bind, partsE1, Result.andThen]
  simp [ReflectliteValue.isNil, loadVar, isAgg, underlying, Tryz.underlying105, ha, Result.andThen]
theorem meE (w : World) : (ReflectliteType.method ReflectliteType.elem #[.agg #[hd 105]]).run Tryz.prog w = .ok (.iface 133 (.agg #[hd 38])) w := by kernel_rfl
theorem imE (w : World) : (ReflectliteType.relation "Implements" ReflectliteType.implements_ #[.agg #[hd 38], .iface 133 (.agg #[hd 45])]).run Tryz.prog w = .ok (.bool true) w := by kernel_rfl
theorem vsE (e : Int) (w : World) : (ReflectliteValue.unpack (.iface 38 (.int .i64 e))).run Tryz.prog w = .ok (.agg #[hd 38, .pointer (some ⟨w.heap.size, 0, none⟩), .int .u64 130]) (w.alloc (.cells #[.int .i64 e] 38)) := by kernel_rfl
theorem elE (a p : Addr) (W : World) (ha : W.cell? a = some (.pointer (some p))) : (ReflectliteValue.method (ReflectliteValue.valueError "reflectlite.Value.Elem" 0) ReflectliteValue.elem #[.agg #[hd 105, .pointer (some a), .int .u64 150]]).run Tryz.prog W = .ok (.agg #[hd 38, .pointer (some p), .int .u64 386]) W := by
  rw [rlm]
  simp only [Sem.run_bind, partsE1, Result.andThen]
  simp [ReflectliteValue.elem, loadVar, isAgg, underlying, Tryz.underlying105, ha, Result.andThen, eoE, mkE]
theorem stE (ta b : Addr) (e : Int) (old : Value) (W : World) (hb : W.cell? b = some (.int .i64 e)) (ht : W.cell? ta = some old) (hf : W.frozen? ta = false) :
    (ReflectliteValue.set #[.agg #[hd 38, .pointer (some ta), .int .u64 386], .agg #[hd 38, .pointer (some b), .int .u64 130]]).run Tryz.prog W = .ok (.tuple #[]) (W.setCell ta (.int .i64 e)) := by
  rw [rls]
  simp only [Sem.run_bind, partsE2, partsE3, Result.andThen]
  simp [ReflectliteValue.flagAddr, loadVar, isAgg, underlying, Tryz.underlying38, hb, Result.andThen, diE, storeVar, Value.cells, storeCells, Addr.add]
  rw [run_store Tryz.prog W ta _ _ (by rfl)]
  simp [ht, hf]
theorem asgE (w : World) : (ReflectliteType.relation "AssignableTo" ReflectliteType.assignableTo #[.agg #[hd 38], .iface 133 (.agg #[hd 38])]).run Tryz.prog w = .ok (.bool true) w := by kernel_rfl
theorem nil_iface (t : TypeId) (x : Value) (w : World) : (binOp .eql 45 (.iface t x) .nilIface).run Tryz.prog w = .ok (.bool false) w := by kernel_rfl
theorem nil_nil (w : World) : (binOp .eql 45 .nilIface .nilIface).run Tryz.prog w = .ok (.bool true) w := by kernel_rfl
end Go.Proofs.YthfkmfepeafgjaaGreatDoor
namespace Go.Proofs.YthfkmfepeafgjaaGreatDoor
open Go.RowKit Go.Extern.Stop Go.Stop Go.Extern

/-- The variable errors.errorType holds the handle of the type error. -/
def Glob (w : World) : Prop := w.cell? ⟨0, 0, none⟩ = some (.iface 133 (.agg #[hd 45]))
theorem Glob.kb {w w' : World} (h : Glob w) (hb : Below w.heap.size w w') : Glob w' := by
  have h2 := World.block_lt_of_cell? w _ h
  unfold Glob
  rw [World.cell?_of_block (w := w) (hb.block _ h2)]
  exact h

/-- Behind errors.As: the target at block tb holds what was found, or what it held. -/
def AsPost (w : World) (tb : Nat) (t : TypeId) (old : Value) (r : Option Value) (e : Ending) (w' : World) : Prop :=
  e = .returned (.bool r.isSome) ∧ Only (fun k => k = tb) w w' ∧ w'.heap[tb]? = some (.cells #[r.getD old] t (0, 0))

theorem cell_obj {w : World} {p : Nat} {cs : Array Value} {T : TypeId} (h : w.heap[p]? = some (.cells cs T (0, 0))) (j : Nat) {u : Value} (hu : cs[j]? = some u) : w.cell? ⟨p, j, none⟩ = some u := by
  rw [cell_of_row w p j cs T (0, 0) h]; exact hu

theorem post_hit {t : TypeId} {w : World} {tb a : Nat} {old x : Value} {r : Option Value} {o1 o2 : Obj} (hr : r = some x) (htb : w.heap[tb]? = some (.cells #[old] t (0, 0))) (ha : a = tb) :
    AsPost w tb t old r (.returned (.bool true)) (((w.alloc o1).alloc o2).setCell ⟨a, 0, none⟩ x) := by
  subst hr
  subst ha
  have hlt := (Array.getElem?_eq_some_iff.1 htb).1
  refine ⟨rfl, Only.setCell (S := fun k => k = a) (((Only.refl _ _).alloc _).alloc _) rfl _, ?_⟩
  refine one_setCell (v := old) ?_
  rw [Below.heap_alloc _ _ _ (by simp; omega), Below.heap_alloc _ _ _ hlt]
  exact htb

/-- The error that is the kind k. -/
abbrev kind (k : Int) : Value := .iface 38 (.int .i64 k)

set_option maxHeartbeats 4000000 in
theorem asE_walk (w : World) (k : Int) (a tb : Nat) (old : Value)
    (ha : w.cell? ⟨a, 0, none⟩ = some (.pointer (some ⟨tb, 0, none⟩))) (htb : w.heap[tb]? = some (.cells #[old] 38 (0, 0))) :
    Calls Tryz.prog 71 #[kind k, .iface 105 (.pointer (some ⟨tb, 0, none⟩)), .agg #[hd 105, .pointer (some ⟨a, 0, none⟩), .int .u64 150], .iface 133 (.agg #[hd 38])] w fun e w' => AsPost w tb 38 old (some (.int .i64 k)) e w' := by
  have xT := @run_callFunc_extern Tryz.prog 76 _ ReflectliteType.typeOf Tryz.func76 (by kernel_rfl) (by kernel_rfl) (by kernel_rfl) (by kernel_rfl)
  have xV := @run_callFunc_extern Tryz.prog 68 _ (fun args => ReflectliteValue.unpack (args.getD 0 (.tuple #[]))) Tryz.func68 (by kernel_rfl) (by kernel_rfl) (by kernel_rfl) (by kernel_rfl)
  have xA := @run_callFunc_extern Tryz.prog 120 _ (ReflectliteType.relation "AssignableTo" ReflectliteType.assignableTo) Tryz.func120 (by kernel_rfl) (by kernel_rfl) (by kernel_rfl) (by kernel_rfl)
  have xE := @run_callFunc_extern Tryz.prog 77 _ (ReflectliteValue.method (ReflectliteValue.valueError "reflectlite.Value.Elem" 0) ReflectliteValue.elem) Tryz.func77 (by kernel_rfl) (by kernel_rfl) (by kernel_rfl) (by kernel_rfl)
  have xS := @run_callFunc_extern Tryz.prog 78 _ ReflectliteValue.set Tryz.func78 (by kernel_rfl) (by kernel_rfl) (by kernel_rfl) (by kernel_rfl)
  have mA := m_asg
  have hlt : a < w.heap.size := World.block_lt_of_cell? w _ ha
  have htl := (Array.getElem?_eq_some_iff.1 htb).1
  have el := elE ⟨a, 0, none⟩ ⟨tb, 0, none⟩ (w.alloc (.cells #[hd 105, .pointer (some ⟨a, 0, none⟩), .int .u64 150] 118)) (by rw [World.cell?_alloc_lt _ _ ⟨a, 0, none⟩ hlt]; exact ha)
  have hst := stE ⟨tb, 0, none⟩ ⟨w.heap.size + 1, 0, none⟩ k old ((w.alloc (.cells #[hd 105, .pointer (some ⟨a, 0, none⟩), .int .u64 150] 118)).alloc (.cells #[.int .i64 k] 38))
    (by rw [World.cell?_alloc_at _ _ _ _ (by simp)]; rfl)
    (by rw [World.cell?_alloc_lt _ _ ⟨tb, 0, none⟩ (by simp; omega), World.cell?_alloc_lt _ _ ⟨tb, 0, none⟩ htl]; exact cell_obj htb 0 rfl)
    (by rw [World.frozen?_alloc_old _ _ ⟨tb, 0, none⟩ (by simp; omega), World.frozen?_alloc_old _ _ ⟨tb, 0, none⟩ (Nat.ne_of_lt htl)]; exact free_of_one htb)
  have HTB := Lib.hid htb
  have hto := toE
  have hA := asgE
  have hvs := fun w => vsE k w
  clear htb ha hlt htl
  go_enter Tryz.func71, Tryz.ntmps71
  go_wp2
  refine wp_loop_rounds 1 ?_; rw [rounds_succ]; go_wp2
  go_ret
  exact post_hit rfl HTB.out rfl

theorem postE_up {t : TypeId} {w : World} {tb : Nat} {old : Value} {r : Option Value} {o1 o2 : Obj} {e : Ending} {w' : World} (h : AsPost ((w.alloc o1).alloc o2) tb t old r e w') : AsPost w tb t old r e w' :=
  ⟨h.1, (((Only.refl (fun k => k = tb) w).alloc o1).alloc o2).trans h.2.1 (fun _ h => h) (fun _ _ h => h), h.2.2⟩

set_option maxHeartbeats 4000000 in
theorem asE_any (w : World) (k : Int) (hg : Glob w) (tb : Nat) (old : Value) (htb : w.heap[tb]? = some (.cells #[old] 38 (0, 0))) :
    Calls Tryz.prog 57 #[kind k, .iface 105 (.pointer (some ⟨tb, 0, none⟩))] w fun e w' => AsPost w tb 38 old (some (.int .i64 k)) e w' := by
  have xV := @run_callFunc_extern Tryz.prog 68 _ (fun args => ReflectliteValue.unpack (args.getD 0 (.tuple #[]))) Tryz.func68 (by kernel_rfl) (by kernel_rfl) (by kernel_rfl) (by kernel_rfl)
  have xY := @run_callFunc_extern Tryz.prog 69 _ (ReflectliteValue.methodAny (ReflectliteValue.valueError "reflectlite.Value.Type" 0) (fun t _ _ _ => ReflectliteType.toType t)) Tryz.func69 (by kernel_rfl) (by kernel_rfl) (by kernel_rfl) (by kernel_rfl)
  have xN := @run_callFunc_extern Tryz.prog 70 _ (ReflectliteValue.method (ReflectliteValue.valueError "reflectlite.Value.IsNil" 0) ReflectliteValue.isNil) Tryz.func70 (by kernel_rfl) (by kernel_rfl) (by kernel_rfl) (by kernel_rfl)
  have xK := @run_callFunc_extern Tryz.prog 110 _ (ReflectliteType.abiMethod fun t => do pure (.int .u8 (← Rtype.kind t))) Tryz.func110 (by kernel_rfl) (by kernel_rfl) (by kernel_rfl) (by kernel_rfl)
  have xE := @run_callFunc_extern Tryz.prog 122 _ (ReflectliteType.method ReflectliteType.elem) Tryz.func122 (by kernel_rfl) (by kernel_rfl) (by kernel_rfl) (by kernel_rfl)
  have xI := @run_callFunc_extern Tryz.prog 123 _ (ReflectliteType.relation "Implements" ReflectliteType.implements_) Tryz.func123 (by kernel_rfl) (by kernel_rfl) (by kernel_rfl) (by kernel_rfl)
  have mK := m_kind
  have mE := m_elem
  have mI := m_impl
  have vo := voE
  have ty := tyE
  have k1 := k1E
  have k2 := k2E
  have me := meE
  have im := imE
  have hlt := World.block_lt_of_cell? w _ hg
  have htl := (Array.getElem?_eq_some_iff.1 htb).1
  have n8 := nilE ⟨w.heap.size, 0, none⟩ ⟨tb, 0, none⟩ ((w.alloc (.cells #[.pointer (some ⟨tb, 0, none⟩)] 105)).alloc (.cells #[hd 105, .pointer (some ⟨w.heap.size, 0, none⟩), .int .u64 150] 118)) (by simp)
  have hg2 : ((w.alloc (.cells #[.pointer (some ⟨tb, 0, none⟩)] 105)).alloc (.cells #[hd 105, .pointer (some ⟨w.heap.size, 0, none⟩), .int .u64 150] 118)).cell? ⟨0, 0, none⟩ = some (.iface 133 (.agg #[hd 45])) := by
    rw [World.cell?_alloc_lt _ _ ⟨0, 0, none⟩ (Nat.lt_of_lt_of_le hlt (by simp)), World.cell?_alloc_lt _ _ ⟨0, 0, none⟩ hlt]; exact hg
  have HW := Lib.hid (asE_walk ((w.alloc (.cells #[.pointer (some ⟨tb, 0, none⟩)] 105)).alloc (.cells #[hd 105, .pointer (some ⟨w.heap.size, 0, none⟩), .int .u64 150] 118)) k w.heap.size tb old (by simp)
    (by rw [Below.heap_alloc _ _ _ (by simp; omega), Below.heap_alloc _ _ _ htl]; exact htb))
  have hnn := nil_iface 38 (.int .i64 k)
  have hn2 : ∀ w : World, (binOp .eql 20 (.iface 105 (.pointer (some ⟨tb, 0, none⟩))) .nilIface).run Tryz.prog w = .ok (.bool false) w := fun w => by kernel_rfl
  clear hg hlt htl htb
  go_enter Tryz.func57, Tryz.ntmps57
  go_wp2_with (go_at_call 71; refine HW.out.mono ?_; rintro e w' R; have HR := Lib.hid R; clear R; obtain rfl := HR.out.1)
  go_ret
  exact postE_up HR.out

/-- An error or none, by its number: none for 0. -/
def errOf (k : Int) : Value := if k = 0 then .nilIface else kind k

set_option maxHeartbeats 800000 in
theorem khand_any (w : World) (k : Int) (hg : Glob w) : Calls Tryz.prog 30 #[errOf k] w fun e w' => e = .returned (.int .i64 k) ∧ Below w.heap.size w w' := by
  unfold errOf
  by_cases h0 : k = 0
  · subst h0
    have hn := nil_nil
    rw [if_pos rfl]
    go_enter Tryz.func30, Tryz.ntmps30
    go_wp2
    go_ret
    exact ⟨rfl, Below.refl _ _⟩
  · rw [if_neg h0]
    have hn := nil_iface 38 (.int .i64 k)
    have hH := heap_alloc_new w (.cells #[.int .i64 0] 38)
    have hA := Lib.hid (asE_any (w.alloc (.cells #[.int .i64 0] 38)) k (hg.kb ((Below.refl _ _).alloc (Nat.le_refl _) _)) w.heap.size _ hH)
    clear h0 hH hg
    go_enter Tryz.func30, Tryz.ntmps30
    go_wp2_with (go_at_call 57; refine hA.out.mono ?_; rintro e w' ⟨rfl, R1, R2⟩; have HR := Lib.hid R1; have hc := cell_obj R2 0 rfl; clear R1 R2; simp only [Option.isSome, Option.getD] at hc ⊢)
    go_ret
    exact ⟨rfl, ((Below.refl _ _).alloc (Nat.le_refl _) _).trans (HR.out.below (by simp) (fun k hk => hk ▸ Nat.le_refl _))⟩
end Go.Proofs.YthfkmfepeafgjaaGreatDoor
