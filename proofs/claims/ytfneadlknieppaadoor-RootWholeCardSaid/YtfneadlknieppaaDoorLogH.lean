/- taproothand.Kind of an error in one Step. Condition: errors.errorType holds what its text lays. -/
import Derived.Test.YtfneadlknieppaaDoorGenAs
namespace Go.Proofs.YtfneadlknieppaaDoor
open Go.RowKit Go.Extern.Stop Go.Stop Go.Extern

theorem hto1 (v : Value) (w : World) : (ReflectliteType.typeOf #[.iface 102 v]).run Tryd.prog w = .ok (.iface 135 (.agg #[hd 102])) w := by kernel_rfl
theorem hna1 (v : Value) (xT : TypeId) (w : World) : (Instr.typeAssert (.iface 102 v) xT 139 true).run Tryd.prog w = .ok (.tuple #[.nilIface, .bool false]) w := run_typeAssert_lacksB Tryd.underlying139 (by kernel_rfl) (by kernel_rfl) v xT w
theorem hhu1 (v : Value) (xT : TypeId) (w : World) : (Instr.typeAssert (.iface 102 v) xT 142 true).run Tryd.prog w = .ok (.tuple #[.iface 102 v, .bool true]) w := run_typeAssert_hasB Tryd.underlying142 (by kernel_rfl) v xT w
theorem hmu1 (v : Value) (w : World) : (Go.method 282 102 v "Unwrap").run Tryd.prog w = .ok (110, v) w := by kernel_rfl
theorem asg1 (w : World) : (ReflectliteType.relation "AssignableTo" ReflectliteType.assignableTo #[.agg #[hd 102], .iface 135 (.agg #[hd 37])]).run Tryd.prog w = .ok (.bool false) w := by kernel_rfl
theorem unw1 (w : World) (p : Nat) (s : ByteArray) (t : TypeId) (x : Value) (h : w.heap[p]? = some (.cells #[.string s, .iface t x] 104 (0, 0))) : Calls Tryd.prog 110 #[.pointer (some ⟨p, 0, none⟩)] w fun e w' => e = .returned (.iface t x) ∧ w = w' := by
  have c1 := cell_obj h 1 (u := .iface t x) rfl
  clear h
  go_enter Tryd.func110, Tryd.ntmps110
  go_wp2
  go_ret
  exact ⟨rfl, rfl⟩
set_option maxHeartbeats 4000000 in
theorem as1_walk (w : World) (k : Int) (p : Nat) (s : ByteArray) (a tb : Nat) (old : Value) (hp : w.heap[p]? = some (.cells #[.string s, kind k] 104 (0, 0)))
    (ha : w.cell? ⟨a, 0, none⟩ = some (.pointer (some ⟨tb, 0, none⟩))) (htb : w.heap[tb]? = some (.cells #[old] 37 (0, 0))) :
    Calls Tryd.prog 62 #[.iface 102 (.pointer (some ⟨p, 0, none⟩)), .iface 76 (.pointer (some ⟨tb, 0, none⟩)), .agg #[hd 76, .pointer (some ⟨a, 0, none⟩), .int .u64 150], .iface 135 (.agg #[hd 37])] w fun e w' => AsPost w tb 37 old (some (.int .i64 k)) e w' := by
  have xT := @run_callFunc_extern Tryd.prog 81 _ ReflectliteType.typeOf Tryd.func81 (by kernel_rfl) (by kernel_rfl) (by kernel_rfl) (by kernel_rfl)
  have xV := @run_callFunc_extern Tryd.prog 59 _ (fun args => ReflectliteValue.unpack (args.getD 0 (.tuple #[]))) Tryd.func59 (by kernel_rfl) (by kernel_rfl) (by kernel_rfl) (by kernel_rfl)
  have xA := @run_callFunc_extern Tryd.prog 115 _ (ReflectliteType.relation "AssignableTo" ReflectliteType.assignableTo) Tryd.func115 (by kernel_rfl) (by kernel_rfl) (by kernel_rfl) (by kernel_rfl)
  have xE := @run_callFunc_extern Tryd.prog 83 _ (ReflectliteValue.method (ReflectliteValue.valueError "reflectlite.Value.Elem" 0) ReflectliteValue.elem) Tryd.func83 (by kernel_rfl) (by kernel_rfl) (by kernel_rfl) (by kernel_rfl)
  have xS := @run_callFunc_extern Tryd.prog 84 _ ReflectliteValue.set Tryd.func84 (by kernel_rfl) (by kernel_rfl) (by kernel_rfl) (by kernel_rfl)
  have mA := m_asg
  have hlt : a < w.heap.size := World.block_lt_of_cell? w _ ha
  have htl := (Array.getElem?_eq_some_iff.1 htb).1
  have hpl := (Array.getElem?_eq_some_iff.1 hp).1
  have el := elE ⟨a, 0, none⟩ ⟨tb, 0, none⟩ (w.alloc (.cells #[hd 76, .pointer (some ⟨a, 0, none⟩), .int .u64 150] 113)) (by rw [World.cell?_alloc_lt _ _ ⟨a, 0, none⟩ hlt]; exact ha)
  have hst := stE ⟨tb, 0, none⟩ ⟨w.heap.size + 1, 0, none⟩ k old ((w.alloc (.cells #[hd 76, .pointer (some ⟨a, 0, none⟩), .int .u64 150] 113)).alloc (.cells #[.int .i64 k] 37))
    (by rw [World.cell?_alloc_at _ _ _ _ (by simp)]; rfl)
    (by rw [World.cell?_alloc_lt _ _ ⟨tb, 0, none⟩ (by simp; omega), World.cell?_alloc_lt _ _ ⟨tb, 0, none⟩ htl]; exact cell_obj htb 0 rfl)
    (by rw [World.frozen?_alloc_old _ _ ⟨tb, 0, none⟩ (by simp; omega), World.frozen?_alloc_old _ _ ⟨tb, 0, none⟩ (Nat.ne_of_lt htl)]; exact free_of_one htb)
  have HTB := Lib.hid htb
  have HU := Lib.hid (unw1 (w.alloc (.cells #[hd 76, .pointer (some ⟨a, 0, none⟩), .int .u64 150] 113)) p s 37 (.int .i64 k) (by rw [Below.heap_alloc _ _ _ hpl]; exact hp))
  have hto := toE
  have hA := asgE
  have hvs := fun w => vsE k w
  have hto1 := hto1
  have hna1 := hna1
  have hhu1 := hhu1
  have hmu1 := hmu1
  have hA1 := asg1
  have hnn := nil_iface 37 (.int .i64 k)
  clear htb ha hlt htl hp hpl
  go_enter Tryd.func62, Tryd.ntmps62
  go_wp2
  refine wp_loop_rounds 2 ?_
  rw [rounds_succ]
  go_wp2_with (go_at_call 110; refine HU.out.mono ?_; rintro e w' ⟨rfl, rfl⟩)
  rw [rounds_succ]
  go_wp2
  go_ret
  exact post_hit rfl HTB.out rfl
set_option maxHeartbeats 4000000 in
theorem as1_any (w : World) (k : Int) (p : Nat) (s : ByteArray) (hp : w.heap[p]? = some (.cells #[.string s, kind k] 104 (0, 0))) (hg : Glob w) (tb : Nat) (old : Value) (htb : w.heap[tb]? = some (.cells #[old] 37 (0, 0))) :
    Calls Tryd.prog 34 #[.iface 102 (.pointer (some ⟨p, 0, none⟩)), .iface 76 (.pointer (some ⟨tb, 0, none⟩))] w fun e w' => AsPost w tb 37 old (some (.int .i64 k)) e w' := by
  have xV := @run_callFunc_extern Tryd.prog 59 _ (fun args => ReflectliteValue.unpack (args.getD 0 (.tuple #[]))) Tryd.func59 (by kernel_rfl) (by kernel_rfl) (by kernel_rfl) (by kernel_rfl)
  have xY := @run_callFunc_extern Tryd.prog 60 _ (ReflectliteValue.methodAny (ReflectliteValue.valueError "reflectlite.Value.Type" 0) (fun t _ _ _ => ReflectliteType.toType t)) Tryd.func60 (by kernel_rfl) (by kernel_rfl) (by kernel_rfl) (by kernel_rfl)
  have xN := @run_callFunc_extern Tryd.prog 61 _ (ReflectliteValue.method (ReflectliteValue.valueError "reflectlite.Value.IsNil" 0) ReflectliteValue.isNil) Tryd.func61 (by kernel_rfl) (by kernel_rfl) (by kernel_rfl) (by kernel_rfl)
  have xK := @run_callFunc_extern Tryd.prog 105 _ (ReflectliteType.abiMethod fun t => do pure (.int .u8 (← Rtype.kind t))) Tryd.func105 (by kernel_rfl) (by kernel_rfl) (by kernel_rfl) (by kernel_rfl)
  have xE := @run_callFunc_extern Tryd.prog 117 _ (ReflectliteType.method ReflectliteType.elem) Tryd.func117 (by kernel_rfl) (by kernel_rfl) (by kernel_rfl) (by kernel_rfl)
  have xI := @run_callFunc_extern Tryd.prog 118 _ (ReflectliteType.relation "Implements" ReflectliteType.implements_) Tryd.func118 (by kernel_rfl) (by kernel_rfl) (by kernel_rfl) (by kernel_rfl)
  have mK := m_kind
  have mE := m_elem
  have mI := m_impl
  have vo := voE
  have ty := tyE
  have k1 := k1E
  have k2 := k2E
  have me := meE
  have im := imE
  have hlt := World.block_lt_of_cell? w _ hg
  have htl := (Array.getElem?_eq_some_iff.1 htb).1
  have hpl := (Array.getElem?_eq_some_iff.1 hp).1
  have n8 := nilE ⟨w.heap.size, 0, none⟩ ⟨tb, 0, none⟩ ((w.alloc (.cells #[.pointer (some ⟨tb, 0, none⟩)] 76)).alloc (.cells #[hd 76, .pointer (some ⟨w.heap.size, 0, none⟩), .int .u64 150] 113)) (by simp)
  have hg2 : ((w.alloc (.cells #[.pointer (some ⟨tb, 0, none⟩)] 76)).alloc (.cells #[hd 76, .pointer (some ⟨w.heap.size, 0, none⟩), .int .u64 150] 113)).cell? ⟨0, 0, none⟩ = some (.iface 135 (.agg #[hd 26])) := by
    rw [World.cell?_alloc_lt _ _ ⟨0, 0, none⟩ (Nat.lt_of_lt_of_le hlt (by simp)), World.cell?_alloc_lt _ _ ⟨0, 0, none⟩ hlt]; exact hg
  have HW := Lib.hid (as1_walk ((w.alloc (.cells #[.pointer (some ⟨tb, 0, none⟩)] 76)).alloc (.cells #[hd 76, .pointer (some ⟨w.heap.size, 0, none⟩), .int .u64 150] 113)) k p s w.heap.size tb old (by rw [Below.heap_alloc _ _ _ (by simp; omega), Below.heap_alloc _ _ _ hpl]; exact hp) (by simp)
    (by rw [Below.heap_alloc _ _ _ (by simp; omega), Below.heap_alloc _ _ _ htl]; exact htb))
  have hnn := nil_iface 102 (.pointer (some ⟨p, 0, none⟩))
  have hn2 : ∀ w : World, (binOp .eql 20 (.iface 76 (.pointer (some ⟨tb, 0, none⟩))) .nilIface).run Tryd.prog w = .ok (.bool false) w := fun w => by kernel_rfl
  clear hg hlt htl htb hp hpl
  go_enter Tryd.func34, Tryd.ntmps34
  go_wp2_with (go_at_call 62; refine HW.out.mono ?_; rintro e w' R; have HR := Lib.hid R; clear R; obtain rfl := HR.out.1)
  go_ret
  exact postE_up HR.out
set_option maxHeartbeats 800000 in
theorem khand_step (w : World) (k : Int) (p : Nat) (s : ByteArray) (hp : w.heap[p]? = some (.cells #[.string s, kind k] 104 (0, 0))) (hg : Glob w) : Calls Tryd.prog 12 #[.iface 102 (.pointer (some ⟨p, 0, none⟩))] w fun e w' => e = .returned (.int .i64 k) ∧ Below w.heap.size w w' := by
  have hn := nil_iface 102 (.pointer (some ⟨p, 0, none⟩))
  have hH := heap_alloc_new w (.cells #[.int .i64 0] 37)
  have hA := Lib.hid (as1_any (w.alloc (.cells #[.int .i64 0] 37)) k p s (by rw [Below.heap_alloc _ _ _ (Array.getElem?_eq_some_iff.1 hp).1]; exact hp) (hg.kb ((Below.refl _ _).alloc (Nat.le_refl _) _)) w.heap.size _ hH)
  clear hH hg hp
  go_enter Tryd.func12, Tryd.ntmps12
  go_wp2_with (go_at_call 34; refine hA.out.mono ?_; rintro e w' ⟨rfl, R1, R2⟩; have HR := Lib.hid R1; have hc := cell_obj R2 0 rfl; clear R1 R2; simp only [Option.isSome, Option.getD] at hc ⊢)
  go_ret
  exact ⟨rfl, ((Below.refl _ _).alloc (Nat.le_refl _) _).trans (HR.out.below (by simp) (fun k hk => hk ▸ Nat.le_refl _))⟩
end Go.Proofs.YtfneadlknieppaaDoor
