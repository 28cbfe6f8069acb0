/- taproothand.Kind of an error in one Step. Condition: errors.errorType holds what its text lays. -/
import Derived.Test.YtfneadlknieppaaGreatDoorGenAs
namespace Go.Proofs.YtfneadlknieppaaGreatDoor
open Go.RowKit Go.Extern.Stop Go.Stop Go.Extern

theorem hto1 (v : Value) (w : World) : (ReflectliteType.typeOf #[.iface 128 v]).run Tryz.prog w = .ok (.iface 158 (.agg #[hd 128])) w := by kernel_rfl
theorem hna1 (v : Value) (xT : TypeId) (w : World) : (Instr.typeAssert (.iface 128 v) xT 163 true).run Tryz.prog w = .ok (.tuple #[.nilIface, .bool false]) w := run_typeAssert_lacksB Tryz.underlying163 (by kernel_rfl) (by kernel_rfl) v xT w
theorem hhu1 (v : Value) (xT : TypeId) (w : World) : (Instr.typeAssert (.iface 128 v) xT 166 true).run Tryz.prog w = .ok (.tuple #[.iface 128 v, .bool true]) w := run_typeAssert_hasB Tryz.underlying166 (by kernel_rfl) v xT w
theorem hmu1 (v : Value) (w : World) : (Go.method 336 128 v "Unwrap").run Tryz.prog w = .ok (162, v) w := by kernel_rfl
theorem asg1 (w : World) : (ReflectliteType.relation "AssignableTo" ReflectliteType.assignableTo #[.agg #[hd 128], .iface 158 (.agg #[hd 38])]).run Tryz.prog w = .ok (.bool false) w := by kernel_rfl
theorem unw1 (w : World) (p : Nat) (s : ByteArray) (t : TypeId) (x : Value) (h : w.heap[p]? = some (.cells #[.string s, .iface t x] 130 (0, 0))) : Calls Tryz.prog 162 #[.pointer (some ⟨p, 0, none⟩)] w fun e w' => e = .returned (.iface t x) ∧ w = w' := by
  have c1 := cell_obj h 1 (u := .iface t x) rfl
  clear h
  go_enter Tryz.func162, Tryz.ntmps162
  go_wp2
  go_ret
  exact ⟨rfl, rfl⟩
set_option maxHeartbeats 4000000 in
theorem as1_walk (w : World) (k : Int) (p : Nat) (s : ByteArray) (a tb : Nat) (old : Value) (hp : w.heap[p]? = some (.cells #[.string s, kind k] 130 (0, 0)))
    (ha : w.cell? ⟨a, 0, none⟩ = some (.pointer (some ⟨tb, 0, none⟩))) (htb : w.heap[tb]? = some (.cells #[old] 38 (0, 0))) :
    Calls Tryz.prog 70 #[.iface 128 (.pointer (some ⟨p, 0, none⟩)), .iface 80 (.pointer (some ⟨tb, 0, none⟩)), .agg #[hd 80, .pointer (some ⟨a, 0, none⟩), .int .u64 150], .iface 158 (.agg #[hd 38])] w fun e w' => AsPost w tb 38 old (some (.int .i64 k)) e w' := by
  have xT := @run_callFunc_extern Tryz.prog 95 _ ReflectliteType.typeOf Tryz.func95 (by kernel_rfl) (by kernel_rfl) (by kernel_rfl) (by kernel_rfl)
  have xV := @run_callFunc_extern Tryz.prog 67 _ (fun args => ReflectliteValue.unpack (args.getD 0 (.tuple #[]))) Tryz.func67 (by kernel_rfl) (by kernel_rfl) (by kernel_rfl) (by kernel_rfl)
  have xA := @run_callFunc_extern Tryz.prog 164 _ (ReflectliteType.relation "AssignableTo" ReflectliteType.assignableTo) Tryz.func164 (by kernel_rfl) (by kernel_rfl) (by kernel_rfl) (by kernel_rfl)
  have xE := @run_callFunc_extern Tryz.prog 96 _ (ReflectliteValue.method (ReflectliteValue.valueError "reflectlite.Value.Elem" 0) ReflectliteValue.elem) Tryz.func96 (by kernel_rfl) (by kernel_rfl) (by kernel_rfl) (by kernel_rfl)
  have xS := @run_callFunc_extern Tryz.prog 97 _ ReflectliteValue.set Tryz.func97 (by kernel_rfl) (by kernel_rfl) (by kernel_rfl) (by kernel_rfl)
  have mA := m_asg
  have hlt : a < w.heap.size := World.block_lt_of_cell? w _ ha
  have htl := (Array.getElem?_eq_some_iff.1 htb).1
  have hpl := (Array.getElem?_eq_some_iff.1 hp).1
  have el := elE ⟨a, 0, none⟩ ⟨tb, 0, none⟩ (w.alloc (.cells #[hd 80, .pointer (some ⟨a, 0, none⟩), .int .u64 150] 118)) (by rw [World.cell?_alloc_lt _ _ ⟨a, 0, none⟩ hlt]; exact ha)
  have hst := stE ⟨tb, 0, none⟩ ⟨w.heap.size + 1, 0, none⟩ k old ((w.alloc (.cells #[hd 80, .pointer (some ⟨a, 0, none⟩), .int .u64 150] 118)).alloc (.cells #[.int .i64 k] 38))
    (by rw [World.cell?_alloc_at _ _ _ _ (by simp)]; rfl)
    (by rw [World.cell?_alloc_lt _ _ ⟨tb, 0, none⟩ (by simp; omega), World.cell?_alloc_lt _ _ ⟨tb, 0, none⟩ htl]; exact cell_obj htb 0 rfl)
    (by rw [World.frozen?_alloc_old _ _ ⟨tb, 0, none⟩ (by simp; omega), World.frozen?_alloc_old _ _ ⟨tb, 0, none⟩ (Nat.ne_of_lt htl)]; exact free_of_one htb)
  have HTB := Lib.hid htb
  have HU := Lib.hid (unw1 (w.alloc (.cells #[hd 80, .pointer (some ⟨a, 0, none⟩), .int .u64 150] 118)) p s 38 (.int .i64 k) (by rw [Below.heap_alloc _ _ _ hpl]; exact hp))
  have hto := toE
  have hA := asgE
  have hvs := fun w => vsE k w
  have hto1 := hto1
  have hna1 := hna1
  have hhu1 := hhu1
  have hmu1 := hmu1
  have hA1 := asg1
  have hnn := nil_iface 38 (.int .i64 k)
  clear htb ha hlt htl hp hpl
  go_enter Tryz.func70, Tryz.ntmps70
  go_wp2
  refine wp_loop_rounds 2 ?_
  rw [rounds_succ]
  go_wp2_with (go_at_call 162; refine HU.out.mono ?_; rintro e w' ⟨rfl, rfl⟩)
  rw [rounds_succ]
  go_wp2
  go_ret
  exact post_hit rfl HTB.out rfl
set_option maxHeartbeats 4000000 in
theorem as1_any (w : World) (k : Int) (p : Nat) (s : ByteArray) (hp : w.heap[p]? = some (.cells #[.string s, kind k] 130 (0, 0))) (hg : Glob w) (tb : Nat) (old : Value) (htb : w.heap[tb]? = some (.cells #[old] 38 (0, 0))) :
    Calls Tryz.prog 35 #[.iface 128 (.pointer (some ⟨p, 0, none⟩)), .iface 80 (.pointer (some ⟨tb, 0, none⟩))] w fun e w' => AsPost w tb 38 old (some (.int .i64 k)) e w' := by
  have xV := @run_callFunc_extern Tryz.prog 67 _ (fun args => ReflectliteValue.unpack (args.getD 0 (.tuple #[]))) Tryz.func67 (by kernel_rfl) (by kernel_rfl) (by kernel_rfl) (by kernel_rfl)
  have xY := @run_callFunc_extern Tryz.prog 68 _ (ReflectliteValue.methodAny (ReflectliteValue.valueError "reflectlite.Value.Type" 0) (fun t _ _ _ => ReflectliteType.toType t)) Tryz.func68 (by kernel_rfl) (by kernel_rfl) (by kernel_rfl) (by kernel_rfl)
  have xN := @run_callFunc_extern Tryz.prog 69 _ (ReflectliteValue.method (ReflectliteValue.valueError "reflectlite.Value.IsNil" 0) ReflectliteValue.isNil) Tryz.func69 (by kernel_rfl) (by kernel_rfl) (by kernel_rfl) (by kernel_rfl)
  have xK := @run_callFunc_extern Tryz.prog 154 _ (ReflectliteType.abiMethod fun t => do pure (.int .u8 (← Rtype.kind t))) Tryz.func154 (by kernel_rfl) (by kernel_rfl) (by kernel_rfl) (by kernel_rfl)
  have xE := @run_callFunc_extern Tryz.prog 166 _ (ReflectliteType.method ReflectliteType.elem) Tryz.func166 (by kernel_rfl) (by kernel_rfl) (by kernel_rfl) (by kernel_rfl)
  have xI := @run_callFunc_extern Tryz.prog 167 _ (ReflectliteType.relation "Implements" ReflectliteType.implements_) Tryz.func167 (by kernel_rfl) (by kernel_rfl) (by kernel_rfl) (by kernel_rfl)
  have mK := m_kind
  have mE := m_elem
  have mI := m_impl
  have vo := voE
  have ty := tyE
  have k1 := k1E
  have k2 := k2E
  have me := meE
  have im := imE
  have hlt := World.block_lt_of_cell? w _ hg
  have htl := (Array.getElem?_eq_some_iff.1 htb).1
  have hpl := (Array.getElem?_eq_some_iff.1 hp).1
  have n8 := nilE ⟨w.heap.size, 0, none⟩ ⟨tb, 0, none⟩ ((w.alloc (.cells #[.pointer (some ⟨tb, 0, none⟩)] 80)).alloc (.cells #[hd 80, .pointer (some ⟨w.heap.size, 0, none⟩), .int .u64 150] 118)) (by simp)
  have hg2 : ((w.alloc (.cells #[.pointer (some ⟨tb, 0, none⟩)] 80)).alloc (.cells #[hd 80, .pointer (some ⟨w.heap.size, 0, none⟩), .int .u64 150] 118)).cell? ⟨0, 0, none⟩ = some (.iface 158 (.agg #[hd 41])) := by
    rw [World.cell?_alloc_lt _ _ ⟨0, 0, none⟩ (Nat.lt_of_lt_of_le hlt (by simp)), World.cell?_alloc_lt _ _ ⟨0, 0, none⟩ hlt]; exact hg
  have HW := Lib.hid (as1_walk ((w.alloc (.cells #[.pointer (some ⟨tb, 0, none⟩)] 80)).alloc (.cells #[hd 80, .pointer (some ⟨w.heap.size, 0, none⟩), .int .u64 150] 118)) k p s w.heap.size tb old (by rw [Below.heap_alloc _ _ _ (by simp; omega), Below.heap_alloc _ _ _ hpl]; exact hp) (by simp)
    (by rw [Below.heap_alloc _ _ _ (by simp; omega), Below.heap_alloc _ _ _ htl]; exact htb))
  have hnn := nil_iface 128 (.pointer (some ⟨p, 0, none⟩))
  have hn2 : ∀ w : World, (binOp .eql 20 (.iface 80 (.pointer (some ⟨tb, 0, none⟩))) .nilIface).run Tryz.prog w = .ok (.bool false) w := fun w => by kernel_rfl
  clear hg hlt htl htb hp hpl
  go_enter Tryz.func35, Tryz.ntmps35
  go_wp2_with (go_at_call 70; refine HW.out.mono ?_; rintro e w' R; have HR := Lib.hid R; clear R; obtain rfl := HR.out.1)
  go_ret
  exact postE_up HR.out
set_option maxHeartbeats 800000 in
theorem khand_step (w : World) (k : Int) (p : Nat) (s : ByteArray) (hp : w.heap[p]? = some (.cells #[.string s, kind k] 130 (0, 0))) (hg : Glob w) : Calls Tryz.prog 13 #[.iface 128 (.pointer (some ⟨p, 0, none⟩))] w fun e w' => e = .returned (.int .i64 k) ∧ Below w.heap.size w w' := by
  have hn := nil_iface 128 (.pointer (some ⟨p, 0, none⟩))
  have hH := heap_alloc_new w (.cells #[.int .i64 0] 38)
  have hA := Lib.hid (as1_any (w.alloc (.cells #[.int .i64 0] 38)) k p s (by rw [Below.heap_alloc _ _ _ (Array.getElem?_eq_some_iff.1 hp).1]; exact hp) (hg.kb ((Below.refl _ _).alloc (Nat.le_refl _) _)) w.heap.size _ hH)
  clear hH hg hp
  go_enter Tryz.func13, Tryz.ntmps13
  go_wp2_with (go_at_call 35; refine hA.out.mono ?_; rintro e w' ⟨rfl, R1, R2⟩; have HR := Lib.hid R1; have hc := cell_obj R2 0 rfl; clear R1 R2; simp only [Option.isSome, Option.getD] at hc ⊢)
  go_ret
  exact ⟨rfl, ((Below.refl _ _).alloc (Nat.le_refl _) _).trans (HR.out.below (by simp) (fun k hk => hk ▸ Nat.le_refl _))⟩
end Go.Proofs.YtfneadlknieppaaGreatDoor
