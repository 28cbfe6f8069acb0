/- errors.As at a target of type api.Errno over an error that is an api.Errno, and taproothand.Kind of such errors. Condition: errors.errorType holds what its text lays. -/
import Derived.Test.YtemfblhlkonlpaaDoorGenAsF
namespace Go.Proofs.YtemfblhlkonlpaaDoor
open Go.RowKit Go.Extern.Stop Go.Stop Go.Extern

/-- The variable errors.errorType holds the handle of the type error. -/
def Glob (w : World) : Prop := w.cell? ⟨0, 0, none⟩ = some (.iface 144 (.agg #[hd 25]))
theorem Glob.kb {w w' : World} (h : Glob w) (hb : Below w.heap.size w w') : Glob w' := by
  have h2 := World.block_lt_of_cell? w _ h
  unfold Glob
  rw [World.cell?_of_block (w := w) (hb.block _ h2)]
  exact h

/-- Behind errors.As: the target at block tb holds what was found, or what it held. -/
def AsPost (w : World) (tb : Nat) (t : TypeId) (old : Value) (r : Option Value) (e : Ending) (w' : World) : Prop :=
  e = .returned (.bool r.isSome) ∧ Only (fun k => k = tb) w w' ∧ w'.heap[tb]? = some (.cells #[r.getD old] t (0, 0))

theorem cell_obj {w : World} {p : Nat} {cs : Array Value} {T : TypeId} (h : w.heap[p]? = some (.cells cs T (0, 0))) (j : Nat) {u : Value} (hu : cs[j]? = some u) : w.cell? ⟨p, j, none⟩ = some u := by
  rw [cell_of_row w p j cs T (0, 0) h]; exact hu

theorem post_hit {t : TypeId} {w : World} {tb a : Nat} {old x : Value} {r : Option Value} {o1 o2 : Obj} (hr : r = some x) (htb : w.heap[tb]? = some (.cells #[old] t (0, 0))) (ha : a = tb) :
    AsPost w tb t old r (.returned (.bool true)) (((w.alloc o1).alloc o2).setCell ⟨a, 0, none⟩ x) := by
  subst hr
  subst ha
  have hlt := (Array.getElem?_eq_some_iff.1 htb).1
  refine ⟨rfl, Only.setCell (S := fun k => k = a) (((Only.refl _ _).alloc _).alloc _) rfl _, ?_⟩
  refine one_setCell (v := old) ?_
  rw [Below.heap_alloc _ _ _ (by simp; omega), Below.heap_alloc _ _ _ hlt]
  exact htb

/-- The error that is the kind k. -/
abbrev kind (k : Int) : Value := .iface 29 (.int .i64 k)

set_option maxHeartbeats 4000000 in
theorem asE_walk (w : World) (k : Int) (a tb : Nat) (old : Value)
    (ha : w.cell? ⟨a, 0, none⟩ = some (.pointer (some ⟨tb, 0, none⟩))) (htb : w.heap[tb]? = some (.cells #[old] 29 (0, 0))) :
    Calls Tryd.prog 52 #[kind k, .iface 118 (.pointer (some ⟨tb, 0, none⟩)), .agg #[hd 118, .pointer (some ⟨a, 0, none⟩), .int .u64 150], .iface 144 (.agg #[hd 29])] w fun e w' => AsPost w tb 29 old (some (.int .i64 k)) e w' := by
  have xT := @run_callFunc_extern Tryd.prog 55 _ ReflectliteType.typeOf Tryd.func55 (by kernel_rfl) (by kernel_rfl) (by kernel_rfl) (by kernel_rfl)
  have xV := @run_callFunc_extern Tryd.prog 49 _ (fun args => ReflectliteValue.unpack (args.getD 0 (.tuple #[]))) Tryd.func49 (by kernel_rfl) (by kernel_rfl) (by kernel_rfl) (by kernel_rfl)
  have xA := @run_callFunc_extern Tryd.prog 162 _ (ReflectliteType.relation "AssignableTo" ReflectliteType.assignableTo) Tryd.func162 (by kernel_rfl) (by kernel_rfl) (by kernel_rfl) (by kernel_rfl)
  have xE := @run_callFunc_extern Tryd.prog 75 _ (ReflectliteValue.method (ReflectliteValue.valueError "reflectlite.Value.Elem" 0) ReflectliteValue.elem) Tryd.func75 (by kernel_rfl) (by kernel_rfl) (by kernel_rfl) (by kernel_rfl)
  have xS := @run_callFunc_extern Tryd.prog 76 _ ReflectliteValue.set Tryd.func76 (by kernel_rfl) (by kernel_rfl) (by kernel_rfl) (by kernel_rfl)
  have mA := m_asg
  have hlt : a < w.heap.size := World.block_lt_of_cell? w _ ha
  have htl := (Array.getElem?_eq_some_iff.1 htb).1
  have el := elE ⟨a, 0, none⟩ ⟨tb, 0, none⟩ (w.alloc (.cells #[hd 118, .pointer (some ⟨a, 0, none⟩), .int .u64 150] 98)) (by rw [World.cell?_alloc_lt _ _ ⟨a, 0, none⟩ hlt]; exact ha)
  have hst := stE ⟨tb, 0, none⟩ ⟨w.heap.size + 1, 0, none⟩ k old ((w.alloc (.cells #[hd 118, .pointer (some ⟨a, 0, none⟩), .int .u64 150] 98)).alloc (.cells #[.int .i64 k] 29))
    (by rw [World.cell?_alloc_at _ _ _ _ (by simp)]; rfl)
    (by rw [World.cell?_alloc_lt _ _ ⟨tb, 0, none⟩ (by simp; omega), World.cell?_alloc_lt _ _ ⟨tb, 0, none⟩ htl]; exact cell_obj htb 0 rfl)
    (by rw [World.frozen?_alloc_old _ _ ⟨tb, 0, none⟩ (by simp; omega), World.frozen?_alloc_old _ _ ⟨tb, 0, none⟩ (Nat.ne_of_lt htl)]; exact free_of_one htb)
  have HTB := Lib.hid htb
  have hto := toE
  have hA := asgE
  have hvs := fun w => vsE k w
  clear htb ha hlt htl
  go_enter Tryd.func52, Tryd.ntmps52
  go_wp2
  refine wp_loop_rounds 1 ?_; rw [rounds_succ]; go_wp2
  go_ret
  exact post_hit rfl HTB.out rfl

theorem postE_up {t : TypeId} {w : World} {tb : Nat} {old : Value} {r : Option Value} {o1 o2 : Obj} {e : Ending} {w' : World} (h : AsPost ((w.alloc o1).alloc o2) tb t old r e w') : AsPost w tb t old r e w' :=
  ⟨h.1, (((Only.refl (fun k => k = tb) w).alloc o1).alloc o2).trans h.2.1 (fun _ h => h) (fun _ _ h => h), h.2.2⟩

set_option maxHeartbeats 4000000 in
theorem asE_any (w : World) (k : Int) (hg : Glob w) (tb : Nat) (old : Value) (htb : w.heap[tb]? = some (.cells #[old] 29 (0, 0))) :
    Calls Tryd.prog 16 #[kind k, .iface 118 (.pointer (some ⟨tb, 0, none⟩))] w fun e w' => AsPost w tb 29 old (some (.int .i64 k)) e w' := by
  have xV := @run_callFunc_extern Tryd.prog 49 _ (fun args => ReflectliteValue.unpack (args.getD 0 (.tuple #[]))) Tryd.func49 (by kernel_rfl) (by kernel_rfl) (by kernel_rfl) (by kernel_rfl)
  have xY := @run_callFunc_extern Tryd.prog 50 _ (ReflectliteValue.methodAny (ReflectliteValue.valueError "reflectlite.Value.Type" 0) (fun t _ _ _ => ReflectliteType.toType t)) Tryd.func50 (by kernel_rfl) (by kernel_rfl) (by kernel_rfl) (by kernel_rfl)
  have xN := @run_callFunc_extern Tryd.prog 51 _ (ReflectliteValue.method (ReflectliteValue.valueError "reflectlite.Value.IsNil" 0) ReflectliteValue.isNil) Tryd.func51 (by kernel_rfl) (by kernel_rfl) (by kernel_rfl) (by kernel_rfl)
  have xK := @run_callFunc_extern Tryd.prog 120 _ (ReflectliteType.abiMethod fun t => do pure (.int .u8 (← Rtype.kind t))) Tryd.func120 (by kernel_rfl) (by kernel_rfl) (by kernel_rfl) (by kernel_rfl)
  have xE := @run_callFunc_extern Tryd.prog 164 _ (ReflectliteType.method ReflectliteType.elem) Tryd.func164 (by kernel_rfl) (by kernel_rfl) (by kernel_rfl) (by kernel_rfl)
  have xI := @run_callFunc_extern Tryd.prog 165 _ (ReflectliteType.relation "Implements" ReflectliteType.implements_) Tryd.func165 (by kernel_rfl) (by kernel_rfl) (by kernel_rfl) (by kernel_rfl)
  have mK := m_kind
  have mE := m_elem
  have mI := m_impl
  have vo := voE
  have ty := tyE
  have k1 := k1E
  have k2 := k2E
  have me := meE
  have im := imE
  have hlt := World.block_lt_of_cell? w _ hg
  have htl := (Array.getElem?_eq_some_iff.1 htb).1
  have n8 := nilE ⟨w.heap.size, 0, none⟩ ⟨tb, 0, none⟩ ((w.alloc (.cells #[.pointer (some ⟨tb, 0, none⟩)] 118)).alloc (.cells #[hd 118, .pointer (some ⟨w.heap.size, 0, none⟩), .int .u64 150] 98)) (by simp)
  have hg2 : ((w.alloc (.cells #[.pointer (some ⟨tb, 0, none⟩)] 118)).alloc (.cells #[hd 118, .pointer (some ⟨w.heap.size, 0, none⟩), .int .u64 150] 98)).cell? ⟨0, 0, none⟩ = some (.iface 144 (.agg #[hd 25])) := by
    rw [World.cell?_alloc_lt _ _ ⟨0, 0, none⟩ (Nat.lt_of_lt_of_le hlt (by simp)), World.cell?_alloc_lt _ _ ⟨0, 0, none⟩ hlt]; exact hg
  have HW := Lib.hid (asE_walk ((w.alloc (.cells #[.pointer (some ⟨tb, 0, none⟩)] 118)).alloc (.cells #[hd 118, .pointer (some ⟨w.heap.size, 0, none⟩), .int .u64 150] 98)) k w.heap.size tb old (by simp)
    (by rw [Below.heap_alloc _ _ _ (by simp; omega), Below.heap_alloc _ _ _ htl]; exact htb))
  have hnn := nil_iface 29 (.int .i64 k)
  have hn2 : ∀ w : World, (binOp .eql 20 (.iface 118 (.pointer (some ⟨tb, 0, none⟩))) .nilIface).run Tryd.prog w = .ok (.bool false) w := fun w => by kernel_rfl
  clear hg hlt htl htb
  go_enter Tryd.func16, Tryd.ntmps16
  go_wp2_with (go_at_call 52; refine HW.out.mono ?_; rintro e w' R; have HR := Lib.hid R; clear R; obtain rfl := HR.out.1)
  go_ret
  exact postE_up HR.out

/-- An error or none, by its number: none for 0. -/
def errOf (k : Int) : Value := if k = 0 then .nilIface else kind k

set_option maxHeartbeats 800000 in
theorem khand_any (w : World) (k : Int) (hg : Glob w) : Calls Tryd.prog 23 #[errOf k] w fun e w' => e = .returned (.int .i64 k) ∧ Below w.heap.size w w' := by
  unfold errOf
  by_cases h0 : k = 0
  · subst h0
    have hn := nil_nil
    rw [if_pos rfl]
    go_enter Tryd.func23, Tryd.ntmps23
    go_wp2
    go_ret
    exact ⟨rfl, Below.refl _ _⟩
  · rw [if_neg h0]
    have hn := nil_iface 29 (.int .i64 k)
    have hH := heap_alloc_new w (.cells #[.int .i64 0] 29)
    have hA := Lib.hid (asE_any (w.alloc (.cells #[.int .i64 0] 29)) k (hg.kb ((Below.refl _ _).alloc (Nat.le_refl _) _)) w.heap.size _ hH)
    clear h0 hH hg
    go_enter Tryd.func23, Tryd.ntmps23
    go_wp2_with (go_at_call 16; refine hA.out.mono ?_; rintro e w' ⟨rfl, R1, R2⟩; have HR := Lib.hid R1; have hc := cell_obj R2 0 rfl; clear R1 R2; simp only [Option.isSome, Option.getD] at hc ⊢)
    go_ret
    exact ⟨rfl, ((Below.refl _ _).alloc (Nat.le_refl _) _).trans (HR.out.below (by simp) (fun k hk => hk ▸ Nat.le_refl _))⟩
end Go.Proofs.YtemfblhlkonlpaaDoor
