/- errors.As as a whole. Condition: errors.errorType holds what its text lays. -/
import Derived.Test.YtageblggakfbdaaDoorOopsAs
namespace Go.Proofs.YtageblggakfbdaaDoor
open Go.RowKit Go.Extern.Stop Go.Stop Go.Extern
variable {tt t : TypeId} {kd f0 f1 : Int} {ok : Value → Prop}

theorem as_nil (x : Value) (w : World) : Calls Tryd.prog 14 #[.nilIface, x] w fun e w' => e = .returned (.bool false) ∧ w = w' := by
  go_enter Tryd.func14, Tryd.ntmps14
  go_wp2
  go_ret
  exact ⟨rfl, rfl⟩

theorem post_up {w : World} {tb : Nat} {old : Value} {r : Option Value} {o1 o2 : Obj} {e : Ending} {w' : World} (h : AsPost ((w.alloc o1).alloc o2) tb t old r e w') : AsPost w tb t old r e w' :=
  ⟨h.1, (((Only.refl (fun k => k = tb) w).alloc o1).alloc o2).trans h.2.1 (fun _ h => h) (fun _ _ h => h), h.2.2⟩

set_option maxHeartbeats 4000000 in
theorem as_any (TG : Tgt tt t kd f0 f1 ok) (w : World) (L : List Lnk) (b : Value) (hb : Base b) (hg : Glob w) (hc : Ch w L b) (tb : Nat) (old : Value)
    (htb : w.heap[tb]? = some (.cells #[old] t (0, 0))) (hok : ∀ x, fnd t L b = some x → ok x) :
    Calls Tryd.prog 14 #[val L b, .iface tt (.pointer (some ⟨tb, 0, none⟩))] w fun e w' => AsPost w tb t old (fnd t L b) e w' := by
  have xV := @run_callFunc_extern Tryd.prog 33 _ (fun args => ReflectliteValue.unpack (args.getD 0 (.tuple #[]))) Tryd.func33 (by kernel_rfl) (by kernel_rfl) (by kernel_rfl) (by kernel_rfl)
  have xY := @run_callFunc_extern Tryd.prog 34 _ (ReflectliteValue.methodAny (ReflectliteValue.valueError "reflectlite.Value.Type" 0) (fun t _ _ _ => ReflectliteType.toType t)) Tryd.func34 (by kernel_rfl) (by kernel_rfl) (by kernel_rfl) (by kernel_rfl)
  have xN := @run_callFunc_extern Tryd.prog 35 _ (ReflectliteValue.method (ReflectliteValue.valueError "reflectlite.Value.IsNil" 0) ReflectliteValue.isNil) Tryd.func35 (by kernel_rfl) (by kernel_rfl) (by kernel_rfl) (by kernel_rfl)
  have xK := @run_callFunc_extern Tryd.prog 64 _ (ReflectliteType.abiMethod fun t => do pure (.int .u8 (← Rtype.kind t))) Tryd.func64 (by kernel_rfl) (by kernel_rfl) (by kernel_rfl) (by kernel_rfl)
  have xE := @run_callFunc_extern Tryd.prog 109 _ (ReflectliteType.method ReflectliteType.elem) Tryd.func109 (by kernel_rfl) (by kernel_rfl) (by kernel_rfl) (by kernel_rfl)
  have xI := @run_callFunc_extern Tryd.prog 110 _ (ReflectliteType.relation "Implements" ReflectliteType.implements_) Tryd.func110 (by kernel_rfl) (by kernel_rfl) (by kernel_rfl) (by kernel_rfl)
  have mK := m_kind
  have mE := m_elem
  have mI := m_impl
  have vo := TG.vo
  have ty := TG.ty
  have k1 := TG.k1
  have k2 := TG.k2
  have kn := TG.kn
  have me := TG.me
  have im := TG.im
  have hlt := World.block_lt_of_cell? w _ hg
  have htl := (Array.getElem?_eq_some_iff.1 htb).1
  have n8 := TG.nil ⟨w.heap.size, 0, none⟩ ⟨tb, 0, none⟩ ((w.alloc (.cells #[.pointer (some ⟨tb, 0, none⟩)] tt)).alloc (.cells #[hd tt, .pointer (some ⟨w.heap.size, 0, none⟩), .int .u64 150] 81)) (by simp)
  have hg2 : ((w.alloc (.cells #[.pointer (some ⟨tb, 0, none⟩)] tt)).alloc (.cells #[hd tt, .pointer (some ⟨w.heap.size, 0, none⟩), .int .u64 150] 81)).cell? ⟨0, 0, none⟩ = some (.iface 110 (.agg #[hd 25])) := by
    rw [World.cell?_alloc_lt _ _ ⟨0, 0, none⟩ (Nat.lt_of_lt_of_le hlt (by simp)), World.cell?_alloc_lt _ _ ⟨0, 0, none⟩ hlt]; exact hg
  have HW := Lib.hid (as_walk TG ((w.alloc (.cells #[.pointer (some ⟨tb, 0, none⟩)] tt)).alloc (.cells #[hd tt, .pointer (some ⟨w.heap.size, 0, none⟩), .int .u64 150] 81)) L b hb
    (Ch.kb (((Below.refl _ _).alloc (Nat.le_refl _) _).alloc (by simp) _) hc) w.heap.size tb old (by simp)
    (by rw [Below.heap_alloc _ _ _ (by simp; omega), Below.heap_alloc _ _ _ htl]; exact htb) hok)
  obtain ⟨sv, xv, hv⟩ := val_iface hb L
  rw [hv] at HW ⊢
  have hnn := nil_iface sv xv
  have hn2 : ∀ w : World, (binOp .eql 20 (.iface tt (.pointer (some ⟨tb, 0, none⟩))) .nilIface).run Tryd.prog w = .ok (.bool false) w := fun w => by kernel_rfl
  clear hv hok hg hlt htl htb hc TG
  go_enter Tryd.func14, Tryd.ntmps14
  go_wp2_with (go_at_call 36; refine HW.out.mono ?_; rintro e w' R; have HR := Lib.hid R; clear R; obtain rfl := HR.out.1)
  go_ret
  exact post_up HR.out
end Go.Proofs.YtageblggakfbdaaDoor
