/- errors.As at a target of type t, over a chain of errors: it finds the first error of type t, or answers false. Condition: errors.errorType holds what its text lays. -/
import Derived.Test.YtageblggakfbdaaDoorOopsAsF
import Derived.Test.YtageblggakfbdaaDoorGenAs
namespace Go.Proofs.YtageblggakfbdaaDoor
open Go.RowKit Go.Extern.Stop Go.Stop Go.Extern

section
variable {tt t : TypeId} {kd f0 f1 : Int} {ok : Value → Prop}

theorem unwrapS (w : World) (p : Nat) (s : ByteArray) (u : Value) (h : w.heap[p]? = some (.cells #[.string s, u] 59 (0, 0))) : Calls Tryd.prog 23 #[.pointer (some ⟨p, 0, none⟩)] w fun e w' => e = .returned u ∧ w = w' := by
  have hc := cell_obj h 1 (u := u) rfl
  have hn : ∀ w : World, True := fun _ => trivial
  clear hn
  go_enter Tryd.func23, Tryd.ntmps23
  go_wp2
  go_ret
  exact ⟨rfl, rfl⟩
theorem unwrapP (w : World) (p : Nat) (n : Int) (u : Value) (h : w.heap[p]? = some (.cells #[.int .i64 n, u] 62 (0, 0))) : Calls Tryd.prog 24 #[.pointer (some ⟨p, 0, none⟩)] w fun e w' => e = .returned u ∧ w = w' := by
  have hc := cell_obj h 1 (u := u) rfl
  go_enter Tryd.func24, Tryd.ntmps24
  go_wp2
  go_ret
  exact ⟨rfl, rfl⟩
theorem unwrapW (w : World) (p : Nat) (x : Array Value) (u : Value) (hx : x.size = 32) (h : w.heap[p]? = some (.cells (x.push u) 41 (0, 0))) : Calls Tryd.prog 25 #[.pointer (some ⟨p, 0, none⟩)] w fun e w' => e = .returned u ∧ w = w' := by
  have hc := cell_obj h 32 (u := u) (by rw [Array.getElem?_push, if_pos hx.symm])
  go_enter Tryd.func25, Tryd.ntmps25
  go_wp2
  go_ret
  exact ⟨rfl, rfl⟩


theorem val_step (p : Nat) (s : ByteArray) (L : List Lnk) (b : Value) : val (.step p s :: L) b = .iface 54 (.pointer (some ⟨p, 0, none⟩)) := rfl
theorem val_place (p : Nat) (n : Int) (L : List Lnk) (b : Value) : val (.place p n :: L) b = .iface 55 (.pointer (some ⟨p, 0, none⟩)) := rfl
theorem val_which (p : Nat) (x : Array Value) (L : List Lnk) (b : Value) : val (.which p x :: L) b = .iface 37 (.pointer (some ⟨p, 0, none⟩)) := rfl

theorem post_miss {w : World} {tb : Nat} {old : Value} {r : Option Value} {o1 : Obj} (hr : r = none) (htb : w.heap[tb]? = some (.cells #[old] t (0, 0))) :
    AsPost w tb t old r (.returned (.bool false)) (w.alloc o1) := by
  subst hr
  have hlt := (Array.getElem?_eq_some_iff.1 htb).1
  refine ⟨rfl, (Only.refl _ _).alloc _, ?_⟩
  rw [Below.heap_alloc _ _ _ hlt]
  exact htb

set_option maxHeartbeats 4000000 in
theorem as_walk (TG : Tgt tt t kd f0 f1 ok) (w : World) (L : List Lnk) (b : Value) (hb : Base b) (hc : Ch w L b) (a tb : Nat) (old : Value)
    (ha : w.cell? ⟨a, 0, none⟩ = some (.pointer (some ⟨tb, 0, none⟩))) (htb : w.heap[tb]? = some (.cells #[old] t (0, 0))) (hok : ∀ x, fnd t L b = some x → ok x) :
    Calls Tryd.prog 36 #[val L b, .iface tt (.pointer (some ⟨tb, 0, none⟩)), .agg #[hd tt, .pointer (some ⟨a, 0, none⟩), .int .u64 150], .iface 110 (.agg #[hd t])] w fun e w' => AsPost w tb t old (fnd t L b) e w' := by
  have xT := @run_callFunc_extern Tryd.prog 39 _ ReflectliteType.typeOf Tryd.func39 (by kernel_rfl) (by kernel_rfl) (by kernel_rfl) (by kernel_rfl)
  have xV := @run_callFunc_extern Tryd.prog 33 _ (fun args => ReflectliteValue.unpack (args.getD 0 (.tuple #[]))) Tryd.func33 (by kernel_rfl) (by kernel_rfl) (by kernel_rfl) (by kernel_rfl)
  have xA := @run_callFunc_extern Tryd.prog 107 _ (ReflectliteType.relation "AssignableTo" ReflectliteType.assignableTo) Tryd.func107 (by kernel_rfl) (by kernel_rfl) (by kernel_rfl) (by kernel_rfl)
  have xE := @run_callFunc_extern Tryd.prog 46 _ (ReflectliteValue.method (ReflectliteValue.valueError "reflectlite.Value.Elem" 0) ReflectliteValue.elem) Tryd.func46 (by kernel_rfl) (by kernel_rfl) (by kernel_rfl) (by kernel_rfl)
  have xS := @run_callFunc_extern Tryd.prog 47 _ ReflectliteValue.set Tryd.func47 (by kernel_rfl) (by kernel_rfl) (by kernel_rfl) (by kernel_rfl)
  have mA := m_asg
  have hlt : a < w.heap.size := World.block_lt_of_cell? w _ ha
  have htl := (Array.getElem?_eq_some_iff.1 htb).1
  have el := TG.el ⟨a, 0, none⟩ ⟨tb, 0, none⟩ (w.alloc (.cells #[hd tt, .pointer (some ⟨a, 0, none⟩), .int .u64 150] 81)) (by rw [World.cell?_alloc_lt _ _ ⟨a, 0, none⟩ hlt]; exact ha)
  have st := fun x (hx : ok x) => TG.st ⟨tb, 0, none⟩ ⟨w.heap.size + 1, 0, none⟩ x old ((w.alloc (.cells #[hd tt, .pointer (some ⟨a, 0, none⟩), .int .u64 150] 81)).alloc (.cells #[x] t)) hx
    (by rw [World.cell?_alloc_at _ _ _ _ (by simp)]; rfl)
    (by rw [World.cell?_alloc_lt _ _ ⟨tb, 0, none⟩ (by simp; omega), World.cell?_alloc_lt _ _ ⟨tb, 0, none⟩ htl]; exact cell_obj htb 0 rfl)
    (by rw [World.frozen?_alloc_old _ _ ⟨tb, 0, none⟩ (by simp; omega), World.frozen?_alloc_old _ _ ⟨tb, 0, none⟩ (Nat.ne_of_lt htl)]; exact free_of_one htb)
  have HST := Lib.hid st
  have HVS := Lib.hid TG.vs
  have HAS := Lib.hid TG.asg
  have HOK := Lib.hid hok
  have HTB := Lib.hid htb
  have HC0 := Lib.hid (Ch.kb ((Below.refl _ _).alloc (Nat.le_refl _) (.cells #[hd tt, .pointer (some ⟨a, 0, none⟩), .int .u64 150] 81)) hc)
  clear st hok htb hc ha hlt htl TG
  go_enter Tryd.func36, Tryd.ntmps36
  go_wp2
  go_loop [0] (fun v => ∃ M, v = val M b ∧ Hid (Ch (w.alloc (.cells #[hd tt, .pointer (some ⟨a, 0, none⟩), .int .u64 150] 81)) M b) ∧ Hid (fnd t M b = fnd t L b)) (fun v => meas v)
  case atStart => exact ⟨L, rfl, HC0, Lib.hid rfl⟩
  case round =>
    obtain ⟨M, rfl, HC, HF⟩ := hrel
    clear HC0
    cases M with
    | nil =>
      rcases hb with ⟨k, rfl⟩ | rfl | ⟨p, rfl⟩
      · have hto := toE
        have hna := noAsE
        have hnu := noUE
        have hnus := noUsE
        have hA := HAS.out 29 (by simp)
        simp only [show val [] (.iface 29 (.int .i64 k)) = .iface 29 (.int .i64 k) from rfl]
        by_cases ht : 29 = t
        · subst ht
          have HR : Hid (fnd 29 L (.iface 29 (.int .i64 k)) = some (.int .i64 k)) := Lib.hid (by rw [← HF.out]; simp [fnd])
          simp only [decide_true] at hA
          have hvs := fun w => HVS.out (.int .i64 k) w (HOK.out _ HR.out)
          have hst := HST.out (.int .i64 k) (HOK.out _ HR.out)
          go_wp2
          go_ret
          exact post_hit HR.out HTB.out rfl
        · have HR : Hid (fnd t L (.iface 29 (.int .i64 k)) = none) := Lib.hid (by rw [← HF.out]; simp [fnd, ht])
          simp only [ht, decide_false] at hA
          clear ht
          go_wp2
          go_ret
          exact post_miss HR.out HTB.out
      · have hto := toX
        have hna := noAsX
        have hnu := noUX
        have hnus := noUsX
        have hA := HAS.out 65 (by simp)
        simp only [show val [] (.iface 65 (.agg #[])) = .iface 65 (.agg #[]) from rfl]
        by_cases ht : 65 = t
        · subst ht
          have HR : Hid (fnd 65 L (.iface 65 (.agg #[])) = some (.agg #[])) := Lib.hid (by rw [← HF.out]; simp [fnd])
          simp only [decide_true] at hA
          have hvs := fun w => HVS.out (.agg #[]) w (HOK.out _ HR.out)
          have hst := HST.out (.agg #[]) (HOK.out _ HR.out)
          go_wp2
          go_ret
          exact post_hit HR.out HTB.out rfl
        · have HR : Hid (fnd t L (.iface 65 (.agg #[])) = none) := Lib.hid (by rw [← HF.out]; simp [fnd, ht])
          simp only [ht, decide_false] at hA
          clear ht
          go_wp2
          go_ret
          exact post_miss HR.out HTB.out
      · have hto := toN
        have hna := noAsN
        have hnu := noUN
        have hnus := noUsN
        have hA := HAS.out 93 (by simp)
        simp only [show val [] (.iface 93 (.pointer (some p))) = .iface 93 (.pointer (some p)) from rfl]
        by_cases ht : 93 = t
        · subst ht
          have HR : Hid (fnd 93 L (.iface 93 (.pointer (some p))) = some (.pointer (some p))) := Lib.hid (by rw [← HF.out]; simp [fnd])
          simp only [decide_true] at hA
          have hvs := fun w => HVS.out (.pointer (some p)) w (HOK.out _ HR.out)
          have hst := HST.out (.pointer (some p)) (HOK.out _ HR.out)
          go_wp2
          go_ret
          exact post_hit HR.out HTB.out rfl
        · have HR : Hid (fnd t L (.iface 93 (.pointer (some p))) = none) := Lib.hid (by rw [← HF.out]; simp [fnd, ht])
          simp only [ht, decide_false] at hA
          clear ht
          go_wp2
          go_ret
          exact post_miss HR.out HTB.out
    | cons l M =>
      obtain ⟨sv, xv, hv⟩ := val_iface hb M
      have HV := Lib.hid hv
      have HB := Lib.hid hb
      clear hv hb
      have hnn := nil_iface sv xv
      cases l with
      | step p q =>
        have hto := toS
        have hna := noAsS
        have hhu := hasUS
        have hmu := mUS
        have hA := HAS.out 54 (by simp)
        have HH := Lib.hid HC.out.1
        have HX := Lib.hid HC.out.2.1
        simp only [val_step]
        by_cases ht : 54 = t
        · subst ht
          have HR : Hid (fnd 54 L b = some (.pointer (some ⟨p, 0, none⟩))) := Lib.hid (by rw [← HF.out]; simp [fnd, Lnk.ty, Lnk.blk])
          simp only [decide_true] at hA
          have hvs := fun w => HVS.out (.pointer (some ⟨p, 0, none⟩)) w (HOK.out _ HR.out)
          have hst := HST.out (.pointer (some ⟨p, 0, none⟩)) (HOK.out _ HR.out)
          go_wp2
          go_ret
          exact post_hit HR.out HTB.out rfl
        · have HR : Hid (fnd t M b = fnd t L b) := Lib.hid (by rw [← HF.out]; simp [fnd, Lnk.ty, ht])
          simp only [ht, decide_false] at hA
          clear ht
          go_wp2_with (go_at_call 23; refine (unwrapS _ _ _ _ HH.out).mono ?_; rintro e w' ⟨rfl, rfl⟩; rw [HV.out])
          go_round
          case rel => exact ⟨M, HV.out.symm, Lib.hid HC.out.2.2.2, HR⟩
          case measure => have := HC.out.2.2.1; rw [HV.out] at this; simp only [Lnk.blk] at this; simp only [meas] at this ⊢; omega
      | place p q =>
        have hto := toP
        have hna := noAsP
        have hhu := hasUP
        have hmu := mUP
        have hA := HAS.out 55 (by simp)
        have HH := Lib.hid HC.out.1
        have HX := Lib.hid HC.out.2.1
        simp only [val_place]
        by_cases ht : 55 = t
        · subst ht
          have HR : Hid (fnd 55 L b = some (.pointer (some ⟨p, 0, none⟩))) := Lib.hid (by rw [← HF.out]; simp [fnd, Lnk.ty, Lnk.blk])
          simp only [decide_true] at hA
          have hvs := fun w => HVS.out (.pointer (some ⟨p, 0, none⟩)) w (HOK.out _ HR.out)
          have hst := HST.out (.pointer (some ⟨p, 0, none⟩)) (HOK.out _ HR.out)
          go_wp2
          go_ret
          exact post_hit HR.out HTB.out rfl
        · have HR : Hid (fnd t M b = fnd t L b) := Lib.hid (by rw [← HF.out]; simp [fnd, Lnk.ty, ht])
          simp only [ht, decide_false] at hA
          clear ht
          go_wp2_with (go_at_call 24; refine (unwrapP _ _ _ _ HH.out).mono ?_; rintro e w' ⟨rfl, rfl⟩; rw [HV.out])
          go_round
          case rel => exact ⟨M, HV.out.symm, Lib.hid HC.out.2.2.2, HR⟩
          case measure => have := HC.out.2.2.1; rw [HV.out] at this; simp only [Lnk.blk] at this; simp only [meas] at this ⊢; omega
      | which p q =>
        have hto := toW
        have hna := noAsW
        have hhu := hasUW
        have hmu := mUW
        have hA := HAS.out 37 (by simp)
        have HH := Lib.hid HC.out.1
        have HX := Lib.hid HC.out.2.1
        simp only [val_which]
        by_cases ht : 37 = t
        · subst ht
          have HR : Hid (fnd 37 L b = some (.pointer (some ⟨p, 0, none⟩))) := Lib.hid (by rw [← HF.out]; simp [fnd, Lnk.ty, Lnk.blk])
          simp only [decide_true] at hA
          have hvs := fun w => HVS.out (.pointer (some ⟨p, 0, none⟩)) w (HOK.out _ HR.out)
          have hst := HST.out (.pointer (some ⟨p, 0, none⟩)) (HOK.out _ HR.out)
          go_wp2
          go_ret
          exact post_hit HR.out HTB.out rfl
        · have HR : Hid (fnd t M b = fnd t L b) := Lib.hid (by rw [← HF.out]; simp [fnd, Lnk.ty, ht])
          simp only [ht, decide_false] at hA
          clear ht
          go_wp2_with (go_at_call 25; refine (unwrapW _ _ _ _ HX.out HH.out).mono ?_; rintro e w' ⟨rfl, rfl⟩; rw [HV.out])
          go_round
          case rel => exact ⟨M, HV.out.symm, Lib.hid HC.out.2.2.2, HR⟩
          case measure => have := HC.out.2.2.1; rw [HV.out] at this; simp only [Lnk.blk] at this; simp only [meas] at this ⊢; omega
end
end Go.Proofs.YtageblggakfbdaaDoor
