/- errors.Is for a kind, over a chain around a kind: whether it is the same; errors.Unwrap of a layer. No condition. -/
import Derived.Test.YtageblggakfbdaaDoorOopsAs
import Derived.Lib.IfaceEq
namespace Go.Proofs.YtageblggakfbdaaDoor
open Go.RowKit Go.Extern.Stop Go.Stop Go.Extern

theorem base_kind (k : Int) : Base (kind k) := .inl ⟨k, rfl⟩

theorem eq_kind (j k : Int) (w : World) : (binOp .eql 25 (.iface 29 (.int .i64 j)) (.iface 29 (.int .i64 k))).run Tryd.prog w = .ok (.bool (j == k)) w :=
  Lib.run_eql_iface_int w j k Tryd.underlying25 (by kernel_rfl) Tryd.underlying29
theorem ne_kindS (x : Value) (k : Int) (w : World) : (binOp .eql 25 (.iface 54 x) (.iface 29 (.int .i64 k))).run Tryd.prog w = .ok (.bool false) w :=
  run_eql_iface_types _ _ _ _ Tryd.underlying25 (by decide) w
theorem ne_kindP (x : Value) (k : Int) (w : World) : (binOp .eql 25 (.iface 55 x) (.iface 29 (.int .i64 k))).run Tryd.prog w = .ok (.bool false) w :=
  run_eql_iface_types _ _ _ _ Tryd.underlying25 (by decide) w
theorem ne_kindW (x : Value) (k : Int) (w : World) : (binOp .eql 25 (.iface 37 x) (.iface 29 (.int .i64 k))).run Tryd.prog w = .ok (.bool false) w :=
  run_eql_iface_types _ _ _ _ Tryd.underlying25 (by decide) w
theorem comp_kind (w : World) : (callFunc 108 #[.agg #[hd 29]]).run Tryd.prog w = .ok (.value (.bool true)) w := by kernel_rfl

set_option maxHeartbeats 4000000 in
theorem is_walk (w : World) (L : List Lnk) (j k : Int) (hc : Ch w L (kind j)) : Calls Tryd.prog 40 #[val L (kind j), kind k, .bool true] w fun e w' => e = .returned (.bool (j == k)) ∧ w = w' := by
  have HC0 := Lib.hid hc
  have ek := eq_kind j k
  clear hc
  go_enter Tryd.func40, Tryd.ntmps40
  go_wp2
  go_loop [0] (fun v => ∃ M, v = val M (kind j) ∧ Hid (Ch w M (kind j))) (fun v => meas v)
  case atStart => exact ⟨L, rfl, HC0⟩
  case round =>
    obtain ⟨M, rfl, HC⟩ := hrel
    clear HC0
    cases M with
    | nil =>
      have hna := noIsE
      have hnu := noUE
      have hnus := noUsE
      simp only [show val [] (kind j) = .iface 29 (.int .i64 j) from rfl]
      by_cases hjk : (j == k) = true
      · rw [hjk] at ek
        have HJ := Lib.hid hjk
        clear hjk
        go_wp2
        go_ret
        exact ⟨by first | rfl | (rw [HJ.out]; rfl), rfl⟩
      · have hjk : (j == k) = false := by simpa using hjk
        rw [hjk] at ek
        have HJ := Lib.hid hjk
        clear hjk
        go_wp2
        go_ret
        exact ⟨by first | rfl | (rw [HJ.out]; rfl), rfl⟩
    | cons l M =>
      obtain ⟨sv, xv, hv⟩ := val_iface (base_kind j) M
      have HV := Lib.hid hv
      clear hv
      have hnn := nil_iface sv xv
      cases l with
      | step p q =>
        have hna := noIsS
        have hhu := hasUS
        have hmu := mUS
        have hne := ne_kindS
        have HH := Lib.hid HC.out.1
        have HX := Lib.hid HC.out.2.1
        simp only [val_step]
        go_wp2_with (go_at_call 23; refine (unwrapS _ _ _ _ HH.out).mono ?_; rintro e w' ⟨rfl, rfl⟩; rw [HV.out])
        go_round
        case rel => exact ⟨M, HV.out.symm, Lib.hid HC.out.2.2.2⟩
        case measure => have := HC.out.2.2.1; rw [HV.out] at this; simp only [Lnk.blk] at this; simp only [meas] at this ⊢; omega
      | place p q =>
        have hna := noIsP
        have hhu := hasUP
        have hmu := mUP
        have hne := ne_kindP
        have HH := Lib.hid HC.out.1
        have HX := Lib.hid HC.out.2.1
        simp only [val_place]
        go_wp2_with (go_at_call 24; refine (unwrapP _ _ _ _ HH.out).mono ?_; rintro e w' ⟨rfl, rfl⟩; rw [HV.out])
        go_round
        case rel => exact ⟨M, HV.out.symm, Lib.hid HC.out.2.2.2⟩
        case measure => have := HC.out.2.2.1; rw [HV.out] at this; simp only [Lnk.blk] at this; simp only [meas] at this ⊢; omega
      | which p q =>
        have hna := noIsW
        have hhu := hasUW
        have hmu := mUW
        have hne := ne_kindW
        have HH := Lib.hid HC.out.1
        have HX := Lib.hid HC.out.2.1
        simp only [val_which]
        go_wp2_with (go_at_call 25; refine (unwrapW _ _ _ _ HX.out HH.out).mono ?_; rintro e w' ⟨rfl, rfl⟩; rw [HV.out])
        go_round
        case rel => exact ⟨M, HV.out.symm, Lib.hid HC.out.2.2.2⟩
        case measure => have := HC.out.2.2.1; rw [HV.out] at this; simp only [Lnk.blk] at this; simp only [meas] at this ⊢; omega

theorem is_any (w : World) (L : List Lnk) (j k : Int) (hc : Ch w L (kind j)) : Calls Tryd.prog 17 #[val L (kind j), kind k] w fun e w' => e = .returned (.bool (j == k)) ∧ w = w' := by
  have xT := @run_callFunc_extern Tryd.prog 39 _ ReflectliteType.typeOf Tryd.func39 (by kernel_rfl) (by kernel_rfl) (by kernel_rfl) (by kernel_rfl)
  have hto := toE
  have hco := comp_kind
  have hmc := m_comp
  have HW := Lib.hid (is_walk w L j k hc)
  obtain ⟨sv, xv, hv⟩ := val_iface (base_kind j) L
  rw [hv] at HW ⊢
  have hnn := nil_iface sv xv
  have hn2 := nil_iface 29 (.int .i64 k)
  clear hv hc
  go_enter Tryd.func17, Tryd.ntmps17
  go_wp2_with (go_at_call 40; refine HW.out.mono ?_; rintro e w' ⟨rfl, rfl⟩)
  go_ret
  exact ⟨rfl, rfl⟩

theorem unwrap_step (w : World) (p : Nat) (q) (L : List Lnk) (b : Value) (hc : Ch w (.step p q :: L) b) : Calls Tryd.prog 18 #[val (.step p q :: L) b] w fun e w' => e = .returned (val L b) ∧ w = w' := by
  have hhu := hasUS
  have hmu := mUS
  have HH := Lib.hid hc.1
  have HX := Lib.hid hc.2.1
  clear hc
  simp only [val_step]
  go_enter Tryd.func18, Tryd.ntmps18
  go_wp2_with (go_at_call 23; refine (unwrapS _ _ _ _ HH.out).mono ?_; rintro e w' ⟨rfl, rfl⟩)
  go_ret
  exact ⟨rfl, rfl⟩
theorem unwrap_place (w : World) (p : Nat) (q) (L : List Lnk) (b : Value) (hc : Ch w (.place p q :: L) b) : Calls Tryd.prog 18 #[val (.place p q :: L) b] w fun e w' => e = .returned (val L b) ∧ w = w' := by
  have hhu := hasUP
  have hmu := mUP
  have HH := Lib.hid hc.1
  have HX := Lib.hid hc.2.1
  clear hc
  simp only [val_place]
  go_enter Tryd.func18, Tryd.ntmps18
  go_wp2_with (go_at_call 24; refine (unwrapP _ _ _ _ HH.out).mono ?_; rintro e w' ⟨rfl, rfl⟩)
  go_ret
  exact ⟨rfl, rfl⟩
theorem unwrap_which (w : World) (p : Nat) (q) (L : List Lnk) (b : Value) (hc : Ch w (.which p q :: L) b) : Calls Tryd.prog 18 #[val (.which p q :: L) b] w fun e w' => e = .returned (val L b) ∧ w = w' := by
  have hhu := hasUW
  have hmu := mUW
  have HH := Lib.hid hc.1
  have HX := Lib.hid hc.2.1
  clear hc
  simp only [val_which]
  go_enter Tryd.func18, Tryd.ntmps18
  go_wp2_with (go_at_call 25; refine (unwrapW _ _ _ _ HX.out HH.out).mono ?_; rintro e w' ⟨rfl, rfl⟩)
  go_ret
  exact ⟨rfl, rfl⟩
end Go.Proofs.YtageblggakfbdaaDoor
