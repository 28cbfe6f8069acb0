/- walk over a chain: it visits each error of the chain, from without, and answers true. Condition: at most 131072 layers. -/
import Derived.Test.YtnepdkelnpengaaDoorOopsAs
namespace Go.Proofs.YtnepdkelnpengaaDoor
open Go.RowKit Go.Extern.Stop Go.Stop Go.Extern

set_option maxHeartbeats 4000000 in
theorem walk_any (b : Value) (hb : Base b) (f : FuncId) (cap : Array Value) (I : List Lnk → World → Prop) (J : World → Prop) (hf : ∀ args w, (callFunc f args).run Tryd.prog w = .ok (.enter f args) w) (hI : ∀ M w, I M w → Ch w M b)
    (hv : ∀ l M w, I (l :: M) w → Calls Tryd.prog f (#[val (l :: M) b] ++ cap) w fun e w' => e = .returned (.tuple #[]) ∧ I M w' ∧ w'.heap[l.blk]? = w.heap[l.blk]?)
    (hv0 : ∀ w, I [] w → Calls Tryd.prog f (#[b] ++ cap) w fun e w' => e = .returned (.tuple #[]) ∧ J w') :
    ∀ (L : List Lnk) (w : World) (d : Int), 0 ≤ d → d + L.length ≤ 131072 → I L w → Calls Tryd.prog 27 #[val L b, .int .i64 d, .func (.func f) #[] cap] w fun e w' => e = .returned (.bool true) ∧ J w' := by
  intro L
  induction L with
  | nil =>
    intro w d hd hl hi
    have HV := Lib.hid (hv0 w hi)
    have hd2 : ¬ 131072 < d := by simp at hl; omega
    clear hv0 hv hI hi hl
    rcases hb with ⟨k, rfl⟩ | rfl | ⟨p, rfl⟩
    · have hnn := nil_iface 29 (.int .i64 k)
      have hnu := noUE
      have hnus := noUsE
      simp only [show val [] (.iface 29 (.int .i64 k)) = .iface 29 (.int .i64 k) from rfl]
      go_enter Tryd.func27, Tryd.ntmps27
      go_wp2_with (refine HV.out.mono ?_; rintro e w' ⟨rfl, R⟩; have HR := Lib.hid R; clear R)
      go_ret
      exact ⟨rfl, HR.out⟩
    · have hnn := nil_iface 65 (.agg #[])
      have hnu := noUX
      have hnus := noUsX
      simp only [show val [] (.iface 65 (.agg #[])) = .iface 65 (.agg #[]) from rfl]
      go_enter Tryd.func27, Tryd.ntmps27
      go_wp2_with (refine HV.out.mono ?_; rintro e w' ⟨rfl, R⟩; have HR := Lib.hid R; clear R)
      go_ret
      exact ⟨rfl, HR.out⟩
    · have hnn := nil_iface 88 (.pointer (some p))
      have hnu := noUN
      have hnus := noUsN
      simp only [show val [] (.iface 88 (.pointer (some p))) = .iface 88 (.pointer (some p)) from rfl]
      go_enter Tryd.func27, Tryd.ntmps27
      go_wp2_with (refine HV.out.mono ?_; rintro e w' ⟨rfl, R⟩; have HR := Lib.hid R; clear R)
      go_ret
      exact ⟨rfl, HR.out⟩
  | cons l M ih =>
    intro w d hd hl hi
    have HV := Lib.hid (hv l M w hi)
    have HC := Lib.hid (hI _ _ hi)
    have HIH := Lib.hid ih
    obtain ⟨sv, xv, hu⟩ := val_iface hb M
    have HU := Lib.hid hu
    have hnn := nil_iface sv xv
    have hd2 : ¬ 131072 < d := by simp at hl; omega
    have hd3 : 0 ≤ d + 1 := by omega
    have hd4 : d + 1 + M.length ≤ 131072 := by simp at hl; omega
    clear hv0 hv hI hi hl ih hu hb
    cases l with
    | step p q =>
      have hhu := hasUS
      have hmu := mUS
      have hnl := nil_iface 54 (.pointer (some ⟨p, 0, none⟩))
      have HX := Lib.hid HC.out.2.1
      simp only [val_step] at HV ⊢
      go_enter Tryd.func27, Tryd.ntmps27
      go_wp2_with (first
        | (refine HV.out.mono ?_; rintro e w' ⟨rfl, R1, R2⟩; have HI := Lib.hid R1; have HH := Lib.hid (R2.trans HC.out.1); clear R1 R2)
        | (go_at_call 23; refine (unwrapS _ _ _ _ HH.out).mono ?_; rintro e w' ⟨rfl, rfl⟩)
        | (go_at_call 27; refine (HIH.out _ _ hd3 hd4 HI.out).mono ?_; rintro e w' ⟨rfl, R⟩; have HR := Lib.hid R; clear R))
      go_ret
      exact ⟨rfl, HR.out⟩
    | place p q =>
      have hhu := hasUP
      have hmu := mUP
      have hnl := nil_iface 55 (.pointer (some ⟨p, 0, none⟩))
      have HX := Lib.hid HC.out.2.1
      simp only [val_place] at HV ⊢
      go_enter Tryd.func27, Tryd.ntmps27
      go_wp2_with (first
        | (refine HV.out.mono ?_; rintro e w' ⟨rfl, R1, R2⟩; have HI := Lib.hid R1; have HH := Lib.hid (R2.trans HC.out.1); clear R1 R2)
        | (go_at_call 24; refine (unwrapP _ _ _ _ HH.out).mono ?_; rintro e w' ⟨rfl, rfl⟩)
        | (go_at_call 27; refine (HIH.out _ _ hd3 hd4 HI.out).mono ?_; rintro e w' ⟨rfl, R⟩; have HR := Lib.hid R; clear R))
      go_ret
      exact ⟨rfl, HR.out⟩
    | which p q =>
      have hhu := hasUW
      have hmu := mUW
      have hnl := nil_iface 37 (.pointer (some ⟨p, 0, none⟩))
      have HX := Lib.hid HC.out.2.1
      simp only [val_which] at HV ⊢
      go_enter Tryd.func27, Tryd.ntmps27
      go_wp2_with (first
        | (refine HV.out.mono ?_; rintro e w' ⟨rfl, R1, R2⟩; have HI := Lib.hid R1; have HH := Lib.hid (R2.trans HC.out.1); clear R1 R2)
        | (go_at_call 25; refine (unwrapW _ _ _ _ HX.out HH.out).mono ?_; rintro e w' ⟨rfl, rfl⟩)
        | (go_at_call 27; refine (HIH.out _ _ hd3 hd4 HI.out).mono ?_; rintro e w' ⟨rfl, R⟩; have HR := Lib.hid R; clear R))
      go_ret
      exact ⟨rfl, HR.out⟩
end Go.Proofs.YtnepdkelnpengaaDoor
