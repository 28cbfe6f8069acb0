/- What Var of the reference's Reader does. -/
import Derived.Test.YtbadkgmlefmmbaaOctSu
import Derived.Lib.VarintBits
namespace Go.Proofs.Ytbadkgmlefmmbaa
open Go.RowKit

theorem or_step_u (a x : Int) (i : Nat) (hi : i ≤ 9) (h0 : 0 ≤ a) (h1 : a < 2 ^ (7 * i)) : bits .or .u64 a (IntKind.u64.wrap (x % 128 * 2 ^ (7 * i))) = IntKind.u64.wrap (a + x % 128 * 2 ^ (7 * i)) := by
  rw [or_u64' _ a (7 * i) (by omega) (Int.mul_emod_left _ _) h0 h1, Int.add_comm]
theorem step_bd_u (a x : Int) (i : Nat) (hi : i ≤ 8) (h0 : 0 ≤ a) (h1 : a < 2 ^ (7 * i)) (hx : 128 ≤ x) (hx1 : x < 256) :
    0 ≤ a + (x - 128) * 2 ^ (7 * i) ∧ a + (x - 128) * 2 ^ (7 * i) < 2 ^ (7 * (i + 1)) ∧ bits .or .u64 a (IntKind.u64.wrap (x % 128 * 2 ^ (7 * i))) = a + (x - 128) * 2 ^ (7 * i) := by
  obtain ⟨s1, s2, _⟩ := step_bd a x i hi h0 h1 hx hx1
  obtain ⟨p1, p2, p3⟩ := pow7 i hi
  refine ⟨s1, s2, ?_⟩
  rw [or_step_u a x i (by omega) h0 h1, show x % 128 = x - 128 from by omega, u64_mod]
  exact Int.emod_eq_of_lt s1 (by omega)

theorem u64_small (x : Int) (h0 : 0 ≤ x) (h1 : x < 256) : IntKind.u64.wrap x = x := by rw [u64_mod]; omega

/-- One byte of Raw(1). -/
theorem sraw_one (B : Nat) (w : World) (b : Nat) (v : Value) (x : Int) (l : List Int) (h : Rd 43 B w b v (x :: l) false) :
    Calls Try.prog 35 #[.pointer (some ⟨b, 0, none⟩), .int .i64 1] w fun e w' => ∃ g o cap v', e = .returned (.slice (some ⟨g, o, none⟩) 1 cap) ∧ w'.cell? ⟨g, o, none⟩ = some (.int .u8 x) ∧ Rd 43 B w' b v' l false ∧ Only (fun k => k = b) w w' ∧ (∀ k, v'.ownBlock = some k → v.ownBlock = some k) := by
  refine (sraw_yes B w b v (x :: l) 1 1 rfl (by simp) h).mono ?_
  rintro e w' ⟨u, rfl, hs, _, v', hr, ho, hv⟩
  rcases hs with ⟨_, h0⟩ | ⟨g, o, cap, rfl, hc, hu⟩
  · simp at h0
  · exact ⟨g, o, cap, v', rfl, hu 0 (.int .u8 x) rfl, hr, ho, hv⟩

set_option maxHeartbeats 3200000 in
theorem svar_any (B : Nat) (w : World) (b : Nat) (v : Value) (l : List Int) (lk : Bool) (h : Rd 43 B w b v l lk) :
    Calls Try.prog 33 #[.pointer (some ⟨b, 0, none⟩)] w fun e w' => VarPost 43 B w b v lk (rv 10 0 0 l) e w' := by
  go_enter Try.func33, Try.ntmps33
  go_wp2
  go_loopw [3, 4] (fun t3 t4 wr => ∃ (i : Nat) (a : Int) (li : List Int), i ≤ 9 ∧ t4 = .int .i64 i ∧ t3 = .int .u64 a ∧ 0 ≤ a ∧ Hid (a < 2 ^ (7 * i)) ∧ Hid (rv (10 - i) i a li = rv 10 0 0 l) ∧ Rdd 43 B w b v li lk wr) (fun _ t4 _ => 10 - (intOf t4).toNat)
  case atStart => exact ⟨0, 0, l, by omega, rfl, rfl, by omega, Lib.hid (by decide), Lib.hid rfl, Rdd.refl h⟩
  case round =>
    obtain ⟨i, a, li, hi, rfl, rfl, ha0, HA, HV, v1, hr1, ho1, hv1⟩ := hrel
    have HR1 := Lib.hid hr1
    have HO1 := Lib.hid ho1
    have HV1 := Lib.hid hv1
    clear hr1 ho1 hv1 h
    have hs0 : (0 : Int) ≤ 7 * (i : Int) := by omega
    have hs1 : 7 * (i : Int) ≤ 64 := by omega
    obtain ⟨f, hf⟩ : ∃ f, 10 - i = f + 1 := ⟨9 - i, by omega⟩
    rw [hf] at HV
    have HF := Lib.hid hf
    clear hf
    have hi10 : i < 10 := by omega
    cases li with
    | nil =>
      have HV2 : Hid (rv 10 0 0 l = none) := Lib.hid (by rw [← HV.out, rv])
      go_wp2_with (go_at_call 35; refine (sraw_no _ _ _ _ _ _ _ (.inr (.inr (by decide))) HR1.out).mono ?_; rintro e w' ⟨rfl, R⟩; obtain ⟨v2, hr2, ho2, hv2⟩ := R; have c1 := hr2.c1; have HR2 := Lib.hid hr2; have HR := Lib.hid ho2; have HV3 := Lib.hid hv2; clear hr2 ho2 hv2)
      go_ret
      exact VarPost.no HV2.out rfl (Rdd.trans HO1.out HV1.out ⟨_, HR2.out, HR.out, HV3.out⟩)
    | cons x li =>
      obtain ⟨hx0, hx1⟩ := HR1.out.ok x (List.mem_cons_self ..)
      have hlk : lk = false := by
        cases lk with
        | false => rfl
        | true => have := HR1.out.lacks rfl; cases this
      subst hlk
      have h127 : bits .and .u8 x 127 = x % 128 := u8_and127 x hx0 hx1
      by_cases hbad : (0 < i ∧ x = 0) ∨ (i = 9 ∧ 1 < x)
      · have HV2 : Hid (rv 10 0 0 l = none) := Lib.hid (by rw [← HV.out, rv, if_pos hbad])
        clear h127
        rcases hbad with ⟨h0i, rfl⟩ | ⟨rfl, h1x⟩
        all_goals
          go_wp2_with fail
          refine (sraw_one _ _ _ _ _ _ HR1.out).mono ?_
          rintro e w' ⟨g, o, cap, v2, rfl, hcell, hr2, ho2, hv2⟩
          have c1 := hr2.c1
          have HR2 := Lib.hid hr2
          have HR := Lib.hid ho2
          have HV3 := Lib.hid hv2
          clear hr2 ho2 hv2
          go_wp2_with (go_at_call 35; refine (sraw_no _ _ _ _ _ _ _ (.inr (.inl (by decide))) HR2.out).mono ?_; rintro e w'' ⟨rfl, R⟩; have HR4 := Lib.hid R; clear R)
        all_goals
          go_ret
          exact VarPost.no HV2.out rfl (Rdd.trans HO1.out HV1.out (Rdd.trans HR.out HV3.out HR4.out))
      · by_cases hlt : x < 128
        · have HV2 : Hid (rv 10 0 0 l = some (a + x * 2 ^ (7 * i), li)) := Lib.hid (by rw [← HV.out, rv, if_neg hbad, if_pos hlt])
          have HE : Hid (bits .or .u64 a (IntKind.u64.wrap (x % 128 * 2 ^ (7 * i))) = IntKind.u64.wrap (a + x * 2 ^ (7 * i))) := Lib.hid (by rw [or_step_u a x i hi ha0 HA.out, show x % 128 = x from by omega])
          rcases (show i = 0 ∨ i = 9 ∨ (0 < i ∧ i < 9) from by omega) with rfl | rfl | ⟨hi0, hi9⟩
          case' inl => clear hbad
          case' inr.inl =>
            obtain rfl : x = 1 := by omega
            clear hbad
          case' inr.inr =>
            have hx2 : 1 ≤ x := by omega
            have hi9' : ¬ (i : Int) = 9 := by omega
            clear hbad
          all_goals
            go_wp2_with fail
            refine (sraw_one _ _ _ _ _ _ HR1.out).mono ?_
            rintro e w' ⟨g, o, cap, v2, rfl, hcell, hr2, ho2, hv2⟩
            have c1 := hr2.c1
            have HR2 := Lib.hid hr2
            have HR := Lib.hid ho2
            have HV3 := Lib.hid hv2
            clear hr2 ho2 hv2
            go_wp2_with fail
          all_goals go_ret
          · exact VarPost.yes HV2.out (by rw [HE.out, wrap64_u64]) (Rdd.trans HO1.out HV1.out ⟨_, HR2.out, HR.out, HV3.out⟩)
          · exact VarPost.yes HV2.out (by have e := HE.out; rw [show IntKind.u64.wrap (1 % 128 * 2 ^ (7 * 9)) = 9223372036854775808 from by decide] at e; rw [e, wrap64_u64]) (Rdd.trans HO1.out HV1.out ⟨_, HR2.out, HR.out, HV3.out⟩)
          · exact VarPost.yes HV2.out (by have e := HE.out; simp only [Nat.mul_zero, Int.pow_zero, Int.mul_one] at e ⊢; rw [u64_small (x % 128) (by omega) (by omega)] at e; rw [e, wrap64_u64]) (Rdd.trans HO1.out HV1.out ⟨_, HR2.out, HR.out, HV3.out⟩)
        · have hi8 : i ≤ 8 := by omega
          obtain ⟨s1, s2, s3⟩ := step_bd_u a x i hi8 ha0 HA.out (by omega) hx1
          have HS2 := Lib.hid s2
          have HE := Lib.hid s3
          have HS1 := Lib.hid s1
          have HV2 : Hid (rv f (i + 1) (a + (x - 128) * 2 ^ (7 * i)) li = rv 10 0 0 l) := Lib.hid (by rw [← HV.out, rv, if_neg hbad, if_neg hlt])
          have hi9' : ¬ (i : Int) = 9 := by omega
          clear hbad s1 s2 s3
          by_cases hi0 : i = 0
          case' pos => subst hi0
          case' neg => have hi1 : 0 < i := by omega
          all_goals
            go_wp2_with fail
            refine (sraw_one _ _ _ _ _ _ HR1.out).mono ?_
            rintro e w' ⟨g, o, cap, v2, rfl, hcell, hr2, ho2, hv2⟩
            have c1 := hr2.c1
            have HR2 := Lib.hid hr2
            have HR := Lib.hid ho2
            have HV3 := Lib.hid hv2
            clear hr2 ho2 hv2
            go_wp2_with fail
          · refine ⟨⟨i + 1, _, li, by omega, by go_num, by rw [HE.out], HS1.out, HS2, ?_, Rdd.trans HO1.out HV1.out ⟨_, HR2.out, HR.out, HV3.out⟩⟩, by simp [intOf]; omega⟩
            refine Lib.hid ?_
            rw [show 10 - (i + 1) = f from by have := HF.out; omega]
            exact HV2.out
          · refine ⟨⟨1, a + (x - 128), li, by omega, rfl, ?_, by have := HS1.out; simpa using this, Lib.hid (by have := HS2.out; simpa using this), ?_, Rdd.trans HO1.out HV1.out ⟨_, HR2.out, HR.out, HV3.out⟩⟩, by simp [intOf]⟩
            · have e := HE.out
              simp only [Nat.mul_zero, Int.pow_zero, Int.mul_one] at e
              rw [u64_small (x % 128) (by omega) (by omega)] at e
              rw [e]
            · refine Lib.hid ?_
              have := HV2.out
              rw [show 10 - 1 = f from by have := HF.out; omega]
              simpa using this
end Go.Proofs.Ytbadkgmlefmmbaa
