/- What Var of the octet Reader does. -/
import Derived.Test.YtbadkgmlefmmbaaOctF
namespace Go.Proofs.Ytbadkgmlefmmbaa
open Go.RowKit

/-- What Var reads: f: how many bytes it may still read; i: how many it has read; a: what they gave. -/
def rv : Nat → Nat → Int → List Int → Option (Int × List Int)
  | 0, _, _, _ => none
  | _ + 1, _, _, [] => none
  | f + 1, i, a, x :: l => if (0 < i ∧ x = 0) ∨ (i = 9 ∧ 1 < x) then none else if x < 128 then some (a + x * 2 ^ (7 * i), l) else rv f (i + 1) (a + (x - 128) * 2 ^ (7 * i)) l

def VarPost (T B : Nat) (w : World) (b : Nat) (v : Value) (lk : Bool) (r : Option (Int × List Int)) (e : Ending) (w' : World) : Prop :=
  match r with
  | some (x, l) => e = .returned (.int .i64 (wrap64 x)) ∧ Rdd T B w b v l lk w'
  | none => e = .returned (.int .i64 0) ∧ Rdd T B w b v [] true w'

theorem ru8_cons (B : Nat) (w : World) (b : Nat) (v : Value) (x : Int) (l : List Int) (lk : Bool) (h : Rd 51 B w b v (x :: l) lk) :
    Calls Try.prog 17 #[.pointer (some ⟨b, 0, none⟩)] w fun e w' => e = .returned (.int .i64 x) ∧ Rdd 51 B w b v l lk w' := by
  refine (ru8_yes B w b v (x :: l) lk (by simp) h).mono ?_
  rintro e w' ⟨rfl, R⟩
  refine ⟨?_, R⟩
  have := h.ok x (List.mem_cons_self ..)
  have e1 : bv (List.take 1 (x :: l)) = x := by simp [bv]
  rw [e1, wrap64_eq, IntWalk.wrap64_in _ (by omega)]
theorem ru8_nil (B : Nat) (w : World) (b : Nat) (v : Value) (lk : Bool) (h : Rd 51 B w b v [] lk) :
    Calls Try.prog 17 #[.pointer (some ⟨b, 0, none⟩)] w fun e w' => e = .returned (.int .i64 0) ∧ Rdd 51 B w b v [] true w' :=
  ru8_no B w b v [] lk (by simp) h

theorem VarPost.no {T B b : Nat} {w w' : World} {v : Value} {lk : Bool} {r : Option (Int × List Int)} {y : Int} (hr : r = none) (hy : y = 0) (h : Rdd T B w b v [] true w') : VarPost T B w b v lk r (.returned (.int .i64 y)) w' := by
  subst hr; subst hy; exact ⟨rfl, h⟩
theorem VarPost.yes {T B b : Nat} {w w' : World} {v : Value} {lk : Bool} {r : Option (Int × List Int)} {x y : Int} {l : List Int} (hr : r = some (x, l)) (hy : y = wrap64 x) (h : Rdd T B w b v l lk w') : VarPost T B w b v lk r (.returned (.int .i64 y)) w' := by
  subst hr; subst hy; exact ⟨rfl, h⟩
theorem or_step (a x : Int) (i : Nat) (hi : i ≤ 9) (h0 : 0 ≤ a) (h1 : a < 2 ^ (7 * i)) : bits .or .i64 a (wrap64 (x % 128 * 2 ^ (7 * i))) = wrap64 (a + x % 128 * 2 ^ (7 * i)) := by
  rw [or_i64' _ a (7 * i) (by omega) (Int.mul_emod_left _ _) h0 h1, Int.add_comm]
theorem pow7 (i : Nat) (hi : i ≤ 8) : (2 : Int) ^ (7 * (i + 1)) ≤ 9223372036854775808 ∧ (2 : Int) ^ (7 * (i + 1)) = 128 * 2 ^ (7 * i) ∧ (0 : Int) < 2 ^ (7 * i) := by
  refine ⟨?_, ?_, Int.pow_pos (by decide)⟩
  · have : (2 : Int) ^ (7 * (i + 1)) ≤ 2 ^ 63 := by exact_mod_cast Nat.pow_le_pow_right (by decide) (by omega)
    simpa using this
  · rw [show 7 * (i + 1) = 7 * i + 7 from by omega, Int.pow_add, Int.mul_comm]; rfl
theorem step_bd (a x : Int) (i : Nat) (hi : i ≤ 8) (h0 : 0 ≤ a) (h1 : a < 2 ^ (7 * i)) (hx : 128 ≤ x) (hx1 : x < 256) :
    0 ≤ a + (x - 128) * 2 ^ (7 * i) ∧ a + (x - 128) * 2 ^ (7 * i) < 2 ^ (7 * (i + 1)) ∧ bits .or .i64 a (wrap64 (x % 128 * 2 ^ (7 * i))) = a + (x - 128) * 2 ^ (7 * i) := by
  obtain ⟨p1, p2, p3⟩ := pow7 i hi
  have e : x % 128 = x - 128 := by omega
  have m1 : 0 ≤ (x - 128) * 2 ^ (7 * i) := Int.mul_nonneg (by omega) (by omega)
  have m2 : (x - 128) * 2 ^ (7 * i) ≤ 127 * 2 ^ (7 * i) := Int.mul_le_mul_of_nonneg_right (by omega) (by omega)
  have h2 : a + (x - 128) * 2 ^ (7 * i) < 2 ^ (7 * (i + 1)) := by rw [p2]; omega
  refine ⟨by omega, h2, ?_⟩
  rw [or_step a x i (by omega) h0 h1, e, IntWalk.wrap64_in _ (by omega)]

set_option maxHeartbeats 1600000 in
theorem rvar_any (B : Nat) (w : World) (b : Nat) (v : Value) (l : List Int) (lk : Bool) (h : Rd 51 B w b v l lk) :
    Calls Try.prog 12 #[.pointer (some ⟨b, 0, none⟩)] w fun e w' => VarPost 51 B w b v lk (rv 10 0 0 l) e w' := by
  go_enter Try.func12, Try.ntmps12
  go_wp2
  go_loopw [3, 4] (fun t3 t4 wr => ∃ (i : Nat) (a : Int) (li : List Int), i ≤ 9 ∧ t4 = .int .i64 i ∧ t3 = .int .i64 a ∧ 0 ≤ a ∧ Hid (a < 2 ^ (7 * i)) ∧ Hid (rv (10 - i) i a li = rv 10 0 0 l) ∧ Rdd 51 B w b v li lk wr) (fun _ t4 _ => 10 - (intOf t4).toNat)
  case atStart => exact ⟨0, 0, l, by omega, rfl, rfl, by omega, Lib.hid (by decide), Lib.hid rfl, Rdd.refl h⟩
  case round =>
    obtain ⟨i, a, li, hi, rfl, rfl, ha0, HA, HV, v1, hr1, ho1, hv1⟩ := hrel
    have HR1 := Lib.hid hr1
    have HO1 := Lib.hid ho1
    have HV1 := Lib.hid hv1
    clear hr1 ho1 hv1 h
    have hs0 : (0 : Int) ≤ 7 * (i : Int) := by omega
    have hs1 : 7 * (i : Int) ≤ 64 := by omega
    obtain ⟨f, hf⟩ : ∃ f, 10 - i = f + 1 := ⟨9 - i, by omega⟩
    rw [hf] at HV
    have HF := Lib.hid hf
    clear hf
    cases li with
    | nil =>
      have HV2 : Hid (rv 10 0 0 l = none) := Lib.hid (by rw [← HV.out, rv])
      cases i with
      | zero =>
        have HA0 : Hid (a = 0) := Lib.hid (by have := HA.out; simp at this; omega)
        go_wp2_with (go_at_call 17; refine (ru8_nil _ _ _ _ _ HR1.out).mono ?_; rintro e w' ⟨rfl, R⟩; have HR := Lib.hid R; clear R)
        go_ret
        exact VarPost.no HV2.out (by rw [HA0.out]; decide) (Rdd.trans HO1.out HV1.out HR.out)
      | succ i =>
        go_wp2_with (first | (go_at_call 17; refine (ru8_nil _ _ _ _ _ HR1.out).mono ?_; rintro e w' ⟨rfl, R⟩; obtain ⟨v2, hr2, ho2, hv2⟩ := R; have HR2 := Lib.hid hr2; have HR := Lib.hid ho2; have HV3 := Lib.hid hv2; clear hr2 ho2 hv2) | (go_at_call 38; refine (fail_any _ _ _ _ _ _ HR2.out).mono ?_; rintro e w'' ⟨rfl, R⟩; have HR4 := Lib.hid R; clear R))
        all_goals
          go_ret
          exact VarPost.no HV2.out rfl (Rdd.trans HO1.out HV1.out (Rdd.trans HR.out HV3.out HR4.out))
    | cons x li =>
      obtain ⟨hx0, hx1⟩ := HR1.out.ok x (List.mem_cons_self ..)
      by_cases hbad : (0 < i ∧ x = 0) ∨ (i = 9 ∧ 1 < x)
      · have HV2 : Hid (rv 10 0 0 l = none) := Lib.hid (by rw [← HV.out, rv, if_pos hbad])
        rcases hbad with ⟨h0i, rfl⟩ | ⟨rfl, h1x⟩
        all_goals
          go_wp2_with (first | (go_at_call 17; refine (ru8_cons _ _ _ _ _ _ _ HR1.out).mono ?_; rintro e w' ⟨rfl, R⟩; obtain ⟨v2, hr2, ho2, hv2⟩ := R; have HR2 := Lib.hid hr2; have HR := Lib.hid ho2; have HV3 := Lib.hid hv2; clear hr2 ho2 hv2) | (go_at_call 38; refine (fail_any _ _ _ _ _ _ HR2.out).mono ?_; rintro e w'' ⟨rfl, R⟩; have HR4 := Lib.hid R; clear R))
        all_goals
          go_ret
          exact VarPost.no HV2.out rfl (Rdd.trans HO1.out HV1.out (Rdd.trans HR.out HV3.out HR4.out))
      · by_cases hlt : x < 128
        · have HV2 : Hid (rv 10 0 0 l = some (a + x * 2 ^ (7 * i), li)) := Lib.hid (by rw [← HV.out, rv, if_neg hbad, if_pos hlt])
          have HE : Hid (bits .or .i64 a (wrap64 (x % 128 * 2 ^ (7 * i))) = wrap64 (a + x * 2 ^ (7 * i))) := Lib.hid (by rw [or_step a x i hi ha0 HA.out, show x % 128 = x from by omega])
          rcases (show i = 0 ∨ i = 9 ∨ (0 < i ∧ i < 9) from by omega) with rfl | rfl | ⟨hi0, hi9⟩
          · clear hbad
            go_wp2_with (go_at_call 17; refine (ru8_cons _ _ _ _ _ _ _ HR1.out).mono ?_; rintro e w' ⟨rfl, R⟩; have HR := Lib.hid R; clear R)
            go_ret
            exact VarPost.yes HV2.out (by have e := HE.out; simp only [Nat.mul_zero, Int.pow_zero, Int.mul_one] at e ⊢; rw [IntWalk.wrap64_in (x % 128) (by omega)] at e; exact e) (Rdd.trans HO1.out HV1.out HR.out)
          · obtain rfl : x = 1 := by omega
            clear hbad
            go_wp2_with (go_at_call 17; refine (ru8_cons _ _ _ _ _ _ _ HR1.out).mono ?_; rintro e w' ⟨rfl, R⟩; have HR := Lib.hid R; clear R)
            all_goals
              go_ret
              exact VarPost.yes HV2.out (by have := HE.out; simpa using this) (Rdd.trans HO1.out HV1.out HR.out)
          · have hx2 : 1 ≤ x := by omega
            have hi9' : ¬ (i : Int) = 9 := by omega
            clear hbad
            go_wp2_with (go_at_call 17; refine (ru8_cons _ _ _ _ _ _ _ HR1.out).mono ?_; rintro e w' ⟨rfl, R⟩; have HR := Lib.hid R; clear R)
            all_goals
              go_ret
              exact VarPost.yes HV2.out (by have := HE.out; simpa using this) (Rdd.trans HO1.out HV1.out HR.out)
        · have hi8 : i ≤ 8 := by omega
          obtain ⟨s1, s2, s3⟩ := step_bd a x i hi8 ha0 HA.out (by omega) hx1
          have HS2 := Lib.hid s2
          have HE := Lib.hid s3
          have HS1 := Lib.hid s1
          have HV2 : Hid (rv f (i + 1) (a + (x - 128) * 2 ^ (7 * i)) li = rv 10 0 0 l) := Lib.hid (by rw [← HV.out, rv, if_neg hbad, if_neg hlt])
          have hi9' : ¬ (i : Int) = 9 := by omega
          clear hbad s1 s2 s3
          by_cases hi0 : i = 0
          · subst hi0
            go_wp2_with (go_at_call 17; refine (ru8_cons _ _ _ _ _ _ _ HR1.out).mono ?_; rintro e w' ⟨rfl, R⟩; have HR := Lib.hid R; clear R)
            refine ⟨⟨1, a + (x - 128), li, by omega, rfl, ?_, by have := HS1.out; simpa using this, Lib.hid (by have := HS2.out; simpa using this), ?_, Rdd.trans HO1.out HV1.out HR.out⟩, by simp [intOf]⟩
            · have e := HE.out
              simp only [Nat.mul_zero, Int.pow_zero, Int.mul_one] at e
              rw [IntWalk.wrap64_in (x % 128) (by omega)] at e
              rw [e]
            · refine Lib.hid ?_
              have := HV2.out
              rw [show 10 - 1 = f from by have := HF.out; omega]
              simpa using this
          · have hi1 : 0 < i := by omega
            go_wp2_with (go_at_call 17; refine (ru8_cons _ _ _ _ _ _ _ HR1.out).mono ?_; rintro e w' ⟨rfl, R⟩; have HR := Lib.hid R; clear R)
            refine ⟨⟨i + 1, _, li, by omega, by go_num, by rw [HE.out], HS1.out, HS2, ?_, Rdd.trans HO1.out HV1.out HR.out⟩, by simp [intOf]; omega⟩
            refine Lib.hid ?_
            rw [show 10 - (i + 1) = f from by have := HF.out; omega]
            exact HV2.out
end Go.Proofs.Ytbadkgmlefmmbaa
