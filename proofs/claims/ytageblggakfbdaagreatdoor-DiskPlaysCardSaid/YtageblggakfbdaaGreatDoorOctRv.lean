/- What Var of the octet Reader does. -/
import Derived.Test.YtageblggakfbdaaGreatDoorOctR
namespace Go.Proofs.YtageblggakfbdaaGreatDoor
open Go.RowKit

/-- What Var reads: f: how many bytes it may still read; i: how many it has read; a: what they gave. -/
def rv : Nat → Nat → Int → List Int → Option (Int × List Int)
  | 0, _, _, _ => none
  | _ + 1, _, _, [] => none
  | f + 1, i, a, x :: l => if (0 < i ∧ x = 0) ∨ (i = 9 ∧ 1 < x) then none else if x < 128 then some (a + x * 2 ^ (7 * i), l) else rv f (i + 1) (a + (x - 128) * 2 ^ (7 * i)) l

def VarPost (T B : Nat) (w : World) (b : Nat) (v : Value) (lk : Bool) (r : Option (Int × List Int)) (e : Ending) (w' : World) : Prop :=
  match r with
  | some (x, l) => e = .returned (.int .i64 (wrap64 x)) ∧ Rdd T B w b v l lk w'
  | none => e = .returned (.int .i64 0) ∧ Rdd T B w b v [] true w'

theorem ru8_cons (B : Nat) (w : World) (b : Nat) (v : Value) (x : Int) (l : List Int) (lk : Bool) (h : Rd 193 B w b v (x :: l) lk) :
    Calls Tryz.prog 111 #[.pointer (some ⟨b, 0, none⟩)] w fun e w' => e = .returned (.int .i64 x) ∧ Rdd 193 B w b v l lk w' := by
  refine (ru8_yes B w b v (x :: l) lk (by simp) h).mono ?_
  rintro e w' ⟨rfl, R⟩
  refine ⟨?_, R⟩
  have := h.ok x (List.mem_cons_self ..)
  have e1 : bv (List.take 1 (x :: l)) = x := by simp [bv]
  rw [e1, wrap64_eq, IntWalk.wrap64_in _ (by omega)]
theorem ru8_nil (B : Nat) (w : World) (b : Nat) (v : Value) (lk : Bool) (h : Rd 193 B w b v [] lk) :
    Calls Tryz.prog 111 #[.pointer (some ⟨b, 0, none⟩)] w fun e w' => e = .returned (.int .i64 0) ∧ Rdd 193 B w b v [] true w' :=
  ru8_no B w b v [] lk (by simp) h

theorem VarPost.no {T B b : Nat} {w w' : World} {v : Value} {lk : Bool} {r : Option (Int × List Int)} {y : Int} (hr : r = none) (hy : y = 0) (h : Rdd T B w b v [] true w') : VarPost T B w b v lk r (.returned (.int .i64 y)) w' := by
  subst hr; subst hy; exact ⟨rfl, h⟩
theorem VarPost.yes {T B b : Nat} {w w' : World} {v : Value} {lk : Bool} {r : Option (Int × List Int)} {x y : Int} {l : List Int} (hr : r = some (x, l)) (hy : y = wrap64 x) (h : Rdd T B w b v l lk w') : VarPost T B w b v lk r (.returned (.int .i64 y)) w' := by
  subst hr; subst hy; exact ⟨rfl, h⟩
theorem or_step (a x : Int) (i : Nat) (hi : i ≤ 9) (h0 : 0 ≤ a) (h1 : a < 2 ^ (7 * i)) : bits .or .i64 a (wrap64 (x % 128 * 2 ^ (7 * i))) = wrap64 (a + x % 128 * 2 ^ (7 * i)) := by
  rw [or_i64' _ a (7 * i) (by omega) (Int.mul_emod_left _ _) h0 h1, Int.add_comm]
theorem pow7 (i : Nat) (hi : i ≤ 8) : (2 : Int) ^ (7 * (i + 1)) ≤ 9223372036854775808 ∧ (2 : Int) ^ (7 * (i + 1)) = 128 * 2 ^ (7 * i) ∧ (0 : Int) < 2 ^ (7 * i) := by
  refine ⟨?_, ?_, Int.pow_pos (by decide)⟩
  · have : (2 : Int) ^ (7 * (i + 1)) ≤ 2 ^ 63 := by exact_mod_cast Nat.pow_le_pow_right (by decide) (by omega)
    simpa using this
  · rw [show 7 * (i + 1) = 7 * i + 7 from by omega, Int.pow_add, Int.mul_comm]; rfl
theorem step_bd (a x : Int) (i : Nat) (hi : i ≤ 8) (h0 : 0 ≤ a) (h1 : a < 2 ^ (7 * i)) (hx : 128 ≤ x) (hx1 : x < 256) :
    0 ≤ a + (x - 128) * 2 ^ (7 * i) ∧ a + (x - 128) * 2 ^ (7 * i) < 2 ^ (7 * (i + 1)) ∧ bits .or .i64 a (wrap64 (x % 128 * 2 ^ (7 * i))) = a + (x - 128) * 2 ^ (7 * i) := by
  obtain ⟨p1, p2, p3⟩ := pow7 i hi
  have e : x % 128 = x - 128 := by omega
  have m1 : 0 ≤ (x - 128) * 2 ^ (7 * i) := Int.mul_nonneg (by omega) (by omega)
  have m2 : (x - 128) * 2 ^ (7 * i) ≤ 127 * 2 ^ (7 * i) := Int.mul_le_mul_of_nonneg_right (by omega) (by omega)
  have h2 : a + (x - 128) * 2 ^ (7 * i) < 2 ^ (7 * (i + 1)) := by rw [p2]; omega
  refine ⟨by omega, h2, ?_⟩
  rw [or_step a x i (by omega) h0 h1, e, IntWalk.wrap64_in _ (by omega)]

end Go.Proofs.YtageblggakfbdaaGreatDoor
