/- Parse: the program's. No condition. -/
import Derived.Test.YthfkmfepeafgjaaGenApp
import Derived.Test.YthfkmfepeafgjaaOctBits
import Derived.Test.YthfkmfepeafgjaaHexE
import Derived.Deep.RegionWith
import Derived.IntWalk
namespace Go.Proofs.Ythfkmfepeafgjaa
open Go.RowKit

theorem index_str (s : List UInt8) (j : Nat) (h : j < s.length) (i : Int) (hi : i = j) (w : World) : (Instr.index 9 (.string ⟨s.toArray⟩) (.int .i64 i)).run Try.prog w = .ok (.int .u8 (s[j].toNat : Int)) w := by
  subst hi
  rw [run_index_string _ _ _ _ _ Try.underlying9, dif_pos ⟨by omega, by show (j : Int) < (s.length : Nat); omega⟩]
  rfl

theorem u8_rng (b : UInt8) : 0 ≤ (b.toNat : Int) ∧ (b.toNat : Int) < 256 := by have := b.toNat_lt; omega
/-- A pair of digits as a byte. -/
theorem pair_val (u v : Int) (u0 : 0 ≤ u) (u1 : u ≤ 15) (v0 : 0 ≤ v) (v1 : v ≤ 15) : bits .or .i64 (u * 16) v = u * 16 + v := by
  have h := or_i64 (u * 16) v 4 (by decide) (by omega) v0 (by omega)
  rwa [show wrap64 (u * 16) = u * 16 from by unfold wrap64; omega, show wrap64 (u * 16 + v) = u * 16 + v from by unfold wrap64; omega] at h

/-- The bytes of the first k pairs, and zeros. -/
def pd (s : List UInt8) (k : Nat) : List Value := us (nmb (unh (s.take (2 * k)))) ++ List.replicate (32 - k) (.int .u8 0)
theorem unh_length : ∀ (k : Nat) (s : List UInt8), s.length = 2 * k → (unh s).length = k
  | 0, [], _ => rfl
  | k + 1, a :: b :: l, h => by rw [unh, List.length_cons, unh_length k l (by simp at h; omega)]
  | 0, _ :: _, h => by simp at h
  | k + 1, [], h => by simp at h
  | k + 1, [_], h => by simp at h; omega
theorem unh_app : ∀ (k : Nat) (s t : List UInt8), s.length = 2 * k → unh (s ++ t) = unh s ++ unh t
  | 0, [], _, _ => rfl
  | k + 1, a :: b :: l, t, h => by rw [List.cons_append, List.cons_append, unh, unh, unh_app k l t (by simp at h; omega)]; rfl
  | 0, _ :: _, _, h => by simp at h
  | k + 1, [], _, h => by simp at h
  | k + 1, [_], _, h => by simp at h; omega
theorem take_two {s : List UInt8} {k : Nat} (h : 2 * k + 1 < s.length) : s.take (2 * (k + 1)) = s.take (2 * k) ++ [s[2 * k], s[2 * k + 1]] := by
  rw [show 2 * (k + 1) = 2 * k + 1 + 1 from by omega, List.take_succ_eq_append_getElem h, List.take_succ_eq_append_getElem (show 2 * k < s.length by omega), List.append_assoc]
  rfl
theorem unh_step {s : List UInt8} {k : Nat} (h : 2 * k + 1 < s.length) : unh (s.take (2 * (k + 1))) = unh (s.take (2 * k)) ++ [UInt8.ofNat (16 * und s[2 * k] + und s[2 * k + 1]).toNat] := by
  rw [take_two h, unh_app k _ _ (by rw [List.length_take]; omega)]; rfl
theorem pd_length {s : List UInt8} {k : Nat} (hs : s.length = 64) (hk : k ≤ 32) : (pd s k).length = 32 := by
  unfold pd
  rw [List.length_append, List.length_replicate, us, List.length_map, nm_length, unh_length k _ (by rw [List.length_take]; omega)]
  omega
theorem pd_step {s : List UInt8} {k : Nat} (hs : s.length = 64) (hk : k < 32) (u v : Int) (hu : und s[2 * k] = u) (hv : und s[2 * k + 1] = v) (u0 : 0 ≤ u) (v0 : 0 ≤ v) (u1 : u ≤ 15) (v1 : v ≤ 15) :
    (pd s k).set k (.int .u8 (u * 16 + v)) = pd s (k + 1) := by
  have hl : (us (nmb (unh (s.take (2 * k))))).length = k := by rw [us, List.length_map, nm_length, unh_length k _ (by rw [List.length_take]; omega)]
  unfold pd
  rw [unh_step (by omega), hu, hv, List.set_append_right _ _ (by omega), hl, Nat.sub_self, show 32 - k = (32 - (k + 1)) + 1 from by omega, List.replicate_succ, List.set_cons_zero]
  have e : (((UInt8.ofNat (16 * u + v).toNat).toNat : Nat) : Int) = u * 16 + v := by rw [UInt8.toNat_ofNat']; omega
  have e2 : us (nmb (unh (s.take (2 * k)) ++ [UInt8.ofNat (16 * u + v).toNat])) = us (nmb (unh (s.take (2 * k)))) ++ [.int .u8 (u * 16 + v)] := by
    rw [← e]; simp [us, nmb]
  rw [e2, List.append_assoc]
  rfl
theorem digs_at {s : List UInt8} (h : digs s = true) {j : Nat} (hj : j < s.length) : 0 ≤ und s[j] := by
  unfold digs at h
  rw [List.all_eq_true] at h
  exact of_decide_eq_true (h _ (List.getElem_mem hj))
theorem pre_digs {s : List UInt8} (h : pre s = true) : digs s = true := by
  unfold pre at h
  simp only [Bool.and_eq_true] at h
  exact h.2

theorem hzer_size : hzer.size = 32 := rfl
theorem hzer_one : hzer.all (·.oneCell') = true := hv_one hz
end Go.Proofs.Ythfkmfepeafgjaa
