/- Digit, IsPrefix: the program's and the reference's. No condition. -/
import Derived.Test.YtbpccbhlggcmfaaDoorHexH
namespace Go.Proofs.YtbpccbhlggcmfaaDoor
open Go.RowKit

/-- The value of a digit, of a number. -/
def udi (x : Int) : Int := if 48 ≤ x ∧ x ≤ 57 then x - 48 else if 97 ≤ x ∧ x ≤ 102 then x - 87 else -1
theorem udi_und (c : UInt8) : udi (c.toNat : Int) = und c := by
  unfold udi und
  by_cases h1 : 48 ≤ c.toNat ∧ c.toNat ≤ 57
  · rw [if_pos h1, if_pos (by omega)]
  · rw [if_neg h1, if_neg (by omega)]
    by_cases h2 : 97 ≤ c.toNat ∧ c.toNat ≤ 102
    · rw [if_pos h2, if_pos (by omega)]
    · rw [if_neg h2, if_neg (by omega)]
theorem ret_i64 {a b : Int} (h : a = b) : Ending.returned (.int .i64 a) = .returned (.int .i64 b) := by rw [h]
theorem ret_bool {a b : Bool} (h : a = b) : Ending.returned (.bool a) = .returned (.bool b) := by rw [h]
theorem udi_num {x : Int} (h : 48 ≤ x ∧ x ≤ 57) : udi x = x - 48 := if_pos h
theorem udi_let {x : Int} (h : 97 ≤ x ∧ x ≤ 102) : udi x = x - 87 := by unfold udi; rw [if_neg (by omega), if_pos h]
theorem udi_no {x : Int} (h : x < 48 ∨ 57 < x ∧ x < 97 ∨ 102 < x) : udi x = -1 := by unfold udi; rw [if_neg (by omega), if_neg (by omega)]

theorem undig_any (w : World) (x : Int) (h0 : 0 ≤ x) (h1 : x < 256) : Calls Tryd.prog 34 #[.int .u8 x] w fun e w' => e = .returned (.int .i64 (udi x)) ∧ w = w' := by
  rcases (show 48 ≤ x ∧ x ≤ 57 ∨ 97 ≤ x ∧ x ≤ 102 ∨ x < 48 ∨ 57 < x ∧ x < 97 ∨ 102 < x from by omega) with h | h | h | ⟨h, h'⟩ | h
  · rw [udi_num h]
    obtain ⟨h, h'⟩ := h
    go_enter Tryd.func34, Tryd.ntmps34
    go_wp2
    go_ret
    exact ⟨rfl, rfl⟩
  · rw [udi_let h]
    obtain ⟨h, h'⟩ := h
    go_enter Tryd.func34, Tryd.ntmps34
    go_wp2
    go_ret
    exact ⟨ret_i64 (by omega), rfl⟩
  all_goals
    rw [udi_no (by omega)]
    go_enter Tryd.func34, Tryd.ntmps34
    go_wp2
    go_ret
    exact ⟨rfl, rfl⟩

theorem digs_nil : digs [] = true := rfl
theorem digs_snoc {s : ByteArray} {k : Nat} (h : k < s.size) : digs (s.data.toList.take (k + 1)) = (digs (s.data.toList.take k) && decide (0 ≤ und s[k])) := by
  have e : s.data.toList.take (k + 1) = s.data.toList.take k ++ [s[k]] := by
    rw [List.take_succ_eq_append_getElem (by simpa using h)]; rfl
  unfold digs
  rw [e, List.all_append]
  simp
theorem digs_cut {l : List UInt8} {k : Nat} (h : digs (l.take k) = false) : digs l = false := by
  unfold digs at h ⊢
  rw [List.all_eq_false] at h ⊢
  obtain ⟨x, hx, hn⟩ := h
  exact ⟨x, List.mem_of_mem_take hx, hn⟩
theorem pre_lo {s : ByteArray} (h : s.size < 1) : pre s.data.toList = false := by
  have : s.data.toList.length = s.size := rfl
  unfold pre; rw [decide_eq_false (by omega)]; rfl
theorem pre_hi {s : ByteArray} (h : 64 < s.size) : pre s.data.toList = false := by
  have : s.data.toList.length = s.size := rfl
  unfold pre; rw [decide_eq_false (p := s.data.toList.length ≤ 64) (by omega)]; simp
theorem pre_no {s : ByteArray} (h : digs s.data.toList = false) : pre s.data.toList = false := by unfold pre; rw [h]; simp
theorem pre_yes {s : ByteArray} (h0 : 1 ≤ s.size) (h1 : s.size ≤ 64) (h : digs s.data.toList = true) : pre s.data.toList = true := by
  have : s.data.toList.length = s.size := rfl
  unfold pre; rw [h, decide_eq_true (by omega), decide_eq_true (by omega)]; rfl

set_option maxHeartbeats 1000000 in
theorem pre_any (w : World) (s : ByteArray) : Calls Tryd.prog 23 #[.string s] w fun e w' => e = .returned (.bool (pre s.data.toList)) ∧ w = w' := by
  by_cases h1 : s.size < 1
  · rw [pre_lo h1]
    go_enter Tryd.func23, Tryd.ntmps23
    go_wp2
    go_ret
    exact ⟨rfl, rfl⟩
  by_cases h2 : 64 < s.size
  · rw [pre_hi h2]
    go_enter Tryd.func23, Tryd.ntmps23
    go_wp2
    go_ret
    exact ⟨rfl, rfl⟩
  generalize hp : pre s.data.toList = p
  have HP := Lib.hid hp
  clear hp
  go_enter Tryd.func23, Tryd.ntmps23
  go_wp2
  go_loop [14] (fun i => ∃ k : Nat, k ≤ s.size ∧ i = .int .i64 k ∧ Hid (digs (s.data.toList.take k) = true)) (fun i => s.size - (intOf i).toNat)
  case atStart => exact ⟨0, Nat.zero_le _, rfl, Lib.hid rfl⟩
  case round =>
    obtain ⟨k, hk, rfl, HD⟩ := hrel
    by_cases hlt : k < s.size
    · have hr := s[k].toNat_lt
      have HS := Lib.hid (digs_snoc hlt)
      have HU := Lib.hid (udi_und s[k])
      by_cases hd : udi (s[k].toNat : Int) < 0
      · go_wp2_with (go_at_call 34; refine (undig_any _ _ (by omega) (by omega)).mono ?_; rintro e w' ⟨rfl, rfl⟩)
        go_ret
        refine ⟨ret_bool ?_, rfl⟩
        rw [← HP.out, pre_no (digs_cut (k := k + 1) (by rw [HS.out, decide_eq_false (by rw [← HU.out]; omega)]; simp))]
      · go_wp2_with (go_at_call 34; refine (undig_any _ _ (by omega) (by omega)).mono ?_; rintro e w' ⟨rfl, rfl⟩)
        go_round
        case rel => exact ⟨k + 1, by omega, by go_num, Lib.hid (by rw [HS.out, HD.out, decide_eq_true (by rw [← HU.out]; omega)]; rfl)⟩
        case measure => simp [intOf]; omega
    · go_wp2
      go_ret
      refine ⟨ret_bool ?_, rfl⟩
      have hd := HD.out
      rw [List.take_of_length_le (by show s.size ≤ k; omega)] at hd
      rw [← HP.out, pre_yes (by omega) (by omega) hd]
end Go.Proofs.YtbpccbhlggcmfaaDoor
