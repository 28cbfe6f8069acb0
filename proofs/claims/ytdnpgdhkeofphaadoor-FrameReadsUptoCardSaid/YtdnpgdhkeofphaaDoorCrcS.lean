/- What the two sums do: the program's and the reference's. The slice is within what a slice may take up. -/
import Derived.Test.YtdnpgdhkeofphaaDoorCrcM
import Derived.Test.YtdnpgdhkeofphaaDoorOctKit
import Derived.IntWalk
namespace Go.Proofs.YtdnpgdhkeofphaaDoor
open Go.RowKit

theorem and1_u32 {a : Nat} (ha : a < 4294967296) : bits .and .u32 (a : Int) 1 = ((a % 2 : Nat) : Int) := by
  show IntKind.u32.wrap ((BitVec.ofInt 32 (a : Int) &&& BitVec.ofInt 32 1).toNat : Int) = _
  rw [BitVec.toNat_and, BitVec.toNat_ofInt]
  have e1 : ((a : Int) % ((2 ^ 32 : Nat) : Int)).toNat = a := by omega
  have e2 : (BitVec.ofInt 32 1).toNat = 1 := rfl
  rw [e1, e2, Nat.and_one_is_mod]; exact wraps_u32 _ (by omega) (by omega)
theorem shift_num {n : Nat} (h : n < 4294967296) : bits .xor .u32 ((n : Int) / 2) (bits .and .u32 (n : Int) 1 * 3988292384 % 4294967296) = ((sh n : Nat) : Int) := by
  rw [and1_u32 h]
  have e : ((n : Int) / 2) = ((n / 2 : Nat) : Int) := by omega
  rw [e]
  unfold sh
  by_cases h1 : n % 2 = 1
  · rw [if_pos h1, h1]
    exact xor_u32 (a := n / 2) (b := crcPoly) (by omega) (by decide)
  · rw [if_neg h1, show n % 2 = 0 from by omega]
    have := xor_u32 (a := n / 2) (b := 0) (by omega) (by decide)
    simpa using this
theorem shift_any (w : World) (n : Nat) (h : n < 4294967296) : Calls Tryd.prog 75 #[.int .u32 n] w fun e w' => e = .returned (.int .u32 (sh n : Nat)) ∧ w = w' := by
  go_enter Tryd.func75, Tryd.ntmps75
  go_wp2
  go_ret
  exact ⟨congrArg (fun x => Ending.returned (.int .u32 x)) (shift_num h), rfl⟩
theorem xor_byte {c : Nat} {x : Int} (hc : c < 4294967296) (hx : 0 ≤ x ∧ x < 256) : bits .xor .u32 (c : Int) x = ((c ^^^ x.toNat : Nat) : Int) := by
  have := xor_u32 (a := c) (b := x.toNat) hc (by omega)
  rwa [show ((x.toNat : Nat) : Int) = x from by omega] at this
theorem take_eats {l : List Int} {k : Nat} {x : Int} (c : Nat) (h : l[k]? = some x) : eats c (l.take (k + 1)) = eat (eats c (l.take k)) x := by
  rw [List.take_add_one, h]; exact eats_snoc _ _ _

theorem crc_eats {l : List Int} : (((4294967295 ^^^ eats 4294967295 l : Nat)) : Int) = (crc l : Nat) := rfl
theorem sh_even {n : Nat} (_ : n < 4294967296) (hp : n % 2 = 0) : ((n : Int) / 2) = (sh n : Nat) := by
  unfold sh; rw [if_neg (by omega)]; omega
theorem sh_odd {n : Nat} (h : n < 4294967296) (hp : n % 2 = 1) : bits .xor .u32 ((n : Int) / 2) 3988292384 = (sh n : Nat) := by
  unfold sh; rw [if_pos hp]
  have e : ((n : Int) / 2) = ((n / 2 : Nat) : Int) := by omega
  rw [e]
  exact xor_u32 (a := n / 2) (b := crcPoly) (by omega) (by decide)
theorem ret_u32 {a b : Int} (h : a = b) : Ending.returned (.int .u32 a) = .returned (.int .u32 b) := by rw [h]
theorem not_u32 {n : Nat} (h : n < 4294967296) : bits .xor .u32 IntKind.u32.max (n : Int) = ((4294967295 ^^^ n : Nat) : Int) := xor_u32 (a := 4294967295) (by decide) h
theorem crc_end {l : List Int} {c : Nat} (hc : c < 4294967296) (h : c = eats 4294967295 (l.take l.length)) : bits .xor .u32 IntKind.u32.max (c : Int) = (crc l : Nat) := by
  rw [not_u32 hc, h, List.take_length]; rfl
theorem crc_none : bits .xor .u32 IntKind.u32.max 4294967295 = (crc [] : Nat) := crc_end (l := []) (c := 4294967295) (by decide) rfl

set_option maxHeartbeats 800000 in
theorem sum_any (w : World) (v : Value) (l : List Int) (ok : Okb l) (hl : l.length ≤ 140737488351232) (hs : Seen w v l) : Calls Tryd.prog 71 #[v] w fun e w' => e = .returned (.int .u32 (crc l : Nat)) ∧ w = w' := by
  have hlt : ∀ k, eats 4294967295 (l.take k) < 4294967296 := fun k => eats_lt (by decide) fun x hx => (ok x (List.mem_of_mem_take hx)).2
  have HL := Lib.hid hlt
  clear hlt
  rcases hs with ⟨rfl, rfl⟩ | ⟨a, cap, rfl, hc, hu⟩
  · go_enter Tryd.func71, Tryd.ntmps71
    go_wp2
    go_loop [3, 8] (fun c i => c = .int .u32 4294967295 ∧ i = .int .i64 0) (fun _ _ => 0)
    case atStart => exact ⟨rfl, rfl⟩
    case round =>
      obtain ⟨rfl, rfl⟩ := hrel
      go_wp2
      go_ret
      exact ⟨ret_u32 crc_none, rfl⟩
  · have HU := Lib.hid hu
    clear hu
    go_enter Tryd.func71, Tryd.ntmps71
    go_wp2
    go_loop [3, 8] (fun c i => ∃ k : Nat, k ≤ l.length ∧ i = .int .i64 k ∧ c = .int .u32 (eats 4294967295 (l.take k) : Nat)) (fun _ i => l.length - (intOf i).toNat)
    case atStart => exact ⟨0, Nat.zero_le _, rfl, rfl⟩
    case round =>
      obtain ⟨k, hk, rfl, rfl⟩ := hrel
      have hcl := HL.out k
      obtain ⟨c, hcd⟩ : ∃ c, c = eats 4294967295 (l.take k) := ⟨_, rfl⟩
      rw [← hcd] at hcl ⊢
      have HC := Lib.hid hcd
      clear hcd
      by_cases hlt : k < l.length
      · have hx : ∃ x, l[k]? = some x := ⟨_, List.getElem?_eq_getElem hlt⟩
        obtain ⟨x, hx⟩ := hx
        have hcell := HU.out k (.int .u8 x) (by simp [us, hx])
        have hx2 := ok x (List.mem_of_getElem? hx)
        have HX := Lib.hid hx
        clear hx
        go_wp2
        go_loop [3, 16] (fun d i => ∃ j : Nat, j ≤ 8 ∧ i = .int .i64 j ∧ d = .int .u32 (shs j (c ^^^ x.toNat) : Nat)) (fun _ i => 8 - (intOf i).toNat)
        case atStart => exact ⟨0, Nat.zero_le _, rfl, congrArg (Value.int .u32) (xor_byte hcl hx2)⟩
        case round =>
          obtain ⟨j, hj, rfl, rfl⟩ := hrel
          have hd : shs j (c ^^^ x.toNat) < 4294967296 := shs_lt j (Nat.xor_lt_two_pow (n := 32) hcl (by omega))
          obtain ⟨d, hdd⟩ : ∃ d, d = shs j (c ^^^ x.toNat) := ⟨_, rfl⟩
          rw [← hdd] at hd ⊢
          have HD := Lib.hid hdd
          clear hdd
          by_cases hj8 : j < 8
          · go_wp2_with fail
            refine (shift_any _ d hd).mono ?_
            rintro e _ ⟨rfl, rfl⟩
            go_wp2_with fail
            go_round
            case rel => exact ⟨j + 1, by omega, by go_num, by rw [shs_succ, ← HD.out]⟩
            case measure => simp [intOf]; omega
          · obtain rfl : j = 8 := by omega
            go_wp2_with fail
            go_round
            case rel => exact ⟨k + 1, by omega, by go_num, by rw [take_eats _ HX.out, ← HC.out, HD.out]; rfl⟩
            case measure => simp [intOf]; omega
      · obtain rfl : k = l.length := by omega
        go_wp2_with fail
        go_ret
        exact ⟨ret_u32 (crc_end hcl HC.out), rfl⟩

set_option maxHeartbeats 800000 in
theorem refsum_any (w : World) (v : Value) (l : List Int) (ok : Okb l) (hl : l.length ≤ 140737488351232) (hs : Seen w v l) : Calls Tryd.prog 58 #[v] w fun e w' => e = .returned (.int .u32 (crc l : Nat)) ∧ w = w' := by
  have hlt : ∀ k, eats 4294967295 (l.take k) < 4294967296 := fun k => eats_lt (by decide) fun x hx => (ok x (List.mem_of_mem_take hx)).2
  have HL := Lib.hid hlt
  clear hlt
  rcases hs with ⟨rfl, rfl⟩ | ⟨a, cap, rfl, hc, hu⟩
  · go_enter Tryd.func58, Tryd.ntmps58
    go_wp2
    go_loop [3, 4] (fun c i => c = .int .u32 4294967295 ∧ i = .int .i64 0) (fun _ _ => 0)
    case atStart => exact ⟨rfl, rfl⟩
    case round =>
      obtain ⟨rfl, rfl⟩ := hrel
      go_wp2
      go_ret
      exact ⟨ret_u32 crc_none, rfl⟩
  · have HU := Lib.hid hu
    clear hu
    go_enter Tryd.func58, Tryd.ntmps58
    go_wp2
    go_loop [3, 4] (fun c i => ∃ k : Nat, k ≤ l.length ∧ i = .int .i64 k ∧ c = .int .u32 (eats 4294967295 (l.take k) : Nat)) (fun _ i => l.length - (intOf i).toNat)
    case atStart => exact ⟨0, Nat.zero_le _, rfl, rfl⟩
    case round =>
      obtain ⟨k, hk, rfl, rfl⟩ := hrel
      have hcl := HL.out k
      obtain ⟨c, hcd⟩ : ∃ c, c = eats 4294967295 (l.take k) := ⟨_, rfl⟩
      rw [← hcd] at hcl ⊢
      have HC := Lib.hid hcd
      clear hcd
      by_cases hlt : k < l.length
      · have hx : ∃ x, l[k]? = some x := ⟨_, List.getElem?_eq_getElem hlt⟩
        obtain ⟨x, hx⟩ := hx
        have hcell := HU.out k (.int .u8 x) (by simp [us, hx])
        have hx2 := ok x (List.mem_of_getElem? hx)
        have HX := Lib.hid hx
        clear hx
        go_wp2
        go_loop [3, 5] (fun d i => ∃ j : Nat, j ≤ 8 ∧ i = .int .i64 j ∧ d = .int .u32 (shs j (c ^^^ x.toNat) : Nat)) (fun _ i => 8 - (intOf i).toNat)
        case atStart => exact ⟨0, Nat.zero_le _, rfl, congrArg (Value.int .u32) (xor_byte hcl hx2)⟩
        case round =>
          obtain ⟨j, hj, rfl, rfl⟩ := hrel
          have hd : shs j (c ^^^ x.toNat) < 4294967296 := shs_lt j (Nat.xor_lt_two_pow (n := 32) hcl (by omega))
          obtain ⟨d, hdd⟩ : ∃ d, d = shs j (c ^^^ x.toNat) := ⟨_, rfl⟩
          rw [← hdd] at hd ⊢
          have HD := Lib.hid hdd
          clear hdd
          by_cases hj8 : j < 8
          · have hb1 := and1_u32 hd
            rcases Nat.mod_two_eq_zero_or_one d with hp | hp
            all_goals
              rw [hp] at hb1
              have HP := Lib.hid hp
              clear hp
              have hb2 : bits .and .u32 (d : Int) 1 = (_ : Int) := hb1
              clear hb1
              go_wp2_with fail
              go_round
              case rel => exact ⟨j + 1, by omega, by go_num, by rw [shs_succ, ← HD.out]; exact congrArg (Value.int .u32) (by have := HP.out; first | exact sh_even hd this | exact sh_odd hd this)⟩
              case measure => simp [intOf]; omega
          · obtain rfl : j = 8 := by omega
            go_wp2_with fail
            go_round
            case rel => exact ⟨k + 1, by omega, by go_num, by rw [take_eats _ HX.out, ← HC.out, HD.out]; rfl⟩
            case measure => simp [intOf]; omega
      · obtain rfl : k = l.length := by omega
        go_wp2_with fail
        go_ret
        exact ⟨ret_u32 (crc_end hcl HC.out), rfl⟩
end Go.Proofs.YtdnpgdhkeofphaaDoor
