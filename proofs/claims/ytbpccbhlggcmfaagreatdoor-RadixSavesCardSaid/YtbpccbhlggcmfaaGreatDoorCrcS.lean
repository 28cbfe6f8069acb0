/- Plain mathematics of the checksum: one bit's step is one to one, and so is the sum in each byte. · What the two sums do: the program's and the reference's. The slice is within what a slice may take up. -/
import Derived.RowKit
import Derived.Lib.EndianBits
import Derived.Test.YtbpccbhlggcmfaaGreatDoorOctBits
import Derived.IntWalk
namespace Go.Proofs.YtbpccbhlggcmfaaGreatDoor
open Go.RowKit

def crcPoly : Nat := 3988292384
/-- One bit. -/
def sh (n : Nat) : Nat := if n % 2 = 1 then (n / 2) ^^^ crcPoly else n / 2
/-- k bits. -/
def shs : Nat → Nat → Nat
  | 0, n => n
  | k + 1, n => shs k (sh n)
theorem shs_succ (k n : Nat) : shs (k + 1) n = sh (shs k n) := by
  induction k generalizing n with
  | zero => rfl
  | succ k ih => exact ih (sh n)
/-- One byte. -/
def eat (c : Nat) (x : Int) : Nat := shs 8 (c ^^^ x.toNat)
def eats (c : Nat) (l : List Int) : Nat := l.foldl eat c
def crc (l : List Int) : Nat := 4294967295 ^^^ eats 4294967295 l

theorem sh_lt {n : Nat} (h : n < 4294967296) : sh n < 4294967296 := by
  unfold sh
  split
  · exact Nat.xor_lt_two_pow (n := 32) (by omega) (by decide)
  · omega
theorem shs_lt (k : Nat) {n : Nat} (h : n < 4294967296) : shs k n < 4294967296 := by
  induction k generalizing n with
  | zero => exact h
  | succ k ih => exact ih (sh_lt h)
theorem eat_lt {c : Nat} {x : Int} (hc : c < 4294967296) (h : x < 256) : eat c x < 4294967296 :=
  shs_lt 8 (Nat.xor_lt_two_pow (n := 32) hc (by omega))
theorem eats_lt {c : Nat} {l : List Int} (hc : c < 4294967296) (h : ∀ x ∈ l, x < 256) : eats c l < 4294967296 := by
  induction l generalizing c with
  | nil => exact hc
  | cons x l ih => exact ih (eat_lt hc (h x (List.mem_cons_self ..))) (fun y hy => h y (List.mem_cons_of_mem _ hy))
theorem eats_snoc (c : Nat) (l : List Int) (x : Int) : eats c (l ++ [x]) = eat (eats c l) x := by simp [eats]

theorem xor_left {a b c : Nat} (h : a ^^^ b = a ^^^ c) : b = c := by
  have := congrArg (a ^^^ ·) h
  simpa [← Nat.xor_assoc] using this
theorem xor_right {a b c : Nat} (h : b ^^^ a = c ^^^ a) : b = c := by
  rw [Nat.xor_comm b, Nat.xor_comm c] at h; exact xor_left h
theorem top_small {n : Nat} (h : n < 2147483648) : n.testBit 31 = false := Nat.testBit_lt_two_pow h
theorem top_sh {n : Nat} (h : n < 4294967296) : (sh n).testBit 31 = decide (n % 2 = 1) := by
  unfold sh
  split
  · rename_i h1
    rw [Nat.testBit_xor, top_small (by omega)]
    simp only [h1, decide_true]
    decide
  · rename_i h1
    rw [top_small (by omega)]; simp [h1]
theorem sh_inj {a b : Nat} (ha : a < 4294967296) (hb : b < 4294967296) (h : sh a = sh b) : a = b := by
  have hp : decide (a % 2 = 1) = decide (b % 2 = 1) := by rw [← top_sh ha, ← top_sh hb, h]
  have hp' : a % 2 = 1 ↔ b % 2 = 1 := by simpa using hp
  unfold sh at h
  by_cases h1 : a % 2 = 1
  · rw [if_pos h1, if_pos (hp'.1 h1)] at h
    have := xor_right h
    have := hp'.1 h1
    omega
  · have h2 : ¬ b % 2 = 1 := fun h2 => h1 (hp'.2 h2)
    rw [if_neg h1, if_neg h2] at h
    omega
theorem shs_inj (k : Nat) {a b : Nat} (ha : a < 4294967296) (hb : b < 4294967296) (h : shs k a = shs k b) : a = b := by
  induction k generalizing a b with
  | zero => exact h
  | succ k ih => exact sh_inj ha hb (ih (sh_lt ha) (sh_lt hb) h)
theorem eats_inj {l : List Int} (hl : ∀ x ∈ l, x < 256) {a b : Nat} (ha : a < 4294967296) (hb : b < 4294967296) (h : eats a l = eats b l) : a = b := by
  induction l generalizing a b with
  | nil => exact h
  | cons x l ih =>
    have hx := hl x (List.mem_cons_self ..)
    have h1 := ih (fun y hy => hl y (List.mem_cons_of_mem _ hy)) (eat_lt ha hx) (eat_lt hb hx) h
    exact xor_right (shs_inj 8 (Nat.xor_lt_two_pow (n := 32) ha (by omega)) (Nat.xor_lt_two_pow (n := 32) hb (by omega)) h1)
theorem eat_byte {c : Nat} {x y : Int} (hc : c < 4294967296) (hx : 0 ≤ x ∧ x < 256) (hy : 0 ≤ y ∧ y < 256) (h : eat c x = eat c y) : x = y := by
  have := xor_left (shs_inj 8 (Nat.xor_lt_two_pow (n := 32) hc (by omega)) (Nat.xor_lt_two_pow (n := 32) hc (by omega)) h)
  omega
/-- One byte that is turned makes another sum. -/
theorem crc_turns {l : List Int} {k : Nat} {x y : Int} (hl : ∀ x ∈ l, 0 ≤ x ∧ x < 256) (hk : l[k]? = some x) (hy : 0 ≤ y ∧ y < 256) (hne : y ≠ x) : crc (l.set k y) ≠ crc l := by
  intro he
  have hlt : k < l.length := (List.getElem?_eq_some_iff.1 hk).1
  have hx : l[k] = x := (List.getElem?_eq_some_iff.1 hk).2
  have h1 := xor_left he
  have e1 : l = l.take k ++ x :: l.drop (k + 1) := by
    rw [← hx]; simp
  have e2 : l.set k y = l.take k ++ y :: l.drop (k + 1) := by
    rw [List.set_eq_take_append_cons_drop, if_pos hlt]
  rw [e2] at h1
  conv at h1 => rhs; rw [e1]
  unfold eats at h1
  rw [List.foldl_append, List.foldl_append, List.foldl_cons, List.foldl_cons] at h1
  have hd : ∀ z ∈ l.drop (k + 1), z < 256 := fun z hz => (hl z (List.mem_of_mem_drop hz)).2
  have ht : (l.take k).foldl eat 4294967295 < 4294967296 := eats_lt (by decide) fun z hz => (hl z (List.mem_of_mem_take hz)).2
  have hx' := hl x (hx ▸ List.getElem_mem hlt)
  exact hne (eat_byte ht hy hx' (eats_inj hd (eat_lt ht hy.2) (eat_lt ht hx'.2) h1))
theorem crc_lt {l : List Int} (h : ∀ x ∈ l, x < 256) : crc l < 4294967296 := Nat.xor_lt_two_pow (n := 32) (by decide) (eats_lt (by decide) h)

/-- As the model reckons them. -/
theorem xor_u32 {a b : Nat} (ha : a < 4294967296) (hb : b < 4294967296) : bits .xor .u32 (a : Int) (b : Int) = ((a ^^^ b : Nat) : Int) := by
  show IntKind.u32.wrap ((BitVec.ofInt 32 (a : Int) ^^^ BitVec.ofInt 32 (b : Int)).toNat : Int) = _
  have h1 : a ^^^ b < 4294967296 := Nat.xor_lt_two_pow (n := 32) ha hb
  rw [BitVec.toNat_xor, BitVec.toNat_ofInt, BitVec.toNat_ofInt]
  have e1 : ((a : Int) % ((2 ^ 32 : Nat) : Int)).toNat = a := by omega
  have e2 : ((b : Int) % ((2 ^ 32 : Nat) : Int)).toNat = b := by omega
  rw [e1, e2]; exact wraps_u32 _ (by omega) (by omega)
end Go.Proofs.YtbpccbhlggcmfaaGreatDoor
namespace Go.Proofs.YtbpccbhlggcmfaaGreatDoor
open Go.RowKit

theorem and1_u32 {a : Nat} (ha : a < 4294967296) : bits .and .u32 (a : Int) 1 = ((a % 2 : Nat) : Int) := by
  show IntKind.u32.wrap ((BitVec.ofInt 32 (a : Int) &&& BitVec.ofInt 32 1).toNat : Int) = _
  rw [BitVec.toNat_and, BitVec.toNat_ofInt]
  have e1 : ((a : Int) % ((2 ^ 32 : Nat) : Int)).toNat = a := by omega
  have e2 : (BitVec.ofInt 32 1).toNat = 1 := rfl
  rw [e1, e2, Nat.and_one_is_mod]; exact wraps_u32 _ (by omega) (by omega)
theorem shift_num {n : Nat} (h : n < 4294967296) : bits .xor .u32 ((n : Int) / 2) (bits .and .u32 (n : Int) 1 * 3988292384 % 4294967296) = ((sh n : Nat) : Int) := by
  rw [and1_u32 h]
  have e : ((n : Int) / 2) = ((n / 2 : Nat) : Int) := by omega
  rw [e]
  unfold sh
  by_cases h1 : n % 2 = 1
  · rw [if_pos h1, h1]
    exact xor_u32 (a := n / 2) (b := crcPoly) (by omega) (by decide)
  · rw [if_neg h1, show n % 2 = 0 from by omega]
    have := xor_u32 (a := n / 2) (b := 0) (by omega) (by decide)
    simpa using this
theorem shift_any (w : World) (n : Nat) (h : n < 4294967296) : Calls Tryz.prog 111 #[.int .u32 n] w fun e w' => e = .returned (.int .u32 (sh n : Nat)) ∧ w = w' := by
  go_enter Tryz.func111, Tryz.ntmps111
  go_wp2
  go_ret
  exact ⟨congrArg (fun x => Ending.returned (.int .u32 x)) (shift_num h), rfl⟩
theorem xor_byte {c : Nat} {x : Int} (hc : c < 4294967296) (hx : 0 ≤ x ∧ x < 256) : bits .xor .u32 (c : Int) x = ((c ^^^ x.toNat : Nat) : Int) := by
  have := xor_u32 (a := c) (b := x.toNat) hc (by omega)
  rwa [show ((x.toNat : Nat) : Int) = x from by omega] at this
theorem take_eats {l : List Int} {k : Nat} {x : Int} (c : Nat) (h : l[k]? = some x) : eats c (l.take (k + 1)) = eat (eats c (l.take k)) x := by
  rw [List.take_add_one, h]; exact eats_snoc _ _ _

theorem crc_eats {l : List Int} : (((4294967295 ^^^ eats 4294967295 l : Nat)) : Int) = (crc l : Nat) := rfl
theorem sh_even {n : Nat} (_ : n < 4294967296) (hp : n % 2 = 0) : ((n : Int) / 2) = (sh n : Nat) := by
  unfold sh; rw [if_neg (by omega)]; omega
theorem sh_odd {n : Nat} (h : n < 4294967296) (hp : n % 2 = 1) : bits .xor .u32 ((n : Int) / 2) 3988292384 = (sh n : Nat) := by
  unfold sh; rw [if_pos hp]
  have e : ((n : Int) / 2) = ((n / 2 : Nat) : Int) := by omega
  rw [e]
  exact xor_u32 (a := n / 2) (b := crcPoly) (by omega) (by decide)
theorem ret_u32 {a b : Int} (h : a = b) : Ending.returned (.int .u32 a) = .returned (.int .u32 b) := by rw [h]
theorem not_u32 {n : Nat} (h : n < 4294967296) : bits .xor .u32 IntKind.u32.max (n : Int) = ((4294967295 ^^^ n : Nat) : Int) := xor_u32 (a := 4294967295) (by decide) h
theorem crc_end {l : List Int} {c : Nat} (hc : c < 4294967296) (h : c = eats 4294967295 (l.take l.length)) : bits .xor .u32 IntKind.u32.max (c : Int) = (crc l : Nat) := by
  rw [not_u32 hc, h, List.take_length]; rfl
theorem crc_none : bits .xor .u32 IntKind.u32.max 4294967295 = (crc [] : Nat) := crc_end (l := []) (c := 4294967295) (by decide) rfl

set_option maxHeartbeats 800000 in
theorem sum_any (w : World) (v : Value) (l : List Int) (ok : Okb l) (hl : l.length ≤ 140737488351232) (hs : Seen w v l) : Calls Tryz.prog 102 #[v] w fun e w' => e = .returned (.int .u32 (crc l : Nat)) ∧ w = w' := by
  have hlt : ∀ k, eats 4294967295 (l.take k) < 4294967296 := fun k => eats_lt (by decide) fun x hx => (ok x (List.mem_of_mem_take hx)).2
  have HL := Lib.hid hlt
  clear hlt
  rcases hs with ⟨rfl, rfl⟩ | ⟨a, cap, rfl, hc, hu⟩
  · go_enter Tryz.func102, Tryz.ntmps102
    go_wp2
    go_loop [3, 8] (fun c i => c = .int .u32 4294967295 ∧ i = .int .i64 0) (fun _ _ => 0)
    case atStart => exact ⟨rfl, rfl⟩
    case round =>
      obtain ⟨rfl, rfl⟩ := hrel
      go_wp2
      go_ret
      exact ⟨ret_u32 crc_none, rfl⟩
  · have HU := Lib.hid hu
    clear hu
    go_enter Tryz.func102, Tryz.ntmps102
    go_wp2
    go_loop [3, 8] (fun c i => ∃ k : Nat, k ≤ l.length ∧ i = .int .i64 k ∧ c = .int .u32 (eats 4294967295 (l.take k) : Nat)) (fun _ i => l.length - (intOf i).toNat)
    case atStart => exact ⟨0, Nat.zero_le _, rfl, rfl⟩
    case round =>
      obtain ⟨k, hk, rfl, rfl⟩ := hrel
      have hcl := HL.out k
      obtain ⟨c, hcd⟩ : ∃ c, c = eats 4294967295 (l.take k) := ⟨_, rfl⟩
      rw [← hcd] at hcl ⊢
      have HC := Lib.hid hcd
      clear hcd
      by_cases hlt : k < l.length
      · have hx : ∃ x, l[k]? = some x := ⟨_, List.getElem?_eq_getElem hlt⟩
        obtain ⟨x, hx⟩ := hx
        have hcell := HU.out k (.int .u8 x) (by simp [us, hx])
        have hx2 := ok x (List.mem_of_getElem? hx)
        have HX := Lib.hid hx
        clear hx
        go_wp2
        go_loop [3, 16] (fun d i => ∃ j : Nat, j ≤ 8 ∧ i = .int .i64 j ∧ d = .int .u32 (shs j (c ^^^ x.toNat) : Nat)) (fun _ i => 8 - (intOf i).toNat)
        case atStart => exact ⟨0, Nat.zero_le _, rfl, congrArg (Value.int .u32) (xor_byte hcl hx2)⟩
        case round =>
          obtain ⟨j, hj, rfl, rfl⟩ := hrel
          have hd : shs j (c ^^^ x.toNat) < 4294967296 := shs_lt j (Nat.xor_lt_two_pow (n := 32) hcl (by omega))
          obtain ⟨d, hdd⟩ : ∃ d, d = shs j (c ^^^ x.toNat) := ⟨_, rfl⟩
          rw [← hdd] at hd ⊢
          have HD := Lib.hid hdd
          clear hdd
          by_cases hj8 : j < 8
          · go_wp2_with fail
            refine (shift_any _ d hd).mono ?_
            rintro e _ ⟨rfl, rfl⟩
            go_wp2_with fail
            go_round
            case rel => exact ⟨j + 1, by omega, by go_num, by rw [shs_succ, ← HD.out]⟩
            case measure => simp [intOf]; omega
          · obtain rfl : j = 8 := by omega
            go_wp2_with fail
            go_round
            case rel => exact ⟨k + 1, by omega, by go_num, by rw [take_eats _ HX.out, ← HC.out, HD.out]; rfl⟩
            case measure => simp [intOf]; omega
      · obtain rfl : k = l.length := by omega
        go_wp2_with fail
        go_ret
        exact ⟨ret_u32 (crc_end hcl HC.out), rfl⟩

end Go.Proofs.YtbpccbhlggcmfaaGreatDoor
