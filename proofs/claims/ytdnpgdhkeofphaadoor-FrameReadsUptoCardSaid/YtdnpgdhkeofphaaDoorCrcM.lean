/- Plain mathematics of the checksum: one bit's step is one to one, and so is the sum in each byte. -/
import Derived.RowKit
import Derived.Lib.EndianBits
namespace Go.Proofs.YtdnpgdhkeofphaaDoor
open Go.RowKit

def crcPoly : Nat := 3988292384
/-- One bit. -/
def sh (n : Nat) : Nat := if n % 2 = 1 then (n / 2) ^^^ crcPoly else n / 2
/-- k bits. -/
def shs : Nat → Nat → Nat
  | 0, n => n
  | k + 1, n => shs k (sh n)
theorem shs_succ (k n : Nat) : shs (k + 1) n = sh (shs k n) := by
  induction k generalizing n with
  | zero => rfl
  | succ k ih => exact ih (sh n)
/-- One byte. -/
def eat (c : Nat) (x : Int) : Nat := shs 8 (c ^^^ x.toNat)
def eats (c : Nat) (l : List Int) : Nat := l.foldl eat c
def crc (l : List Int) : Nat := 4294967295 ^^^ eats 4294967295 l

theorem sh_lt {n : Nat} (h : n < 4294967296) : sh n < 4294967296 := by
  unfold sh
  split
  · exact Nat.xor_lt_two_pow (n := 32) (by omega) (by decide)
  · omega
theorem shs_lt (k : Nat) {n : Nat} (h : n < 4294967296) : shs k n < 4294967296 := by
  induction k generalizing n with
  | zero => exact h
  | succ k ih => exact ih (sh_lt h)
theorem eat_lt {c : Nat} {x : Int} (hc : c < 4294967296) (h : x < 256) : eat c x < 4294967296 :=
  shs_lt 8 (Nat.xor_lt_two_pow (n := 32) hc (by omega))
theorem eats_lt {c : Nat} {l : List Int} (hc : c < 4294967296) (h : ∀ x ∈ l, x < 256) : eats c l < 4294967296 := by
  induction l generalizing c with
  | nil => exact hc
  | cons x l ih => exact ih (eat_lt hc (h x (List.mem_cons_self ..))) (fun y hy => h y (List.mem_cons_of_mem _ hy))
theorem eats_snoc (c : Nat) (l : List Int) (x : Int) : eats c (l ++ [x]) = eat (eats c l) x := by simp [eats]

theorem xor_left {a b c : Nat} (h : a ^^^ b = a ^^^ c) : b = c := by
  have := congrArg (a ^^^ ·) h
  simpa [← Nat.xor_assoc] using this
theorem xor_right {a b c : Nat} (h : b ^^^ a = c ^^^ a) : b = c := by
  rw [Nat.xor_comm b, Nat.xor_comm c] at h; exact xor_left h
theorem top_small {n : Nat} (h : n < 2147483648) : n.testBit 31 = false := Nat.testBit_lt_two_pow h
theorem top_sh {n : Nat} (h : n < 4294967296) : (sh n).testBit 31 = decide (n % 2 = 1) := by
  unfold sh
  split
  · rename_i h1
    rw [Nat.testBit_xor, top_small (by omega)]
    simp only [h1, decide_true]
    decide
  · rename_i h1
    rw [top_small (by omega)]; simp [h1]
theorem sh_inj {a b : Nat} (ha : a < 4294967296) (hb : b < 4294967296) (h : sh a = sh b) : a = b := by
  have hp : decide (a % 2 = 1) = decide (b % 2 = 1) := by rw [← top_sh ha, ← top_sh hb, h]
  have hp' : a % 2 = 1 ↔ b % 2 = 1 := by simpa using hp
  unfold sh at h
  by_cases h1 : a % 2 = 1
  · rw [if_pos h1, if_pos (hp'.1 h1)] at h
    have := xor_right h
    have := hp'.1 h1
    omega
  · have h2 : ¬ b % 2 = 1 := fun h2 => h1 (hp'.2 h2)
    rw [if_neg h1, if_neg h2] at h
    omega
theorem shs_inj (k : Nat) {a b : Nat} (ha : a < 4294967296) (hb : b < 4294967296) (h : shs k a = shs k b) : a = b := by
  induction k generalizing a b with
  | zero => exact h
  | succ k ih => exact sh_inj ha hb (ih (sh_lt ha) (sh_lt hb) h)
theorem eats_inj {l : List Int} (hl : ∀ x ∈ l, x < 256) {a b : Nat} (ha : a < 4294967296) (hb : b < 4294967296) (h : eats a l = eats b l) : a = b := by
  induction l generalizing a b with
  | nil => exact h
  | cons x l ih =>
    have hx := hl x (List.mem_cons_self ..)
    have h1 := ih (fun y hy => hl y (List.mem_cons_of_mem _ hy)) (eat_lt ha hx) (eat_lt hb hx) h
    exact xor_right (shs_inj 8 (Nat.xor_lt_two_pow (n := 32) ha (by omega)) (Nat.xor_lt_two_pow (n := 32) hb (by omega)) h1)
theorem eat_byte {c : Nat} {x y : Int} (hc : c < 4294967296) (hx : 0 ≤ x ∧ x < 256) (hy : 0 ≤ y ∧ y < 256) (h : eat c x = eat c y) : x = y := by
  have := xor_left (shs_inj 8 (Nat.xor_lt_two_pow (n := 32) hc (by omega)) (Nat.xor_lt_two_pow (n := 32) hc (by omega)) h)
  omega
/-- One byte that is turned makes another sum. -/
theorem crc_turns {l : List Int} {k : Nat} {x y : Int} (hl : ∀ x ∈ l, 0 ≤ x ∧ x < 256) (hk : l[k]? = some x) (hy : 0 ≤ y ∧ y < 256) (hne : y ≠ x) : crc (l.set k y) ≠ crc l := by
  intro he
  have hlt : k < l.length := (List.getElem?_eq_some_iff.1 hk).1
  have hx : l[k] = x := (List.getElem?_eq_some_iff.1 hk).2
  have h1 := xor_left he
  have e1 : l = l.take k ++ x :: l.drop (k + 1) := by
    rw [← hx]; simp
  have e2 : l.set k y = l.take k ++ y :: l.drop (k + 1) := by
    rw [List.set_eq_take_append_cons_drop, if_pos hlt]
  rw [e2] at h1
  conv at h1 => rhs; rw [e1]
  unfold eats at h1
  rw [List.foldl_append, List.foldl_append, List.foldl_cons, List.foldl_cons] at h1
  have hd : ∀ z ∈ l.drop (k + 1), z < 256 := fun z hz => (hl z (List.mem_of_mem_drop hz)).2
  have ht : (l.take k).foldl eat 4294967295 < 4294967296 := eats_lt (by decide) fun z hz => (hl z (List.mem_of_mem_take hz)).2
  have hx' := hl x (hx ▸ List.getElem_mem hlt)
  exact hne (eat_byte ht hy hx' (eats_inj hd (eat_lt ht hy.2) (eat_lt ht hx'.2) h1))
theorem crc_lt {l : List Int} (h : ∀ x ∈ l, x < 256) : crc l < 4294967296 := Nat.xor_lt_two_pow (n := 32) (by decide) (eats_lt (by decide) h)

/-- As the model reckons them. -/
theorem xor_u32 {a b : Nat} (ha : a < 4294967296) (hb : b < 4294967296) : bits .xor .u32 (a : Int) (b : Int) = ((a ^^^ b : Nat) : Int) := by
  show IntKind.u32.wrap ((BitVec.ofInt 32 (a : Int) ^^^ BitVec.ofInt 32 (b : Int)).toNat : Int) = _
  have h1 : a ^^^ b < 4294967296 := Nat.xor_lt_two_pow (n := 32) ha hb
  rw [BitVec.toNat_xor, BitVec.toNat_ofInt, BitVec.toNat_ofInt]
  have e1 : ((a : Int) % ((2 ^ 32 : Nat) : Int)).toNat = a := by omega
  have e2 : ((b : Int) % ((2 ^ 32 : Nat) : Int)).toNat = b := by omega
  rw [e1, e2]; exact wraps_u32 _ (by omega) (by omega)
end Go.Proofs.YtdnpgdhkeofphaaDoor
