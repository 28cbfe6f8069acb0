/- Hashes and their texts as lists of bytes: plain mathematics. No condition. -/
import Derived.Laws.BytesArg
import Derived.Lib.Bytealg
import Derived.Lib.Strings
namespace Go.Proofs.YtbpccbhlggcmfaaDoor
open Go.Op (bytesLess)

/-- Bytes as numbers. -/
def nmb (l : List UInt8) : List Int := l.map fun b => (b.toNat : Int)
theorem nm_length (l : List UInt8) : (nmb l).length = l.length := List.length_map _
theorem nm_str (l : List UInt8) : strOfNums (nmb l) = ⟨l.toArray⟩ := by
  unfold strOfNums nmb
  rw [List.map_map]
  congr 2
  have : ((fun n : Int => UInt8.ofNat n.toNat) ∘ fun b : UInt8 => (b.toNat : Int)) = id := by
    funext b; simp
  rw [this, List.map_id]

/-- The digit of a value below 16. -/
def dg (n : Nat) : UInt8 := if n < 10 then UInt8.ofNat (48 + n) else UInt8.ofNat (87 + n)
/-- The text of bytes. -/
def tx : List UInt8 → List UInt8
  | [] => []
  | b :: l => dg (b.toNat / 16) :: dg (b.toNat % 16) :: tx l
/-- The value of a digit; -1: it is none. -/
def und (c : UInt8) : Int := if 48 ≤ c.toNat ∧ c.toNat ≤ 57 then (c.toNat : Int) - 48 else if 97 ≤ c.toNat ∧ c.toNat ≤ 102 then (c.toNat : Int) - 87 else -1
/-- The bytes of a text, two digits for each. -/
def unh : List UInt8 → List UInt8
  | a :: b :: l => UInt8.ofNat (16 * und a + und b).toNat :: unh l
  | _ => []
/-- All are digits. -/
def digs (l : List UInt8) : Bool := l.all fun c => decide (0 ≤ und c)
/-- 1 to 64 digits. -/
def pre (l : List UInt8) : Bool := decide (1 ≤ l.length) && decide (l.length ≤ 64) && digs l

theorem dg_und : ∀ n, n < 16 → und (dg n) = n := by decide
theorem dg_nat : ∀ n, n < 16 → ((dg n).toNat : Int) = if n < 10 then 48 + (n : Int) else 87 + n := by decide
theorem dg_lt : ∀ i, i < 16 → ∀ j, j < 16 → decide (dg i < dg j) = decide (i < j) := by decide
theorem dg_eq : ∀ i, i < 16 → ∀ j, j < 16 → (dg i == dg j) = decide (i = j) := by decide
theorem und_lo (c : UInt8) : -1 ≤ und c := by unfold und; split <;> (try split) <;> omega
theorem und_hi (c : UInt8) : und c ≤ 15 := by unfold und; split <;> (try split) <;> omega
theorem tx_length : ∀ l, (tx l).length = 2 * l.length
  | [] => rfl
  | _ :: l => by simp only [tx, List.length_cons, tx_length l]; omega
theorem tx_app : ∀ l m, tx (l ++ m) = tx l ++ tx m
  | [], _ => rfl
  | b :: l, m => by simp only [tx, List.cons_append, tx_app l m]
theorem hi16 (b : UInt8) : b.toNat / 16 < 16 ∧ b.toNat % 16 < 16 := by have := b.toNat_lt; omega
theorem tx_digs : ∀ l, digs (tx l) = true
  | [] => rfl
  | b :: l => by
    have h := tx_digs l
    unfold digs at h ⊢
    obtain ⟨h1, h2⟩ := hi16 b
    simp only [tx, List.all_cons, h, dg_und _ h1, dg_und _ h2]
    simp
    omega
theorem tx_pre (l : List UInt8) (h : l.length = 32) : pre (tx l) = true := by
  unfold pre; rw [tx_digs, tx_length, h]; rfl
theorem unh_tx : ∀ l, unh (tx l) = l
  | [] => rfl
  | b :: l => by
    obtain ⟨h1, h2⟩ := hi16 b
    simp only [tx, unh, unh_tx l, dg_und _ h1, dg_und _ h2]
    have : (16 * ((b.toNat / 16 : Nat) : Int) + ((b.toNat % 16 : Nat) : Int)).toNat = b.toNat := by omega
    rw [this, UInt8.ofNat_toNat]
theorem tx_inj {a b : List UInt8} (h : tx a = tx b) : a = b := by rw [← unh_tx a, ← unh_tx b, h]
theorem tx_take : ∀ l k, tx (l.take k) = (tx l).take (2 * k)
  | [], k => by simp [tx]
  | b :: l, 0 => rfl
  | b :: l, k + 1 => by
    rw [List.take_succ_cons, tx, tx_take l k, tx, show 2 * (k + 1) = 2 * k + 1 + 1 from by omega, List.take_succ_cons, List.take_succ_cons]
theorem tx_snoc {l : List UInt8} {k : Nat} (hk : k < l.length) : tx (l.take (k + 1)) = tx (l.take k) ++ [dg (l[k].toNat / 16), dg (l[k].toNat % 16)] := by
  rw [List.take_succ_eq_append_getElem hk, tx_app]; rfl

/-- The order of texts is the order of their bytes. -/
theorem tx_less : ∀ (a b : List UInt8), a.length = b.length → bytesLess (tx a) (tx b) = bytesLess a b
  | [], [], _ => rfl
  | x :: a, y :: b, h => by
    have ih := tx_less a b (by simpa using h)
    obtain ⟨x1, x2⟩ := hi16 x
    obtain ⟨y1, y2⟩ := hi16 y
    simp only [tx, bytesLess, ih, dg_lt _ x1 _ y1, dg_lt _ x2 _ y2, dg_eq _ x1 _ y1, dg_eq _ x2 _ y2]
    have e1 : (x == y) = decide (x.toNat = y.toNat) := by rw [Bool.eq_iff_iff]; simp [UInt8.toNat_inj]
    have e2 : decide (x < y) = decide (x.toNat < y.toNat) := by rw [Bool.eq_iff_iff]; simp [UInt8.lt_iff_toNat_lt]
    rw [e1, e2]
    generalize x.toNat = m
    generalize y.toNat = n
    generalize bytesLess a b = r
    rw [Bool.eq_iff_iff]
    simp only [Bool.or_eq_true, Bool.and_eq_true, decide_eq_true_eq]
    constructor
    · rintro (h | ⟨h, h' | ⟨h', h''⟩⟩)
      · omega
      · omega
      · exact .inr ⟨by omega, h''⟩
    · rintro (h | ⟨rfl, h'⟩)
      · omega
      · exact .inr ⟨rfl, .inr ⟨rfl, h'⟩⟩

theorem less_irrefl : ∀ a, bytesLess a a = false
  | [] => rfl
  | x :: a => by simp [bytesLess, less_irrefl a]
theorem less_trans : ∀ a b c, bytesLess a b = true → bytesLess b c = true → bytesLess a c = true
  | _, [], _, h, _ => by cases ‹List UInt8› <;> simp [bytesLess] at h
  | _, _ :: _, [], _, h => by simp [bytesLess] at h
  | [], _ :: _, _ :: _, _, _ => rfl
  | x :: a, y :: b, z :: c, h, k => by
    simp only [bytesLess, Bool.or_eq_true, Bool.and_eq_true, decide_eq_true_eq, beq_iff_eq] at h k ⊢
    rcases h with h | ⟨rfl, h⟩
    · rcases k with k | ⟨rfl, k⟩
      · exact .inl (UInt8.lt_trans h k)
      · exact .inl h
    · rcases k with k | ⟨rfl, k⟩
      · exact .inl k
      · exact .inr ⟨rfl, less_trans a b c h k⟩
theorem less_total : ∀ a b, bytesLess a b = false → bytesLess b a = false → a = b
  | [], [], _, _ => rfl
  | [], _ :: _, h, _ => by simp [bytesLess] at h
  | _ :: _, [], _, h => by simp [bytesLess] at h
  | x :: a, y :: b, h, k => by
    simp only [bytesLess, Bool.or_eq_false_iff, Bool.and_eq_false_iff, decide_eq_false_iff_not] at h k
    have e : x = y := by
      have h1 := h.1; have k1 := k.1
      exact UInt8.le_antisymm (UInt8.not_lt.1 k1) (UInt8.not_lt.1 h1)
    subst e
    rw [less_total a b (by simpa using h.2) (by simpa using k.2)]
theorem less_asymm {a b : List UInt8} (h : bytesLess a b = true) : bytesLess b a = false := by
  cases hb : bytesLess b a with
  | false => rfl
  | true => have := less_trans a b a h hb; rw [less_irrefl] at this; cases this

/-- The comparison of the library is below zero where the order says so. -/
theorem cmp_less : ∀ a b, decide (Lib.compareBytes a b < 0) = bytesLess a b
  | [], [] => rfl
  | [], _ :: _ => rfl
  | _ :: _, [] => rfl
  | x :: a, y :: b => by
    rw [Lib.compareBytes, bytesLess]
    by_cases h : x < y
    · simp [h]
    · rw [if_neg h]
      by_cases k : y < x
      · have : x ≠ y := fun e => by subst e; exact h k
        simp [h, k, this]
      · have e : x = y := UInt8.le_antisymm (UInt8.not_lt.1 k) (UInt8.not_lt.1 h)
        subst e
        rw [if_neg k, cmp_less a b]
        simp

/-- A text of 64 signs begins another one only where they are one. -/
theorem pre_full {a b : List UInt8} (h : a.length = b.length) : a.isPrefixOf b = decide (a = b) := by
  rw [Bool.eq_iff_iff, List.isPrefixOf_iff_prefix, decide_eq_true_eq]
  exact ⟨fun k => k.eq_of_length h, fun k => k ▸ List.prefix_refl _⟩
theorem pre_take (a : List UInt8) (k : Nat) : (a.take k).isPrefixOf a = true := by
  rw [List.isPrefixOf_iff_prefix]; exact List.take_prefix _ _
end Go.Proofs.YtbpccbhlggcmfaaDoor
