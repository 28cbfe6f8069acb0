/- Hashes and their texts as lists of bytes: plain mathematics. No condition. · Hashes as values: what a hash's cells are, how they are read, and Hash: any number as one of sixty hashes. No condition. -/
import Derived.Laws.BytesArg
import Derived.Lib.Bytealg
import Derived.Lib.Strings
import Derived.Test.YthfkmfepeafgjaaGenOps
import Derived.Test.YthfkmfepeafgjaaGenPick
namespace Go.Proofs.Ythfkmfepeafgjaa
open Go.Op (bytesLess)

/-- Bytes as numbers. -/
def nmb (l : List UInt8) : List Int := l.map fun b => (b.toNat : Int)
theorem nm_length (l : List UInt8) : (nmb l).length = l.length := List.length_map _
theorem nm_str (l : List UInt8) : strOfNums (nmb l) = ⟨l.toArray⟩ := by
  unfold strOfNums nmb
  rw [List.map_map]
  congr 2
  have : ((fun n : Int => UInt8.ofNat n.toNat) ∘ fun b : UInt8 => (b.toNat : Int)) = id := by
    funext b; simp
  rw [this, List.map_id]

/-- The digit of a value below 16. -/
def dg (n : Nat) : UInt8 := if n < 10 then UInt8.ofNat (48 + n) else UInt8.ofNat (87 + n)
/-- The text of bytes. -/
def tx : List UInt8 → List UInt8
  | [] => []
  | b :: l => dg (b.toNat / 16) :: dg (b.toNat % 16) :: tx l
/-- The value of a digit; -1: it is none. -/
def und (c : UInt8) : Int := if 48 ≤ c.toNat ∧ c.toNat ≤ 57 then (c.toNat : Int) - 48 else if 97 ≤ c.toNat ∧ c.toNat ≤ 102 then (c.toNat : Int) - 87 else -1
/-- The bytes of a text, two digits for each. -/
def unh : List UInt8 → List UInt8
  | a :: b :: l => UInt8.ofNat (16 * und a + und b).toNat :: unh l
  | _ => []
/-- All are digits. -/
def digs (l : List UInt8) : Bool := l.all fun c => decide (0 ≤ und c)
/-- 1 to 64 digits. -/
def pre (l : List UInt8) : Bool := decide (1 ≤ l.length) && decide (l.length ≤ 64) && digs l

theorem dg_und : ∀ n, n < 16 → und (dg n) = n := by decide
theorem dg_nat : ∀ n, n < 16 → ((dg n).toNat : Int) = if n < 10 then 48 + (n : Int) else 87 + n := by decide
theorem dg_lt : ∀ i, i < 16 → ∀ j, j < 16 → decide (dg i < dg j) = decide (i < j) := by decide
theorem dg_eq : ∀ i, i < 16 → ∀ j, j < 16 → (dg i == dg j) = decide (i = j) := by decide
theorem und_lo (c : UInt8) : -1 ≤ und c := by unfold und; split <;> (try split) <;> omega
theorem und_hi (c : UInt8) : und c ≤ 15 := by unfold und; split <;> (try split) <;> omega
theorem tx_length : ∀ l, (tx l).length = 2 * l.length
  | [] => rfl
  | _ :: l => by simp only [tx, List.length_cons, tx_length l]; omega
theorem tx_app : ∀ l m, tx (l ++ m) = tx l ++ tx m
  | [], _ => rfl
  | b :: l, m => by simp only [tx, List.cons_append, tx_app l m]
theorem hi16 (b : UInt8) : b.toNat / 16 < 16 ∧ b.toNat % 16 < 16 := by have := b.toNat_lt; omega
theorem tx_digs : ∀ l, digs (tx l) = true
  | [] => rfl
  | b :: l => by
    have h := tx_digs l
    unfold digs at h ⊢
    obtain ⟨h1, h2⟩ := hi16 b
    simp only [tx, List.all_cons, h, dg_und _ h1, dg_und _ h2]
    simp
    omega
theorem tx_pre (l : List UInt8) (h : l.length = 32) : pre (tx l) = true := by
  unfold pre; rw [tx_digs, tx_length, h]; rfl
theorem unh_tx : ∀ l, unh (tx l) = l
  | [] => rfl
  | b :: l => by
    obtain ⟨h1, h2⟩ := hi16 b
    simp only [tx, unh, unh_tx l, dg_und _ h1, dg_und _ h2]
    have : (16 * ((b.toNat / 16 : Nat) : Int) + ((b.toNat % 16 : Nat) : Int)).toNat = b.toNat := by omega
    rw [this, UInt8.ofNat_toNat]
theorem tx_inj {a b : List UInt8} (h : tx a = tx b) : a = b := by rw [← unh_tx a, ← unh_tx b, h]
theorem tx_take : ∀ l k, tx (l.take k) = (tx l).take (2 * k)
  | [], k => by simp [tx]
  | b :: l, 0 => rfl
  | b :: l, k + 1 => by
    rw [List.take_succ_cons, tx, tx_take l k, tx, show 2 * (k + 1) = 2 * k + 1 + 1 from by omega, List.take_succ_cons, List.take_succ_cons]
theorem tx_snoc {l : List UInt8} {k : Nat} (hk : k < l.length) : tx (l.take (k + 1)) = tx (l.take k) ++ [dg (l[k].toNat / 16), dg (l[k].toNat % 16)] := by
  rw [List.take_succ_eq_append_getElem hk, tx_app]; rfl

/-- The order of texts is the order of their bytes. -/
theorem tx_less : ∀ (a b : List UInt8), a.length = b.length → bytesLess (tx a) (tx b) = bytesLess a b
  | [], [], _ => rfl
  | x :: a, y :: b, h => by
    have ih := tx_less a b (by simpa using h)
    obtain ⟨x1, x2⟩ := hi16 x
    obtain ⟨y1, y2⟩ := hi16 y
    simp only [tx, bytesLess, ih, dg_lt _ x1 _ y1, dg_lt _ x2 _ y2, dg_eq _ x1 _ y1, dg_eq _ x2 _ y2]
    have e1 : (x == y) = decide (x.toNat = y.toNat) := by rw [Bool.eq_iff_iff]; simp [UInt8.toNat_inj]
    have e2 : decide (x < y) = decide (x.toNat < y.toNat) := by rw [Bool.eq_iff_iff]; simp [UInt8.lt_iff_toNat_lt]
    rw [e1, e2]
    generalize x.toNat = m
    generalize y.toNat = n
    generalize bytesLess a b = r
    rw [Bool.eq_iff_iff]
    simp only [Bool.or_eq_true, Bool.and_eq_true, decide_eq_true_eq]
    constructor
    · rintro (h | ⟨h, h' | ⟨h', h''⟩⟩)
      · omega
      · omega
      · exact .inr ⟨by omega, h''⟩
    · rintro (h | ⟨rfl, h'⟩)
      · omega
      · exact .inr ⟨rfl, .inr ⟨rfl, h'⟩⟩

theorem less_irrefl : ∀ a, bytesLess a a = false
  | [] => rfl
  | x :: a => by simp [bytesLess, less_irrefl a]
theorem less_trans : ∀ a b c, bytesLess a b = true → bytesLess b c = true → bytesLess a c = true
  | _, [], _, h, _ => by cases ‹List UInt8› <;> simp [bytesLess] at h
  | _, _ :: _, [], _, h => by simp [bytesLess] at h
  | [], _ :: _, _ :: _, _, _ => rfl
  | x :: a, y :: b, z :: c, h, k => by
    simp only [bytesLess, Bool.or_eq_true, Bool.and_eq_true, decide_eq_true_eq, beq_iff_eq] at h k ⊢
    rcases h with h | ⟨rfl, h⟩
    · rcases k with k | ⟨rfl, k⟩
      · exact .inl (UInt8.lt_trans h k)
      · exact .inl h
    · rcases k with k | ⟨rfl, k⟩
      · exact .inl k
      · exact .inr ⟨rfl, less_trans a b c h k⟩
theorem less_total : ∀ a b, bytesLess a b = false → bytesLess b a = false → a = b
  | [], [], _, _ => rfl
  | [], _ :: _, h, _ => by simp [bytesLess] at h
  | _ :: _, [], _, h => by simp [bytesLess] at h
  | x :: a, y :: b, h, k => by
    simp only [bytesLess, Bool.or_eq_false_iff, Bool.and_eq_false_iff, decide_eq_false_iff_not] at h k
    have e : x = y := by
      have h1 := h.1; have k1 := k.1
      exact UInt8.le_antisymm (UInt8.not_lt.1 k1) (UInt8.not_lt.1 h1)
    subst e
    rw [less_total a b (by simpa using h.2) (by simpa using k.2)]
theorem less_asymm {a b : List UInt8} (h : bytesLess a b = true) : bytesLess b a = false := by
  cases hb : bytesLess b a with
  | false => rfl
  | true => have := less_trans a b a h hb; rw [less_irrefl] at this; cases this

/-- The comparison of the library is below zero where the order says so. -/
theorem cmp_less : ∀ a b, decide (Lib.compareBytes a b < 0) = bytesLess a b
  | [], [] => rfl
  | [], _ :: _ => rfl
  | _ :: _, [] => rfl
  | x :: a, y :: b => by
    rw [Lib.compareBytes, bytesLess]
    by_cases h : x < y
    · simp [h]
    · rw [if_neg h]
      by_cases k : y < x
      · have : x ≠ y := fun e => by subst e; exact h k
        simp [h, k, this]
      · have e : x = y := UInt8.le_antisymm (UInt8.not_lt.1 k) (UInt8.not_lt.1 h)
        subst e
        rw [if_neg k, cmp_less a b]
        simp

/-- A text of 64 signs begins another one only where they are one. -/
theorem pre_full {a b : List UInt8} (h : a.length = b.length) : a.isPrefixOf b = decide (a = b) := by
  rw [Bool.eq_iff_iff, List.isPrefixOf_iff_prefix, decide_eq_true_eq]
  exact ⟨fun k => k.eq_of_length h, fun k => k ▸ List.prefix_refl _⟩
theorem pre_take (a : List UInt8) (k : Nat) : (a.take k).isPrefixOf a = true := by
  rw [List.isPrefixOf_iff_prefix]; exact List.take_prefix _ _
end Go.Proofs.Ythfkmfepeafgjaa
namespace Go.Proofs.Ythfkmfepeafgjaa
open Go.RowKit

/-- A hash's cells. -/
def hv (l : List UInt8) : Array Value := (us (nmb l)).toArray
theorem hv_size (l : List UInt8) : (hv l).size = l.length := by simp [hv, us, nmb]
theorem hv_list (l : List UInt8) : (hv l).toList = us (nmb l) := by simp [hv]
theorem hv_get {l : List UInt8} {j : Nat} (h : j < l.length) : (hv l)[j]? = some (.int .u8 (l[j].toNat : Int)) := by simp [hv, us, nmb, h]
theorem hv_getD {l : List UInt8} {j : Nat} (h : j < l.length) (d : Value) : (hv l).getD j d = .int .u8 (l[j].toNat : Int) := by
  have := hv_get h
  simp only [Array.getD_eq_getD_getElem?, this, Option.getD_some]
theorem hv_one (l : List UInt8) : (hv l).all (·.oneCell') = true := by simp [hv, us, Value.oneCell']
theorem us_inj : ∀ {a b : List UInt8}, us (nmb a) = us (nmb b) → a = b
  | [], [], _ => rfl
  | [], _ :: _, h => by cases h
  | _ :: _, [], h => by cases h
  | x :: a, y :: b, h => by
    simp only [nmb, us, List.map_cons, List.cons.injEq, Value.int.injEq, true_and] at h
    have e : x = y := UInt8.toNat_inj.1 (by omega)
    rw [e, us_inj (a := a) (b := b) h.2]
theorem hv_inj {a b : List UInt8} (h : hv a = hv b) : a = b := us_inj (by rw [← hv_list, ← hv_list, h])

theorem hinfo (h : Array Value) (hs : h.size = 32) : (Try.prog.info? 28).map (·.size) = some h.size := by rw [hs]; kernel_rfl
theorem hinfo' (h : Array Value) (hs : h.size = 32) : (Try.prog.info? 28).map (·.size) = some h.toList.length := by rw [Array.length_toList]; exact hinfo h hs
/-- The hash of zeros. -/
def hz : List UInt8 := [0, 0, 0, 0, 0, 0, 0, 0, 0, 0, 0, 0, 0, 0, 0, 0, 0, 0, 0, 0, 0, 0, 0, 0, 0, 0, 0, 0, 0, 0, 0, 0]
def hzer : Array Value := #[.int .u8 0, .int .u8 0, .int .u8 0, .int .u8 0, .int .u8 0, .int .u8 0, .int .u8 0, .int .u8 0, .int .u8 0, .int .u8 0, .int .u8 0, .int .u8 0, .int .u8 0, .int .u8 0, .int .u8 0, .int .u8 0, .int .u8 0, .int .u8 0, .int .u8 0, .int .u8 0, .int .u8 0, .int .u8 0, .int .u8 0, .int .u8 0, .int .u8 0, .int .u8 0, .int .u8 0, .int .u8 0, .int .u8 0, .int .u8 0, .int .u8 0, .int .u8 0]
theorem hz_hv : hv hz = hzer := rfl

theorem index_hash (cs : Array Value) (hc : cs.size = 32) (k : Int) (w : World) (h0 : 0 ≤ k) (h1 : k < 32) : (Instr.index 28 (.agg cs) (.int .i64 k)).run Try.prog w = .ok (cs.getD k.toNat undef) w := by
  have hk : k.toNat < cs.size := by omega
  simp [Instr.index, asIntOf, run_underlying Try.underlying28, h0, h1, part, go_sem, hk]
theorem index_hv {l : List UInt8} (hl : l.length = 32) (k : Nat) (w : World) (hk : k < l.length) : (Instr.index 28 (.agg (hv l)) (.int .i64 k)).run Try.prog w = .ok (.int .u8 (l[k].toNat : Int)) w := by
  rw [index_hash _ (by rw [hv_size, hl]) _ _ (by omega) (by omega), Int.toNat_natCast, hv_getD hk]

/-- A hash is loaded: one step. -/
noncomputable def hld (a : Addr) : Sem Value := loadVar 28 a
theorem hld_open (a : Addr) : loadVar 28 a = hld a := rfl
theorem hld_range {w : World} {p o : Nat} {q : List UInt8} (hs : q.length = 32) (hp : w.rangeAt p o (us (nmb q))) : (hld ⟨p, o, none⟩).run Try.prog w = .ok (.agg (hv q)) w := by
  have := run_loadVar_mid (P := Try.prog) w p o 28 (us (nmb q)) _ hp Try.underlying28 rfl (by rw [← hv_list]; exact hinfo' (hv q) (by rw [hv_size, hs]))
  exact this
theorem hld_row {w : World} {p : Nat} {q : List UInt8} {t : TypeId} (hs : q.length = 32) (hp : w.heap[p]? = some (.cells (hv q) t (0, 0))) : (hld ⟨p, 0, none⟩).run Try.prog w = .ok (.agg (hv q)) w :=
  hld_range hs (by have := range_row hp; rwa [hv_list] at this)
theorem hst_cells (q : List UInt8) (hs : q.length = 32) (w : World) :
    (storeCells ⟨w.heap.size, 0, none⟩ (hv q).toList).run Try.prog (w.alloc (.cells #[.int .u8 0, .int .u8 0, .int .u8 0, .int .u8 0, .int .u8 0, .int .u8 0, .int .u8 0, .int .u8 0, .int .u8 0, .int .u8 0, .int .u8 0, .int .u8 0, .int .u8 0, .int .u8 0, .int .u8 0, .int .u8 0, .int .u8 0, .int .u8 0, .int .u8 0, .int .u8 0, .int .u8 0, .int .u8 0, .int .u8 0, .int .u8 0, .int .u8 0, .int .u8 0, .int .u8 0, .int .u8 0, .int .u8 0, .int .u8 0, .int .u8 0, .int .u8 0] 28)) = .ok () (w.alloc (.cells (hv q) 28)) :=
  run_storeCells_new (P := Try.prog) w 28 hzer (hv q) (hinfo _ (by rw [hv_size, hs])) (by rw [hv_size, hs]; rfl) (hv_one q)

theorem hbuilt : Try.prog.built 28 [] = some hzer := by kernel_rfl

section
theorem index_six' (cs : Array Value) (hc : cs.size = 6) (k : Int) (w : World) (h0 : 0 ≤ k) (h1 : k < 6) : (Instr.index 101 (.agg cs) (.int .i64 k)).run Try.prog w = .ok (cs.getD k.toNat undef) w := by
  have hk : k.toNat < cs.size := by omega
  simp [Instr.index, asIntOf, run_underlying Try.underlying101, h0, h1, part, go_sem, hk]
/-- The first byte of the hash of k. -/
def hsig (k : Int) : Int := [171, 171, 160, 18, 254, 171].getD (k % 6).toNat 0
theorem index_hsig (k : Int) (w : World) : (Instr.index 101 (.agg #[.int .u8 171, .int .u8 171, .int .u8 160, .int .u8 18, .int .u8 254, .int .u8 171]) (.int .i64 (k % 6))).run Try.prog w = .ok (.int .u8 (hsig k)) w := by
  rw [index_six' _ rfl _ _ (by omega) (by omega)]
  unfold hsig
  rcases (show k % 6 = 0 ∨ k % 6 = 1 ∨ k % 6 = 2 ∨ k % 6 = 3 ∨ k % 6 = 4 ∨ k % 6 = 5 from by omega) with h | h | h | h | h | h <;> rw [h] <;> rfl
theorem hsig_range (k : Int) : 0 ≤ hsig k ∧ hsig k < 256 := by
  unfold hsig
  rcases (show k % 6 = 0 ∨ k % 6 = 1 ∨ k % 6 = 2 ∨ k % 6 = 3 ∨ k % 6 = 4 ∨ k % 6 = 5 from by omega) with h | h | h | h | h | h <;> rw [h] <;> decide

/-- The hash of k. -/
def hkq (k : Int) : Array Value := #[.int .u8 (hsig k), .int .u8 (k / 6 * 16), .int .u8 (k * 7 % 256), .int .u8 0, .int .u8 0, .int .u8 0, .int .u8 0, .int .u8 0, .int .u8 0, .int .u8 0, .int .u8 0, .int .u8 0, .int .u8 0, .int .u8 0, .int .u8 0, .int .u8 0, .int .u8 0, .int .u8 0, .int .u8 0, .int .u8 0, .int .u8 0, .int .u8 0, .int .u8 0, .int .u8 0, .int .u8 0, .int .u8 0, .int .u8 0, .int .u8 0, .int .u8 0, .int .u8 0, .int .u8 0, .int .u8 k]
def u8o (x : Int) : UInt8 := UInt8.ofNat x.toNat
def hkl (k : Int) : List UInt8 := [u8o (hsig k), u8o (k / 6 * 16), u8o (k * 7 % 256), 0, 0, 0, 0, 0, 0, 0, 0, 0, 0, 0, 0, 0, 0, 0, 0, 0, 0, 0, 0, 0, 0, 0, 0, 0, 0, 0, 0, u8o k]
/-- The hash of n, as the hand makes it. -/
def hh (n : Int) : List UInt8 := hkl (n % 60)
theorem hh_length (n : Int) : (hh n).length = 32 := rfl
theorem u8o_nat {x : Int} (h0 : 0 ≤ x) (h1 : x < 256) : ((u8o x).toNat : Int) = x := by
  unfold u8o
  rw [UInt8.toNat_ofNat']
  omega
theorem hkl_hv (k : Int) (h0 : 0 ≤ k) (h1 : k < 60) : hv (hkl k) = hkq k := by
  have h2 := hsig_range k
  simp only [hv, us, nmb, hkl, hkq, List.map_cons, List.map_nil, u8o_nat h2.1 h2.2, u8o_nat (x := k / 6 * 16) (by omega) (by omega), u8o_nat (x := k * 7 % 256) (by omega) (by omega), u8o_nat (x := k) (by omega) (by omega)]
  rfl

theorem range_two' (w : World) (a b : Array Value) (t u : TypeId) : ((w.alloc (.cells a t)).alloc (.cells b u)).rangeAt (w.heap.size + 1) 0 b.toList := by
  simpa using range_new (w.alloc (.cells a t)) b u
theorem there_two' (w : World) (a b : Array Value) (t u : TypeId) : ((w.alloc (.cells a t)).alloc (.cells b u)).there w.heap.size 0 a.size :=
  there_row (t := t) (by rw [Below.heap_alloc _ _ _ (by simp)]; exact heap_alloc_last w _)

set_option maxRecDepth 20000 in
set_option maxHeartbeats 1000000 in
theorem hash_to (w : World) (n : Int) : Calls Try.prog 37 #[.int .i64 n] w fun e w' => e = .returned (.agg (hv (hh n))) ∧ Below w.heap.size w w' := by
  have hix := index_hsig
  have hp0 : 0 ≤ n % 60 := Int.emod_nonneg _ (by decide)
  have hp1 : n % 60 < 60 := Int.emod_lt_of_pos _ (by decide)
  unfold hh
  rw [hkl_hv _ hp0 hp1]
  generalize hk : n % 60 = k at *
  have HK := Lib.hid hk
  clear hk
  have HR := Lib.hid (range_two' w hzer (hkq k) 28 28)
  have HT : Hid (((w.alloc (.cells hzer 28)).alloc (.cells (hkq k) 28)).there w.heap.size 0 (hkq k).size) := Lib.hid (there_two' w hzer (hkq k) 28 28)
  go_enter Try.func37, Try.ntmps37
  go_wp2_with (first
    | (go_at_call 24; refine (pick_to _ _ 60 k (by decide) (by decide) HK.out).mono ?_; rintro e w' ⟨rfl, rfl⟩)
    | (refine load_to HR.out Try.underlying28 rfl (hinfo' (hkq k) rfl) ?hx ?_; (case hx => rfl); refine store_to HT.out (hinfo (hkq k) rfl) (by simp [hkq, Value.oneCell']) ?hx ?hy ?_; (case hx => rfl); (case hy => simp [Act.put, Act.eval])))
  have HB : Below w.heap.size w (((w.alloc (.cells hzer 28)).alloc (.cells (hkq k) 28)).setCells w.heap.size 0 (hkq k).toList) :=
    (((Only.refl (fun k => w.heap.size ≤ k) w).alloc _).alloc _ |>.setCells (b := w.heap.size) (Nat.le_refl _) _ 0).below (Nat.le_refl _) (fun _ h => h)
  have hl := loaded (P := Try.prog) (t := 28) (q := hkq k) HT.out Try.underlying28 rfl (hinfo (hkq k) rfl)
  refine bodyPost_ret (v := .agg (hkq k)) (w := ((w.alloc (.cells hzer 28)).alloc (.cells (hkq k) 28)).setCells w.heap.size 0 (hkq k).toList) ?_ rfl ⟨rfl, HB⟩
  generalize ((w.alloc (.cells hzer 28)).alloc (.cells (hkq k) 28)).setCells w.heap.size 0 (hkq k).toList = W3 at hl ⊢
  simp only [results, Try.results37]
  simp [hl, asAddr, Act.put]
end
end Go.Proofs.Ythfkmfepeafgjaa
