/- What Var of the octet Writer does to the object that it is called on. Its bytes are fewer than a thousand million. · Plain arithmetic: the groups of seven bits of a number, and what is read of them. · Plain arithmetic: what steps write, and that it is read back. -/
import Derived.Test.YtbpccbhlggcmfaaGreatDoorOctBits
import Derived.Lib.Varint
import Derived.Test.YtbpccbhlggcmfaaGreatDoorOctR
namespace Go.Proofs.YtbpccbhlggcmfaaGreatDoor
open Go.RowKit
attribute [local go_sem ↓] Go.wp_at_zero Go.wp_at_succ

theorem leb_length : ∀ (f : Nat) (u : Int), (leb f u).length ≤ f + 1
  | 0, u => by simp [leb]
  | f + 1, u => by
    rw [leb]
    split
    · simp
    · have := leb_length f (u / 128)
      simp only [List.length_cons]; omega

theorem leb_small {f : Nat} {u : Int} (h : u < 128) : leb f u = [u] := by
  cases f with
  | zero => rfl
  | succ f => rw [leb, if_pos h]
theorem or128 {u : Int} (_h : 0 ≤ u) : bits .or .u8 (u % 256) 128 = u % 128 + 128 := by
  rw [Lib.u8_or128_any _ (by omega) (by omega)]; omega
theorem u64_lt (n : Int) : IntKind.u64.wrap n < 128 ^ (9 + 1) := by
  have : IntKind.u64.wrap n = n % 18446744073709551616 := by simp [IntKind.wrap, IntKind.bits, IntKind.signed]
  rw [this]
  have h := Int.emod_lt_of_pos n (show (0 : Int) < 18446744073709551616 from by decide)
  exact Int.lt_trans h (by decide)

set_option maxHeartbeats 800000 in
set_option maxRecDepth 20000 in
theorem wvar_any (w : World) (b : Nat) (v : Value) (xs : List Int) (n : Int) (B : Nat) (hn : xs.length < 1000000000) (h : Wr 163 B w b v xs) :
    Calls Tryz.prog 62 #[.pointer (some ⟨b,0,none⟩), .int .i64 n] w fun e w' => e = .returned (.tuple #[]) ∧ Wrote 163 B w b v (xs ++ leb 9 (IntKind.u64.wrap n)) w' := by
  obtain ⟨i0, hi0, hz0, hz1, hz2⟩ := info_parts u8info
  go_enter Tryz.func62, Tryz.ntmps62
  go_wp2_with fail
  go_loopw [4] (fun i wr => ∃ (f : Nat) (u : Int), f ≤ 9 ∧ 0 ≤ u ∧ Hid (u < 128 ^ (f + 1)) ∧ i = .int .u64 u ∧ ∃ zs : List Int, Hid (zs ++ leb f u = xs ++ leb 9 (IntKind.u64.wrap n)) ∧ Hid (zs.length + f = xs.length + 9) ∧ Wrote 163 B w b v zs wr) (fun i _ => (intOf i).toNat)
  case atStart => exact ⟨9, _, by omega, wrap_u64_nonneg _, Lib.hid (u64_lt n), rfl, xs, Lib.hid rfl, Lib.hid rfl, Wrote.refl h⟩
  case round =>
    obtain ⟨f, u, hf, hu, hul, rfl, zs, HZ, HL, v', hw', ho', hv'⟩ := hrel
    have hzl : zs.length < 1000000010 := by have := HL.out; omega
    have hc := hw'.cell
    have hown := hw'.2.2
    have hap := Lib.hid (hw'.apart (by decide))
    have hbl := hw'.lt
    have hfz := hw'.frozen
    have hbase := hw'.base
    have HW := Lib.hid hw'
    have HO := Lib.hid ho'
    have HV := Lib.hid hv'
    clear hw' ho' hv' h
    by_cases hlt : u < 128
    · go_wp2_with (at_builtin; refine wpList_append_lies _ (by rfl) (.tmp 27) (.tmp 30) _ (by rfl) B 5 i0 _ 1 1 Tryz.underlying71 hi0 hz0 hz1 hz2 rfl (by omega) v' zs.length (us zs) (by rfl) (hown.alloc _) ⟨wr.heap.size, 0, none⟩ 1 1 [_] (by rfl) (by rfl) (World.news_of_block (cs := #[_]) (t := 5) (fr := (0, 0)) (heap_alloc_new wr _)) (by simp [Value.oneCell']) (by omega) (by simp [maxLen]; omega) (by simp; omega) (by simp; omega) (wr.heap.size + 1) (by simp) ?_; intro gg cap w1 hown1 hgrow hat hlt1; have hc1 : w1.cell? ⟨b, 0, none⟩ = some v' := (hgrow.cell_far ⟨b, 0, none⟩ (by simp; omega) hap.out).trans ((World.cell?_of_block (w := wr) (a := ⟨b, 0, none⟩) (Below.heap_alloc wr _ _ hbl)).trans hc); have hfz1 : w1.frozen? ⟨b, 0, none⟩ = false := (hgrow.frozen_far ⟨b, 0, none⟩ (by simp; omega) hap.out).trans ((World.frozen?_of_block (w := wr) (a := ⟨b, 0, none⟩) (Below.heap_alloc wr _ _ hbl)).trans hfz))
      have R := Wrote.app (news := [u]) (by decide) HW.out HO.out HV.out ((Below.refl _ wr).alloc (Nat.le_refl _) _) rfl (by simpa [us] using hown1) hgrow hat (by omega)
      rw [show zs ++ [u] = xs ++ leb 9 (IntKind.u64.wrap n) from by rw [← HZ.out, leb_small hlt]] at R
      clear hown1 hgrow hat hc hown hc1 hfz1 hfz
      go_end0
      exact ⟨rfl, R⟩
    · go_wp2_with (at_builtin; refine wpList_append_lies _ (by rfl) (.tmp 13) (.tmp 17) _ (by rfl) B 5 i0 _ 1 1 Tryz.underlying71 hi0 hz0 hz1 hz2 rfl (by omega) v' zs.length (us zs) (by rfl) (hown.alloc _) ⟨wr.heap.size, 0, none⟩ 1 1 [_] (by rfl) (by rfl) (World.news_of_block (cs := #[_]) (t := 5) (fr := (0, 0)) (heap_alloc_new wr _)) (by simp [Value.oneCell']) (by omega) (by simp [maxLen]; omega) (by simp; omega) (by simp; omega) (wr.heap.size + 1) (by simp) ?_; intro gg cap w1 hown1 hgrow hat hlt1; have hc1 : w1.cell? ⟨b, 0, none⟩ = some v' := (hgrow.cell_far ⟨b, 0, none⟩ (by simp; omega) hap.out).trans ((World.cell?_of_block (w := wr) (a := ⟨b, 0, none⟩) (Below.heap_alloc wr _ _ hbl)).trans hc); have hfz1 : w1.frozen? ⟨b, 0, none⟩ = false := (hgrow.frozen_far ⟨b, 0, none⟩ (by simp; omega) hap.out).trans ((World.frozen?_of_block (w := wr) (a := ⟨b, 0, none⟩) (Below.heap_alloc wr _ _ hbl)).trans hfz))
      obtain ⟨f, rfl⟩ : ∃ k, f = k + 1 := by
        cases f with
        | zero => have := hul.out; simp at this; omega
        | succ k => exact ⟨k, rfl⟩
      have R := Wrote.app (news := [u % 128 + 128]) (by decide) HW.out HO.out HV.out ((Below.refl _ wr).alloc (Nat.le_refl _) _) rfl (by simpa [us, or128 hu] using hown1) hgrow hat (by omega)
      have hul2 : u / 128 < 128 ^ (f + 1) := by have := hul.out; rw [Int.pow_succ] at this; exact Int.ediv_lt_of_lt_mul (by omega) this
      clear hown1 hgrow hat hc hown hc1 hfz1 hfz
      refine ⟨⟨f, u / 128, by omega, by omega, Lib.hid hul2, rfl, zs ++ [u % 128 + 128], Lib.hid (by rw [← HZ.out, leb, if_neg hlt]; simp), Lib.hid (by have := HL.out; simp; omega), R⟩, by simp [intOf]; omega⟩
end Go.Proofs.YtbpccbhlggcmfaaGreatDoor
namespace Go.Proofs.YtbpccbhlggcmfaaGreatDoor
open Go.RowKit

theorem leb_big {f : Nat} {u : Int} (h : ¬ u < 128) : leb (f + 1) u = (u % 128 + 128) :: leb f (u / 128) := by rw [leb, if_neg h]

theorem leb_ok : ∀ (f : Nat) (u : Int), 0 ≤ u → u < 128 ^ (f + 1) → Okb (leb f u)
  | 0, u, h, hu => by
    have : u < 128 := by simpa using hu
    intro x hx
    simp [leb] at hx
    subst hx; omega
  | f + 1, u, h, hu => by
    by_cases hlt : u < 128
    · rw [leb_small hlt]
      intro x hx
      simp at hx
      subst hx; omega
    · rw [leb_big hlt]
      have ih := leb_ok f (u / 128) (by omega) (by rw [Int.pow_succ] at hu; exact Int.ediv_lt_of_lt_mul (by omega) hu)
      intro x hx
      rcases List.mem_cons.1 hx with rfl | hx
      · omega
      · exact ih x hx

theorem leb_pos (f : Nat) (u : Int) : ∃ k, (leb f u).length = k + 1 := by
  cases f with
  | zero => exact ⟨0, rfl⟩
  | succ f =>
    rw [leb]
    split
    · exact ⟨0, rfl⟩
    · exact ⟨_, rfl⟩

theorem pow_step (i : Nat) (x : Int) : x / 128 * 2 ^ (7 * (i + 1)) + x % 128 * 2 ^ (7 * i) = x * 2 ^ (7 * i) := by
  have e : (2 : Int) ^ (7 * (i + 1)) = 128 * 2 ^ (7 * i) := by
    rw [show 7 * (i + 1) = 7 * i + 7 from by omega, Int.pow_add, Int.mul_comm]; rfl
  rw [e, ← Int.mul_assoc, ← Int.add_mul]
  congr 1
  omega

theorem rv_leb : ∀ (f i : Nat) (a x : Int) (rest : List Int), i + f = 9 → 0 ≤ x → x < 128 ^ (f + 1) → (0 < i → 0 < x) → x * 2 ^ (7 * i) < 18446744073709551616 → rv (f + 1) i a (leb f x ++ rest) = some (a + x * 2 ^ (7 * i), rest)
  | 0, i, a, x, rest, hi, h0, h1, hp, hb => by
    have h9 : i = 9 := by omega
    subst h9
    have hx : x < 2 := by
      have e : (2 : Int) ^ (7 * 9) = 9223372036854775808 := by decide
      rw [e] at hb; omega
    have := hp (by omega)
    simp only [leb, List.cons_append, List.nil_append]
    rw [rv, if_neg (by omega), if_pos (by omega)]
  | f + 1, i, a, x, rest, hi, h0, h1, hp, hb => by
    by_cases hlt : x < 128
    · rw [leb_small hlt]
      simp only [List.cons_append, List.nil_append]
      rw [rv, if_neg (by rintro (⟨h, h'⟩ | ⟨h, _⟩); have := hp h; omega; omega), if_pos hlt]
    · rw [leb_big hlt, List.cons_append, rv, if_neg (by omega), if_neg (by omega)]
      have hs := pow_step i x
      have hm : x % 128 * 2 ^ (7 * i) ≥ 0 := Int.mul_nonneg (by omega) (Int.le_of_lt (Int.pow_pos (by decide)))
      rw [rv_leb f (i + 1) _ (x / 128) rest (by omega) (by omega) (by rw [Int.pow_succ] at h1; exact Int.ediv_lt_of_lt_mul (by omega) h1) (by omega) (by omega)]
      congr 2
      rw [show x % 128 + 128 - 128 = x % 128 from by omega]
      omega

theorem rv_short : ∀ (f i : Nat) (a x : Int) (c : Nat), c < (leb f x).length → rv (f + 1) i a ((leb f x).take c) = none
  | 0, i, a, x, c, hc => by
    have : c = 0 := by simp [leb] at hc; exact hc
    subst this
    rw [List.take_zero, rv]
  | f + 1, i, a, x, c, hc => by
    cases c with
    | zero => rw [List.take_zero, rv]
    | succ c =>
      by_cases hlt : x < 128
      · rw [leb_small hlt] at hc; simp at hc
      · rw [leb_big hlt] at hc ⊢
        rw [List.take_succ_cons, rv]
        split
        · rfl
        · rw [if_neg (by omega)]
          exact rv_short f (i + 1) _ (x / 128) c (by simpa using hc)

/-- What byte j of the groups is: the last one is below 128, and is not 0 where there is another one; the others are not below 128. -/
theorem leb_get : ∀ (f : Nat) (x : Int) (j : Nat) (y : Int), 0 ≤ x → x < 128 ^ (f + 1) → (leb f x)[j]? = some y → 0 ≤ y ∧ y < 256 ∧ (j + 1 < (leb f x).length → 128 ≤ y) ∧ (j + 1 = (leb f x).length → y < 128 ∧ (0 < x → 0 < y))
  | 0, x, j, y, h0, h1, hj => by
    have hx : x < 128 := by simpa using h1
    cases j with
    | zero => simp [leb] at hj; subst hj; simp [leb]; omega
    | succ j => simp [leb] at hj
  | f + 1, x, j, y, h0, h1, hj => by
    by_cases hlt : x < 128
    · rw [leb_small hlt] at hj ⊢
      cases j with
      | zero => simp at hj; subst hj; simp; omega
      | succ j => simp at hj
    · have hd : x / 128 < 128 ^ (f + 1) := by rw [Int.pow_succ] at h1; exact Int.ediv_lt_of_lt_mul (by omega) h1
      rw [leb_big hlt] at hj ⊢
      cases j with
      | zero =>
        simp at hj
        subst hj
        obtain ⟨k, hk⟩ := leb_pos f (x / 128)
        rw [List.length_cons, hk]
        refine ⟨by omega, by omega, fun _ => by omega, fun h => by omega⟩
      | succ j =>
        have ih := leb_get f (x / 128) j y (by omega) hd (by simpa using hj)
        rw [List.length_cons]
        refine ⟨ih.1, ih.2.1, fun h => ih.2.2.1 (by omega), fun h => ?_⟩
        have := ih.2.2.2 (by omega)
        exact ⟨this.1, fun _ => this.2 (by omega)⟩

theorem leb_last {f : Nat} {x : Int} (h0 : 0 ≤ x) (h : 1 < (leb f x).length) : 0 < x := by
  rcases Int.lt_or_le 0 x with h' | h'
  · exact h'
  · rw [leb_small (by omega)] at h; simp at h

theorem u64_bd (n : Int) : 0 ≤ IntKind.u64.wrap n ∧ IntKind.u64.wrap n < 18446744073709551616 := by
  rw [IntKind.wrap_u64]; omega
theorem u64_pow (n : Int) : IntKind.u64.wrap n < 128 ^ (9 + 1) := u64_lt n
theorem wrap_back (n : Int) (h : -9223372036854775808 ≤ n ∧ n ≤ 9223372036854775807) : wrap64 (IntKind.u64.wrap n) = n := by
  rw [wrap64_u64]
  exact IntWalk.wrap64_in _ h
end Go.Proofs.YtbpccbhlggcmfaaGreatDoor
namespace Go.Proofs.YtbpccbhlggcmfaaGreatDoor
open Go.RowKit

theorem foldl_bv : ∀ (l : List Int) (a : Int), l.foldl (fun a x => a * 256 + x) a = a * 256 ^ l.length + bv l
  | [], a => by simp [bv]
  | x :: l, a => by
    have e : bv (x :: l) = (0 * 256 + x) * 256 ^ l.length + bv l := by rw [bv, List.foldl_cons, foldl_bv l (0 * 256 + x)]
    rw [List.foldl_cons, foldl_bv l (a * 256 + x), e, List.length_cons, Int.pow_succ, Int.add_mul, Int.zero_mul, Int.zero_add, Int.mul_assoc, Int.mul_comm 256]
    omega
theorem bv_cons (x : Int) (l : List Int) : bv (x :: l) = x * 256 ^ l.length + bv l := by
  rw [bv, List.foldl_cons, foldl_bv l (0 * 256 + x), Int.zero_mul, Int.zero_add]

theorem pow8 (j : Nat) : (2 : Int) ^ (8 * j) = 256 ^ j := by rw [Int.pow_mul]; rfl
theorem bv_be (n : Int) : ∀ m, bv (be n m) = n % 256 ^ m
  | 0 => by simp [be, bv]
  | j + 1 => by
    rw [be, bv_cons, be_length, bv_be n j, byteAt, IntKind.wrap_u8', pow8, Int.pow_succ]
    have hp : (0 : Int) < 256 ^ j := Int.pow_pos (by decide)
    have h1 := Int.mul_ediv_add_emod n (256 ^ j)
    have h2 := Int.mul_ediv_add_emod (n / 256 ^ j) 256
    have h3 : n / 256 ^ j / 256 = n / (256 ^ j * 256) := Int.ediv_ediv_of_nonneg (Int.le_of_lt hp)
    have h4 := Int.mul_ediv_add_emod n (256 ^ j * 256)
    rw [← h3] at h4
    generalize (256 : Int) ^ j = p at *
    generalize n / p = q at *
    generalize n % p = r at *
    generalize q / 256 = s at *
    generalize q % 256 = t at *
    rw [← h2] at h1
    have e : p * (256 * s + t) = p * 256 * s + t * p := by rw [Int.mul_add, Int.mul_assoc, Int.mul_comm p t]
    rw [e] at h1
    generalize p * 256 * s = y at *
    generalize t * p = z at *
    omega

theorem be_ok (n : Int) : ∀ m, Okb (be n m)
  | 0 => Okb.nil
  | j + 1 => by
    intro x hx
    rw [be] at hx
    rcases List.mem_cons.1 hx with rfl | hx
    · rw [byteAt, IntKind.wrap_u8']; omega
    · exact be_ok n j x hx

/-- What one step writes; r: which call. -/
def encStep (r n : Int) : List Int :=
  if r = 0 then be (n % 256) 1 else if r = 1 then be (n % 4294967296) 4 else if r = 2 then be n 8 else leb 9 (IntKind.u64.wrap n)
theorem enc0 (n : Int) : encStep 0 n = be (n % 256) 1 := rfl
theorem enc1 (n : Int) : encStep 1 n = be (n % 4294967296) 4 := rfl
theorem enc2 (n : Int) : encStep 2 n = be n 8 := rfl
theorem enc3 (n : Int) : encStep 3 n = leb 9 (IntKind.u64.wrap n) := rfl
theorem encStep_len (r n : Int) : (encStep r n).length ≤ 10 := by
  unfold encStep
  split
  · rw [be_length]; omega
  · split
    · rw [be_length]; omega
    · split
      · rw [be_length]; omega
      · exact leb_length 9 _
theorem encStep_ok (r n : Int) : Okb (encStep r n) := by
  unfold encStep
  split
  · exact be_ok _ _
  · split
    · exact be_ok _ _
    · split
      · exact be_ok _ _
      · exact leb_ok 9 _ (u64_bd n).1 (u64_pow n)

/-- What m steps write, from step i on. -/
def encFrom (W N : Nat → Int) : Nat → Nat → List Int
  | _, 0 => []
  | i, m + 1 => encStep (W i % 4) (N i) ++ encFrom W N (i + 1) m
theorem encFrom_len (W N : Nat → Int) : ∀ m i, (encFrom W N i m).length ≤ 10 * m
  | 0, i => by simp [encFrom]
  | m + 1, i => by
    have h1 := encFrom_len W N m (i + 1)
    have h2 := encStep_len (W i % 4) (N i)
    rw [encFrom, List.length_append]; omega
theorem encFrom_ok (W N : Nat → Int) : ∀ m i, Okb (encFrom W N i m)
  | 0, _ => Okb.nil
  | m + 1, i => (encStep_ok _ _).app (encFrom_ok W N m (i + 1))
theorem encFrom_step (W N : Nat → Int) {i k : Nat} (h : i < k) : encFrom W N i (k - i) = encStep (W i % 4) (N i) ++ encFrom W N (i + 1) (k - (i + 1)) := by
  rw [show k - i = (k - (i + 1)) + 1 from by omega, encFrom]
theorem encFrom_done (W N : Nat → Int) {i k : Nat} (h : k ≤ i) : encFrom W N i (k - i) = [] := by
  rw [show k - i = 0 from by omega, encFrom]

/-- The four numbers, read again. -/
theorem back1 (n : Int) (l : List Int) : IntKind.i64.wrap (bv ((be (n % 256) 1 ++ l).take 1)) = n % 256 := by
  rw [List.take_left' (be_length _ 1), bv_be, wrap64_eq, IntWalk.wrap64_in _ (by omega)]
  omega
theorem back4 (n : Int) (l : List Int) : IntKind.i64.wrap (bv ((be (n % 4294967296) 4 ++ l).take 4)) = n % 4294967296 := by
  rw [List.take_left' (be_length _ 4), bv_be, wrap64_eq, IntWalk.wrap64_in _ (by omega)]
  omega
theorem back8 (n : Int) (l : List Int) (h : -9223372036854775808 ≤ n ∧ n ≤ 9223372036854775807) : IntKind.i64.wrap (bv ((be n 8 ++ l).take 8)) = n := by
  rw [List.take_left' (be_length _ 8), bv_be, wrap64_eq]
  have e : wrap64 (n % 256 ^ 8) = wrap64 n := wrap64_congr (by omega)
  rw [e, IntWalk.wrap64_in _ h]
theorem backVar (n : Int) (l : List Int) : rv 10 0 0 (leb 9 (IntKind.u64.wrap n) ++ l) = some (IntKind.u64.wrap n, l) := by
  have := rv_leb 9 0 0 (IntKind.u64.wrap n) l rfl (u64_bd n).1 (u64_pow n) (by omega) (by have := (u64_bd n).2; simpa using this)
  simpa using this
end Go.Proofs.YtbpccbhlggcmfaaGreatDoor
