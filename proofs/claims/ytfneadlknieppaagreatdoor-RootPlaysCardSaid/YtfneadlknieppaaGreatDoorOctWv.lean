/- What Var of the octet Writer does to the object that it is called on. Its bytes are fewer than a thousand million. -/
import Derived.Test.YtfneadlknieppaaGreatDoorOctKit
import Derived.Lib.Varint
namespace Go.Proofs.YtfneadlknieppaaGreatDoor
open Go.RowKit
attribute [local go_sem ↓] Go.wp_at_zero Go.wp_at_succ

theorem leb_length : ∀ (f : Nat) (u : Int), (leb f u).length ≤ f + 1
  | 0, u => by simp [leb]
  | f + 1, u => by
    rw [leb]
    split
    · simp
    · have := leb_length f (u / 128)
      simp only [List.length_cons]; omega

theorem leb_small {f : Nat} {u : Int} (h : u < 128) : leb f u = [u] := by
  cases f with
  | zero => rfl
  | succ f => rw [leb, if_pos h]
theorem or128 {u : Int} (_h : 0 ≤ u) : bits .or .u8 (u % 256) 128 = u % 128 + 128 := by
  rw [Lib.u8_or128_any _ (by omega) (by omega)]; omega
theorem u64_lt (n : Int) : IntKind.u64.wrap n < 128 ^ (9 + 1) := by
  have : IntKind.u64.wrap n = n % 18446744073709551616 := by simp [IntKind.wrap, IntKind.bits, IntKind.signed]
  rw [this]
  have h := Int.emod_lt_of_pos n (show (0 : Int) < 18446744073709551616 from by decide)
  exact Int.lt_trans h (by decide)

set_option maxHeartbeats 800000 in
set_option maxRecDepth 20000 in
theorem wvar_any (w : World) (b : Nat) (v : Value) (xs : List Int) (n : Int) (B : Nat) (hn : xs.length < 1000000000) (h : Wr 150 B w b v xs) :
    Calls Tryz.prog 57 #[.pointer (some ⟨b,0,none⟩), .int .i64 n] w fun e w' => e = .returned (.tuple #[]) ∧ Wrote 150 B w b v (xs ++ leb 9 (IntKind.u64.wrap n)) w' := by
  obtain ⟨i0, hi0, hz0, hz1, hz2⟩ := info_parts u8info
  go_enter Tryz.func57, Tryz.ntmps57
  go_wp2_with fail
  go_loopw [4] (fun i wr => ∃ (f : Nat) (u : Int), f ≤ 9 ∧ 0 ≤ u ∧ Hid (u < 128 ^ (f + 1)) ∧ i = .int .u64 u ∧ ∃ zs : List Int, Hid (zs ++ leb f u = xs ++ leb 9 (IntKind.u64.wrap n)) ∧ Hid (zs.length + f = xs.length + 9) ∧ Wrote 150 B w b v zs wr) (fun i _ => (intOf i).toNat)
  case atStart => exact ⟨9, _, by omega, wrap_u64_nonneg _, Lib.hid (u64_lt n), rfl, xs, Lib.hid rfl, Lib.hid rfl, Wrote.refl h⟩
  case round =>
    obtain ⟨f, u, hf, hu, hul, rfl, zs, HZ, HL, v', hw', ho', hv'⟩ := hrel
    have hzl : zs.length < 1000000010 := by have := HL.out; omega
    have hc := hw'.cell
    have hown := hw'.2.2
    have hap := Lib.hid (hw'.apart (by decide))
    have hbl := hw'.lt
    have hfz := hw'.frozen
    have hbase := hw'.base
    have HW := Lib.hid hw'
    have HO := Lib.hid ho'
    have HV := Lib.hid hv'
    clear hw' ho' hv' h
    by_cases hlt : u < 128
    · go_wp2_with (at_builtin; refine wpList_append_lies _ (by rfl) (.tmp 27) (.tmp 30) _ (by rfl) B 5 i0 _ 1 1 Tryz.underlying37 hi0 hz0 hz1 hz2 rfl (by omega) v' zs.length (us zs) (by rfl) (hown.alloc _) ⟨wr.heap.size, 0, none⟩ 1 1 [_] (by rfl) (by rfl) (World.news_of_block (cs := #[_]) (t := 5) (fr := (0, 0)) (heap_alloc_new wr _)) (by simp [Value.oneCell']) (by omega) (by simp [maxLen]; omega) (by simp; omega) (by simp; omega) (wr.heap.size + 1) (by simp) ?_; intro gg cap w1 hown1 hgrow hat hlt1; have hc1 : w1.cell? ⟨b, 0, none⟩ = some v' := (hgrow.cell_far ⟨b, 0, none⟩ (by simp; omega) hap.out).trans ((World.cell?_of_block (w := wr) (a := ⟨b, 0, none⟩) (Below.heap_alloc wr _ _ hbl)).trans hc); have hfz1 : w1.frozen? ⟨b, 0, none⟩ = false := (hgrow.frozen_far ⟨b, 0, none⟩ (by simp; omega) hap.out).trans ((World.frozen?_of_block (w := wr) (a := ⟨b, 0, none⟩) (Below.heap_alloc wr _ _ hbl)).trans hfz))
      have R := Wrote.app (news := [u]) (by decide) HW.out HO.out HV.out ((Below.refl _ wr).alloc (Nat.le_refl _) _) rfl (by simpa [us] using hown1) hgrow hat (by omega)
      rw [show zs ++ [u] = xs ++ leb 9 (IntKind.u64.wrap n) from by rw [← HZ.out, leb_small hlt]] at R
      clear hown1 hgrow hat hc hown hc1 hfz1 hfz
      go_end0
      exact ⟨rfl, R⟩
    · go_wp2_with (at_builtin; refine wpList_append_lies _ (by rfl) (.tmp 13) (.tmp 17) _ (by rfl) B 5 i0 _ 1 1 Tryz.underlying37 hi0 hz0 hz1 hz2 rfl (by omega) v' zs.length (us zs) (by rfl) (hown.alloc _) ⟨wr.heap.size, 0, none⟩ 1 1 [_] (by rfl) (by rfl) (World.news_of_block (cs := #[_]) (t := 5) (fr := (0, 0)) (heap_alloc_new wr _)) (by simp [Value.oneCell']) (by omega) (by simp [maxLen]; omega) (by simp; omega) (by simp; omega) (wr.heap.size + 1) (by simp) ?_; intro gg cap w1 hown1 hgrow hat hlt1; have hc1 : w1.cell? ⟨b, 0, none⟩ = some v' := (hgrow.cell_far ⟨b, 0, none⟩ (by simp; omega) hap.out).trans ((World.cell?_of_block (w := wr) (a := ⟨b, 0, none⟩) (Below.heap_alloc wr _ _ hbl)).trans hc); have hfz1 : w1.frozen? ⟨b, 0, none⟩ = false := (hgrow.frozen_far ⟨b, 0, none⟩ (by simp; omega) hap.out).trans ((World.frozen?_of_block (w := wr) (a := ⟨b, 0, none⟩) (Below.heap_alloc wr _ _ hbl)).trans hfz))
      obtain ⟨f, rfl⟩ : ∃ k, f = k + 1 := by
        cases f with
        | zero => have := hul.out; simp at this; omega
        | succ k => exact ⟨k, rfl⟩
      have R := Wrote.app (news := [u % 128 + 128]) (by decide) HW.out HO.out HV.out ((Below.refl _ wr).alloc (Nat.le_refl _) _) rfl (by simpa [us, or128 hu] using hown1) hgrow hat (by omega)
      have hul2 : u / 128 < 128 ^ (f + 1) := by have := hul.out; rw [Int.pow_succ] at this; exact Int.ediv_lt_of_lt_mul (by omega) this
      clear hown1 hgrow hat hc hown hc1 hfz1 hfz
      refine ⟨⟨f, u / 128, by omega, by omega, Lib.hid hul2, rfl, zs ++ [u % 128 + 128], Lib.hid (by rw [← HZ.out, leb, if_neg hlt]; simp), Lib.hid (by have := HL.out; simp; omega), R⟩, by simp [intOf]; omega⟩
end Go.Proofs.YtfneadlknieppaaGreatDoor
