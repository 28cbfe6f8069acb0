/- What the calls of the reference's Writer do to the object that they are called on. Its bytes are fewer than a thousand million. -/
import Derived.Test.YtfneadlknieppaaGreatDoorOctKit
namespace Go.Proofs.YtfneadlknieppaaGreatDoor
open Go.RowKit
attribute [local go_sem ↓] Go.wp_at_zero Go.wp_at_succ

set_option maxHeartbeats 800000 in
theorem xu_any (w : World) (b : Nat) (v : Value) (xs : List Int) (n : Int) (B : Nat) (sz : Nat) (hsz : sz ≤ 8) (hn : xs.length < 1000000000) (h : Wr 137 B w b v xs) :
    Calls Tryz.prog 116 #[.pointer (some ⟨b,0,none⟩), .int .u64 n, .int .i64 sz] w fun e w' => e = .returned (.tuple #[]) ∧ Wrote 137 B w b v (xs ++ be n sz) w' := by
  obtain ⟨i0, hi0, hz0, hz1, hz2⟩ := info_parts u8info
  go_enter Tryz.func116, Tryz.ntmps116
  go_wp2_with fail
  go_loopw [6] (fun i wr => ∃ m : Nat, m ≤ sz ∧ i = .int .i64 (m - 1) ∧ ∃ zs : List Int, Hid (zs ++ be n m = xs ++ be n sz) ∧ Wrote 137 B w b v zs wr) (fun i _ => (intOf i + 1).toNat)
  case atStart => exact ⟨sz, Nat.le_refl _, rfl, xs, Lib.hid rfl, Wrote.refl h⟩
  case round =>
    obtain ⟨m, hk, rfl, zs, HZ, v', hw', ho', hv'⟩ := hrel
    cases m with
    | succ j =>
      rw [show ((j + 1 : Nat) : Int) - 1 = (j : Int) from by omega]
      have hzl : zs.length < 1000000008 := by
        have := congrArg List.length HZ.out
        simp only [List.length_append, be_length] at this
        omega
      have hc := hw'.cell
      have hown := hw'.2.2
      have hap := Lib.hid (hw'.apart (by decide))
      have hbl := hw'.lt
      have hfz := hw'.frozen
      have hbase := hw'.base
      have HW := Lib.hid hw'
      have HO := Lib.hid ho'
      have HV := Lib.hid hv'
      clear hw' ho' hv' h
      have hm8 : IntKind.i64.wrap (8 * (j : Int)) = 8 * (j : Int) := IntWalk.i64_in _ (by omega)
      have hj0 : (0 : Int) ≤ 8 * (j : Int) := by omega
      have hj1 : 8 * (j : Int) ≤ 64 := by omega
      go_wp2_with (at_builtin; refine wpList_append_lies _ (by rfl) (.tmp 17) (.tmp 24) _ (by rfl) B 5 i0 _ 1 1 Tryz.underlying37 hi0 hz0 hz1 hz2 rfl (by omega) v' zs.length (us zs) (by rfl) (hown.alloc _) ⟨wr.heap.size, 0, none⟩ 1 1 [_] (by rfl) (by rfl) (World.news_of_block (cs := #[_]) (t := 5) (fr := (0, 0)) (heap_alloc_new wr _)) (by simp [Value.oneCell']) (by omega) (by simp [maxLen]; omega) (by simp; omega) (by simp; omega) (wr.heap.size + 1) (by simp) ?_; intro gg cap w1 hown1 hgrow hat hlt1; have hc1 : w1.cell? ⟨b, 0, none⟩ = some v' := (hgrow.cell_far ⟨b, 0, none⟩ (by simp; omega) hap.out).trans ((World.cell?_of_block (w := wr) (a := ⟨b, 0, none⟩) (Below.heap_alloc wr _ _ hbl)).trans hc); have hfz1 : w1.frozen? ⟨b, 0, none⟩ = false := (hgrow.frozen_far ⟨b, 0, none⟩ (by simp; omega) hap.out).trans ((World.frozen?_of_block (w := wr) (a := ⟨b, 0, none⟩) (Below.heap_alloc wr _ _ hbl)).trans hfz))
      all_goals
        clear hm8
        have R := Wrote.app (news := [byteAt n j]) (by decide) HW.out HO.out HV.out ((Below.refl _ wr).alloc (Nat.le_refl _) _) rfl (by simpa [byteAt, us, IntKind.wrap_u8'] using hown1) hgrow hat (by omega)
        clear hown1 hgrow hat hc hown hc1 hfz1 hfz
        go_wp2_with fail
        refine ⟨⟨j, by omega, rfl, zs ++ [byteAt n j], Lib.hid (by rw [← HZ.out, be]; simp), R⟩, by simp [intOf]⟩
    | zero =>
      have R : Wrote 137 B w b v (xs ++ be n sz) wr := ⟨v', by have := HZ.out; simp only [be, List.append_nil] at this; rw [← this]; exact hw', ho', hv'⟩
      clear hw' ho' hv' h
      go_wp2_with fail
      go_end0
      exact ⟨rfl, R⟩


theorem xu_at (w : World) (b : Nat) (v : Value) (xs : List Int) (n s : Int) (B sz : Nat) (hs : s = sz) (hsz : sz ≤ 8) (hn : xs.length < 1000000000) (h : Wr 137 B w b v xs) :
    Calls Tryz.prog 116 #[.pointer (some ⟨b,0,none⟩), .int .u64 n, .int .i64 s] w fun e w' => e = .returned (.tuple #[]) ∧ Wrote 137 B w b v (xs ++ be n sz) w' := by
  subst hs
  exact xu_any w b v xs n B sz hsz hn h

theorem xu8_any (w : World) (b : Nat) (v : Value) (xs : List Int) (n : Int) (B : Nat) (hn : xs.length < 1000000000) (h : Wr 137 B w b v xs) :
    Calls Tryz.prog 100 #[.pointer (some ⟨b,0,none⟩), .int .i64 n] w fun e w' => e = .returned (.tuple #[]) ∧ Wrote 137 B w b v (xs ++ be (IntKind.u64.wrap n) 1) w' := by
  have H := Lib.hid h
  clear h
  go_enter Tryz.func100, Tryz.ntmps100
  go_wp2_with (go_at_call 116; refine (xu_at _ _ v xs _ _ B 1 rfl (by decide) hn H.out).mono ?_; rintro e w' ⟨rfl, R⟩; have HR := Lib.hid R; clear R)
  go_end0
  exact ⟨rfl, HR.out⟩

theorem xu32_any (w : World) (b : Nat) (v : Value) (xs : List Int) (n : Int) (B : Nat) (hn : xs.length < 1000000000) (h : Wr 137 B w b v xs) :
    Calls Tryz.prog 101 #[.pointer (some ⟨b,0,none⟩), .int .i64 n] w fun e w' => e = .returned (.tuple #[]) ∧ Wrote 137 B w b v (xs ++ be (IntKind.u64.wrap n) 4) w' := by
  have H := Lib.hid h
  clear h
  go_enter Tryz.func101, Tryz.ntmps101
  go_wp2_with (go_at_call 116; refine (xu_at _ _ v xs _ _ B 4 rfl (by decide) hn H.out).mono ?_; rintro e w' ⟨rfl, R⟩; have HR := Lib.hid R; clear R)
  go_end0
  exact ⟨rfl, HR.out⟩

end Go.Proofs.YtfneadlknieppaaGreatDoor
