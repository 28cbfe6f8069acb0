/- What the calls of the octet Writer do to the object that they are called on. Its bytes are fewer than a thousand million. · What NewWriter, Raw and Bytes of the octet Writer do. The bytes are fewer than a thousand million. -/
import Derived.Test.YtbpccbhlggcmfaaGreatDoorOctBits
import Derived.Laws.AppendOwnNone
namespace Go.Proofs.YtbpccbhlggcmfaaGreatDoor
open Go.RowKit
attribute [local go_sem ↓] Go.wp_at_zero Go.wp_at_succ

set_option maxHeartbeats 800000 in
theorem wfixed_any (w : World) (b : Nat) (v : Value) (xs : List Int) (n : Int) (B : Nat) (sz : Nat) (hsz : sz ≤ 8) (hn : xs.length < 1000000000) (h : Wr 163 B w b v xs) :
    Calls Tryz.prog 103 #[.pointer (some ⟨b,0,none⟩), .int .i64 n, .int .i64 sz] w fun e w' => e = .returned (.tuple #[]) ∧ Wrote 163 B w b v (xs ++ be n sz) w' := by
  obtain ⟨i0, hi0, hz0, hz1, hz2⟩ := info_parts u8info
  go_enter Tryz.func103, Tryz.ntmps103
  go_wp2_with fail
  go_loopw [6] (fun i wr => ∃ m : Nat, m ≤ sz ∧ i = .int .i64 (m - 1) ∧ ∃ zs : List Int, Hid (zs ++ be n m = xs ++ be n sz) ∧ Wrote 163 B w b v zs wr) (fun i _ => (intOf i + 1).toNat)
  case atStart => exact ⟨sz, Nat.le_refl _, rfl, xs, Lib.hid rfl, Wrote.refl h⟩
  case round =>
    obtain ⟨m, hk, rfl, zs, HZ, v', hw', ho', hv'⟩ := hrel
    cases m with
    | succ j =>
      rw [show ((j + 1 : Nat) : Int) - 1 = (j : Int) from by omega]
      have hzl : zs.length < 1000000008 := by
        have := congrArg List.length HZ.out
        simp only [List.length_append, be_length] at this
        omega
      have hc := hw'.cell
      have hown := hw'.2.2
      have hap := Lib.hid (hw'.apart (by decide))
      have hbl := hw'.lt
      have hfz := hw'.frozen
      have hbase := hw'.base
      have HW := Lib.hid hw'
      have HO := Lib.hid ho'
      have HV := Lib.hid hv'
      clear hw' ho' hv' h
      have hm8 : IntKind.i64.wrap (8 * (j : Int)) = 8 * (j : Int) := IntWalk.i64_in _ (by omega)
      have hj0 : (0 : Int) ≤ 8 * (j : Int) := by omega
      have hj1 : 8 * (j : Int) ≤ 64 := by omega
      go_wp2_with fail
      go_region_law
        ((refine step_append_lies _ (by rfl) _ _ _ (by rfl) B 5 i0 _ 1 1 Tryz.underlying71 hi0 hz0 hz1 hz2 rfl (by omega) v' zs.length (us zs) (by rfl) ((hown.alloc _).drew) ⟨wr.heap.size, 0, none⟩ 1 1 [_] (by rfl) (by rfl) (World.news_of_block (cs := #[_]) (t := 5) (fr := (0, 0)) (heap_alloc_new wr _)) (by simp [Value.oneCell']) (by omega) (by simp [maxLen]; omega) (by simp; omega) (by simp; omega) (wr.heap.size + 1) (by simp) ?_; intro gg cap w1 hown1 hgrow hat hlt; have hc1 : w1.cell? ⟨b, 0, none⟩ = some v' := (hgrow.cell_far ⟨b, 0, none⟩ (by simp; omega) hap.out).trans ((World.cell?_of_block (w := wr) (a := ⟨b, 0, none⟩) (Below.heap_alloc wr _ _ hbl)).trans hc); have hfz1 : w1.frozen? ⟨b, 0, none⟩ = false := (hgrow.frozen_far ⟨b, 0, none⟩ (by simp; omega) hap.out).trans ((World.frozen?_of_block (w := wr) (a := ⟨b, 0, none⟩) (Below.heap_alloc wr _ _ hbl)).trans hfz)))
      all_goals
        clear hm8
        have R := Wrote.app (news := [byteAt n j]) (by decide) HW.out HO.out HV.out ((Below.refl _ wr).alloc (Nat.le_refl _) _).drew rfl (by simpa [byteAt, us, show (8 * (j : Int)).toNat = 8 * j from by omega] using hown1) hgrow hat (by omega)
        clear hown1 hgrow hat hc hown hc1 hfz1 hfz
        go_wp2_with fail
        refine ⟨⟨j, by omega, rfl, zs ++ [byteAt n j], Lib.hid (by rw [← HZ.out, be]; simp), R⟩, by simp [intOf]⟩
    | zero =>
      have R : Wrote 163 B w b v (xs ++ be n sz) wr := ⟨v', by have := HZ.out; simp only [be, List.append_nil] at this; rw [← this]; exact hw', ho', hv'⟩
      clear hw' ho' hv' h
      go_wp2_with fail
      go_end0
      exact ⟨rfl, R⟩

theorem wfixed_at (w : World) (b : Nat) (v : Value) (xs : List Int) (n s : Int) (B sz : Nat) (hs : s = sz) (hsz : sz ≤ 8) (hn : xs.length < 1000000000) (h : Wr 163 B w b v xs) :
    Calls Tryz.prog 103 #[.pointer (some ⟨b,0,none⟩), .int .i64 n, .int .i64 s] w fun e w' => e = .returned (.tuple #[]) ∧ Wrote 163 B w b v (xs ++ be n sz) w' := by
  subst hs
  exact wfixed_any w b v xs n B sz hsz hn h

theorem wu8_any (w : World) (b : Nat) (v : Value) (xs : List Int) (n : Int) (B : Nat) (hn : xs.length < 1000000000) (h : Wr 163 B w b v xs) :
    Calls Tryz.prog 85 #[.pointer (some ⟨b,0,none⟩), .int .i64 n] w fun e w' => e = .returned (.tuple #[]) ∧ Wrote 163 B w b v (xs ++ be n 1) w' := by
  have H := Lib.hid h
  clear h
  go_enter Tryz.func85, Tryz.ntmps85
  go_wp2_with (go_at_call 103; refine (wfixed_at _ _ v xs _ _ B 1 rfl (by decide) hn H.out).mono ?_; rintro e w' ⟨rfl, R⟩; have HR := Lib.hid R; clear R)
  go_end0
  exact ⟨rfl, HR.out⟩

theorem wu32_any (w : World) (b : Nat) (v : Value) (xs : List Int) (n : Int) (B : Nat) (hn : xs.length < 1000000000) (h : Wr 163 B w b v xs) :
    Calls Tryz.prog 86 #[.pointer (some ⟨b,0,none⟩), .int .i64 n] w fun e w' => e = .returned (.tuple #[]) ∧ Wrote 163 B w b v (xs ++ be n 4) w' := by
  have H := Lib.hid h
  clear h
  go_enter Tryz.func86, Tryz.ntmps86
  go_wp2_with (go_at_call 103; refine (wfixed_at _ _ v xs _ _ B 4 rfl (by decide) hn H.out).mono ?_; rintro e w' ⟨rfl, R⟩; have HR := Lib.hid R; clear R)
  go_end0
  exact ⟨rfl, HR.out⟩

end Go.Proofs.YtbpccbhlggcmfaaGreatDoor
namespace Go.Proofs.YtbpccbhlggcmfaaGreatDoor
open Go.RowKit
attribute [local go_sem ↓] Go.wp_at_zero Go.wp_at_succ

theorem newwriter_any (w : World) (B : Nat) (hB : B ≤ w.heap.size) :
    Calls Tryz.prog 60 #[] w fun e w' => e = .returned (.pointer (some ⟨w.heap.size, 0, none⟩)) ∧ Wr 163 B w' w.heap.size (.slice none 0 0) [] ∧ Below w.heap.size w w' ∧ w'.heap.size = w.heap.size + 1 := by
  go_enter Tryz.func60, Tryz.ntmps60
  go_wp2
  go_ret
  exact ⟨rfl, ⟨hB, heap_alloc_new w _, World.ownsRow_nil _ _ _ _⟩, (Below.refl _ _).alloc (Nat.le_refl _) _, by simp⟩

set_option maxHeartbeats 800000 in
theorem wbytes_any (w : World) (b : Nat) (v : Value) (xs : List Int) (B : Nat) (hn : xs.length < 1000000000) (h : Wr 163 B w b v xs) :
    Calls Tryz.prog 63 #[.pointer (some ⟨b,0,none⟩)] w fun e w' => ∃ v', e = .returned v' ∧ w'.ownsRow w.heap.size 5 1 v' xs.length (us xs) ∧ Below w.heap.size w w' := by
  have hc := h.cell
  have H := Lib.hid h
  clear h
  go_enter Tryz.func63, Tryz.ntmps63
  go_wp2_with (go_at_call 49; refine (clone_any _ _ xs (by omega) (Seen.own H.out.2.2)).mono ?_; rintro e w' ⟨v', rfl, R1, R2⟩; have HR1 := Lib.hid R1; have HR2 := Lib.hid R2; clear R1 R2)
  go_ret
  exact ⟨v', rfl, HR1.out, HR2.out⟩

set_option maxHeartbeats 800000 in
theorem wraw_any (w : World) (b : Nat) (v u : Value) (xs l : List Int) (B : Nat) (hn : xs.length < 1000000000) (hl : l.length < 1000000000) (h : Wr 163 B w b v xs) (hs : Seen w u l) :
    Calls Tryz.prog 61 #[.pointer (some ⟨b,0,none⟩), u] w fun e w' => e = .returned (.tuple #[]) ∧ Wrote 163 B w b v (xs ++ l) w' := by
  obtain ⟨i0, hi0, hz0, hz1, hz2⟩ := info_parts u8info
  have hc := h.cell
  have hown := h.2.2
  have hap := Lib.hid (h.apart (by decide))
  have hbl := h.lt
  have hfz := h.frozen
  have hbase := h.base
  have H := Lib.hid h
  clear h
  by_cases hl0 : l = []
  · subst hl0
    have HO := Lib.hid hown
    rcases hs with ⟨rfl, _⟩ | ⟨a, cap, rfl, hcap, hu⟩
    · rcases hown.2 with ⟨rfl, _⟩ | ⟨g, gc, cur, rfl, hbg, hg, rest⟩
      all_goals
        go_enter Tryz.func61, Tryz.ntmps61
        go_wp2_with (at_builtin; refine wpList_append_own_none (by rfl) (.tmp 8) (.tmp 9) _ (by rfl) B 5 i0 1 Tryz.underlying71 hi0 _ xs.length (us xs) (by rfl) hown (by rfl) ?_)
        go_end0
        exact ⟨rfl, by (try rw [List.append_nil]); exact Wrote.same H.out (by decide) HO.out ⟨rfl, rfl, rfl, Nat.le_refl _, fun _ _ _ => rfl⟩ (.inl rfl)⟩
    · go_enter Tryz.func61, Tryz.ntmps61
      go_wp2_with (at_builtin; refine wpList_append_own_at _ (by rfl) (.tmp 8) (.tmp 9) _ (by rfl) B 5 i0 _ 1 1 Tryz.underlying71 hi0 hz0 hz1 hz2 rfl (by omega) v xs.length (us xs) (by rfl) hown a 0 cap [] (by rfl) (by simp) (by simp) (by simp) (by simp [maxLen]; omega) (by omega) hbase ?_; intro v' w1 hown1 hgrow hiff hat; have hc1 : w1.cell? ⟨b, 0, none⟩ = some v := (hgrow.cell_far ⟨b, 0, none⟩ hbl hap.out).trans hc; have hfz1 : w1.frozen? ⟨b, 0, none⟩ = false := (hgrow.frozen_far ⟨b, 0, none⟩ hbl hap.out).trans hfz; have HAT := Lib.hid hat; have HOWN1 := Lib.hid hown1; clear hat hiff; rcases hown1.2 with ⟨rfl, _⟩ | ⟨g, gc, cur, rfl, hbg, hg, rest⟩ <;> clear hown1)
      all_goals
        go_end0
        exact ⟨rfl, by (try rw [List.append_nil]); exact Wrote.same H.out (by decide) (by simpa using HOWN1.out) hgrow HAT.out⟩
  · rcases hs with ⟨rfl, h0⟩ | ⟨a, cap, rfl, hcap, hu⟩
    · exact absurd h0 hl0
    · have hlp : 0 < l.length := List.length_pos_iff.2 hl0
      have HU := Lib.hid hu
      clear hu
      go_enter Tryz.func61, Tryz.ntmps61
      go_wp2_with (at_builtin; refine wpList_append_lies _ (by rfl) (.tmp 8) (.tmp 9) _ (by rfl) B 5 i0 _ 1 1 Tryz.underlying71 hi0 hz0 hz1 hz2 rfl (by omega) v xs.length (us xs) (by rfl) hown a l.length cap (us l) (by rfl) (by simp) HU.out (by intro u hu; obtain ⟨x, _, rfl⟩ := List.mem_map.1 hu; rfl) hlp (by simp [maxLen]; omega) (by omega) hbase w.heap.size rfl ?_; intro gg gcap w1 hown1 hgrow hat hlt1; have hc1 : w1.cell? ⟨b, 0, none⟩ = some v := (hgrow.cell_far ⟨b, 0, none⟩ hbl hap.out).trans hc; have hfz1 : w1.frozen? ⟨b, 0, none⟩ = false := (hgrow.frozen_far ⟨b, 0, none⟩ hbl hap.out).trans hfz)
      have R := Wrote.app (news := l) (by decide) H.out (Only.refl _ w) (.inl rfl) (Below.refl _ w) rfl hown1 hgrow hat (Nat.le_refl _)
      clear hown1 hgrow hat hc hown hc1 hfz1 hfz
      go_end0
      exact ⟨rfl, R⟩
end Go.Proofs.YtbpccbhlggcmfaaGreatDoor
