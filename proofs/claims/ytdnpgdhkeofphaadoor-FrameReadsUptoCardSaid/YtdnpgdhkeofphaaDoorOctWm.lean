/- What NewWriter, Raw and Bytes of the octet Writer do. The bytes are fewer than a thousand million. -/
import Derived.Test.YtdnpgdhkeofphaaDoorOctKit
import Derived.Test.YtdnpgdhkeofphaaDoorOctClone
import Derived.Laws.AppendOwnNone
namespace Go.Proofs.YtdnpgdhkeofphaaDoor
open Go.RowKit
attribute [local go_sem ↓] Go.wp_at_zero Go.wp_at_succ

theorem newwriter_any (w : World) (B : Nat) (hB : B ≤ w.heap.size) :
    Calls Tryd.prog 46 #[] w fun e w' => e = .returned (.pointer (some ⟨w.heap.size, 0, none⟩)) ∧ Wr 145 B w' w.heap.size (.slice none 0 0) [] ∧ Below w.heap.size w w' ∧ w'.heap.size = w.heap.size + 1 := by
  go_enter Tryd.func46, Tryd.ntmps46
  go_wp2
  go_ret
  exact ⟨rfl, ⟨hB, heap_alloc_new w _, World.ownsRow_nil _ _ _ _⟩, (Below.refl _ _).alloc (Nat.le_refl _) _, by simp⟩

set_option maxHeartbeats 800000 in
theorem wbytes_any (w : World) (b : Nat) (v : Value) (xs : List Int) (B : Nat) (hn : xs.length < 1000000000) (h : Wr 145 B w b v xs) :
    Calls Tryd.prog 51 #[.pointer (some ⟨b,0,none⟩)] w fun e w' => ∃ v', e = .returned v' ∧ w'.ownsRow w.heap.size 5 1 v' xs.length (us xs) ∧ Below w.heap.size w w' := by
  have hc := h.cell
  have H := Lib.hid h
  clear h
  go_enter Tryd.func51, Tryd.ntmps51
  go_wp2_with (go_at_call 55; refine (clone_any _ _ xs (by omega) (Seen.own H.out.2.2)).mono ?_; rintro e w' ⟨v', rfl, R1, R2⟩; have HR1 := Lib.hid R1; have HR2 := Lib.hid R2; clear R1 R2)
  go_ret
  exact ⟨v', rfl, HR1.out, HR2.out⟩

set_option maxHeartbeats 800000 in
theorem wraw_any (w : World) (b : Nat) (v u : Value) (xs l : List Int) (B : Nat) (hn : xs.length < 1000000000) (hl : l.length < 1000000000) (h : Wr 145 B w b v xs) (hs : Seen w u l) :
    Calls Tryd.prog 50 #[.pointer (some ⟨b,0,none⟩), u] w fun e w' => e = .returned (.tuple #[]) ∧ Wrote 145 B w b v (xs ++ l) w' := by
  obtain ⟨i0, hi0, hz0, hz1, hz2⟩ := info_parts u8info
  have hc := h.cell
  have hown := h.2.2
  have hap := Lib.hid (h.apart (by decide))
  have hbl := h.lt
  have hfz := h.frozen
  have hbase := h.base
  have H := Lib.hid h
  clear h
  by_cases hl0 : l = []
  · subst hl0
    have HO := Lib.hid hown
    rcases hs with ⟨rfl, _⟩ | ⟨a, cap, rfl, hcap, hu⟩
    · rcases hown.2 with ⟨rfl, _⟩ | ⟨g, gc, cur, rfl, hbg, hg, rest⟩
      all_goals
        go_enter Tryd.func50, Tryd.ntmps50
        go_wp2_with (at_builtin; refine wpList_append_own_none (by rfl) (.tmp 8) (.tmp 9) _ (by rfl) B 5 i0 1 Tryd.underlying67 hi0 _ xs.length (us xs) (by rfl) hown (by rfl) ?_)
        go_end0
        exact ⟨rfl, by (try rw [List.append_nil]); exact Wrote.same H.out (by decide) HO.out ⟨rfl, rfl, rfl, Nat.le_refl _, fun _ _ _ => rfl⟩ (.inl rfl)⟩
    · go_enter Tryd.func50, Tryd.ntmps50
      go_wp2_with (at_builtin; refine wpList_append_own_at _ (by rfl) (.tmp 8) (.tmp 9) _ (by rfl) B 5 i0 _ 1 1 Tryd.underlying67 hi0 hz0 hz1 hz2 rfl (by omega) v xs.length (us xs) (by rfl) hown a 0 cap [] (by rfl) (by simp) (by simp) (by simp) (by simp [maxLen]; omega) (by omega) hbase ?_; intro v' w1 hown1 hgrow hiff hat; have hc1 : w1.cell? ⟨b, 0, none⟩ = some v := (hgrow.cell_far ⟨b, 0, none⟩ hbl hap.out).trans hc; have hfz1 : w1.frozen? ⟨b, 0, none⟩ = false := (hgrow.frozen_far ⟨b, 0, none⟩ hbl hap.out).trans hfz; have HAT := Lib.hid hat; have HOWN1 := Lib.hid hown1; clear hat hiff; rcases hown1.2 with ⟨rfl, _⟩ | ⟨g, gc, cur, rfl, hbg, hg, rest⟩ <;> clear hown1)
      all_goals
        go_end0
        exact ⟨rfl, by (try rw [List.append_nil]); exact Wrote.same H.out (by decide) (by simpa using HOWN1.out) hgrow HAT.out⟩
  · rcases hs with ⟨rfl, h0⟩ | ⟨a, cap, rfl, hcap, hu⟩
    · exact absurd h0 hl0
    · have hlp : 0 < l.length := List.length_pos_iff.2 hl0
      have HU := Lib.hid hu
      clear hu
      go_enter Tryd.func50, Tryd.ntmps50
      go_wp2_with (at_builtin; refine wpList_append_lies _ (by rfl) (.tmp 8) (.tmp 9) _ (by rfl) B 5 i0 _ 1 1 Tryd.underlying67 hi0 hz0 hz1 hz2 rfl (by omega) v xs.length (us xs) (by rfl) hown a l.length cap (us l) (by rfl) (by simp) HU.out (by intro u hu; obtain ⟨x, _, rfl⟩ := List.mem_map.1 hu; rfl) hlp (by simp [maxLen]; omega) (by omega) hbase w.heap.size rfl ?_; intro gg gcap w1 hown1 hgrow hat hlt1; have hc1 : w1.cell? ⟨b, 0, none⟩ = some v := (hgrow.cell_far ⟨b, 0, none⟩ hbl hap.out).trans hc; have hfz1 : w1.frozen? ⟨b, 0, none⟩ = false := (hgrow.frozen_far ⟨b, 0, none⟩ hbl hap.out).trans hfz)
      have R := Wrote.app (news := l) (by decide) H.out (Only.refl _ w) (.inl rfl) (Below.refl _ w) rfl hown1 hgrow hat (Nat.le_refl _)
      clear hown1 hgrow hat hc hown hc1 hfz1 hfz
      go_end0
      exact ⟨rfl, R⟩
set_option maxHeartbeats 800000 in
theorem xraw_any (w : World) (b : Nat) (v u : Value) (xs l : List Int) (B : Nat) (hn : xs.length < 1000000000) (hl : l.length < 1000000000) (h : Wr 119 B w b v xs) (hs : Seen w u l) :
    Calls Tryd.prog 59 #[.pointer (some ⟨b,0,none⟩), u] w fun e w' => e = .returned (.tuple #[]) ∧ Wrote 119 B w b v (xs ++ l) w' := by
  obtain ⟨i0, hi0, hz0, hz1, hz2⟩ := info_parts u8info
  have hc := h.cell
  have hown := h.2.2
  have hap := Lib.hid (h.apart (by decide))
  have hbl := h.lt
  have hfz := h.frozen
  have hbase := h.base
  have H := Lib.hid h
  clear h
  by_cases hl0 : l = []
  · subst hl0
    have HO := Lib.hid hown
    rcases hs with ⟨rfl, _⟩ | ⟨a, cap, rfl, hcap, hu⟩
    · rcases hown.2 with ⟨rfl, _⟩ | ⟨g, gc, cur, rfl, hbg, hg, rest⟩
      all_goals
        go_enter Tryd.func59, Tryd.ntmps59
        go_wp2_with (at_builtin; refine wpList_append_own_none (by rfl) (.tmp 8) (.tmp 9) _ (by rfl) B 5 i0 1 Tryd.underlying67 hi0 _ xs.length (us xs) (by rfl) hown (by rfl) ?_)
        go_end0
        exact ⟨rfl, by (try rw [List.append_nil]); exact Wrote.same H.out (by decide) HO.out ⟨rfl, rfl, rfl, Nat.le_refl _, fun _ _ _ => rfl⟩ (.inl rfl)⟩
    · go_enter Tryd.func59, Tryd.ntmps59
      go_wp2_with (at_builtin; refine wpList_append_own_at _ (by rfl) (.tmp 8) (.tmp 9) _ (by rfl) B 5 i0 _ 1 1 Tryd.underlying67 hi0 hz0 hz1 hz2 rfl (by omega) v xs.length (us xs) (by rfl) hown a 0 cap [] (by rfl) (by simp) (by simp) (by simp) (by simp [maxLen]; omega) (by omega) hbase ?_; intro v' w1 hown1 hgrow hiff hat; have hc1 : w1.cell? ⟨b, 0, none⟩ = some v := (hgrow.cell_far ⟨b, 0, none⟩ hbl hap.out).trans hc; have hfz1 : w1.frozen? ⟨b, 0, none⟩ = false := (hgrow.frozen_far ⟨b, 0, none⟩ hbl hap.out).trans hfz; have HAT := Lib.hid hat; have HOWN1 := Lib.hid hown1; clear hat hiff; rcases hown1.2 with ⟨rfl, _⟩ | ⟨g, gc, cur, rfl, hbg, hg, rest⟩ <;> clear hown1)
      all_goals
        go_end0
        exact ⟨rfl, by (try rw [List.append_nil]); exact Wrote.same H.out (by decide) (by simpa using HOWN1.out) hgrow HAT.out⟩
  · rcases hs with ⟨rfl, h0⟩ | ⟨a, cap, rfl, hcap, hu⟩
    · exact absurd h0 hl0
    · have hlp : 0 < l.length := List.length_pos_iff.2 hl0
      have HU := Lib.hid hu
      clear hu
      go_enter Tryd.func59, Tryd.ntmps59
      go_wp2_with (at_builtin; refine wpList_append_lies _ (by rfl) (.tmp 8) (.tmp 9) _ (by rfl) B 5 i0 _ 1 1 Tryd.underlying67 hi0 hz0 hz1 hz2 rfl (by omega) v xs.length (us xs) (by rfl) hown a l.length cap (us l) (by rfl) (by simp) HU.out (by intro u hu; obtain ⟨x, _, rfl⟩ := List.mem_map.1 hu; rfl) hlp (by simp [maxLen]; omega) (by omega) hbase w.heap.size rfl ?_; intro gg gcap w1 hown1 hgrow hat hlt1; have hc1 : w1.cell? ⟨b, 0, none⟩ = some v := (hgrow.cell_far ⟨b, 0, none⟩ hbl hap.out).trans hc; have hfz1 : w1.frozen? ⟨b, 0, none⟩ = false := (hgrow.frozen_far ⟨b, 0, none⟩ hbl hap.out).trans hfz)
      have R := Wrote.app (news := l) (by decide) H.out (Only.refl _ w) (.inl rfl) (Below.refl _ w) rfl hown1 hgrow hat (Nat.le_refl _)
      clear hown1 hgrow hat hc hown hc1 hfz1 hfz
      go_end0
      exact ⟨rfl, R⟩
end Go.Proofs.YtdnpgdhkeofphaaDoor
