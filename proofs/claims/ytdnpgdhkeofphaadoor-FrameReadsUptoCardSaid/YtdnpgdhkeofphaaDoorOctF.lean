/- What Raw, U8, U32 and U64 of the octet Reader do. -/
import Derived.Test.YtdnpgdhkeofphaaDoorOctT
import Derived.Test.YtdnpgdhkeofphaaDoorOctBits
namespace Go.Proofs.YtdnpgdhkeofphaaDoor
open Go.RowKit

/-- The number that bytes stand for, the most significant one first. -/
def bv (l : List Int) : Int := l.foldl (fun a x => a * 256 + x) 0
theorem bv_snoc (l : List Int) (x : Int) : bv (l ++ [x]) = bv l * 256 + x := by simp [bv]

set_option maxHeartbeats 800000 in
theorem rfixed_yes (B : Nat) (w : World) (b : Nat) (v : Value) (l : List Int) (lk : Bool) (n : Int) (k : Nat) (hk : n = k) (hkl : k ≤ l.length) (hk8 : k ≤ 8) (h : Rd 148 B w b v l lk) :
    Calls Tryd.prog 72 #[.pointer (some ⟨b, 0, none⟩), .int .i64 n] w fun e w' => e = .returned (.int .i64 (IntKind.i64.wrap (bv (l.take k)))) ∧ Rdd 148 B w b v (l.drop k) lk w' := by
  subst hk
  have hok := Lib.hid (h.ok.take k)
  have HH := Lib.hid h
  clear h
  go_enter Tryd.func72, Tryd.ntmps72
  go_wp2_with (go_at_call 76; refine (take_yes _ _ _ _ _ _ _ k rfl hkl HH.out).mono ?_; rintro e w' ⟨u, rfl, hs, R, _⟩; have HR := Lib.hid R; clear R; rcases hs with ⟨rfl, hs⟩ | ⟨g, o, cap, rfl, hc, hu⟩)
  · have hk0 : k = 0 := by
      have := congrArg List.length hs
      rw [List.length_take, List.length_nil] at this
      omega
    subst hk0
    clear hs
    refine wp_loop_rounds 1 ?_; rw [rounds_succ]; go_wp2
    go_ret
    exact ⟨rfl, HR.out⟩
  · have hlen : (l.take k).length = k := by rw [List.length_take]; omega
    have HL := Lib.hid hlen
    have HU := Lib.hid hu
    clear hu hlen
    go_loop [5, 12] (fun a i => ∃ j : Nat, j ≤ k ∧ i = .int .i64 j ∧ a = .int .i64 (wrap64 (bv ((l.take k).take j)))) (fun _ i => k - (intOf i).toNat)
    case atStart => exact ⟨0, Nat.zero_le _, rfl, by simp [bv, wrap64]⟩
    case round =>
      obtain ⟨j, hj, rfl, rfl⟩ := hrel
      by_cases hlt : j < k
      · obtain ⟨x, hx⟩ : ∃ x, (l.take k)[j]? = some x := ⟨_, List.getElem?_eq_getElem (by rw [HL.out]; exact hlt)⟩
        have hcell := HU.out j (.int .u8 x) (by rw [us, List.getElem?_map, hx]; rfl)
        have hxb := hok.out x (List.mem_of_getElem? hx)
        obtain ⟨hx0, hx1⟩ := hxb
        have HX := Lib.hid hx
        clear hx
        obtain ⟨a, ha⟩ : ∃ a, a = bv ((l.take k).take j) := ⟨_, rfl⟩
        rw [← ha]
        have HA := Lib.hid ha
        clear ha
        go_wp2
        refine ⟨⟨j + 1, by omega, by go_num, ?_⟩, by simp [intOf]; omega⟩
        rw [shl8_or a x hx0 hx1, List.take_add_one, HX.out, Option.toList_some, bv_snoc, ← HA.out]
      · have hjk : j = k := by omega
        subst hjk
        clear hlt
        go_wp2
        go_ret
        refine ⟨?_, HR.out⟩
        show Ending.returned (.int .i64 (wrap64 _)) = _
        rw [List.take_take, Nat.min_self, wrap64_eq]

set_option maxHeartbeats 800000 in
theorem rfixed_no (B : Nat) (w : World) (b : Nat) (v : Value) (l : List Int) (lk : Bool) (n : Int) (hn : n < 0 ∨ (l.length : Int) < n) (h : Rd 148 B w b v l lk) :
    Calls Tryd.prog 72 #[.pointer (some ⟨b, 0, none⟩), .int .i64 n] w fun e w' => e = .returned (.int .i64 0) ∧ Rdd 148 B w b v [] true w' := by
  have HH := Lib.hid h
  have HN := Lib.hid hn
  clear h hn
  go_enter Tryd.func72, Tryd.ntmps72
  go_wp2_with (go_at_call 76; refine (take_no _ _ _ _ _ _ _ HN.out HH.out).mono ?_; rintro e w' ⟨rfl, R⟩; have HR := Lib.hid R; clear R)
  refine wp_loop_rounds 1 ?_; rw [rounds_succ]; go_wp2
  go_ret
  exact ⟨rfl, HR.out⟩

theorem ru8_yes (B : Nat) (w : World) (b : Nat) (v : Value) (l : List Int) (lk : Bool) (hkl : 1 ≤ l.length) (h : Rd 148 B w b v l lk) :
    Calls Tryd.prog 53 #[.pointer (some ⟨b, 0, none⟩)] w fun e w' => e = .returned (.int .i64 (IntKind.i64.wrap (bv (l.take 1)))) ∧ Rdd 148 B w b v (l.drop 1) lk w' := by
  have HH := Lib.hid h
  clear h
  have HK := Lib.hid hkl
  clear hkl
  go_enter Tryd.func53, Tryd.ntmps53
  go_wp2_with (go_at_call 72; refine (rfixed_yes _ _ _ _ _ _ _ 1 rfl HK.out (by decide) HH.out).mono ?_; rintro e w' ⟨rfl, R⟩; have HR := Lib.hid R; clear R)
  go_ret
  exact ⟨rfl, HR.out⟩
theorem ru8_no (B : Nat) (w : World) (b : Nat) (v : Value) (l : List Int) (lk : Bool) (hkl : l.length < 1) (h : Rd 148 B w b v l lk) :
    Calls Tryd.prog 53 #[.pointer (some ⟨b, 0, none⟩)] w fun e w' => e = .returned (.int .i64 0) ∧ Rdd 148 B w b v [] true w' := by
  have HH := Lib.hid h
  clear h
  have HK := Lib.hid hkl
  clear hkl
  go_enter Tryd.func53, Tryd.ntmps53
  go_wp2_with (go_at_call 72; refine (rfixed_no _ _ _ _ _ _ _ (.inr (by have := HK.out; omega)) HH.out).mono ?_; rintro e w' ⟨rfl, R⟩; have HR := Lib.hid R; clear R)
  go_ret
  exact ⟨rfl, HR.out⟩

theorem ru32_yes (B : Nat) (w : World) (b : Nat) (v : Value) (l : List Int) (lk : Bool) (hkl : 4 ≤ l.length) (h : Rd 148 B w b v l lk) :
    Calls Tryd.prog 54 #[.pointer (some ⟨b, 0, none⟩)] w fun e w' => e = .returned (.int .i64 (IntKind.i64.wrap (bv (l.take 4)))) ∧ Rdd 148 B w b v (l.drop 4) lk w' := by
  have HH := Lib.hid h
  clear h
  have HK := Lib.hid hkl
  clear hkl
  go_enter Tryd.func54, Tryd.ntmps54
  go_wp2_with (go_at_call 72; refine (rfixed_yes _ _ _ _ _ _ _ 4 rfl HK.out (by decide) HH.out).mono ?_; rintro e w' ⟨rfl, R⟩; have HR := Lib.hid R; clear R)
  go_ret
  exact ⟨rfl, HR.out⟩
theorem ru32_no (B : Nat) (w : World) (b : Nat) (v : Value) (l : List Int) (lk : Bool) (hkl : l.length < 4) (h : Rd 148 B w b v l lk) :
    Calls Tryd.prog 54 #[.pointer (some ⟨b, 0, none⟩)] w fun e w' => e = .returned (.int .i64 0) ∧ Rdd 148 B w b v [] true w' := by
  have HH := Lib.hid h
  clear h
  have HK := Lib.hid hkl
  clear hkl
  go_enter Tryd.func54, Tryd.ntmps54
  go_wp2_with (go_at_call 72; refine (rfixed_no _ _ _ _ _ _ _ (.inr (by have := HK.out; omega)) HH.out).mono ?_; rintro e w' ⟨rfl, R⟩; have HR := Lib.hid R; clear R)
  go_ret
  exact ⟨rfl, HR.out⟩

end Go.Proofs.YtdnpgdhkeofphaaDoor
