/- What U8, U32 and U64 of the reference's Reader do. -/
import Derived.Test.YtdnpgdhkeofphaaDoorOctS
import Derived.Test.YtdnpgdhkeofphaaDoorOctMath
namespace Go.Proofs.YtdnpgdhkeofphaaDoor
open Go.RowKit

theorem u64_mod (a : Int) : IntKind.u64.wrap a = a % 18446744073709551616 := IntKind.wrap_u64 a
theorem shl8_add (a x : Int) : IntKind.u64.wrap (IntKind.u64.wrap (IntKind.u64.wrap a * 256) + x) = IntKind.u64.wrap (a * 256 + x) := by
  rw [u64_mod, u64_mod, u64_mod, u64_mod]; omega

set_option maxHeartbeats 800000 in
theorem su_yes (B : Nat) (w : World) (b : Nat) (v : Value) (l : List Int) (n : Int) (k : Nat) (hk : n = k) (hkl : k ≤ l.length) (hk8 : k ≤ 8) (h : Rd 124 B w b v l false) :
    Calls Tryd.prog 74 #[.pointer (some ⟨b, 0, none⟩), .int .i64 n] w fun e w' => e = .returned (.int .u64 (IntKind.u64.wrap (bv (l.take k)))) ∧ Rdd 124 B w b v (l.drop k) false w' := by
  subst hk
  have hok := Lib.hid (h.ok.take k)
  have HH := Lib.hid h
  clear h
  go_enter Tryd.func74, Tryd.ntmps74
  go_wp2_with (go_at_call 77; refine (sraw_yes _ _ _ _ _ _ k rfl hkl HH.out).mono ?_; rintro e w' ⟨u, rfl, hs, _, R⟩; have HR := Lib.hid R; clear R; rcases hs with ⟨rfl, hs⟩ | ⟨g, o, cap, rfl, hc, hu⟩)
  · have hk0 : k = 0 := by
      have := congrArg List.length hs
      rw [List.length_take, List.length_nil] at this
      omega
    subst hk0
    clear hs
    refine wp_loop_rounds 1 ?_; rw [rounds_succ]; go_wp2
    go_ret
    exact ⟨rfl, HR.out⟩
  · have hlen : (l.take k).length = k := by rw [List.length_take]; omega
    have HL := Lib.hid hlen
    have HU := Lib.hid hu
    clear hu hlen
    go_loop [6, 7] (fun a i => ∃ j : Nat, j ≤ k ∧ i = .int .i64 j ∧ a = .int .u64 (IntKind.u64.wrap (bv ((l.take k).take j)))) (fun _ i => k - (intOf i).toNat)
    case atStart => exact ⟨0, Nat.zero_le _, rfl, by simp [bv, u64_mod]⟩
    case round =>
      obtain ⟨j, hj, rfl, rfl⟩ := hrel
      by_cases hlt : j < k
      · obtain ⟨x, hx⟩ : ∃ x, (l.take k)[j]? = some x := ⟨_, List.getElem?_eq_getElem (by rw [HL.out]; exact hlt)⟩
        have hcell := HU.out j (.int .u8 x) (by rw [us, List.getElem?_map, hx]; rfl)
        have hxb := hok.out x (List.mem_of_getElem? hx)
        obtain ⟨hx0, hx1⟩ := hxb
        have HX := Lib.hid hx
        clear hx
        obtain ⟨a, ha⟩ : ∃ a, a = bv ((l.take k).take j) := ⟨_, rfl⟩
        rw [← ha]
        have HA := Lib.hid ha
        clear ha
        go_wp2
        refine ⟨⟨j + 1, by omega, by go_num, ?_⟩, by simp [intOf]; omega⟩
        rw [shl8_add, List.take_add_one, HX.out, Option.toList_some, bv_snoc, ← HA.out]
      · have hjk : j = k := by omega
        subst hjk
        clear hlt
        go_wp2
        go_ret
        refine ⟨?_, HR.out⟩
        show Ending.returned (.int .u64 _) = _
        rw [List.take_take, Nat.min_self]

set_option maxHeartbeats 800000 in
theorem su_no (B : Nat) (w : World) (b : Nat) (v : Value) (l : List Int) (lk : Bool) (n : Int) (hn : lk = true ∨ n < 0 ∨ (l.length : Int) < n) (h : Rd 124 B w b v l lk) :
    Calls Tryd.prog 74 #[.pointer (some ⟨b, 0, none⟩), .int .i64 n] w fun e w' => e = .returned (.int .u64 0) ∧ Rdd 124 B w b v [] true w' := by
  have HH := Lib.hid h
  have HN := Lib.hid hn
  clear h hn
  go_enter Tryd.func74, Tryd.ntmps74
  go_wp2_with (go_at_call 77; refine (sraw_no _ _ _ _ _ _ _ HN.out HH.out).mono ?_; rintro e w' ⟨rfl, R⟩; have HR := Lib.hid R; clear R)
  refine wp_loop_rounds 1 ?_; rw [rounds_succ]; go_wp2
  go_ret
  exact ⟨rfl, HR.out⟩

theorem su8_yes (B : Nat) (w : World) (b : Nat) (v : Value) (l : List Int) (hkl : 1 ≤ l.length) (h : Rd 124 B w b v l false) :
    Calls Tryd.prog 60 #[.pointer (some ⟨b, 0, none⟩)] w fun e w' => e = .returned (.int .i64 (IntKind.i64.wrap (bv (l.take 1)))) ∧ Rdd 124 B w b v (l.drop 1) false w' := by
  have HH := Lib.hid h
  clear h
  have HK := Lib.hid hkl
  clear hkl
  go_enter Tryd.func60, Tryd.ntmps60
  go_wp2_with (go_at_call 74; refine (su_yes _ _ _ _ _ _ 1 rfl HK.out (by decide) HH.out).mono ?_; rintro e w' ⟨rfl, R⟩; have HR := Lib.hid R; clear R)
  go_ret
  refine ⟨?_, HR.out⟩
  show Ending.returned (.int .i64 (wrap64 _)) = _
  rw [wrap64_u64, wrap64_eq]
theorem su8_no (B : Nat) (w : World) (b : Nat) (v : Value) (l : List Int) (lk : Bool) (hkl : lk = true ∨ l.length < 1) (h : Rd 124 B w b v l lk) :
    Calls Tryd.prog 60 #[.pointer (some ⟨b, 0, none⟩)] w fun e w' => e = .returned (.int .i64 0) ∧ Rdd 124 B w b v [] true w' := by
  have HH := Lib.hid h
  clear h
  have HK := Lib.hid hkl
  clear hkl
  go_enter Tryd.func60, Tryd.ntmps60
  go_wp2_with (go_at_call 74; refine (su_no _ _ _ _ _ _ _ (by rcases HK.out with h | h; exact .inl h; exact .inr (.inr (by omega))) HH.out).mono ?_; rintro e w' ⟨rfl, R⟩; have HR := Lib.hid R; clear R)
  go_ret
  exact ⟨rfl, HR.out⟩

theorem su32_yes (B : Nat) (w : World) (b : Nat) (v : Value) (l : List Int) (hkl : 4 ≤ l.length) (h : Rd 124 B w b v l false) :
    Calls Tryd.prog 61 #[.pointer (some ⟨b, 0, none⟩)] w fun e w' => e = .returned (.int .i64 (IntKind.i64.wrap (bv (l.take 4)))) ∧ Rdd 124 B w b v (l.drop 4) false w' := by
  have HH := Lib.hid h
  clear h
  have HK := Lib.hid hkl
  clear hkl
  go_enter Tryd.func61, Tryd.ntmps61
  go_wp2_with (go_at_call 74; refine (su_yes _ _ _ _ _ _ 4 rfl HK.out (by decide) HH.out).mono ?_; rintro e w' ⟨rfl, R⟩; have HR := Lib.hid R; clear R)
  go_ret
  refine ⟨?_, HR.out⟩
  show Ending.returned (.int .i64 (wrap64 _)) = _
  rw [wrap64_u64, wrap64_eq]
theorem su32_no (B : Nat) (w : World) (b : Nat) (v : Value) (l : List Int) (lk : Bool) (hkl : lk = true ∨ l.length < 4) (h : Rd 124 B w b v l lk) :
    Calls Tryd.prog 61 #[.pointer (some ⟨b, 0, none⟩)] w fun e w' => e = .returned (.int .i64 0) ∧ Rdd 124 B w b v [] true w' := by
  have HH := Lib.hid h
  clear h
  have HK := Lib.hid hkl
  clear hkl
  go_enter Tryd.func61, Tryd.ntmps61
  go_wp2_with (go_at_call 74; refine (su_no _ _ _ _ _ _ _ (by rcases HK.out with h | h; exact .inl h; exact .inr (.inr (by omega))) HH.out).mono ?_; rintro e w' ⟨rfl, R⟩; have HR := Lib.hid R; clear R)
  go_ret
  exact ⟨rfl, HR.out⟩

end Go.Proofs.YtdnpgdhkeofphaaDoor
