/- What Raw, U8, U32 and U64 of the octet Reader do. -/
import Derived.Test.YtbadkgmlefmmbaaOctT
import Derived.Test.YtbadkgmlefmmbaaOctBits
namespace Go.Proofs.Ytbadkgmlefmmbaa
open Go.RowKit

/-- The number that bytes stand for, the most significant one first. -/
def bv (l : List Int) : Int := l.foldl (fun a x => a * 256 + x) 0
theorem bv_snoc (l : List Int) (x : Int) : bv (l ++ [x]) = bv l * 256 + x := by simp [bv]

set_option maxHeartbeats 800000 in
theorem rfixed_yes (B : Nat) (w : World) (b : Nat) (v : Value) (l : List Int) (lk : Bool) (n : Int) (k : Nat) (hk : n = k) (hkl : k ≤ l.length) (hk8 : k ≤ 8) (h : Rd 51 B w b v l lk) :
    Calls Try.prog 37 #[.pointer (some ⟨b, 0, none⟩), .int .i64 n] w fun e w' => e = .returned (.int .i64 (IntKind.i64.wrap (bv (l.take k)))) ∧ Rdd 51 B w b v (l.drop k) lk w' := by
  subst hk
  have hok := Lib.hid (h.ok.take k)
  have HH := Lib.hid h
  clear h
  go_enter Try.func37, Try.ntmps37
  go_wp2_with (go_at_call 42; refine (take_yes _ _ _ _ _ _ _ k rfl hkl HH.out).mono ?_; rintro e w' ⟨u, rfl, hs, R, _⟩; have HR := Lib.hid R; clear R; rcases hs with ⟨rfl, hs⟩ | ⟨g, o, cap, rfl, hc, hu⟩)
  · have hk0 : k = 0 := by
      have := congrArg List.length hs
      rw [List.length_take, List.length_nil] at this
      omega
    subst hk0
    clear hs
    refine wp_loop_rounds 1 ?_; rw [rounds_succ]; go_wp2
    go_ret
    exact ⟨rfl, HR.out⟩
  · have hlen : (l.take k).length = k := by rw [List.length_take]; omega
    have HL := Lib.hid hlen
    have HU := Lib.hid hu
    clear hu hlen
    go_loop [5, 12] (fun a i => ∃ j : Nat, j ≤ k ∧ i = .int .i64 j ∧ a = .int .i64 (wrap64 (bv ((l.take k).take j)))) (fun _ i => k - (intOf i).toNat)
    case atStart => exact ⟨0, Nat.zero_le _, rfl, by simp [bv, wrap64]⟩
    case round =>
      obtain ⟨j, hj, rfl, rfl⟩ := hrel
      by_cases hlt : j < k
      · obtain ⟨x, hx⟩ : ∃ x, (l.take k)[j]? = some x := ⟨_, List.getElem?_eq_getElem (by rw [HL.out]; exact hlt)⟩
        have hcell := HU.out j (.int .u8 x) (by rw [us, List.getElem?_map, hx]; rfl)
        have hxb := hok.out x (List.mem_of_getElem? hx)
        obtain ⟨hx0, hx1⟩ := hxb
        have HX := Lib.hid hx
        clear hx
        obtain ⟨a, ha⟩ : ∃ a, a = bv ((l.take k).take j) := ⟨_, rfl⟩
        rw [← ha]
        have HA := Lib.hid ha
        clear ha
        go_wp2
        refine ⟨⟨j + 1, by omega, by go_num, ?_⟩, by simp [intOf]; omega⟩
        rw [shl8_or a x hx0 hx1, List.take_add_one, HX.out, Option.toList_some, bv_snoc, ← HA.out]
      · have hjk : j = k := by omega
        subst hjk
        clear hlt
        go_wp2
        go_ret
        refine ⟨?_, HR.out⟩
        show Ending.returned (.int .i64 (wrap64 _)) = _
        rw [List.take_take, Nat.min_self, wrap64_eq]

set_option maxHeartbeats 800000 in
theorem rfixed_no (B : Nat) (w : World) (b : Nat) (v : Value) (l : List Int) (lk : Bool) (n : Int) (hn : n < 0 ∨ (l.length : Int) < n) (h : Rd 51 B w b v l lk) :
    Calls Try.prog 37 #[.pointer (some ⟨b, 0, none⟩), .int .i64 n] w fun e w' => e = .returned (.int .i64 0) ∧ Rdd 51 B w b v [] true w' := by
  have HH := Lib.hid h
  have HN := Lib.hid hn
  clear h hn
  go_enter Try.func37, Try.ntmps37
  go_wp2_with (go_at_call 42; refine (take_no _ _ _ _ _ _ _ HN.out HH.out).mono ?_; rintro e w' ⟨rfl, R⟩; have HR := Lib.hid R; clear R)
  refine wp_loop_rounds 1 ?_; rw [rounds_succ]; go_wp2
  go_ret
  exact ⟨rfl, HR.out⟩

set_option maxHeartbeats 800000 in
theorem rraw_yes (B : Nat) (w : World) (b : Nat) (v : Value) (l : List Int) (lk : Bool) (n : Int) (k : Nat) (hk : n = k) (hkl : k ≤ l.length) (h : Rd 51 B w b v l lk) :
    Calls Try.prog 34 #[.pointer (some ⟨b, 0, none⟩), .int .i64 n] w fun e w' => ∃ u, e = .returned u ∧ SeenR w' u (l.take k) ∧ (∀ j, u.ownBlock = some j → w.heap.size ≤ j ∧ j < w'.heap.size) ∧ Rdd 51 B w b v (l.drop k) lk w' := by
  subst hk
  have hsm : (l.take k).length ≤ 140737488351232 := by have := h.small; rw [List.length_take]; omega
  have HS := Lib.hid hsm
  have HH := Lib.hid h
  clear h hsm
  go_enter Try.func34, Try.ntmps34
  go_wp2_with (go_at_call 42; refine (take_yes _ _ _ _ _ _ _ k rfl hkl HH.out).mono ?_; rintro e w1 ⟨u, rfl, hs, R, _⟩; have HR := Lib.hid R; have HSE := Lib.hid hs.seen; clear R hs)
  go_wp2_with (go_at_call 36; refine (clone_any _ _ (l.take k) HS.out HSE.out).mono ?_; rintro e w2 ⟨u2, rfl, R1, R2⟩; have HR1 := Lib.hid R1; have HR2 := Lib.hid R2; clear R1 R2)
  go_ret
  obtain ⟨v', hr, ho, hv⟩ := HR.out
  have ho2 : Only (fun k => k = b) w1 w2 := Only.of_below HR2.out
  refine ⟨u2, rfl, SeenR.own HR1.out, fun j hj => ?_, v', hr.kept (S := fun _ => False) (Only.of_below HR2.out) (fun h => h) (fun _ _ h => h), ho.trans ho2 (fun _ h => h) (fun _ _ h => h), hv⟩
  have := HR1.out.lt j hj
  have := ho.size
  omega

set_option maxHeartbeats 800000 in
theorem rraw_no (B : Nat) (w : World) (b : Nat) (v : Value) (l : List Int) (lk : Bool) (n : Int) (hn : n < 0 ∨ (l.length : Int) < n) (h : Rd 51 B w b v l lk) :
    Calls Try.prog 34 #[.pointer (some ⟨b, 0, none⟩), .int .i64 n] w fun e w' => e = .returned (.slice none 0 0) ∧ Rdd 51 B w b v [] true w' := by
  have HH := Lib.hid h
  have HN := Lib.hid hn
  clear h hn
  go_enter Try.func34, Try.ntmps34
  go_wp2_with (go_at_call 42; refine (take_no _ _ _ _ _ _ _ HN.out HH.out).mono ?_; rintro e w1 ⟨rfl, R⟩; have HR := Lib.hid R; clear R)
  go_wp2_with (go_at_call 36; refine (clone_nil _).mono ?_; rintro e w2 ⟨rfl, rfl⟩)
  go_ret
  exact ⟨rfl, HR.out⟩

theorem ru8_yes (B : Nat) (w : World) (b : Nat) (v : Value) (l : List Int) (lk : Bool) (hkl : 1 ≤ l.length) (h : Rd 51 B w b v l lk) :
    Calls Try.prog 17 #[.pointer (some ⟨b, 0, none⟩)] w fun e w' => e = .returned (.int .i64 (IntKind.i64.wrap (bv (l.take 1)))) ∧ Rdd 51 B w b v (l.drop 1) lk w' := by
  have HH := Lib.hid h
  clear h
  have HK := Lib.hid hkl
  clear hkl
  go_enter Try.func17, Try.ntmps17
  go_wp2_with (go_at_call 37; refine (rfixed_yes _ _ _ _ _ _ _ 1 rfl HK.out (by decide) HH.out).mono ?_; rintro e w' ⟨rfl, R⟩; have HR := Lib.hid R; clear R)
  go_ret
  exact ⟨rfl, HR.out⟩
theorem ru8_no (B : Nat) (w : World) (b : Nat) (v : Value) (l : List Int) (lk : Bool) (hkl : l.length < 1) (h : Rd 51 B w b v l lk) :
    Calls Try.prog 17 #[.pointer (some ⟨b, 0, none⟩)] w fun e w' => e = .returned (.int .i64 0) ∧ Rdd 51 B w b v [] true w' := by
  have HH := Lib.hid h
  clear h
  have HK := Lib.hid hkl
  clear hkl
  go_enter Try.func17, Try.ntmps17
  go_wp2_with (go_at_call 37; refine (rfixed_no _ _ _ _ _ _ _ (.inr (by have := HK.out; omega)) HH.out).mono ?_; rintro e w' ⟨rfl, R⟩; have HR := Lib.hid R; clear R)
  go_ret
  exact ⟨rfl, HR.out⟩

theorem ru32_yes (B : Nat) (w : World) (b : Nat) (v : Value) (l : List Int) (lk : Bool) (hkl : 4 ≤ l.length) (h : Rd 51 B w b v l lk) :
    Calls Try.prog 30 #[.pointer (some ⟨b, 0, none⟩)] w fun e w' => e = .returned (.int .i64 (IntKind.i64.wrap (bv (l.take 4)))) ∧ Rdd 51 B w b v (l.drop 4) lk w' := by
  have HH := Lib.hid h
  clear h
  have HK := Lib.hid hkl
  clear hkl
  go_enter Try.func30, Try.ntmps30
  go_wp2_with (go_at_call 37; refine (rfixed_yes _ _ _ _ _ _ _ 4 rfl HK.out (by decide) HH.out).mono ?_; rintro e w' ⟨rfl, R⟩; have HR := Lib.hid R; clear R)
  go_ret
  exact ⟨rfl, HR.out⟩
theorem ru32_no (B : Nat) (w : World) (b : Nat) (v : Value) (l : List Int) (lk : Bool) (hkl : l.length < 4) (h : Rd 51 B w b v l lk) :
    Calls Try.prog 30 #[.pointer (some ⟨b, 0, none⟩)] w fun e w' => e = .returned (.int .i64 0) ∧ Rdd 51 B w b v [] true w' := by
  have HH := Lib.hid h
  clear h
  have HK := Lib.hid hkl
  clear hkl
  go_enter Try.func30, Try.ntmps30
  go_wp2_with (go_at_call 37; refine (rfixed_no _ _ _ _ _ _ _ (.inr (by have := HK.out; omega)) HH.out).mono ?_; rintro e w' ⟨rfl, R⟩; have HR := Lib.hid R; clear R)
  go_ret
  exact ⟨rfl, HR.out⟩

theorem ru64_yes (B : Nat) (w : World) (b : Nat) (v : Value) (l : List Int) (lk : Bool) (hkl : 8 ≤ l.length) (h : Rd 51 B w b v l lk) :
    Calls Try.prog 11 #[.pointer (some ⟨b, 0, none⟩)] w fun e w' => e = .returned (.int .i64 (IntKind.i64.wrap (bv (l.take 8)))) ∧ Rdd 51 B w b v (l.drop 8) lk w' := by
  have HH := Lib.hid h
  clear h
  have HK := Lib.hid hkl
  clear hkl
  go_enter Try.func11, Try.ntmps11
  go_wp2_with (go_at_call 37; refine (rfixed_yes _ _ _ _ _ _ _ 8 rfl HK.out (by decide) HH.out).mono ?_; rintro e w' ⟨rfl, R⟩; have HR := Lib.hid R; clear R)
  go_ret
  exact ⟨rfl, HR.out⟩
theorem ru64_no (B : Nat) (w : World) (b : Nat) (v : Value) (l : List Int) (lk : Bool) (hkl : l.length < 8) (h : Rd 51 B w b v l lk) :
    Calls Try.prog 11 #[.pointer (some ⟨b, 0, none⟩)] w fun e w' => e = .returned (.int .i64 0) ∧ Rdd 51 B w b v [] true w' := by
  have HH := Lib.hid h
  clear h
  have HK := Lib.hid hkl
  clear hkl
  go_enter Try.func11, Try.ntmps11
  go_wp2_with (go_at_call 37; refine (rfixed_no _ _ _ _ _ _ _ (.inr (by have := HK.out; omega)) HH.out).mono ?_; rintro e w' ⟨rfl, R⟩; have HR := Lib.hid R; clear R)
  go_ret
  exact ⟨rfl, HR.out⟩
end Go.Proofs.Ytbadkgmlefmmbaa
