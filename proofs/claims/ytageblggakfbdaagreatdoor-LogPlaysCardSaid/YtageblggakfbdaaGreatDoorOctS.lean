/- What Raw of the reference's Reader does. · What U8, U32 and U64 of the reference's Reader do. -/
import Derived.Test.YtageblggakfbdaaGreatDoorOctR
import Derived.Test.YtageblggakfbdaaGreatDoorOctMath
namespace Go.Proofs.YtageblggakfbdaaGreatDoor
open Go.RowKit

set_option maxHeartbeats 800000 in
theorem sraw_no (B : Nat) (w : World) (b : Nat) (v : Value) (l : List Int) (lk : Bool) (n : Int) (hn : lk = true ∨ n < 0 ∨ (l.length : Int) < n) (h : Rd 151 B w b v l lk) :
    Calls Tryz.prog 122 #[.pointer (some ⟨b, 0, none⟩), .int .i64 n] w fun e w' => e = .returned (.slice none 0 0) ∧ Rdd 151 B w b v [] true w' := by
  have c0 := h.c0
  have c1 := h.c1
  have f0 := frozen_of_row w b 0 _ _ h.at_
  have f1 := frozen_of_row w b 1 _ _ h.at_
  have h1 := two_set0 (u := .slice none 0 0) (two_set1 (u := .bool true) h.at_)
  have R : Rdd 151 B w b v [] true ((w.setCell ⟨b, 1, none⟩ (.bool true)).setCell ⟨b, 0, none⟩ (.slice none 0 0)) :=
    ⟨_, ⟨h.base, h1, SeenR.nil _, fun k hk => by simp [Value.ownBlock] at hk, Okb.nil, by simp, fun _ => rfl⟩, ((Only.refl (fun k => k = b) w).setCell (p := ⟨b, 1, none⟩) rfl _).setCell (p := ⟨b, 0, none⟩) rfl _, fun k hk => by simp [Value.ownBlock] at hk⟩
  have HR := Lib.hid R
  clear R h1
  have HS := Lib.hid h.seen
  clear h
  cases lk with
  | true =>
    clear hn
    go_enter Tryz.func122, Tryz.ntmps122
    go_wp2
    go_ret
    exact ⟨rfl, HR.out⟩
  | false =>
    by_cases h0 : n < 0
    · clear hn
      go_enter Tryz.func122, Tryz.ntmps122
      go_wp2
      go_ret
      exact ⟨rfl, HR.out⟩
    · have hl : (l.length : Int) < n := by rcases hn with h | h | h; cases h; omega; exact h
      rcases HS.out with ⟨rfl, rfl⟩ | ⟨g, o, cap, rfl, hc, hu⟩
      all_goals
        clear hn
        try clear hu
        go_enter Tryz.func122, Tryz.ntmps122
        go_wp2
        go_ret
        exact ⟨rfl, HR.out⟩

theorem Rdd.after {T B b : Nat} {w w1 w2 : World} {v : Value} {l l' : List Int} {lk : Bool} (ho : Only (fun _ => False) w w1) (h : Rdd T B w1 b v l' lk w2) (_h : Rd T B w b v l lk) : Rdd T B w b v l' lk w2 := by
  obtain ⟨v', hr, o2, hs⟩ := h
  exact ⟨v', hr, ho.trans o2 (fun _ h => h.elim) (fun _ _ h => h), hs⟩

theorem Rdd.alloc {T B b : Nat} {w w' : World} {v : Value} {l : List Int} {lk : Bool} (h : Rdd T B w b v l lk w') (o : Obj) : Rdd T B w b v l lk (w'.alloc o) := by
  obtain ⟨v', hr, ho, hs⟩ := h
  exact ⟨v', hr.kb ((Below.refl _ _).alloc (Nat.le_refl _) o), ho.alloc o, hs⟩

set_option maxRecDepth 10000 in
set_option maxHeartbeats 1600000 in
theorem sraw_yes (B : Nat) (w : World) (b : Nat) (v : Value) (l : List Int) (n : Int) (k : Nat) (hk : n = k) (hkl : k ≤ l.length) (h : Rd 151 B w b v l false) :
    Calls Tryz.prog 122 #[.pointer (some ⟨b, 0, none⟩), .int .i64 n] w fun e w' => ∃ u, e = .returned u ∧ SeenR w' u (l.take k) ∧ (∀ j, u.ownBlock = some j → w.heap.size ≤ j) ∧ Rdd 151 B w b v (l.drop k) false w' := by
  subst hk
  obtain ⟨i0, hi0, hz0, hz1, hz2⟩ := info_parts u8info
  have c0 := h.c0
  have c1 := h.c1
  have hbl := h.lt
  have f0 := frozen_of_row w b 0 _ _ h.at_
  have hown := World.ownsRow_made (base := w.heap.size) (e := 5) (size := 1) w #[] 0 (Nat.le_refl _) (by decide) rfl
  have HH := Lib.hid h
  have hlk := Lib.hid fun (e : false = true) => show l.drop k = [] by rw [h.lacks e]; exact List.drop_nil
  have hok := Lib.hid h.ok
  have hsm := h.small
  rcases h.seen with ⟨rfl, rfl⟩ | ⟨g, o, cap, rfl, hc, hu⟩
  · have hk0 : k = 0 := by simpa using hkl
    subst hk0
    clear h
    have hb0 : (w.alloc (.cells #[] 5)).cell? ⟨b, 0, none⟩ = some (.slice none 0 0) := (World.cell?_of_block (w := w) (a := ⟨b, 0, none⟩) (Below.heap_alloc w _ _ hbl)).trans c0
    have hf0 : (w.alloc (.cells #[] 5)).frozen? ⟨b, 0, none⟩ = false := (World.frozen?_of_block (w := w) (a := ⟨b, 0, none⟩) (Below.heap_alloc w _ _ hbl)).trans f0
    go_enter Tryz.func122, Tryz.ntmps122
    go_wp2
    go_ret
    refine ⟨.slice (some ⟨w.heap.size, 0, none⟩) 0 0, rfl, .inr ⟨w.heap.size, 0, 0, rfl, Nat.le_refl _, fun j u hj => by simp at hj⟩, fun j hj => by simp [Value.ownBlock] at hj; omega, ?_⟩
    exact (HH.out.store (SeenR.nil _) (fun _ h => h) Okb.nil (Nat.le_refl _) (fun _ => rfl)).alloc _
  · have HU := Lib.hid hu
    have hnews : Hid (∀ j u, (us (l.take k))[j]? = some u → (w.alloc (.cells #[] 5)).cell? ((⟨g, o, none⟩ : Addr).add j) = some u) := Lib.hid fun j u hj => by
      have hj2 : j < k := by
        have := (List.getElem?_eq_some_iff.1 hj).1
        simp [us] at this; omega
      have h1 := hu j u (by simpa [us, List.getElem?_take, hj2] using hj)
      have h2 := World.block_lt_of_cell? w _ h1
      rw [Addr.add_lit, World.cell?_of_block (w := w) (a := ⟨g, o + j, none⟩) (Below.heap_alloc w _ _ h2)]
      exact h1
    have hlen : (us (l.take k)).length = k * 1 := by simp [us]; omega
    have HL := Lib.hid hlen
    clear h hu hlen
    by_cases hcap : cap = k
    all_goals
      go_enter Tryz.func122, Tryz.ntmps122
      go_wp2_with (at_builtin; refine wpList_append_own _ (by rfl) (.tmp 29) (.tmp 35) _ (by rfl) w.heap.size 5 i0 _ 1 1 Tryz.underlying29 hi0 hz0 hz1 hz2 rfl (by omega) (.slice (some ⟨w.heap.size, 0, none⟩) 0 0) 0 [] (by rfl) hown ⟨g, o, none⟩ k _ (us (l.take k)) (by rfl) HL.out hnews.out (by intro u hu; obtain ⟨x, _, rfl⟩ := List.mem_map.1 hu; rfl) (by simp [maxLen]; omega) (by omega) (by simp) ?_; intro v' w1 hown' hgrow hiff; clear hiff; have hc1 : w1.cell? ⟨b, 0, none⟩ = some _ := (hgrow.cell_far ⟨b, 0, none⟩ (by simp; omega) (by simp [Value.ownBlock]; omega)).trans ((World.cell?_of_block (w := w) (a := ⟨b, 0, none⟩) (Below.heap_alloc w _ _ hbl)).trans c0); have hf1 : w1.frozen? ⟨b, 0, none⟩ = false := (hgrow.frozen_far ⟨b, 0, none⟩ (by simp; omega) (by simp [Value.ownBlock]; omega)).trans ((World.frozen?_of_block (w := w) (a := ⟨b, 0, none⟩) (Below.heap_alloc w _ _ hbl)).trans f0); have HOWN := Lib.hid hown'; have ho : Only (fun _ => False) w w1 := Only.of_below (((Below.refl _ _).alloc (Nat.le_refl _) _).grown hgrow (by simp) (by intro k hk; cases hk; exact Nat.le_refl _)); have HO := Lib.hid ho; clear ho hown' hgrow)
    all_goals
      go_ret
      have hr1 := HH.out.kept HO.out (fun h => h) (fun _ _ h => h)
      have hs1 := hr1.seen
      rcases hs1 with ⟨hs1, _⟩ | ⟨g1, o1, cap1, hs1, hc1', hu1⟩
      · cases hs1
      cases hs1
      have hlow : ∀ j, v'.ownBlock = some j → w.heap.size ≤ j := fun j hj => (HOWN.out.lt j hj).1
      have hseen : SeenR w1 v' (l.take k) := SeenR.own (B := w.heap.size) (by have := HOWN.out; simp only [Nat.zero_add, List.nil_append] at this; rw [show (l.take k).length = k from by rw [List.length_take]; omega]; exact this)
    · subst hcap
      refine ⟨v', rfl, hseen.kept fun j hj => Below.heap_setCell _ _ _ _ (by have := hlow j hj; simp only; omega), hlow, Rdd.after HO.out (hr1.store (seen_none hc) (fun _ h => h) (hok.out.drop _) (by simp) hlk.out) HH.out⟩
    · refine ⟨v', rfl, hseen.kept fun j hj => Below.heap_setCell _ _ _ _ (by have := hlow j hj; simp only; omega), hlow, Rdd.after HO.out (hr1.store (seen_drop hkl hc hu1) (fun _ h => h) (hok.out.drop _) (by simp) hlk.out) HH.out⟩
end Go.Proofs.YtageblggakfbdaaGreatDoor
namespace Go.Proofs.YtageblggakfbdaaGreatDoor
open Go.RowKit

theorem u64_mod (a : Int) : IntKind.u64.wrap a = a % 18446744073709551616 := IntKind.wrap_u64 a
theorem shl8_add (a x : Int) : IntKind.u64.wrap (IntKind.u64.wrap (IntKind.u64.wrap a * 256) + x) = IntKind.u64.wrap (a * 256 + x) := by
  rw [u64_mod, u64_mod, u64_mod, u64_mod]; omega

set_option maxHeartbeats 800000 in
theorem su_yes (B : Nat) (w : World) (b : Nat) (v : Value) (l : List Int) (n : Int) (k : Nat) (hk : n = k) (hkl : k ≤ l.length) (hk8 : k ≤ 8) (h : Rd 151 B w b v l false) :
    Calls Tryz.prog 113 #[.pointer (some ⟨b, 0, none⟩), .int .i64 n] w fun e w' => e = .returned (.int .u64 (IntKind.u64.wrap (bv (l.take k)))) ∧ Rdd 151 B w b v (l.drop k) false w' := by
  subst hk
  have hok := Lib.hid (h.ok.take k)
  have HH := Lib.hid h
  clear h
  go_enter Tryz.func113, Tryz.ntmps113
  go_wp2_with (go_at_call 122; refine (sraw_yes _ _ _ _ _ _ k rfl hkl HH.out).mono ?_; rintro e w' ⟨u, rfl, hs, _, R⟩; have HR := Lib.hid R; clear R; rcases hs with ⟨rfl, hs⟩ | ⟨g, o, cap, rfl, hc, hu⟩)
  · have hk0 : k = 0 := by
      have := congrArg List.length hs
      rw [List.length_take, List.length_nil] at this
      omega
    subst hk0
    clear hs
    refine wp_loop_rounds 1 ?_; rw [rounds_succ]; go_wp2
    go_ret
    exact ⟨rfl, HR.out⟩
  · have hlen : (l.take k).length = k := by rw [List.length_take]; omega
    have HL := Lib.hid hlen
    have HU := Lib.hid hu
    clear hu hlen
    go_loop [6, 7] (fun a i => ∃ j : Nat, j ≤ k ∧ i = .int .i64 j ∧ a = .int .u64 (IntKind.u64.wrap (bv ((l.take k).take j)))) (fun _ i => k - (intOf i).toNat)
    case atStart => exact ⟨0, Nat.zero_le _, rfl, by simp [bv, u64_mod]⟩
    case round =>
      obtain ⟨j, hj, rfl, rfl⟩ := hrel
      by_cases hlt : j < k
      · obtain ⟨x, hx⟩ : ∃ x, (l.take k)[j]? = some x := ⟨_, List.getElem?_eq_getElem (by rw [HL.out]; exact hlt)⟩
        have hcell := HU.out j (.int .u8 x) (by rw [us, List.getElem?_map, hx]; rfl)
        have hxb := hok.out x (List.mem_of_getElem? hx)
        obtain ⟨hx0, hx1⟩ := hxb
        have HX := Lib.hid hx
        clear hx
        obtain ⟨a, ha⟩ : ∃ a, a = bv ((l.take k).take j) := ⟨_, rfl⟩
        rw [← ha]
        have HA := Lib.hid ha
        clear ha
        go_wp2
        refine ⟨⟨j + 1, by omega, by go_num, ?_⟩, by simp [intOf]; omega⟩
        rw [shl8_add, List.take_add_one, HX.out, Option.toList_some, bv_snoc, ← HA.out]
      · have hjk : j = k := by omega
        subst hjk
        clear hlt
        go_wp2
        go_ret
        refine ⟨?_, HR.out⟩
        show Ending.returned (.int .u64 _) = _
        rw [List.take_take, Nat.min_self]

set_option maxHeartbeats 800000 in
theorem su_no (B : Nat) (w : World) (b : Nat) (v : Value) (l : List Int) (lk : Bool) (n : Int) (hn : lk = true ∨ n < 0 ∨ (l.length : Int) < n) (h : Rd 151 B w b v l lk) :
    Calls Tryz.prog 113 #[.pointer (some ⟨b, 0, none⟩), .int .i64 n] w fun e w' => e = .returned (.int .u64 0) ∧ Rdd 151 B w b v [] true w' := by
  have HH := Lib.hid h
  have HN := Lib.hid hn
  clear h hn
  go_enter Tryz.func113, Tryz.ntmps113
  go_wp2_with (go_at_call 122; refine (sraw_no _ _ _ _ _ _ _ HN.out HH.out).mono ?_; rintro e w' ⟨rfl, R⟩; have HR := Lib.hid R; clear R)
  refine wp_loop_rounds 1 ?_; rw [rounds_succ]; go_wp2
  go_ret
  exact ⟨rfl, HR.out⟩

theorem su8_yes (B : Nat) (w : World) (b : Nat) (v : Value) (l : List Int) (hkl : 1 ≤ l.length) (h : Rd 151 B w b v l false) :
    Calls Tryz.prog 88 #[.pointer (some ⟨b, 0, none⟩)] w fun e w' => e = .returned (.int .i64 (IntKind.i64.wrap (bv (l.take 1)))) ∧ Rdd 151 B w b v (l.drop 1) false w' := by
  have HH := Lib.hid h
  clear h
  have HK := Lib.hid hkl
  clear hkl
  go_enter Tryz.func88, Tryz.ntmps88
  go_wp2_with (go_at_call 113; refine (su_yes _ _ _ _ _ _ 1 rfl HK.out (by decide) HH.out).mono ?_; rintro e w' ⟨rfl, R⟩; have HR := Lib.hid R; clear R)
  go_ret
  refine ⟨?_, HR.out⟩
  show Ending.returned (.int .i64 (wrap64 _)) = _
  rw [wrap64_u64, wrap64_eq]
theorem su8_no (B : Nat) (w : World) (b : Nat) (v : Value) (l : List Int) (lk : Bool) (hkl : lk = true ∨ l.length < 1) (h : Rd 151 B w b v l lk) :
    Calls Tryz.prog 88 #[.pointer (some ⟨b, 0, none⟩)] w fun e w' => e = .returned (.int .i64 0) ∧ Rdd 151 B w b v [] true w' := by
  have HH := Lib.hid h
  clear h
  have HK := Lib.hid hkl
  clear hkl
  go_enter Tryz.func88, Tryz.ntmps88
  go_wp2_with (go_at_call 113; refine (su_no _ _ _ _ _ _ _ (by rcases HK.out with h | h; exact .inl h; exact .inr (.inr (by omega))) HH.out).mono ?_; rintro e w' ⟨rfl, R⟩; have HR := Lib.hid R; clear R)
  go_ret
  exact ⟨rfl, HR.out⟩

theorem su32_yes (B : Nat) (w : World) (b : Nat) (v : Value) (l : List Int) (hkl : 4 ≤ l.length) (h : Rd 151 B w b v l false) :
    Calls Tryz.prog 89 #[.pointer (some ⟨b, 0, none⟩)] w fun e w' => e = .returned (.int .i64 (IntKind.i64.wrap (bv (l.take 4)))) ∧ Rdd 151 B w b v (l.drop 4) false w' := by
  have HH := Lib.hid h
  clear h
  have HK := Lib.hid hkl
  clear hkl
  go_enter Tryz.func89, Tryz.ntmps89
  go_wp2_with (go_at_call 113; refine (su_yes _ _ _ _ _ _ 4 rfl HK.out (by decide) HH.out).mono ?_; rintro e w' ⟨rfl, R⟩; have HR := Lib.hid R; clear R)
  go_ret
  refine ⟨?_, HR.out⟩
  show Ending.returned (.int .i64 (wrap64 _)) = _
  rw [wrap64_u64, wrap64_eq]
theorem su32_no (B : Nat) (w : World) (b : Nat) (v : Value) (l : List Int) (lk : Bool) (hkl : lk = true ∨ l.length < 4) (h : Rd 151 B w b v l lk) :
    Calls Tryz.prog 89 #[.pointer (some ⟨b, 0, none⟩)] w fun e w' => e = .returned (.int .i64 0) ∧ Rdd 151 B w b v [] true w' := by
  have HH := Lib.hid h
  clear h
  have HK := Lib.hid hkl
  clear hkl
  go_enter Tryz.func89, Tryz.ntmps89
  go_wp2_with (go_at_call 113; refine (su_no _ _ _ _ _ _ _ (by rcases HK.out with h | h; exact .inl h; exact .inr (.inr (by omega))) HH.out).mono ?_; rintro e w' ⟨rfl, R⟩; have HR := Lib.hid R; clear R)
  go_ret
  exact ⟨rfl, HR.out⟩

end Go.Proofs.YtageblggakfbdaaGreatDoor
