/- What Raw of the reference's Reader does. · What U8, U32 and U64 of the reference's Reader do. · What Var of the reference's Reader does. -/
import Derived.Test.YtfneadlknieppaaGreatDoorOctR
import Derived.Test.YtfneadlknieppaaGreatDoorOctMath
import Derived.Lib.VarintBits
namespace Go.Proofs.YtfneadlknieppaaGreatDoor
open Go.RowKit

set_option maxHeartbeats 800000 in
theorem sraw_no (B : Nat) (w : World) (b : Nat) (v : Value) (l : List Int) (lk : Bool) (n : Int) (hn : lk = true ∨ n < 0 ∨ (l.length : Int) < n) (h : Rd 148 B w b v l lk) :
    Calls Tryz.prog 110 #[.pointer (some ⟨b, 0, none⟩), .int .i64 n] w fun e w' => e = .returned (.slice none 0 0) ∧ Rdd 148 B w b v [] true w' := by
  have c0 := h.c0
  have c1 := h.c1
  have f0 := frozen_of_row w b 0 _ _ h.at_
  have f1 := frozen_of_row w b 1 _ _ h.at_
  have h1 := two_set0 (u := .slice none 0 0) (two_set1 (u := .bool true) h.at_)
  have R : Rdd 148 B w b v [] true ((w.setCell ⟨b, 1, none⟩ (.bool true)).setCell ⟨b, 0, none⟩ (.slice none 0 0)) :=
    ⟨_, ⟨h.base, h1, SeenR.nil _, fun k hk => by simp [Value.ownBlock] at hk, Okb.nil, by simp, fun _ => rfl⟩, ((Only.refl (fun k => k = b) w).setCell (p := ⟨b, 1, none⟩) rfl _).setCell (p := ⟨b, 0, none⟩) rfl _, fun k hk => by simp [Value.ownBlock] at hk⟩
  have HR := Lib.hid R
  clear R h1
  have HS := Lib.hid h.seen
  clear h
  cases lk with
  | true =>
    clear hn
    go_enter Tryz.func110, Tryz.ntmps110
    go_wp2
    go_ret
    exact ⟨rfl, HR.out⟩
  | false =>
    by_cases h0 : n < 0
    · clear hn
      go_enter Tryz.func110, Tryz.ntmps110
      go_wp2
      go_ret
      exact ⟨rfl, HR.out⟩
    · have hl : (l.length : Int) < n := by rcases hn with h | h | h; cases h; omega; exact h
      rcases HS.out with ⟨rfl, rfl⟩ | ⟨g, o, cap, rfl, hc, hu⟩
      all_goals
        clear hn
        try clear hu
        go_enter Tryz.func110, Tryz.ntmps110
        go_wp2
        go_ret
        exact ⟨rfl, HR.out⟩

theorem Rdd.after {T B b : Nat} {w w1 w2 : World} {v : Value} {l l' : List Int} {lk : Bool} (ho : Only (fun _ => False) w w1) (h : Rdd T B w1 b v l' lk w2) (_h : Rd T B w b v l lk) : Rdd T B w b v l' lk w2 := by
  obtain ⟨v', hr, o2, hs⟩ := h
  exact ⟨v', hr, ho.trans o2 (fun _ h => h.elim) (fun _ _ h => h), hs⟩

theorem Rdd.alloc {T B b : Nat} {w w' : World} {v : Value} {l : List Int} {lk : Bool} (h : Rdd T B w b v l lk w') (o : Obj) : Rdd T B w b v l lk (w'.alloc o) := by
  obtain ⟨v', hr, ho, hs⟩ := h
  exact ⟨v', hr.kb ((Below.refl _ _).alloc (Nat.le_refl _) o), ho.alloc o, hs⟩

set_option maxRecDepth 10000 in
set_option maxHeartbeats 1600000 in
theorem sraw_yes (B : Nat) (w : World) (b : Nat) (v : Value) (l : List Int) (n : Int) (k : Nat) (hk : n = k) (hkl : k ≤ l.length) (h : Rd 148 B w b v l false) :
    Calls Tryz.prog 110 #[.pointer (some ⟨b, 0, none⟩), .int .i64 n] w fun e w' => ∃ u, e = .returned u ∧ SeenR w' u (l.take k) ∧ (∀ j, u.ownBlock = some j → w.heap.size ≤ j) ∧ Rdd 148 B w b v (l.drop k) false w' := by
  subst hk
  obtain ⟨i0, hi0, hz0, hz1, hz2⟩ := info_parts u8info
  have c0 := h.c0
  have c1 := h.c1
  have hbl := h.lt
  have f0 := frozen_of_row w b 0 _ _ h.at_
  have hown := World.ownsRow_made (base := w.heap.size) (e := 5) (size := 1) w #[] 0 (Nat.le_refl _) (by decide) rfl
  have HH := Lib.hid h
  have hlk := Lib.hid fun (e : false = true) => show l.drop k = [] by rw [h.lacks e]; exact List.drop_nil
  have hok := Lib.hid h.ok
  have hsm := h.small
  rcases h.seen with ⟨rfl, rfl⟩ | ⟨g, o, cap, rfl, hc, hu⟩
  · have hk0 : k = 0 := by simpa using hkl
    subst hk0
    clear h
    have hb0 : (w.alloc (.cells #[] 5)).cell? ⟨b, 0, none⟩ = some (.slice none 0 0) := (World.cell?_of_block (w := w) (a := ⟨b, 0, none⟩) (Below.heap_alloc w _ _ hbl)).trans c0
    have hf0 : (w.alloc (.cells #[] 5)).frozen? ⟨b, 0, none⟩ = false := (World.frozen?_of_block (w := w) (a := ⟨b, 0, none⟩) (Below.heap_alloc w _ _ hbl)).trans f0
    go_enter Tryz.func110, Tryz.ntmps110
    go_wp2
    go_ret
    refine ⟨.slice (some ⟨w.heap.size, 0, none⟩) 0 0, rfl, .inr ⟨w.heap.size, 0, 0, rfl, Nat.le_refl _, fun j u hj => by simp at hj⟩, fun j hj => by simp [Value.ownBlock] at hj; omega, ?_⟩
    exact (HH.out.store (SeenR.nil _) (fun _ h => h) Okb.nil (Nat.le_refl _) (fun _ => rfl)).alloc _
  · have HU := Lib.hid hu
    have hnews : Hid (∀ j u, (us (l.take k))[j]? = some u → (w.alloc (.cells #[] 5)).cell? ((⟨g, o, none⟩ : Addr).add j) = some u) := Lib.hid fun j u hj => by
      have hj2 : j < k := by
        have := (List.getElem?_eq_some_iff.1 hj).1
        simp [us] at this; omega
      have h1 := hu j u (by simpa [us, List.getElem?_take, hj2] using hj)
      have h2 := World.block_lt_of_cell? w _ h1
      rw [Addr.add_lit, World.cell?_of_block (w := w) (a := ⟨g, o + j, none⟩) (Below.heap_alloc w _ _ h2)]
      exact h1
    have hlen : (us (l.take k)).length = k * 1 := by simp [us]; omega
    have HL := Lib.hid hlen
    clear h hu hlen
    by_cases hcap : cap = k
    all_goals
      go_enter Tryz.func110, Tryz.ntmps110
      go_wp2_with (at_builtin; refine wpList_append_own _ (by rfl) (.tmp 29) (.tmp 35) _ (by rfl) w.heap.size 5 i0 _ 1 1 Tryz.underlying37 hi0 hz0 hz1 hz2 rfl (by omega) (.slice (some ⟨w.heap.size, 0, none⟩) 0 0) 0 [] (by rfl) hown ⟨g, o, none⟩ k _ (us (l.take k)) (by rfl) HL.out hnews.out (by intro u hu; obtain ⟨x, _, rfl⟩ := List.mem_map.1 hu; rfl) (by simp [maxLen]; omega) (by omega) (by simp) ?_; intro v' w1 hown' hgrow hiff; clear hiff; have hc1 : w1.cell? ⟨b, 0, none⟩ = some _ := (hgrow.cell_far ⟨b, 0, none⟩ (by simp; omega) (by simp [Value.ownBlock]; omega)).trans ((World.cell?_of_block (w := w) (a := ⟨b, 0, none⟩) (Below.heap_alloc w _ _ hbl)).trans c0); have hf1 : w1.frozen? ⟨b, 0, none⟩ = false := (hgrow.frozen_far ⟨b, 0, none⟩ (by simp; omega) (by simp [Value.ownBlock]; omega)).trans ((World.frozen?_of_block (w := w) (a := ⟨b, 0, none⟩) (Below.heap_alloc w _ _ hbl)).trans f0); have HOWN := Lib.hid hown'; have ho : Only (fun _ => False) w w1 := Only.of_below (((Below.refl _ _).alloc (Nat.le_refl _) _).grown hgrow (by simp) (by intro k hk; cases hk; exact Nat.le_refl _)); have HO := Lib.hid ho; clear ho hown' hgrow)
    all_goals
      go_ret
      have hr1 := HH.out.kept HO.out (fun h => h) (fun _ _ h => h)
      have hs1 := hr1.seen
      rcases hs1 with ⟨hs1, _⟩ | ⟨g1, o1, cap1, hs1, hc1', hu1⟩
      · cases hs1
      cases hs1
      have hlow : ∀ j, v'.ownBlock = some j → w.heap.size ≤ j := fun j hj => (HOWN.out.lt j hj).1
      have hseen : SeenR w1 v' (l.take k) := SeenR.own (B := w.heap.size) (by have := HOWN.out; simp only [Nat.zero_add, List.nil_append] at this; rw [show (l.take k).length = k from by rw [List.length_take]; omega]; exact this)
    · subst hcap
      refine ⟨v', rfl, hseen.kept fun j hj => Below.heap_setCell _ _ _ _ (by have := hlow j hj; simp only; omega), hlow, Rdd.after HO.out (hr1.store (seen_none hc) (fun _ h => h) (hok.out.drop _) (by simp) hlk.out) HH.out⟩
    · refine ⟨v', rfl, hseen.kept fun j hj => Below.heap_setCell _ _ _ _ (by have := hlow j hj; simp only; omega), hlow, Rdd.after HO.out (hr1.store (seen_drop hkl hc hu1) (fun _ h => h) (hok.out.drop _) (by simp) hlk.out) HH.out⟩
end Go.Proofs.YtfneadlknieppaaGreatDoor
namespace Go.Proofs.YtfneadlknieppaaGreatDoor
open Go.RowKit

theorem u64_mod (a : Int) : IntKind.u64.wrap a = a % 18446744073709551616 := IntKind.wrap_u64 a
theorem shl8_add (a x : Int) : IntKind.u64.wrap (IntKind.u64.wrap (IntKind.u64.wrap a * 256) + x) = IntKind.u64.wrap (a * 256 + x) := by
  rw [u64_mod, u64_mod, u64_mod, u64_mod]; omega

set_option maxHeartbeats 800000 in
theorem su_yes (B : Nat) (w : World) (b : Nat) (v : Value) (l : List Int) (n : Int) (k : Nat) (hk : n = k) (hkl : k ≤ l.length) (hk8 : k ≤ 8) (h : Rd 148 B w b v l false) :
    Calls Tryz.prog 119 #[.pointer (some ⟨b, 0, none⟩), .int .i64 n] w fun e w' => e = .returned (.int .u64 (IntKind.u64.wrap (bv (l.take k)))) ∧ Rdd 148 B w b v (l.drop k) false w' := by
  subst hk
  have hok := Lib.hid (h.ok.take k)
  have HH := Lib.hid h
  clear h
  go_enter Tryz.func119, Tryz.ntmps119
  go_wp2_with (go_at_call 110; refine (sraw_yes _ _ _ _ _ _ k rfl hkl HH.out).mono ?_; rintro e w' ⟨u, rfl, hs, _, R⟩; have HR := Lib.hid R; clear R; rcases hs with ⟨rfl, hs⟩ | ⟨g, o, cap, rfl, hc, hu⟩)
  · have hk0 : k = 0 := by
      have := congrArg List.length hs
      rw [List.length_take, List.length_nil] at this
      omega
    subst hk0
    clear hs
    refine wp_loop_rounds 1 ?_; rw [rounds_succ]; go_wp2
    go_ret
    exact ⟨rfl, HR.out⟩
  · have hlen : (l.take k).length = k := by rw [List.length_take]; omega
    have HL := Lib.hid hlen
    have HU := Lib.hid hu
    clear hu hlen
    go_loop [6, 7] (fun a i => ∃ j : Nat, j ≤ k ∧ i = .int .i64 j ∧ a = .int .u64 (IntKind.u64.wrap (bv ((l.take k).take j)))) (fun _ i => k - (intOf i).toNat)
    case atStart => exact ⟨0, Nat.zero_le _, rfl, by simp [bv, u64_mod]⟩
    case round =>
      obtain ⟨j, hj, rfl, rfl⟩ := hrel
      by_cases hlt : j < k
      · obtain ⟨x, hx⟩ : ∃ x, (l.take k)[j]? = some x := ⟨_, List.getElem?_eq_getElem (by rw [HL.out]; exact hlt)⟩
        have hcell := HU.out j (.int .u8 x) (by rw [us, List.getElem?_map, hx]; rfl)
        have hxb := hok.out x (List.mem_of_getElem? hx)
        obtain ⟨hx0, hx1⟩ := hxb
        have HX := Lib.hid hx
        clear hx
        obtain ⟨a, ha⟩ : ∃ a, a = bv ((l.take k).take j) := ⟨_, rfl⟩
        rw [← ha]
        have HA := Lib.hid ha
        clear ha
        go_wp2
        refine ⟨⟨j + 1, by omega, by go_num, ?_⟩, by simp [intOf]; omega⟩
        rw [shl8_add, List.take_add_one, HX.out, Option.toList_some, bv_snoc, ← HA.out]
      · have hjk : j = k := by omega
        subst hjk
        clear hlt
        go_wp2
        go_ret
        refine ⟨?_, HR.out⟩
        show Ending.returned (.int .u64 _) = _
        rw [List.take_take, Nat.min_self]

set_option maxHeartbeats 800000 in
theorem su_no (B : Nat) (w : World) (b : Nat) (v : Value) (l : List Int) (lk : Bool) (n : Int) (hn : lk = true ∨ n < 0 ∨ (l.length : Int) < n) (h : Rd 148 B w b v l lk) :
    Calls Tryz.prog 119 #[.pointer (some ⟨b, 0, none⟩), .int .i64 n] w fun e w' => e = .returned (.int .u64 0) ∧ Rdd 148 B w b v [] true w' := by
  have HH := Lib.hid h
  have HN := Lib.hid hn
  clear h hn
  go_enter Tryz.func119, Tryz.ntmps119
  go_wp2_with (go_at_call 110; refine (sraw_no _ _ _ _ _ _ _ HN.out HH.out).mono ?_; rintro e w' ⟨rfl, R⟩; have HR := Lib.hid R; clear R)
  refine wp_loop_rounds 1 ?_; rw [rounds_succ]; go_wp2
  go_ret
  exact ⟨rfl, HR.out⟩

theorem su8_yes (B : Nat) (w : World) (b : Nat) (v : Value) (l : List Int) (hkl : 1 ≤ l.length) (h : Rd 148 B w b v l false) :
    Calls Tryz.prog 108 #[.pointer (some ⟨b, 0, none⟩)] w fun e w' => e = .returned (.int .i64 (IntKind.i64.wrap (bv (l.take 1)))) ∧ Rdd 148 B w b v (l.drop 1) false w' := by
  have HH := Lib.hid h
  clear h
  have HK := Lib.hid hkl
  clear hkl
  go_enter Tryz.func108, Tryz.ntmps108
  go_wp2_with (go_at_call 119; refine (su_yes _ _ _ _ _ _ 1 rfl HK.out (by decide) HH.out).mono ?_; rintro e w' ⟨rfl, R⟩; have HR := Lib.hid R; clear R)
  go_ret
  refine ⟨?_, HR.out⟩
  show Ending.returned (.int .i64 (wrap64 _)) = _
  rw [wrap64_u64, wrap64_eq]
theorem su8_no (B : Nat) (w : World) (b : Nat) (v : Value) (l : List Int) (lk : Bool) (hkl : lk = true ∨ l.length < 1) (h : Rd 148 B w b v l lk) :
    Calls Tryz.prog 108 #[.pointer (some ⟨b, 0, none⟩)] w fun e w' => e = .returned (.int .i64 0) ∧ Rdd 148 B w b v [] true w' := by
  have HH := Lib.hid h
  clear h
  have HK := Lib.hid hkl
  clear hkl
  go_enter Tryz.func108, Tryz.ntmps108
  go_wp2_with (go_at_call 119; refine (su_no _ _ _ _ _ _ _ (by rcases HK.out with h | h; exact .inl h; exact .inr (.inr (by omega))) HH.out).mono ?_; rintro e w' ⟨rfl, R⟩; have HR := Lib.hid R; clear R)
  go_ret
  exact ⟨rfl, HR.out⟩

theorem su32_yes (B : Nat) (w : World) (b : Nat) (v : Value) (l : List Int) (hkl : 4 ≤ l.length) (h : Rd 148 B w b v l false) :
    Calls Tryz.prog 109 #[.pointer (some ⟨b, 0, none⟩)] w fun e w' => e = .returned (.int .i64 (IntKind.i64.wrap (bv (l.take 4)))) ∧ Rdd 148 B w b v (l.drop 4) false w' := by
  have HH := Lib.hid h
  clear h
  have HK := Lib.hid hkl
  clear hkl
  go_enter Tryz.func109, Tryz.ntmps109
  go_wp2_with (go_at_call 119; refine (su_yes _ _ _ _ _ _ 4 rfl HK.out (by decide) HH.out).mono ?_; rintro e w' ⟨rfl, R⟩; have HR := Lib.hid R; clear R)
  go_ret
  refine ⟨?_, HR.out⟩
  show Ending.returned (.int .i64 (wrap64 _)) = _
  rw [wrap64_u64, wrap64_eq]
theorem su32_no (B : Nat) (w : World) (b : Nat) (v : Value) (l : List Int) (lk : Bool) (hkl : lk = true ∨ l.length < 4) (h : Rd 148 B w b v l lk) :
    Calls Tryz.prog 109 #[.pointer (some ⟨b, 0, none⟩)] w fun e w' => e = .returned (.int .i64 0) ∧ Rdd 148 B w b v [] true w' := by
  have HH := Lib.hid h
  clear h
  have HK := Lib.hid hkl
  clear hkl
  go_enter Tryz.func109, Tryz.ntmps109
  go_wp2_with (go_at_call 119; refine (su_no _ _ _ _ _ _ _ (by rcases HK.out with h | h; exact .inl h; exact .inr (.inr (by omega))) HH.out).mono ?_; rintro e w' ⟨rfl, R⟩; have HR := Lib.hid R; clear R)
  go_ret
  exact ⟨rfl, HR.out⟩

end Go.Proofs.YtfneadlknieppaaGreatDoor
namespace Go.Proofs.YtfneadlknieppaaGreatDoor
open Go.RowKit

theorem or_step_u (a x : Int) (i : Nat) (hi : i ≤ 9) (h0 : 0 ≤ a) (h1 : a < 2 ^ (7 * i)) : bits .or .u64 a (IntKind.u64.wrap (x % 128 * 2 ^ (7 * i))) = IntKind.u64.wrap (a + x % 128 * 2 ^ (7 * i)) := by
  rw [or_u64' _ a (7 * i) (by omega) (Int.mul_emod_left _ _) h0 h1, Int.add_comm]
theorem step_bd_u (a x : Int) (i : Nat) (hi : i ≤ 8) (h0 : 0 ≤ a) (h1 : a < 2 ^ (7 * i)) (hx : 128 ≤ x) (hx1 : x < 256) :
    0 ≤ a + (x - 128) * 2 ^ (7 * i) ∧ a + (x - 128) * 2 ^ (7 * i) < 2 ^ (7 * (i + 1)) ∧ bits .or .u64 a (IntKind.u64.wrap (x % 128 * 2 ^ (7 * i))) = a + (x - 128) * 2 ^ (7 * i) := by
  obtain ⟨s1, s2, _⟩ := step_bd a x i hi h0 h1 hx hx1
  obtain ⟨p1, p2, p3⟩ := pow7 i hi
  refine ⟨s1, s2, ?_⟩
  rw [or_step_u a x i (by omega) h0 h1, show x % 128 = x - 128 from by omega, u64_mod]
  exact Int.emod_eq_of_lt s1 (by omega)

theorem u64_small (x : Int) (h0 : 0 ≤ x) (h1 : x < 256) : IntKind.u64.wrap x = x := by rw [u64_mod]; omega

/-- One byte of Raw(1). -/
theorem sraw_one (B : Nat) (w : World) (b : Nat) (v : Value) (x : Int) (l : List Int) (h : Rd 148 B w b v (x :: l) false) :
    Calls Tryz.prog 110 #[.pointer (some ⟨b, 0, none⟩), .int .i64 1] w fun e w' => ∃ g o cap v', e = .returned (.slice (some ⟨g, o, none⟩) 1 cap) ∧ w'.cell? ⟨g, o, none⟩ = some (.int .u8 x) ∧ Rd 148 B w' b v' l false ∧ Only (fun k => k = b) w w' ∧ (∀ k, v'.ownBlock = some k → v.ownBlock = some k) := by
  refine (sraw_yes B w b v (x :: l) 1 1 rfl (by simp) h).mono ?_
  rintro e w' ⟨u, rfl, hs, _, v', hr, ho, hv⟩
  rcases hs with ⟨_, h0⟩ | ⟨g, o, cap, rfl, hc, hu⟩
  · simp at h0
  · exact ⟨g, o, cap, v', rfl, hu 0 (.int .u8 x) rfl, hr, ho, hv⟩

set_option maxHeartbeats 3200000 in
theorem svar_any (B : Nat) (w : World) (b : Nat) (v : Value) (l : List Int) (lk : Bool) (h : Rd 148 B w b v l lk) :
    Calls Tryz.prog 85 #[.pointer (some ⟨b, 0, none⟩)] w fun e w' => VarPost 148 B w b v lk (rv 10 0 0 l) e w' := by
  go_enter Tryz.func85, Tryz.ntmps85
  go_wp2
  go_loopw [3, 4] (fun t3 t4 wr => ∃ (i : Nat) (a : Int) (li : List Int), i ≤ 9 ∧ t4 = .int .i64 i ∧ t3 = .int .u64 a ∧ 0 ≤ a ∧ Hid (a < 2 ^ (7 * i)) ∧ Hid (rv (10 - i) i a li = rv 10 0 0 l) ∧ Rdd 148 B w b v li lk wr) (fun _ t4 _ => 10 - (intOf t4).toNat)
  case atStart => exact ⟨0, 0, l, by omega, rfl, rfl, by omega, Lib.hid (by decide), Lib.hid rfl, Rdd.refl h⟩
  case round =>
    obtain ⟨i, a, li, hi, rfl, rfl, ha0, HA, HV, v1, hr1, ho1, hv1⟩ := hrel
    have HR1 := Lib.hid hr1
    have HO1 := Lib.hid ho1
    have HV1 := Lib.hid hv1
    clear hr1 ho1 hv1 h
    have hs0 : (0 : Int) ≤ 7 * (i : Int) := by omega
    have hs1 : 7 * (i : Int) ≤ 64 := by omega
    obtain ⟨f, hf⟩ : ∃ f, 10 - i = f + 1 := ⟨9 - i, by omega⟩
    rw [hf] at HV
    have HF := Lib.hid hf
    clear hf
    have hi10 : i < 10 := by omega
    cases li with
    | nil =>
      have HV2 : Hid (rv 10 0 0 l = none) := Lib.hid (by rw [← HV.out, rv])
      go_wp2_with (go_at_call 110; refine (sraw_no _ _ _ _ _ _ _ (.inr (.inr (by decide))) HR1.out).mono ?_; rintro e w' ⟨rfl, R⟩; obtain ⟨v2, hr2, ho2, hv2⟩ := R; have c1 := hr2.c1; have HR2 := Lib.hid hr2; have HR := Lib.hid ho2; have HV3 := Lib.hid hv2; clear hr2 ho2 hv2)
      go_ret
      exact VarPost.no HV2.out rfl (Rdd.trans HO1.out HV1.out ⟨_, HR2.out, HR.out, HV3.out⟩)
    | cons x li =>
      obtain ⟨hx0, hx1⟩ := HR1.out.ok x (List.mem_cons_self ..)
      have hlk : lk = false := by
        cases lk with
        | false => rfl
        | true => have := HR1.out.lacks rfl; cases this
      subst hlk
      have h127 : bits .and .u8 x 127 = x % 128 := u8_and127 x hx0 hx1
      by_cases hbad : (0 < i ∧ x = 0) ∨ (i = 9 ∧ 1 < x)
      · have HV2 : Hid (rv 10 0 0 l = none) := Lib.hid (by rw [← HV.out, rv, if_pos hbad])
        clear h127
        rcases hbad with ⟨h0i, rfl⟩ | ⟨rfl, h1x⟩
        all_goals
          go_wp2_with fail
          refine (sraw_one _ _ _ _ _ _ HR1.out).mono ?_
          rintro e w' ⟨g, o, cap, v2, rfl, hcell, hr2, ho2, hv2⟩
          have c1 := hr2.c1
          have HR2 := Lib.hid hr2
          have HR := Lib.hid ho2
          have HV3 := Lib.hid hv2
          clear hr2 ho2 hv2
          go_wp2_with (go_at_call 110; refine (sraw_no _ _ _ _ _ _ _ (.inr (.inl (by decide))) HR2.out).mono ?_; rintro e w'' ⟨rfl, R⟩; have HR4 := Lib.hid R; clear R)
        all_goals
          go_ret
          exact VarPost.no HV2.out rfl (Rdd.trans HO1.out HV1.out (Rdd.trans HR.out HV3.out HR4.out))
      · by_cases hlt : x < 128
        · have HV2 : Hid (rv 10 0 0 l = some (a + x * 2 ^ (7 * i), li)) := Lib.hid (by rw [← HV.out, rv, if_neg hbad, if_pos hlt])
          have HE : Hid (bits .or .u64 a (IntKind.u64.wrap (x % 128 * 2 ^ (7 * i))) = IntKind.u64.wrap (a + x * 2 ^ (7 * i))) := Lib.hid (by rw [or_step_u a x i hi ha0 HA.out, show x % 128 = x from by omega])
          rcases (show i = 0 ∨ i = 9 ∨ (0 < i ∧ i < 9) from by omega) with rfl | rfl | ⟨hi0, hi9⟩
          case' inl => clear hbad
          case' inr.inl =>
            obtain rfl : x = 1 := by omega
            clear hbad
          case' inr.inr =>
            have hx2 : 1 ≤ x := by omega
            have hi9' : ¬ (i : Int) = 9 := by omega
            clear hbad
          all_goals
            go_wp2_with fail
            refine (sraw_one _ _ _ _ _ _ HR1.out).mono ?_
            rintro e w' ⟨g, o, cap, v2, rfl, hcell, hr2, ho2, hv2⟩
            have c1 := hr2.c1
            have HR2 := Lib.hid hr2
            have HR := Lib.hid ho2
            have HV3 := Lib.hid hv2
            clear hr2 ho2 hv2
            go_wp2_with fail
          all_goals go_ret
          · exact VarPost.yes HV2.out (by rw [HE.out, wrap64_u64]) (Rdd.trans HO1.out HV1.out ⟨_, HR2.out, HR.out, HV3.out⟩)
          · exact VarPost.yes HV2.out (by have e := HE.out; rw [show IntKind.u64.wrap (1 % 128 * 2 ^ (7 * 9)) = 9223372036854775808 from by decide] at e; rw [e, wrap64_u64]) (Rdd.trans HO1.out HV1.out ⟨_, HR2.out, HR.out, HV3.out⟩)
          · exact VarPost.yes HV2.out (by have e := HE.out; simp only [Nat.mul_zero, Int.pow_zero, Int.mul_one] at e ⊢; rw [u64_small (x % 128) (by omega) (by omega)] at e; rw [e, wrap64_u64]) (Rdd.trans HO1.out HV1.out ⟨_, HR2.out, HR.out, HV3.out⟩)
        · have hi8 : i ≤ 8 := by omega
          obtain ⟨s1, s2, s3⟩ := step_bd_u a x i hi8 ha0 HA.out (by omega) hx1
          have HS2 := Lib.hid s2
          have HE := Lib.hid s3
          have HS1 := Lib.hid s1
          have HV2 : Hid (rv f (i + 1) (a + (x - 128) * 2 ^ (7 * i)) li = rv 10 0 0 l) := Lib.hid (by rw [← HV.out, rv, if_neg hbad, if_neg hlt])
          have hi9' : ¬ (i : Int) = 9 := by omega
          clear hbad s1 s2 s3
          by_cases hi0 : i = 0
          case' pos => subst hi0
          case' neg => have hi1 : 0 < i := by omega
          all_goals
            go_wp2_with fail
            refine (sraw_one _ _ _ _ _ _ HR1.out).mono ?_
            rintro e w' ⟨g, o, cap, v2, rfl, hcell, hr2, ho2, hv2⟩
            have c1 := hr2.c1
            have HR2 := Lib.hid hr2
            have HR := Lib.hid ho2
            have HV3 := Lib.hid hv2
            clear hr2 ho2 hv2
            go_wp2_with fail
          · refine ⟨⟨i + 1, _, li, by omega, by go_num, by rw [HE.out], HS1.out, HS2, ?_, Rdd.trans HO1.out HV1.out ⟨_, HR2.out, HR.out, HV3.out⟩⟩, by simp [intOf]; omega⟩
            refine Lib.hid ?_
            rw [show 10 - (i + 1) = f from by have := HF.out; omega]
            exact HV2.out
          · refine ⟨⟨1, a + (x - 128), li, by omega, rfl, ?_, by have := HS1.out; simpa using this, Lib.hid (by have := HS2.out; simpa using this), ?_, Rdd.trans HO1.out HV1.out ⟨_, HR2.out, HR.out, HV3.out⟩⟩, by simp [intOf]⟩
            · have e := HE.out
              simp only [Nat.mul_zero, Int.pow_zero, Int.mul_one] at e
              rw [u64_small (x % 128) (by omega) (by omega)] at e
              rw [e]
            · refine Lib.hid ?_
              have := HV2.out
              rw [show 10 - 1 = f from by have := HF.out; omega]
              simpa using this
end Go.Proofs.YtfneadlknieppaaGreatDoor
