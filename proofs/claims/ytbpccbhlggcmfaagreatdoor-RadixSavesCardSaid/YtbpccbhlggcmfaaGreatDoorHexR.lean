/- The reference's Digit, IsPrefix, Text, Begins, Less. No condition but on a text's length. -/
import Derived.Test.YtbpccbhlggcmfaaGreatDoorHexE
import Derived.Test.YtbpccbhlggcmfaaGreatDoorHexP
import Derived.Laws.Concat
namespace Go.Proofs.YtbpccbhlggcmfaaGreatDoor
open Go.RowKit

theorem rdigit_any (w : World) (x : Int) (h0 : 0 ≤ x) (h1 : x < 256) : Calls Tryz.prog 80 #[.int .u8 x] w fun e w' => e = .returned (.int .i64 (udi x)) ∧ w = w' := by
  rcases (show 48 ≤ x ∧ x ≤ 57 ∨ 97 ≤ x ∧ x ≤ 102 ∨ x < 48 ∨ 57 < x ∧ x < 97 ∨ 102 < x from by omega) with h | h | h | ⟨h, h'⟩ | h
  · rw [udi_num h]
    obtain ⟨h, h'⟩ := h
    go_enter Tryz.func80, Tryz.ntmps80
    go_wp2
    go_ret
    exact ⟨rfl, rfl⟩
  · rw [udi_let h]
    obtain ⟨h, h'⟩ := h
    go_enter Tryz.func80, Tryz.ntmps80
    go_wp2
    go_ret
    exact ⟨ret_i64 (by omega), rfl⟩
  all_goals
    rw [udi_no (by omega)]
    go_enter Tryz.func80, Tryz.ntmps80
    go_wp2
    go_ret
    exact ⟨rfl, rfl⟩

set_option maxHeartbeats 1000000 in
theorem rpre_any (w : World) (s : ByteArray) (hs : s.size ≤ 9223372036854775807) : Calls Tryz.prog 48 #[.string s] w fun e w' => e = .returned (.bool (pre s.data.toList)) ∧ w = w' := by
  generalize hp : pre s.data.toList = p
  have HP := Lib.hid hp
  clear hp
  go_enter Tryz.func48, Tryz.ntmps48
  go_wp2
  go_loop [3] (fun i => ∃ k : Nat, k ≤ s.size ∧ i = .int .i64 k ∧ Hid (digs (s.data.toList.take k) = true)) (fun i => s.size - (intOf i).toNat)
  case atStart => exact ⟨0, Nat.zero_le _, rfl, Lib.hid rfl⟩
  case round =>
    obtain ⟨k, hk, rfl, HD⟩ := hrel
    by_cases hlt : k < s.size
    · have hr := s[k].toNat_lt
      have HS := Lib.hid (digs_snoc hlt)
      have HU := Lib.hid (udi_und s[k])
      by_cases hd : udi (s[k].toNat : Int) < 0
      · go_wp2_with (go_at_call 80; refine (rdigit_any _ _ (by omega) (by omega)).mono ?_; rintro e w' ⟨rfl, rfl⟩)
        go_ret
        refine ⟨ret_bool ?_, rfl⟩
        rw [← HP.out, pre_no (digs_cut (k := k + 1) (by rw [HS.out, decide_eq_false (by rw [← HU.out]; omega)]; simp))]
      · go_wp2_with (go_at_call 80; refine (rdigit_any _ _ (by omega) (by omega)).mono ?_; rintro e w' ⟨rfl, rfl⟩)
        go_round
        case rel => exact ⟨k + 1, by omega, by go_num, Lib.hid (by rw [HS.out, HD.out, decide_eq_true (by rw [← HU.out]; omega)]; rfl)⟩
        case measure => simp [intOf]; omega
    · have hd := HD.out
      rw [List.take_of_length_le (by show s.size ≤ k; omega)] at hd
      have HDD := Lib.hid hd
      clear hd
      by_cases h1 : s.size < 1
      · go_wp2
        go_ret
        exact ⟨ret_bool (by rw [← HP.out, pre_lo h1]), rfl⟩
      · by_cases h2 : 64 < s.size
        · have hdc : decide ((s.size : Int) ≤ 64) = false := decide_eq_false (by omega)
          go_wp2
          go_ret
          exact ⟨ret_bool (by rw [← HP.out, pre_hi h2]), rfl⟩
        · have hdc : decide ((s.size : Int) ≤ 64) = true := decide_eq_true (by omega)
          go_wp2
          go_ret
          exact ⟨ret_bool (by rw [← HP.out, pre_yes (by omega) (by omega) HDD.out]), rfl⟩

theorem below_drn {n m : Nat} {w w' : World} (h : Below n w w') : Below n w (w'.drewN m) := ⟨h.os, h.tape, h.output, h.size, h.block⟩
/-- The sixteen digits. -/
def dtab : ByteArray := ⟨#[48, 49, 50, 51, 52, 53, 54, 55, 56, 57, 97, 98, 99, 100, 101, 102]⟩
theorem dtab_at : ∀ n, n < 16 → dtab.extract n (n + 1) = ⟨#[dg n]⟩ := by decide
theorem dtab_slice (i j : Int) (h0 : 0 ≤ i) (h1 : i < 16) (hj : j = i + 1) (w : World) : (Instr.slice 9 (.string dtab) (some (.int .u8 i)) (some (.int .u8 j)) none).run Tryz.prog w = .ok (.string ⟨#[dg i.toNat]⟩) w := by
  subst hj
  have hs : dtab.size = 16 := rfl
  rw [run_slice_string_if w 9 dtab .u8 .u8 i (i + 1) Tryz.underlying9, if_pos (by rw [hs]; omega), if_pos (by omega)]
  have e : (i + 1).toNat = i.toNat + 1 := by omega
  rw [e, dtab_at i.toNat (by omega)]
theorem app_str (a : List UInt8) (c : UInt8) (ha : a.length ≤ 64) (w : World) : (Op.stringOp .add ⟨a.toArray⟩ ⟨#[c]⟩).run Tryz.prog w = .ok (.string ⟨(a ++ [c]).toArray⟩) w :=
  run_string_add_lists w a [c] (by omega) (by simp)

set_option maxRecDepth 20000 in
set_option maxHeartbeats 2000000 in
theorem rtext_to (w : World) (h : List UInt8) (hl : h.length = 32) : Calls Tryz.prog 46 #[.agg (hv h)] w fun e w' => e = .returned (.string ⟨(tx h).toArray⟩) ∧ Below w.heap.size w w' := by
  have bel := (Below.refl w.heap.size w).alloc (Nat.le_refl _) (.cells (hv h) 36)
  have hrow := heap_alloc_last w (.cells (hv h) 36)
  have HROW := Lib.hid hrow
  have BEL := Lib.hid bel
  have HL := Lib.hid hl
  clear bel hl hrow
  go_enter Tryz.func46, Tryz.ntmps46
  go_wp2
  generalize w.alloc (.cells (hv h) 36) = w0 at *
  go_loopw [3, 5] (fun v i wr => ∃ (k : Nat), k ≤ 32 ∧ i = .int .i64 k ∧ v = .string ⟨(tx (h.take k)).toArray⟩ ∧ ∃ n, wr = w0.drewN n) (fun _ i _ => 32 - (intOf i).toNat)
  case atStart => exact ⟨0, by omega, rfl, rfl, 0, rfl⟩
  case round =>
    obtain ⟨k, hk, rfl, rfl, n, rfl⟩ := hrel
    by_cases hlt : k < 32
    · have hkl : k < h.length := by rw [HL.out]; exact hlt
      have hlen : (tx (h.take k)).length = 2 * k := by rw [tx_length, List.length_take, HL.out]; omega
      have ha1 := fun w => app_str (tx (h.take k)) (dg (h[k].toNat / 16)) (by omega) w
      have ha2 := fun w => app_str (tx (h.take k) ++ [dg (h[k].toNat / 16)]) (dg (h[k].toNat % 16)) (by rw [List.length_append]; simp; omega) w
      have HST := Lib.hid (tx_snoc hkl)
      obtain ⟨X, hX⟩ : ∃ X, X = (h[k].toNat : Int) := ⟨_, rfl⟩
      have hc : w0.cell? ⟨w.heap.size, k, none⟩ = some (.int .u8 X) := by
        rw [hX, cell_of_row w0 w.heap.size k (hv h) _ (0, 0) HROW.out]
        exact hv_get hkl
      have hxr := u8_range h[k]
      have hs1 := fun w => dtab_slice (X / 16) (X / 16 + 1) (by omega) (by omega) rfl w
      have hs2 := fun w => dtab_slice (X % 16) (X % 16 + 1) (by omega) (by omega) rfl w
      rw [show (X / 16).toNat = h[k].toNat / 16 from by omega] at hs1
      rw [show (X % 16).toNat = h[k].toNat % 16 from by omega] at hs2
      unfold dtab at hs1 hs2
      rw [← hX] at hxr
      obtain ⟨x0, x1⟩ := hxr
      have q1 : X.tdiv 16 = X / 16 := Int.tdiv_eq_ediv_of_nonneg x0
      have q2 : X.tmod 16 = X % 16 := Int.tmod_eq_emod_of_nonneg x0
      have q3 : IntKind.u8.wrap (X / 16 + 1) = X / 16 + 1 := wraps_u8 _ (by omega) (by omega)
      have q4 : IntKind.u8.wrap (X % 16 + 1) = X % 16 + 1 := wraps_u8 _ (by omega) (by omega)
      have hk32 : (k : Int) < 32 := by omega
      generalize tx (h.take k) = T at *
      generalize dg (h[k].toNat / 16) = a at *
      generalize dg (h[k].toNat % 16) = b at *
      clear hX hlen
      go_wp2_with fail
      go_quiet (fail)
      go_wp2
      refine ⟨⟨k + 1, by omega, by go_num, ?_, _, rfl⟩, by simp [intOf]; omega⟩
      rw [HST.out]
    · obtain rfl : k = 32 := by omega
      have hk32 : ¬ ((32 : Nat) : Int) < 32 := by omega
      have e : h.take 32 = h := List.take_of_length_le (by rw [HL.out]; exact Nat.le_refl _)
      rw [e]
      clear e
      go_wp2_with fail
      go_ret
      exact ⟨rfl, below_drn BEL.out⟩

attribute [local go_sem ↓] hld_open
theorem begins_long {s p : List UInt8} (hs : s.length = 64) (h : ¬ p.length ≤ 64) : p.isPrefixOf s = false := pre_long (by omega)
theorem rbegins_to (w : World) (h p : List UInt8) (hl : h.length = 32) : Calls Tryz.prog 47 #[.agg (hv h), .string ⟨p.toArray⟩] w fun e w' => e = .returned (.bool (p.isPrefixOf (tx h))) ∧ Below w.heap.size w w' := by
  have hld := hld_row hl (heap_alloc_last w (.cells (hv h) 36))
  have BEL := Lib.hid ((Below.refl w.heap.size w).alloc (Nat.le_refl _) (.cells (hv h) 36))
  have HT := Lib.hid (rtext_to (w.alloc (.cells (hv h) 36)) h hl)
  have h64 : (tx h).length = 64 := by rw [tx_length, hl]
  have hs : (⟨(tx h).toArray⟩ : ByteArray).size = 64 := h64
  have hp : (⟨p.toArray⟩ : ByteArray).size = p.length := rfl
  clear hl
  by_cases hle : p.length ≤ 64
  · have hdc : decide ((p.length : Int) ≤ 64) = true := decide_eq_true (by omega)
    have hr : (((⟨(tx h).toArray⟩ : ByteArray).extract 0 p.length).toList == p) = p.isPrefixOf (tx h) := by rw [extract_list, begins_pre]
    have HRR := Lib.hid hr
    clear hr h64
    go_enter Tryz.func47, Tryz.ntmps47
    go_wp2_with (go_at_call 46; refine HT.out.mono ?_; rintro e w1 ⟨rfl, b1⟩; have B1 := Lib.hid b1; clear b1)
    go_ret
    exact ⟨ret_bool (by rw [← HRR.out]), BEL.out.trans (B1.out.mono BEL.out.size)⟩
  · have hdc : decide ((p.length : Int) ≤ 64) = false := decide_eq_false (by omega)
    rw [begins_long h64 hle]
    clear h64
    go_enter Tryz.func47, Tryz.ntmps47
    go_wp2_with (go_at_call 46; refine HT.out.mono ?_; rintro e w1 ⟨rfl, b1⟩; have B1 := Lib.hid b1; clear b1)
    go_ret
    exact ⟨rfl, BEL.out.trans (B1.out.mono BEL.out.size)⟩

theorem less_at : ∀ {a b : List UInt8} {k : Nat} (ha : k < a.length) (hb : k < b.length), a.take k = b.take k → a[k] ≠ b[k] → Op.bytesLess a b = decide (a[k] < b[k])
  | x :: a, y :: b, 0, _, _, _, hn => by
    have hn' : x ≠ y := hn
    simp [Op.bytesLess, hn']
  | x :: a, y :: b, k + 1, ha, hb, ht, hn => by
    simp only [List.take_succ_cons, List.cons.injEq] at ht
    obtain ⟨rfl, ht⟩ := ht
    have ih := less_at (a := a) (b := b) (k := k) (by simpa using ha) (by simpa using hb) ht hn
    simp only [Op.bytesLess, UInt8.lt_irrefl, decide_false, Bool.false_or, beq_self_eq_true, Bool.true_and, ih, List.getElem_cons_succ]
  | [], _, _, ha, _, _, _ => by simp at ha
  | _ :: _, [], _, _, hb, _, _ => by simp at hb
theorem u8_ne {x y : UInt8} (h : ¬ (x.toNat : Int) = y.toNat) : x ≠ y := fun e => h (by rw [e])
theorem u8_eq {x y : UInt8} (h : (x.toNat : Int) = y.toNat) : x = y := UInt8.toNat_inj.1 (by omega)
theorem u8_ltd (x y : UInt8) : decide (x < y) = decide ((x.toNat : Int) < y.toNat) := by rw [Bool.eq_iff_iff]; simp [UInt8.lt_iff_toNat_lt]
theorem take_more {a b : List UInt8} {k : Nat} (ha : k < a.length) (hb : k < b.length) (h : a.take k = b.take k) (he : a[k] = b[k]) : a.take (k + 1) = b.take (k + 1) := by
  rw [List.take_succ_eq_append_getElem ha, List.take_succ_eq_append_getElem hb, h, he]

set_option maxRecDepth 20000 in
set_option maxHeartbeats 2000000 in
theorem rless_to (w : World) (a b : List UInt8) (ha : a.length = 32) (hb : b.length = 32) : Calls Tryz.prog 100 #[.agg (hv a), .agg (hv b)] w fun e w' => e = .returned (.bool (Op.bytesLess a b)) ∧ Below w.heap.size w w' := by
  have BA := Lib.hid (((Below.refl w.heap.size w).alloc (Nat.le_refl _) (.cells (hv a) 36)).alloc (by simp) (.cells (hv b) 36))
  have h1 : ((w.alloc (.cells (hv a) 36)).alloc (.cells (hv b) 36)).heap[w.heap.size]? = some (.cells (hv a) 36 (0, 0)) := (Below.heap_alloc _ _ _ (by simp)).trans (heap_alloc_last w _)
  have h2 := heap_alloc_last (w.alloc (.cells (hv a) 36)) (.cells (hv b) 36)
  rw [show (w.alloc (.cells (hv a) 36)).heap.size = w.heap.size + 1 from by simp] at h2
  have H1 := Lib.hid h1
  have H2 := Lib.hid h2
  have HA := Lib.hid ha
  have HB := Lib.hid hb
  generalize hr : Op.bytesLess a b = r
  have HR := Lib.hid hr
  clear ha hb h1 h2 hr
  go_enter Tryz.func100, Tryz.ntmps100
  go_wp2
  generalize (w.alloc (.cells (hv a) 36)).alloc (.cells (hv b) 36) = w0 at *
  go_loopw [5] (fun i wr => ∃ (k : Nat), k ≤ 32 ∧ i = .int .i64 k ∧ Hid (a.take k = b.take k) ∧ ∃ n, wr = w0.drewN n) (fun i _ => 32 - (intOf i).toNat)
  case atStart => exact ⟨0, by omega, rfl, Lib.hid rfl, 0, rfl⟩
  case round =>
    obtain ⟨k, hk, rfl, HT, n, rfl⟩ := hrel
    by_cases hlt : k < 32
    · have hka : k < a.length := by rw [HA.out]; exact hlt
      have hkb : k < b.length := by rw [HB.out]; exact hlt
      have hc1 : w0.cell? ⟨w.heap.size, k, none⟩ = some (.int .u8 (a[k].toNat : Int)) := by
        rw [cell_of_row w0 w.heap.size k (hv a) _ (0, 0) H1.out]
        exact hv_get hka
      have hc2 : w0.cell? ⟨w.heap.size + 1, k, none⟩ = some (.int .u8 (b[k].toNat : Int)) := by
        rw [cell_of_row w0 (w.heap.size + 1) k (hv b) _ (0, 0) H2.out]
        exact hv_get hkb
      have hk32 : (k : Int) < 32 := by omega
      by_cases hab : (a[k].toNat : Int) = b[k].toNat
      · have HN := Lib.hid (take_more hka hkb HT.out (u8_eq hab))
        rw [← hab] at hc2
        clear hab
        go_wp2_with fail
        go_quiet (fail)
        go_wp2
        refine ⟨⟨k + 1, by omega, by go_num, HN, _, rfl⟩, by simp [intOf]; omega⟩
      · have hr := less_at hka hkb HT.out (u8_ne hab)
        rw [HR.out, u8_ltd] at hr
        generalize (a[k].toNat : Int) = x at *
        generalize (b[k].toNat : Int) = y at *
        have HX := Lib.hid hr
        clear hr
        have hbe : (x == y) = false := by simpa using hab
        go_wp2_with fail
        go_quiet (fail)
        go_wp2_with fail
        go_quiet (fail)
        go_wp2
        go_ret
        exact ⟨ret_bool (by rw [HX.out]), below_drn (below_drn (below_drn BA.out))⟩
    · obtain rfl : k = 32 := by omega
      have hk32 : ¬ ((32 : Nat) : Int) < 32 := by omega
      have hab : a = b := by
        have := HT.out
        rwa [List.take_of_length_le (by rw [HA.out]; exact Nat.le_refl _), List.take_of_length_le (by rw [HB.out]; exact Nat.le_refl _)] at this
      have HX : Hid (r = false) := Lib.hid (by rw [← HR.out, hab]; exact less_irrefl b)
      clear hab
      go_wp2_with fail
      go_ret
      exact ⟨ret_bool (by rw [HX.out]), below_drn BA.out⟩
end Go.Proofs.YtbpccbhlggcmfaaGreatDoor
