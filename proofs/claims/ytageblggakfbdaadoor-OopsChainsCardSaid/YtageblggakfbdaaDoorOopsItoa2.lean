/- strconv.Itoa of a number below a thousand as a whole: some text that is not empty. Condition: the table's cells are there. -/
import Derived.Test.YtageblggakfbdaaDoorOopsItoa
import Derived.Lib.ConvBytes
namespace Go.Proofs.YtageblggakfbdaaDoor
open Go.RowKit

theorem ext_pos (b : ByteArray) (i j : Nat) (h : i < j) (h2 : j ≤ i + 40) (hj : j ≤ b.size) : 0 < (b.extract i j).size ∧ (b.extract i j).size ≤ 40 := by
  rw [ByteArray.size_extract]; omega

set_option maxRecDepth 20000 in
set_option maxHeartbeats 1000000 in
theorem small_any (w : World) (n : Int) (h0 : 0 ≤ n) (h1 : n < 100) : Calls Tryd.prog 76 #[.int .i64 n] w fun e w' => (∃ t : ByteArray, e = .returned (.string t) ∧ 0 < t.size ∧ t.size ≤ 40) ∧ w = w' := by
  by_cases h : n < 10
  · go_enter Tryd.func76, Tryd.ntmps76
    go_wp2
    go_ret
    exact ⟨⟨_, rfl, ext_pos _ _ _ (by omega) (by omega) (Nat.le_trans (show (n + 1).toNat ≤ 36 from by omega) (by decide))⟩, rfl⟩
  · go_enter Tryd.func76, Tryd.ntmps76
    go_wp2
    go_ret
    exact ⟨⟨_, rfl, ext_pos _ _ _ (by omega) (by omega) (Nat.le_trans (show (n * 2 + 2).toNat ≤ 200 from by omega) (by decide +kernel))⟩, rfl⟩
theorem Tab.kb {w w' : World} (h : Tab w) (hb : Below w.heap.size w w') : Tab w' := fun n hn => by
  obtain ⟨z, hz⟩ := h n hn
  exact ⟨z, by rw [World.cell?_of_block (w := w) (hb.block _ (World.block_lt_of_cell? w _ hz))]; exact hz⟩

theorem strOf_size (l : List Int) : (strOfNums l).size = l.length := by simp [strOfNums, ByteArray.size]

theorem conv24 {w : World} {B nd : Nat} (h : Row24 w B) (hn : nd ≤ 4) (h0 : 0 < nd) : ∃ t : ByteArray, (convert 144 9 (.slice (some ⟨B, 1, none⟩) nd 23)).run Tryd.prog w = .ok (.string t) w ∧ 0 < t.size ∧ t.size ≤ 40 := by
  obtain ⟨cs, hc, hs, hx⟩ := h
  let l : List Int := (List.range nd).map fun j => match (cs[1 + j]? : Option Value) with | some (Value.int _ x) => x | _ => 0
  have hl : l.length = nd := by simp [l]
  refine ⟨strOfNums l, ?_, by rw [strOf_size, hl]; omega⟩
  refine run_convert_bytes_arg w _ _ Tryd.underlying144 Tryd.underlying5 B 1 nd 23 l hl (fun i hi => ?_) _ Tryd.underlying9
  obtain ⟨x, hx1, _⟩ := hx (1 + i) (by omega)
  rw [cell_of_row w B (1 + i) cs _ (0, 0) hc, hx1]
  simp [l, List.getD, hi, hx1]

set_option maxRecDepth 20000 in
set_option maxHeartbeats 4000000 in
theorem fmt_any (w : World) (ht : Tab w) (n : Int) (h0 : 100 ≤ n) (h1 : n ≤ 999) : Calls Tryd.prog 75 #[.int .i64 n, .int .i64 10] w fun e w' => (∃ t : ByteArray, e = .returned (.string t) ∧ 0 < t.size ∧ t.size ≤ 40) ∧ Below w.heap.size w w' := by
  have bel := (Below.refl w.heap.size w).alloc (Nat.le_refl _) (.cells #[.int .u8 0, .int .u8 0, .int .u8 0, .int .u8 0, .int .u8 0, .int .u8 0, .int .u8 0, .int .u8 0, .int .u8 0, .int .u8 0, .int .u8 0, .int .u8 0, .int .u8 0, .int .u8 0, .int .u8 0, .int .u8 0, .int .u8 0, .int .u8 0, .int .u8 0, .int .u8 0, .int .u8 0, .int .u8 0, .int .u8 0, .int .u8 0] 148)
  have hrow : Row24 (w.alloc (.cells #[.int .u8 0, .int .u8 0, .int .u8 0, .int .u8 0, .int .u8 0, .int .u8 0, .int .u8 0, .int .u8 0, .int .u8 0, .int .u8 0, .int .u8 0, .int .u8 0, .int .u8 0, .int .u8 0, .int .u8 0, .int .u8 0, .int .u8 0, .int .u8 0, .int .u8 0, .int .u8 0, .int .u8 0, .int .u8 0, .int .u8 0, .int .u8 0] 148)) w.heap.size := ⟨_, heap_alloc_new w _, rfl, fun j hj => by
    match j, hj with
    | 0, _ => exact ⟨0, rfl, by decide, by decide⟩
    | 1, _ => exact ⟨0, rfl, by decide, by decide⟩
    | 2, _ => exact ⟨0, rfl, by decide, by decide⟩
    | 3, _ => exact ⟨0, rfl, by decide, by decide⟩
    | 4, _ => exact ⟨0, rfl, by decide, by decide⟩
    | 5, _ => exact ⟨0, rfl, by decide, by decide⟩
    | 6, _ => exact ⟨0, rfl, by decide, by decide⟩
    | 7, _ => exact ⟨0, rfl, by decide, by decide⟩
    | 8, _ => exact ⟨0, rfl, by decide, by decide⟩
    | 9, _ => exact ⟨0, rfl, by decide, by decide⟩
    | 10, _ => exact ⟨0, rfl, by decide, by decide⟩
    | 11, _ => exact ⟨0, rfl, by decide, by decide⟩
    | 12, _ => exact ⟨0, rfl, by decide, by decide⟩
    | 13, _ => exact ⟨0, rfl, by decide, by decide⟩
    | 14, _ => exact ⟨0, rfl, by decide, by decide⟩
    | 15, _ => exact ⟨0, rfl, by decide, by decide⟩
    | 16, _ => exact ⟨0, rfl, by decide, by decide⟩
    | 17, _ => exact ⟨0, rfl, by decide, by decide⟩
    | 18, _ => exact ⟨0, rfl, by decide, by decide⟩
    | 19, _ => exact ⟨0, rfl, by decide, by decide⟩
    | 20, _ => exact ⟨0, rfl, by decide, by decide⟩
    | 21, _ => exact ⟨0, rfl, by decide, by decide⟩
    | 22, _ => exact ⟨0, rfl, by decide, by decide⟩
    | 23, _ => exact ⟨0, rfl, by decide, by decide⟩
    | j + 24, h => omega⟩
  have HT := Lib.hid (ht.kb bel)
  have HR := Lib.hid hrow
  have HB := Lib.hid bel
  have HD := Lib.hid (digits_any _ (ht.kb bel) n h0 h1)
  clear ht bel hrow
  have n0 : ¬ n < 100 := by omega
  have n1 : ¬ n < 0 := by omega
  have n2 : 0 ≤ n := by omega
  go_enter Tryd.func75, Tryd.ntmps75
  go_wp2_with fail
  refine HD.out.mono ?_
  rintro e _ ⟨⟨m, rfl, m0, m1⟩, rfl⟩
  rcases (show m = 2 ∨ m = 3 ∨ m = 4 from by omega) with rfl | rfl | rfl
  · clear m0 m1
    go_wp2_with fail
    refine (base10_two _ _ _ h0 h1 HR.out).mono ?_
    rintro e w' ⟨rfl, R1, R2⟩
    obtain ⟨t, hc, ht⟩ := conv24 R2 (show 2 ≤ 4 by decide) (by decide)
    have H1 := Lib.hid (HB.out.trans ((R1.below (B := w.heap.size) HB.out.size (fun k hk => by omega))))
    clear R1 R2
    go_wp2
    go_ret
    exact ⟨⟨t, rfl, ht⟩, H1.out⟩
  · clear m0 m1
    go_wp2_with fail
    refine (base10_three _ _ _ h0 h1 HR.out).mono ?_
    rintro e w' ⟨rfl, R1, R2⟩
    obtain ⟨t, hc, ht⟩ := conv24 R2 (show 3 ≤ 4 by decide) (by decide)
    have H1 := Lib.hid (HB.out.trans ((R1.below (B := w.heap.size) HB.out.size (fun k hk => by omega))))
    clear R1 R2
    go_wp2
    go_ret
    exact ⟨⟨t, rfl, ht⟩, H1.out⟩
  · clear m0 m1
    go_wp2_with fail
    refine (base10_four _ _ _ h0 h1 HR.out).mono ?_
    rintro e w' ⟨rfl, R1, R2⟩
    obtain ⟨t, hc, ht⟩ := conv24 R2 (show 4 ≤ 4 by decide) (by decide)
    have H1 := Lib.hid (HB.out.trans ((R1.below (B := w.heap.size) HB.out.size (fun k hk => by omega))))
    clear R1 R2
    go_wp2
    go_ret
    exact ⟨⟨t, rfl, ht⟩, H1.out⟩
theorem fmt_small (w : World) (n : Int) (h0 : 0 ≤ n) (h1 : n < 100) : Calls Tryd.prog 75 #[.int .i64 n, .int .i64 10] w fun e w' => (∃ t : ByteArray, e = .returned (.string t) ∧ 0 < t.size ∧ t.size ≤ 40) ∧ Below w.heap.size w w' := by
  have HS := Lib.hid (small_any w n h0 h1)
  go_enter Tryd.func75, Tryd.ntmps75
  go_wp2_with fail
  refine HS.out.mono ?_
  rintro e _ ⟨⟨t, rfl, ht⟩, rfl⟩
  go_wp2
  go_ret
  exact ⟨⟨t, rfl, ht⟩, Below.refl _ _⟩

/-- Itoa of 0 to 999: some text that is not empty. -/
theorem itoa_any (w : World) (ht : Tab w) (n : Int) (h0 : 0 ≤ n) (h1 : n ≤ 999) : Calls Tryd.prog 73 #[.int .i64 n] w fun e w' => (∃ t : ByteArray, e = .returned (.string t) ∧ 0 < t.size ∧ t.size ≤ 40) ∧ Below w.heap.size w w' := by
  have hF : Calls Tryd.prog 75 #[.int .i64 n, .int .i64 10] w fun e w' => (∃ t : ByteArray, e = .returned (.string t) ∧ 0 < t.size ∧ t.size ≤ 40) ∧ Below w.heap.size w w' := by
    by_cases h : n < 100
    · exact fmt_small w n h0 h
    · exact fmt_any w ht n (by omega) h1
  have HF := Lib.hid hF
  have hI : Calls Tryd.prog 74 #[.int .i64 n] w fun e w' => (∃ t : ByteArray, e = .returned (.string t) ∧ 0 < t.size ∧ t.size ≤ 40) ∧ Below w.heap.size w w' := by
    clear hF ht h0 h1
    go_enter Tryd.func74, Tryd.ntmps74
    go_wp2_with fail
    refine HF.out.mono ?_
    rintro e w1 ⟨⟨t, rfl, ht⟩, R⟩
    have HR := Lib.hid R
    clear R
    go_wp2
    go_ret
    exact ⟨⟨t, rfl, ht⟩, HR.out⟩
  have HI := Lib.hid hI
  clear hI hF HF ht h0 h1
  go_enter Tryd.func73, Tryd.ntmps73
  go_wp2_with fail
  refine HI.out.mono ?_
  rintro e w1 ⟨⟨t, rfl, ht⟩, R⟩
  have HR := Lib.hid R
  clear R
  go_wp2
  go_ret
  exact ⟨⟨t, rfl, ht⟩, HR.out⟩
end Go.Proofs.YtageblggakfbdaaDoor
