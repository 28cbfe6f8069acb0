/- The walk of OctetBack: it returns true, and nothing that was there has turned. -/
import Derived.Test.YtbadkgmlefmmbaaOctKnown
import Derived.Test.YtbadkgmlefmmbaaOctEnc
import Derived.Test.YtbadkgmlefmmbaaOctSteps
import Derived.Deep.RegionHeld3
namespace Go.Proofs.Ytbadkgmlefmmbaa
open Go.RowKit

theorem pick_to (w : World) (n m r : Int) (h : 0 < m) (hm : m ≤ 4611686018427387904) (hr : n % m = r) : Calls Try.prog 18 #[.int .i64 n, .int .i64 m] w fun e w' => e = .returned (.int .i64 r) ∧ w = w' := by
  subst hr
  exact pick_any w n m h hm

section
variable {T B b : Nat} {w : World} {v : Value} {l : List Int} {lk : Bool}
theorem Rd.drew (h : Rd T B w b v l lk) : Rd T B w.drew b v l lk := h.kept (S := fun _ => False) ((Only.refl _ w).drew) (fun h => h) (fun _ _ h => h)
end
/-- A reading call in the midst of a statement whose order is open. -/
def ReadOne (T B : Nat) (w : World) (b : Nat) (l : List Int) (n : Int) (e : Ending) (w' : World) : Prop :=
  e = .returned (.int .i64 n) ∧ ∃ v, Rd T B w' b v l false ∧ Only (fun k => k = b) w w'
theorem ReadOne.of {T B b : Nat} {w w' : World} {v : Value} {l : List Int} {n m : Int} (hm : m = n) (h : Rdd T B w.drew b v l false w') : ReadOne T B w b l n (.returned (.int .i64 m)) w' := by
  subst hm
  obtain ⟨v', hr, ho, _⟩ := h
  exact ⟨rfl, v', hr, ⟨ho.os, ho.tape, ho.output, ho.size, ho.block⟩⟩
theorem read0 (B : Nat) (w : World) (b : Nat) (v : Value) (n : Int) (l : List Int) (h : Rd 51 B w b v (encStep 0 n ++ l) false) :
    Calls Try.prog 17 #[.pointer (some ⟨b, 0, none⟩)] w.drew (ReadOne 51 B w b l (n % 256)) := by
  rw [enc0] at h
  refine (ru8_yes B _ b v _ false (by simp [be_length]) h.drew).mono ?_
  rintro e w' ⟨rfl, R⟩
  rw [List.drop_left' (be_length _ 1)] at R
  exact ReadOne.of (back1 n l) R
theorem read1 (B : Nat) (w : World) (b : Nat) (v : Value) (n : Int) (l : List Int) (h : Rd 51 B w b v (encStep 1 n ++ l) false) :
    Calls Try.prog 30 #[.pointer (some ⟨b, 0, none⟩)] w.drew (ReadOne 51 B w b l (n % 4294967296)) := by
  rw [enc1] at h
  refine (ru32_yes B _ b v _ false (by simp [be_length]) h.drew).mono ?_
  rintro e w' ⟨rfl, R⟩
  rw [List.drop_left' (be_length _ 4)] at R
  exact ReadOne.of (back4 n l) R
theorem read2 (B : Nat) (w : World) (b : Nat) (v : Value) (n : Int) (l : List Int) (hn : -9223372036854775808 ≤ n ∧ n ≤ 9223372036854775807) (h : Rd 51 B w b v (encStep 2 n ++ l) false) :
    Calls Try.prog 11 #[.pointer (some ⟨b, 0, none⟩)] w.drew (ReadOne 51 B w b l n) := by
  rw [enc2] at h
  refine (ru64_yes B _ b v _ false (by simp [be_length]) h.drew).mono ?_
  rintro e w' ⟨rfl, R⟩
  rw [List.drop_left' (be_length _ 8)] at R
  exact ReadOne.of (back8 n l hn) R
theorem read3 (B : Nat) (w : World) (b : Nat) (v : Value) (n : Int) (l : List Int) (hn : -9223372036854775808 ≤ n ∧ n ≤ 9223372036854775807) (h : Rd 51 B w b v (encStep 3 n ++ l) false) :
    Calls Try.prog 12 #[.pointer (some ⟨b, 0, none⟩)] w.drew (ReadOne 51 B w b l n) := by
  rw [enc3] at h
  refine (rvar_any B _ b v _ false h.drew).mono ?_
  rintro e w' hp
  rw [backVar n l] at hp
  obtain ⟨rfl, R⟩ := hp
  exact ReadOne.of (wrap_back n hn) R

set_option maxRecDepth 100000 in
set_option maxHeartbeats 3200000 in
theorem octetBack_walk (ao : Option Addr) (len cap : Nat) (W N : Nat → Int) (w : World) (hlen : len ≤ 9223372036854775807)
    (hst : Hid (∀ i, i < len → (∃ V, StepAt w ao i (W i) (N i) V) ∧ -9223372036854775808 ≤ N i ∧ N i ≤ 9223372036854775807)) :
    Calls Try.prog 6 #[.slice ao len cap] w fun e w' => e = .returned (.bool true) ∧ Below w.heap.size w w' := by
  obtain ⟨k, hk1, hk2, hk3⟩ : ∃ k, k ≤ len ∧ k ≤ 40 ∧ (len ≤ k ∨ 40 ≤ k) := ⟨min len 40, by omega, by omega, by omega⟩
  go_enter Try.func6, Try.ntmps6
  go_wp2_with fail
  refine (newwriter_any _ w.heap.size (Nat.le_refl _)).mono ?_
  rintro e w1 ⟨rfl, x1, bl1, _⟩
  have X1 := Lib.hid x1
  have B1 := Lib.hid bl1
  clear x1 bl1
  go_wp2_with fail
  refine (known_any _).mono ?_
  rintro e w2 ⟨rfl, bl2⟩
  have X2 := Lib.hid (X1.out.kb bl2)
  have B2 := Lib.hid (B1.out.trans (bl2.mono B1.out.size))
  clear bl2
  go_wp2_with fail
  go_loopw [4] (fun t wr => ∃ (i : Nat) (xs : List Int) (v : Value), i ≤ k ∧ t = .int .i64 i ∧ Hid (xs ++ encFrom W N i (k - i) = encFrom W N 0 k) ∧ xs.length ≤ 10 * i ∧ Hid (Wr 53 w.heap.size wr w.heap.size v xs) ∧ Hid (Below w.heap.size w wr)) (fun t _ => 40 - (intOf t).toNat)
  case atStart => exact ⟨0, [], _, Nat.zero_le _, rfl, Lib.hid rfl, by simp, X2, B2⟩
  case round =>
    obtain ⟨i, xs, v, hik, rfl, HX, hxl, HW, HB⟩ := hrel
    by_cases hlt : i < k
    · obtain ⟨⟨V, b, o, rfl, hb, c0, c1, c2⟩, hn1, hn2⟩ := hst.out i (by omega)
      have c0' := (HB.out.cell (p := ⟨b, o + i * 3, none⟩) hb).trans c0
      have c1' := (HB.out.cell (p := ⟨b, o + i * 3 + 1, none⟩) hb).trans c1
      have HN := Lib.hid (And.intro hn1 hn2)
      have HX2 := Lib.hid (encFrom_step W N hlt)
      have hil : i < len := by omega
      have hi40 : i < 40 := by omega
      clear c0 c1 c2 hn1 hn2 hlt
      have hc4 : W i % 4 = 0 ∨ W i % 4 = 1 ∨ W i % 4 = 2 ∨ W i % 4 = 3 := by omega
      rcases hc4 with hr | hr | hr | hr
      all_goals
        have HR := Lib.hid hr
        clear hr
        go_wp2_with fail
        refine (pick_to _ _ 4 _ (by omega) (by omega) HR.out).mono ?_
        rintro e _ ⟨rfl, rfl⟩
        go_wp2_with fail
      · refine (pick_any _ _ 256 (by omega) (by omega)).mono ?_
        rintro e _ ⟨rfl, rfl⟩
        go_wp2_with fail
        refine (wu8_any _ _ _ _ _ w.heap.size (by omega) HW.out).mono ?_
        rintro e w3 ⟨rfl, v3, x3, o3, _⟩
        have X3 := Lib.hid x3
        have B3 := Lib.hid (HB.out.trans (HW.out.below o3))
        clear x3 o3
        go_wp2_with fail
        exact ⟨⟨i + 1, _, v3, by omega, by go_num, Lib.hid (by have := HX.out; rw [HX2.out, HR.out, enc0, ← List.append_assoc] at this; exact this), by rw [List.length_append]; have := be_length (N i % 256) 1; omega, X3, B3⟩, by simp [intOf]; omega⟩
      · refine (pick_any _ _ 4294967296 (by omega) (by omega)).mono ?_
        rintro e _ ⟨rfl, rfl⟩
        go_wp2_with fail
        refine (wu32_any _ _ _ _ _ w.heap.size (by omega) HW.out).mono ?_
        rintro e w3 ⟨rfl, v3, x3, o3, _⟩
        have X3 := Lib.hid x3
        have B3 := Lib.hid (HB.out.trans (HW.out.below o3))
        clear x3 o3
        go_wp2_with fail
        exact ⟨⟨i + 1, _, v3, by omega, by go_num, Lib.hid (by have := HX.out; rw [HX2.out, HR.out, enc1, ← List.append_assoc] at this; exact this), by rw [List.length_append]; have := be_length (N i % 4294967296) 4; omega, X3, B3⟩, by simp [intOf]; omega⟩
      · refine (wu64_any _ _ _ _ _ w.heap.size (by omega) HW.out).mono ?_
        rintro e w3 ⟨rfl, v3, x3, o3, _⟩
        have X3 := Lib.hid x3
        have B3 := Lib.hid (HB.out.trans (HW.out.below o3))
        clear x3 o3
        go_wp2_with fail
        exact ⟨⟨i + 1, _, v3, by omega, by go_num, Lib.hid (by have := HX.out; rw [HX2.out, HR.out, enc2, ← List.append_assoc] at this; exact this), by rw [List.length_append]; have := be_length (N i) 8; omega, X3, B3⟩, by simp [intOf]; omega⟩
      · refine (wvar_any _ _ _ _ _ w.heap.size (by omega) HW.out).mono ?_
        rintro e w3 ⟨rfl, v3, x3, o3, _⟩
        have X3 := Lib.hid x3
        have B3 := Lib.hid (HB.out.trans (HW.out.below o3))
        clear x3 o3
        go_wp2_with fail
        exact ⟨⟨i + 1, _, v3, by omega, by go_num, Lib.hid (by have := HX.out; rw [HX2.out, HR.out, enc3, ← List.append_assoc] at this; exact this), by rw [List.length_append]; have := leb_length 9 (IntKind.u64.wrap (N i)); omega, X3, B3⟩, by simp [intOf]; omega⟩
    · have hxs : xs = encFrom W N 0 k := by have := HX.out; rw [encFrom_done W N (by omega), List.append_nil] at this; exact this
      have HXS := Lib.hid hxs
      clear hxs
      have hxl2 : xs.length ≤ 400 := by omega
      by_cases hil : i < len
      case' pos => have hi40 : 40 ≤ i := by omega
      case' neg => have hli : len ≤ i := by omega
      all_goals
        clear hlt
        go_wp2_with fail
        refine (wbytes_any _ _ _ _ w.heap.size (by omega) HW.out).mono ?_
        rintro e w4 ⟨v4, rfl, h4, bl4⟩
        have B4 := Lib.hid (HB.out.trans (bl4.mono HB.out.size))
        have H4 := Lib.hid h4
        clear h4 bl4
        go_wp2_with fail
        refine (newreader_any _ w.heap.size B4.out.size _ _ (by omega) (by rw [HXS.out]; exact encFrom_ok W N k 0) (Seen.own H4.out)).mono ?_
        rintro e w5 ⟨b5, v5, rfl, r5, bl5, bb5, hv5⟩
        rw [HXS.out] at r5
        have R5 := Lib.hid r5
        have B5 := Lib.hid (B4.out.trans (bl5.mono B4.out.size))
        have hbb : w.heap.size ≤ b5 := r5.base
        clear r5 bl5 bb5 hv5
        go_wp2_with fail
        go_loopw [6, 7] (fun t _ wr => ∃ (i : Nat) (v : Value), i ≤ k ∧ t = .int .i64 i ∧ Hid (Rd 51 w.heap.size wr b5 v (encFrom W N i (k - i)) false) ∧ Hid (Below w.heap.size w wr)) (fun t _ _ => 40 - (intOf t).toNat)
        case atStart => exact ⟨0, _, Nat.zero_le _, rfl, R5, B5⟩
        case round =>
          obtain ⟨i, v, hik, rfl, HR, HB⟩ := hrel
          by_cases hlt : i < k
          · obtain ⟨⟨V, b, o, rfl, hb, c0, c1, c2⟩, hn1, hn2⟩ := hst.out i (by omega)
            have c0' := (HB.out.cell (p := ⟨b, o + i * 3, none⟩) hb).trans c0
            have c1' := (HB.out.cell (p := ⟨b, o + i * 3 + 1, none⟩) hb).trans c1
            have HN := Lib.hid (And.intro hn1 hn2)
            have HR2 := Lib.hid (show Rd 51 w.heap.size _ b5 v (encStep (W i % 4) (N i) ++ encFrom W N (i + 1) (k - (i + 1))) false from by rw [← encFrom_step W N hlt]; exact HR.out)
            have hil : i < len := by omega
            have hi40 : i < 40 := by omega
            clear c0 c1 c2 hn1 hn2 hlt HR
            have hc4 : W i % 4 = 0 ∨ W i % 4 = 1 ∨ W i % 4 = 2 ∨ W i % 4 = 3 := by omega
            rcases hc4 with hr | hr | hr | hr
            all_goals
              have HRR := Lib.hid hr
              clear hr
              go_wp2_with fail
              refine (pick_to _ _ 4 _ (by omega) (by omega) HRR.out).mono ?_
              rintro e _ ⟨rfl, rfl⟩
              go_wp2_with fail
            · go_region_held3 (fun w' => w'.cell? ⟨b, o + i * 3 + 1, none⟩ = some (.int .i64 (N i))) (go_keep)
                ((first | (go_at_call 17; refine (read0 w.heap.size _ _ _ _ _ (by have := HR2.out; rw [HRR.out] at this; exact this)).mono ?_; rintro e w6 ⟨rfl, v6, r6, o6⟩; have R6 := Lib.hid r6; have O6 := Lib.hid o6; clear r6 o6; have c6 := (World.cell?_of_block (a := ⟨b, o + i * 3 + 1, none⟩) (O6.out.block b (by have := HB.out.size; omega) (by omega))).trans c1') | (go_at_call 18; refine (pick_any _ _ 256 (by omega) (by omega)).mono ?_; rintro e _ ⟨rfl, rfl⟩)))
              all_goals
                go_wp2_with fail
                exact ⟨⟨i + 1, v6, by omega, by go_num, R6, Lib.hid (HB.out.trans (HR2.out.below O6.out))⟩, by simp [intOf]; omega⟩
            · go_region_held3 (fun w' => w'.cell? ⟨b, o + i * 3 + 1, none⟩ = some (.int .i64 (N i))) (go_keep)
                ((first | (go_at_call 30; refine (read1 w.heap.size _ _ _ _ _ (by have := HR2.out; rw [HRR.out] at this; exact this)).mono ?_; rintro e w6 ⟨rfl, v6, r6, o6⟩; have R6 := Lib.hid r6; have O6 := Lib.hid o6; clear r6 o6; have c6 := (World.cell?_of_block (a := ⟨b, o + i * 3 + 1, none⟩) (O6.out.block b (by have := HB.out.size; omega) (by omega))).trans c1') | (go_at_call 18; refine (pick_any _ _ 4294967296 (by omega) (by omega)).mono ?_; rintro e _ ⟨rfl, rfl⟩)))
              all_goals
                go_wp2_with fail
                exact ⟨⟨i + 1, v6, by omega, by go_num, R6, Lib.hid (HB.out.trans (HR2.out.below O6.out))⟩, by simp [intOf]; omega⟩
            · go_region_held3 (fun w' => w'.cell? ⟨b, o + i * 3 + 1, none⟩ = some (.int .i64 (N i))) (go_keep)
                ((first | (go_at_call 11; refine (read2 w.heap.size _ _ _ _ _ HN.out (by have := HR2.out; rw [HRR.out] at this; exact this)).mono ?_; rintro e w6 ⟨rfl, v6, r6, o6⟩; have R6 := Lib.hid r6; have O6 := Lib.hid o6; clear r6 o6; have c6 := (World.cell?_of_block (a := ⟨b, o + i * 3 + 1, none⟩) (O6.out.block b (by have := HB.out.size; omega) (by omega))).trans c1')))
              all_goals
                go_wp2_with fail
                exact ⟨⟨i + 1, v6, by omega, by go_num, R6, Lib.hid (HB.out.trans (HR2.out.below O6.out))⟩, by simp [intOf]; omega⟩
            · go_region_held3 (fun w' => w'.cell? ⟨b, o + i * 3 + 1, none⟩ = some (.int .i64 (N i))) (go_keep)
                ((first | (go_at_call 12; refine (read3 w.heap.size _ _ _ _ _ HN.out (by have := HR2.out; rw [HRR.out] at this; exact this)).mono ?_; rintro e w6 ⟨rfl, v6, r6, o6⟩; have R6 := Lib.hid r6; have O6 := Lib.hid o6; clear r6 o6; have c6 := (World.cell?_of_block (a := ⟨b, o + i * 3 + 1, none⟩) (O6.out.block b (by have := HB.out.size; omega) (by omega))).trans c1')))
              all_goals
                go_wp2_with fail
                exact ⟨⟨i + 1, v6, by omega, by go_num, R6, Lib.hid (HB.out.trans (HR2.out.below O6.out))⟩, by simp [intOf]; omega⟩
          · have hr0 := HR.out
            rw [encFrom_done W N (show k ≤ i by omega)] at hr0
            have HR0 := Lib.hid hr0
            clear hr0 HR
            by_cases hil : i < len
            case' pos => have hi40 : 40 ≤ i := by omega
            case' neg => have hli : len ≤ i := by omega
            all_goals
              clear hlt
              go_wp2_with fail
            all_goals
              refine (left_any w.heap.size _ _ _ _ _ HR0.out).mono ?_
              rintro e _ ⟨rfl, rfl⟩
              go_wp2_with fail
              refine (lack_any w.heap.size _ _ _ _ _ HR0.out).mono ?_
              rintro e _ ⟨rfl, rfl⟩
              go_wp2
              go_ret
              exact ⟨rfl, HB.out⟩
end Go.Proofs.Ytbadkgmlefmmbaa
