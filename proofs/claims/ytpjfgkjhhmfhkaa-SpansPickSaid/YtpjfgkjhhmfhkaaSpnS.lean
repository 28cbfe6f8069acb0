/- split, splitTop, Count, Low, High, First, Last, Skip. Conditions: no more than a million spans; no end above the largest number. -/
import Derived.Test.YtpjfgkjhhmfhkaaSpnK
namespace Go.Proofs.Ytpjfgkjhhmfhkaa
open Go.RowKit

theorem big_top {M : Int} {l : List Sp} (h : Top M l) : Top M (mk l) := mk_top h
set_option maxHeartbeats 2000000 in
theorem count_to (w : World) (v : Value) (l : List Sp) (hs : SSeen w v l) (hl : l.length ≤ 1000000) (ht : Top topN l) : Calls Try.prog 16 #[v] w fun e w' => e = .returned (.int .i64 (min (cnt (mk l) : Int) 9223372036854775807)) ∧ Below w.heap.size w w' := by
  have HM := Lib.hid (make_to w v l hs hl ht)
  have hT := fun W v' (h : SSeen W v' (mk l)) => total_to W v' (mk l) h (mk_nrm l) (mk_top ht) (Nat.le_trans (mk_len l) hl)
  have hc := cnt_fits (mk_nrm l) (mk_top ht) (mk l).length
  rw [List.take_length] at hc
  obtain ⟨p, cap, rfl⟩ := hs.form
  obtain ⟨m, hm⟩ : ∃ m, m = mk l := ⟨_, rfl⟩
  rw [← hm] at HM hT hc ⊢
  have HT := Lib.hid hT
  obtain ⟨c, hcc⟩ : ∃ c, c = (cnt m : Int) := ⟨_, rfl⟩
  have h0 : 0 ≤ c := by omega
  rw [← hcc] at HT hc ⊢
  clear hs hT hm hcc
  have hmin : IntKind.i64.wrap (min c 9223372036854775807) = min c 9223372036854775807 := by rw [wrap64_eq]; unfold wrap64; omega
  have hmin2 : wrap64 (min c 9223372036854775807) = min c 9223372036854775807 := by unfold wrap64; omega
  go_enter Try.func16, Try.ntmps16
  go_wp2_with fail
  refine HM.out.mono ?_
  rintro e w1 ⟨v1, rfl, o1, b1⟩
  have O1 := Lib.hid o1
  have B1 := Lib.hid b1
  clear o1 b1
  go_wp2_with fail
  refine (HT.out w1 v1 O1.out.seen).mono ?_
  rintro e w2 ⟨rfl, b2⟩
  have B2 := Lib.hid (B1.out.trans (b2.mono B1.out.size))
  clear b2
  go_wp2_with fail
  go_ret
  exact ⟨by simp, B2.out⟩
/-- The smallest, the greatest element; whether there is one. -/
def loV : List Sp → Int × Bool
  | [] => (0, false)
  | s :: _ => (s.1, true)
def hiV (l : List Sp) : Int × Bool := match l.getLast? with
  | none => (0, false)
  | some s => (s.2, true)
theorem hiV_snoc (l : List Sp) (s : Sp) : hiV (l ++ [s]) = (s.2, true) := by unfold hiV; simp
set_option maxHeartbeats 2000000 in
theorem low_to (w : World) (v : Value) (l : List Sp) (hs : SSeen w v l) (hl : l.length ≤ 1000000) (ht : Top topN l) : Calls Try.prog 13 #[v] w fun e w' => e = .returned (.tuple #[.int .i64 (loV (mk l)).1, .bool (loV (mk l)).2]) ∧ Below w.heap.size w w' := by
  have HM := Lib.hid (make_to w v l hs hl ht)
  obtain ⟨p, cap, rfl⟩ := hs.form
  generalize mk l = m at *
  obtain ⟨r, hr⟩ : ∃ r, r = loV m := ⟨_, rfl⟩
  rw [← hr]
  have HR := Lib.hid hr
  clear hr
  clear hs
  go_enter Try.func13, Try.ntmps13
  go_wp2_with fail
  refine HM.out.mono ?_
  rintro e w1 ⟨v1, rfl, o1, b1⟩
  obtain ⟨p1, c1, rfl⟩ := o1.shape
  have B1 := Lib.hid b1
  cases m with
  | nil =>
    clear o1 b1
    go_wp2_with fail
    go_ret2
    exact ⟨by rw [HR.out]; rfl, B1.out⟩
  | cons s m =>
    obtain ⟨b, o, rfl, h1, h2⟩ := o1.seen.at (j := 0) (by simp)
    have hd : (((s :: m).length : Int) == 0) = false := by simp; omega
    rw [show (s :: m)[0] = s from rfl, Nat.zero_mul, Nat.add_zero] at h1 h2
    have hpos : (0 : Int) < ((s :: m).length : Int) := by rw [List.length_cons]; omega
    clear o1 b1
    go_wp2_with fail
    go_ret2
    exact ⟨by rw [HR.out]; rfl, B1.out⟩
set_option maxHeartbeats 2000000 in
theorem high_to (w : World) (v : Value) (l : List Sp) (hs : SSeen w v l) (hl : l.length ≤ 1000000) (ht : Top topN l) : Calls Try.prog 12 #[v] w fun e w' => e = .returned (.tuple #[.int .i64 (hiV (mk l)).1, .bool (hiV (mk l)).2]) ∧ Below w.heap.size w w' := by
  have HM := Lib.hid (make_to w v l hs hl ht)
  have hml : (mk l).length ≤ 1000000 := Nat.le_trans (mk_len l) hl
  obtain ⟨p, cap, rfl⟩ := hs.form
  generalize mk l = m at *
  obtain ⟨r, hr⟩ : ∃ r, r = hiV m := ⟨_, rfl⟩
  rw [← hr]
  have HR := Lib.hid hr
  clear hr
  clear hs
  go_enter Try.func12, Try.ntmps12
  go_wp2_with fail
  refine HM.out.mono ?_
  rintro e w1 ⟨v1, rfl, o1, b1⟩
  obtain ⟨p1, c1, rfl⟩ := o1.shape
  have B1 := Lib.hid b1
  rcases List.eq_nil_or_concat m with rfl | ⟨m', s, rfl⟩
  · clear o1 b1
    go_wp2_with fail
    go_ret2
    exact ⟨by rw [HR.out]; rfl, B1.out⟩
  · rw [List.concat_eq_append] at *
    obtain ⟨n1, hn1⟩ : ∃ n1, n1 = m'.length := ⟨_, rfl⟩
    have hlen : (m' ++ [s]).length = n1 + 1 := by rw [hn1]; simp
    obtain ⟨b, o, rfl, h1, h2⟩ := o1.seen.at (j := n1) (by omega)
    have hs : (m' ++ [s])[n1]'(by omega) = s := by
      have : (m' ++ [s])[n1]? = some s := by rw [hn1]; simp
      rw [List.getElem?_eq_getElem (by omega)] at this
      simpa using this
    rw [hs] at h1 h2
    rw [hlen] at o1 hml ⊢
    have hw : wrap64 ((n1 : Int) + 1 - 1) = n1 := by unfold wrap64; omega
    have hw2 : IntKind.i64.wrap (n1 : Int) = n1 := by rw [wrap64_eq]; unfold wrap64; omega
    have hd : (((n1 : Int) + 1) == 0) = false := by simp; omega
    have hq2 : (n1 : Int) < (n1 : Int) + 1 := by omega
    have hq1 : 0 ≤ (n1 : Int) := by omega
    clear o1 b1 hs hlen hn1
    go_wp2_with fail
    go_ret2
    exact ⟨by rw [HR.out, hiV_snoc]; rfl, B1.out⟩
end Go.Proofs.Ytpjfgkjhhmfhkaa
