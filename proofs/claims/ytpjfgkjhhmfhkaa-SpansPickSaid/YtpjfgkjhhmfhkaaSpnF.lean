/- splitTop, First, Last, Skip, Of. Conditions: no more than a million spans; no end above the largest number; the count an int. -/
import Derived.Test.YtpjfgkjhhmfhkaaSpnS
import Derived.Test.YtpjfgkjhhmfhkaaSpnV
namespace Go.Proofs.Ytpjfgkjhhmfhkaa
open Go.RowKit

theorem top_fits {n : Int} {c : Nat} (hn : n < 9223372036854775808) (hc : (c : Int) ≤ 9223372036854775808) : max n 0 = (n.toNat : Int) ∧ IntKind.u64.wrap (n.toNat : Int) = (n.toNat : Int) ∧ min (c : Int) (n.toNat : Int) = ((min c n.toNat : Nat) : Int) ∧ IntKind.u64.wrap ((c : Int) - ((min c n.toNat : Nat) : Int)) = ((c - min c n.toNat : Nat) : Int) ∧ c - min c n.toNat ≤ 9223372036854775808 ∧ n.toNat ≤ 9223372036854775808 := by
  rw [IntKind.wrap_u64, IntKind.wrap_u64]
  omega
set_option maxHeartbeats 4000000 in
theorem splitTop_to (w : World) (v : Value) (l : List Sp) (n : Int) (hs : SSeen w v l) (hl : l.length ≤ 1000000) (ht : Top topN l) (hn : n < 9223372036854775808) :
    Calls Try.prog 41 #[v, .int .i64 n] w fun e w' => ∃ v1 v2, e = .returned (.tuple #[v1, v2]) ∧ SOwn w' w.heap.size v1 (ski l n.toNat) ∧ SOwn w' w.heap.size v2 (fir l n.toNat) ∧ Below w.heap.size w w' := by
  have HM := Lib.hid (make_to w v l hs hl ht)
  have hml := Nat.le_trans (mk_len l) hl
  have hT := fun W v' (h : SSeen W v' (mk l)) => total_to W v' (mk l) h (mk_nrm l) (mk_top ht) hml
  have hc := cnt_fits (mk_nrm l) (mk_top ht) (mk l).length
  rw [List.take_length] at hc
  have hS := fun W v' (h : SSeen W v' (mk l)) k hk => split_to W v' (mk l) k h (mk_nrm l) (mk_top ht) hml hk
  unfold ski fir
  obtain ⟨p, cap, rfl⟩ := hs.form
  obtain ⟨h1, h2, h3, h4, h5, h6⟩ := top_fits hn hc
  generalize mk l = m at *
  obtain ⟨c, hcc⟩ : ∃ c, c = cnt m := ⟨_, rfl⟩
  obtain ⟨q, hq⟩ : ∃ q, q = n.toNat := ⟨_, rfl⟩
  rw [← hcc] at hT hc h3 h4 h5 ⊢
  rw [← hq] at h1 h2 h3 h4 h5 ⊢
  have HT := Lib.hid hT
  have HS := Lib.hid hS
  obtain ⟨z, hz⟩ : ∃ z, z = min c q := ⟨_, rfl⟩
  rw [← hz] at h3 h4 h5 ⊢
  obtain ⟨x, hx⟩ : ∃ x, x = c - z := ⟨_, rfl⟩
  rw [← hx] at h4 h5 ⊢
  have HX := Lib.hid h5
  have H1 := Lib.hid (And.intro h1 (And.intro h2 (And.intro h3 h4)))
  have HC := Lib.hid hc
  clear hT hS hcc hq hz hx hs ht h5 h1 h2 h3 h4 hc h6 hml hn hl
  go_enter Try.func41, Try.ntmps41
  go_wp2_with fail
  refine HM.out.mono ?_
  rintro e w1 ⟨v1, rfl, o1, b1⟩
  have O1 := Lib.hid o1
  have B1 := Lib.hid b1
  clear o1 b1
  go_wp2_with fail
  refine (HT.out w1 v1 O1.out.seen).mono ?_
  rintro e w2 ⟨rfl, b2⟩
  have B2 := Lib.hid (B1.out.trans (b2.mono B1.out.size))
  have O2 := Lib.hid (O1.out.kb b2)
  clear b2
  obtain ⟨h1, h2, h3, h4⟩ := H1.out
  go_wp2_with fail
  refine (HS.out w2 v1 O2.out.seen x HX.out).mono ?_
  rintro e w3 ⟨y1, y2, rfl, o3, o4, b3⟩
  have B3 := Lib.hid (B2.out.trans (b3.mono B2.out.size))
  have O3 := Lib.hid (o3.mono B2.out.size)
  have O4 := Lib.hid (o4.mono B2.out.size)
  clear b3 o3 o4
  go_wp2_with fail
  go_ret2
  exact ⟨_, _, rfl, O3.out, O4.out, B3.out⟩
set_option maxHeartbeats 2000000 in
theorem first_to (w : World) (v : Value) (l : List Sp) (n : Int) (hs : SSeen w v l) (hl : l.length ≤ 1000000) (ht : Top topN l) (hn : n < 9223372036854775808) :
    Calls Try.prog 10 #[v, .int .i64 n] w fun e w' => ∃ v', e = .returned v' ∧ SOwn w' w.heap.size v' (fir l n.toNat) ∧ Below w.heap.size w w' := by
  have HM := Lib.hid (splitTop_to w v l n hs hl ht hn)
  clear hs hl ht hn
  go_enter Try.func10, Try.ntmps10
  go_wp2_with fail
  refine HM.out.mono ?_
  rintro e w1 ⟨v1, v2, rfl, o1, o2, b1⟩
  have O2 := Lib.hid o2
  have B1 := Lib.hid b1
  clear o1 o2 b1
  go_wp2_with fail
  go_ret
  exact ⟨_, rfl, O2.out, B1.out⟩
set_option maxHeartbeats 2000000 in
theorem skip_to (w : World) (v : Value) (l : List Sp) (n : Int) (hs : SSeen w v l) (hl : l.length ≤ 1000000) (ht : Top topN l) (hn : n < 9223372036854775808) :
    Calls Try.prog 19 #[v, .int .i64 n] w fun e w' => ∃ v', e = .returned v' ∧ SOwn w' w.heap.size v' (ski l n.toNat) ∧ Below w.heap.size w w' := by
  have HM := Lib.hid (splitTop_to w v l n hs hl ht hn)
  clear hs hl ht hn
  go_enter Try.func19, Try.ntmps19
  go_wp2_with fail
  refine HM.out.mono ?_
  rintro e w1 ⟨v1, v2, rfl, o1, o2, b1⟩
  have O2 := Lib.hid o1
  have B1 := Lib.hid b1
  clear o1 o2 b1
  go_wp2_with fail
  go_ret
  exact ⟨_, rfl, O2.out, B1.out⟩
set_option maxHeartbeats 2000000 in
theorem last_to (w : World) (v : Value) (l : List Sp) (n : Int) (hs : SSeen w v l) (hl : l.length ≤ 1000000) (ht : Top topN l) (hn : n < 9223372036854775808) :
    Calls Try.prog 11 #[v, .int .i64 n] w fun e w' => ∃ v', e = .returned v' ∧ SOwn w' w.heap.size v' (las l n.toNat) ∧ Below w.heap.size w w' := by
  have HM := Lib.hid (make_to w v l hs hl ht)
  have hml := Nat.le_trans (mk_len l) hl
  have hS := fun W v' (h : SSeen W v' (mk l)) k hk => split_to W v' (mk l) k h (mk_nrm l) (mk_top ht) hml hk
  unfold las
  obtain ⟨p, cap, rfl⟩ := hs.form
  obtain ⟨h1, h2, _, _, _, h6⟩ := top_fits (c := 0) hn (by decide)
  generalize mk l = m at *
  obtain ⟨q, hq⟩ : ∃ q, q = n.toNat := ⟨_, rfl⟩
  rw [← hq] at h1 h2 h6 ⊢
  have HS := Lib.hid hS
  have HX := Lib.hid h6
  have H1 := Lib.hid (And.intro h1 h2)
  clear hS hq hs ht h6 h1 h2 hml hn hl
  go_enter Try.func11, Try.ntmps11
  go_wp2_with fail
  refine HM.out.mono ?_
  rintro e w1 ⟨v1, rfl, o1, b1⟩
  have O1 := Lib.hid o1
  have B1 := Lib.hid b1
  clear o1 b1
  obtain ⟨h1, h2⟩ := H1.out
  go_wp2_with fail
  refine (HS.out w1 v1 O1.out.seen q HX.out).mono ?_
  rintro e w3 ⟨y1, y2, rfl, o3, o4, b3⟩
  have B3 := Lib.hid (B1.out.trans (b3.mono B1.out.size))
  have O3 := Lib.hid (o3.mono B1.out.size)
  clear b3 o3 o4
  go_wp2_with fail
  go_ret
  exact ⟨_, rfl, O3.out, B3.out⟩
end Go.Proofs.Ytpjfgkjhhmfhkaa
