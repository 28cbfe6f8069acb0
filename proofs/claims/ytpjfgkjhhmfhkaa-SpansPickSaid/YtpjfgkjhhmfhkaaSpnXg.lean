/- The reference's Last. Conditions: no more than some hundred thousand spans; no end above the largest number. -/
import Derived.Test.YtpjfgkjhhmfhkaaSpnXf
namespace Go.Proofs.Ytpjfgkjhhmfhkaa
open Go.RowKit

theorem Nrm.takeN {l : List Sp} (h : Nrm l) (k : Nat) : Nrm (l.take k) := by
  have h1 : Nrm (l.take k ++ l.drop k) := by rw [List.take_append_drop]; exact h
  exact h1.left
theorem stake_at {m : List Sp} {j : Nat} {s : Sp} (h : m[j]? = some s) : m.take (j + 1) = m.take j ++ [s] := by
  rw [List.take_add_one, h]; rfl
/-- k spans were met, A is what was taken, q how many are wanted still. -/
def LsI (m : List Sp) (n : Int) (k : Nat) (A : List Sp) (q : Int) : Prop :=
  k ≤ m.length ∧ A.length ≤ k ∧ ((A = m.take k ∧ q = n - cnt A ∧ (0 ≤ q ∨ k = 0)) ∨ (q = 0 ∧ A = lows m n.toNat))
theorem LsI.start (m : List Sp) (n : Int) : LsI m n 0 [] n := ⟨Nat.zero_le _, by simp, .inl ⟨by simp, by simp [cnt, els], .inr rfl⟩⟩
section
variable {m A : List Sp} {n q : Int} {j : Nat} {s : Sp}
theorem LsI.whole (H : LsI m n j A q) (hm : Nrm m) (hq : 0 < q) (hs : m[j]? = some s) (c : ¬ s.2 - s.1 ≥ q) : LsI m n (j + 1) (A ++ [s]) (q - (s.2 - s.1) - 1) := by
  obtain ⟨h1, h2, h3⟩ := H
  have h0 := hm.mem s (List.mem_of_getElem? hs)
  have hj := (List.getElem?_eq_some_iff.1 hs).1
  refine ⟨by omega, by rw [List.length_append]; simp; omega, .inl ?_⟩
  rcases h3 with ⟨rfl, e, _⟩ | ⟨e, _⟩
  · refine ⟨(stake_at hs).symm, ?_, .inl (by omega)⟩
    rw [cnt_app, cnt_one, e]
    omega
  · omega
theorem LsI.cut (H : LsI m n j A q) (hm : Nrm m) (hq : 0 < q) (hs : m[j]? = some s) (c : s.2 - s.1 ≥ q) : LsI m n (j + 1) (A ++ [(s.1, s.1 + q - 1)]) (q - (s.1 + q - 1 - s.1) - 1) := by
  obtain ⟨h1, h2, h3⟩ := H
  have h0 := hm.mem s (List.mem_of_getElem? hs)
  have hj := (List.getElem?_eq_some_iff.1 hs).1
  refine ⟨by omega, by rw [List.length_append]; simp; omega, .inr ⟨by omega, ?_⟩⟩
  rcases h3 with ⟨rfl, e, _⟩ | ⟨e, _⟩
  · have hd := sdrop_at hs
    have hh : Nrm (m.take j ++ (s :: m.drop (j + 1))) := by rw [← hd, List.take_append_drop]; exact hm
    have hn1 : Nrm (m.take j ++ [(s.1, s.1 + q - 1)]) := Nrm.app hh.left (nrm_one h0.1 (by simp only; omega)) fun a ha t ht => by
      obtain rfl : t = (s.1, s.1 + q - 1) := by simpa using ht
      exact hh.mid a ha s (by simp)
    refine els_eq hn1 (lows_nrm hm _) ?_
    have hl : (els (m.take j) ++ rng s.1 (s.1 + q - 1)).length = n.toNat := by
      rw [List.length_append, rng_len]
      show cnt (m.take j) + _ = _
      omega
    have he : els m = (els (m.take j) ++ rng s.1 (s.1 + q - 1)) ++ (rng (s.1 + q) s.2 ++ els (m.drop (j + 1))) := by
      conv => lhs; rw [← List.take_append_drop j m]
      rw [els_app, hd, els_cons, rng_cut (m := s.1 + q) (by omega) (by omega)]
      simp only [List.append_assoc]
    rw [lows_els hm, els_app, els_one, he, List.take_left' hl]
  · omega
theorem LsI.done {k : Nat} (H : LsI m n k A q) (hm : Nrm m) (h : k = m.length ∨ q ≤ 0) : A = lows m n.toNat := by
  obtain ⟨h1, h2, h3⟩ := H
  rcases h3 with ⟨rfl, e, h4⟩ | ⟨_, e⟩
  · refine els_eq (hm.takeN k) (lows_nrm hm _) ?_
    rw [lows_els hm]
    have he : els m = els (m.take k) ++ els (m.drop k) := by rw [← els_app, List.take_append_drop]
    have hl : (els (m.take k)).length = cnt (m.take k) := rfl
    by_cases hk : k = 0
    · subst hk
      have hz0 : m.length = 0 ∨ n ≤ 0 := by
        rcases h with h | h
        · exact .inl h.symm
        · have : cnt (m.take 0) = 0 := by simp [cnt, els]
          omega
      rcases hz0 with hz0 | hz0
      · have : m = [] := List.eq_nil_of_length_eq_zero hz0
        subst this
        simp [els]
      · rw [Int.toNat_of_nonpos hz0]; simp [els]
    · have hq : 0 ≤ q := by rcases h4 with h4 | h4; exact h4; exact absurd h4 hk
      rcases h with rfl | h
      · rw [List.take_length] at *
        rw [List.take_of_length_le]
        show cnt m ≤ _
        omega
      · rw [he, List.take_left']
        rw [hl]; omega
  · exact e
end
theorem last_fits {s : Sp} {q : Int} (hs : 0 ≤ s.1 ∧ s.1 ≤ s.2 ∧ s.2 < 9223372036854775808) (hq : 0 < q) (h : q < 9223372036854775808) :
    wrap64 (s.2 - s.1) = s.2 - s.1 ∧ (s.2 - s.1 ≥ q → wrap64 (s.1 + q) = s.1 + q ∧ wrap64 (s.1 + q - 1) = s.1 + q - 1 ∧ wrap64 (s.1 + q - 1 - s.1) = s.1 + q - 1 - s.1 ∧ wrap64 (q - (s.1 + q - 1 - s.1)) = q - (s.1 + q - 1 - s.1) ∧ wrap64 (q - (s.1 + q - 1 - s.1) - 1) = q - (s.1 + q - 1 - s.1) - 1) ∧
    (¬ s.2 - s.1 ≥ q → wrap64 (q - (s.2 - s.1)) = q - (s.2 - s.1) ∧ wrap64 (q - (s.2 - s.1) - 1) = q - (s.2 - s.1) - 1) := by
  unfold wrap64; omega
set_option maxRecDepth 20000 in
set_option maxHeartbeats 16000000 in
theorem xlast_to (w : World) (v : Value) (l : List Sp) (n : Int) (hs : SSeen w v l) (hl : l.length ≤ 800000) (ht : Top topN l) (hn : n < 9223372036854775808) :
    Calls Try.prog 35 #[v, .int .i64 n] w fun e w' => ∃ v', e = .returned v' ∧ SOwn w' w.heap.size v' (las l n.toNat) ∧ Below w.heap.size w w' := by
  have HM := Lib.hid (xmake_to w v l hs (by omega) ht)
  have hml := Nat.le_trans (mk_len l) hl
  have HN := Lib.hid (mk_nrm l)
  have HT := Lib.hid (mk_top ht)
  have hR : las l n.toNat = lows (mk l) n.toNat := rfl
  obtain ⟨r, hr⟩ : ∃ r, r = lows (mk l) n.toNat := ⟨_, rfl⟩
  have HR := Lib.hid hr
  rw [hR, ← hr]
  obtain ⟨p, cap, rfl⟩ := hs.form
  generalize mk l = m at *
  have HNN := Lib.hid hn
  clear hs ht hl hR hr hn
  go_enter Try.func35, Try.ntmps35
  go_wp2_with fail
  refine HM.out.mono ?_
  rintro e w1 ⟨v1, rfl, o1, b1⟩
  obtain ⟨p1, c1, rfl⟩ := o1.shape
  have S1 := Lib.hid o1.seen
  have B1 := Lib.hid b1
  obtain ⟨ln, hln⟩ : ∃ ln, ln = m.length := ⟨_, rfl⟩
  have HLN := Lib.hid hln
  rw [← hln] at S1 hml ⊢
  clear o1 b1 hln HM
  go_wp2_with fail
  go_loopw [1, 5, 6, 7] (fun q z i _ wr => ∃ (k : Nat) (A : List Sp) (qv : Int), q = .int .i64 qv ∧ i = .int .i64 (k : Int) ∧ k ≤ ln ∧ Hid (LsI m n k A qv) ∧ Hid (qv < 9223372036854775808) ∧ Hid (SOwn wr w.heap.size z A) ∧ Hid (Below w1.heap.size w1 wr) ∧ Hid (∀ j, z.ownBlock = some j → w1.heap.size ≤ j)) (fun _ _ i _ _ => ln - (intOf i).toNat)
  case atStart => exact ⟨0, [], n, rfl, rfl, Nat.zero_le _, Lib.hid (LsI.start m n), HNN, Lib.hid (SOwn.nil w1 _), Lib.hid (Below.refl _ w1), Lib.hid (fun j h => by simp [Value.ownBlock] at h)⟩
  case round =>
    obtain ⟨k, A, qv, rfl, rfl, hk, I, HQ, O, B, HOL⟩ := hrel
    obtain ⟨pa, ca, rfl⟩ := O.out.shape
    by_cases hlt : k < ln
    · by_cases hq : 0 < qv
      · have hjl : k < m.length := by rw [← HLN.out]; exact hlt
        have hj' : (k : Int) < ln := by omega
        have hj0 : (0 : Int) ≤ (k : Int) := by omega
        obtain ⟨b, o, rfl, a1, a2⟩ := (S1.out.kb B.out).at hjl
        obtain ⟨s, hs⟩ : ∃ s, s = m[k] := ⟨_, rfl⟩
        have hsk : m[k]? = some s := by rw [hs]; exact List.getElem?_eq_getElem hjl
        have HSK := Lib.hid (nrm_at HN.out HT.out hjl)
        rw [← hs] at a1 a2 HSK
        have hr := two_range a1 a2
        have HW := Lib.hid (I.out.whole HN.out hq hsk)
        have HC := Lib.hid (I.out.cut HN.out hq hsk)
        have HAL : Hid (A.length + 1 ≤ 900000) := Lib.hid (by have := I.out.2.1; have := HLN.out; omega)
        have HFF := Lib.hid (last_fits HSK.out hq HQ.out)
        have B0' := (Below.refl wr.heap.size wr).alloc (Nat.le_refl _) (.cells #[.int .i64 s.1, .int .i64 s.2] 23)
        have OW := Lib.hid (O.out.kb B0')
        have BW := Lib.hid (B.out.trans (B0'.mono B.out.size))
        have N0 := Lib.hid (heap_alloc_last wr (.cells #[.int .i64 s.1, .int .i64 s.2] 23))
        have HNE : Hid (∀ j, (Value.slice pa A.length ca).ownBlock = some j → wr.heap.size ≠ j) := Lib.hid (fun j hj => by have := (O.out.lt j hj).2; omega)
        have HBX0 : Hid (w1.heap.size ≤ wr.heap.size) := Lib.hid B.out.size
        obtain ⟨Bx, hBx⟩ : ∃ Bx, Bx = wr.heap.size := ⟨_, rfl⟩
        have HBX : Hid (Bx < (wr.alloc (.cells #[.int .i64 s.1, .int .i64 s.2] 23)).heap.size) := Lib.hid (by simp; omega)
        have dq : decide (qv > 0) = true := by simpa using hq
        have dq2 : decide (0 < qv) = true := by simpa using hq
        clear hs hsk
        go_upto_region 7 with (refine load_to (cs := [.int .i64 s.1, .int .i64 s.2]) hr Try.underlying23 rfl spsize ?hx ?_; (case hx => rfl))
        rw [← hBx] at N0 HNE HBX0 ⊢
        clear hBx B0' a1 a2 hr O B
        generalize wr.alloc (.cells #[.int .i64 s.1, .int .i64 s.2] 23) = W1 at *
        obtain ⟨s1, s2⟩ := sp_cells N0.out
        obtain ⟨f1, f2, f3⟩ := HFF.out
        by_cases c : s.2 - s.1 ≥ qv
        · have d1 : decide (s.2 - s.1 ≥ qv) = true := by simpa using c
          have hfz : W1.frozen? ⟨Bx, 1, none⟩ = false := by simp [World.frozen?, N0.out]
          have d2 : decide (qv ≤ s.2 - s.1) = true := by simpa using c
          obtain ⟨g1, g2, g3, g4, g5⟩ := f2 c
          have HI := Lib.hid (HC.out c)
          have HQN : Hid (qv - (s.1 + qv - 1 - s.1) - 1 < 9223372036854775808) := Lib.hid (by omega)
          clear f2 f3 c HC HW
          go_upto_region 9 with fail
          have N2 : Hid ((W1.setCell ⟨Bx, 1, none⟩ (.int .i64 (s.1 + qv - 1))).heap[Bx]? = some (.cells #[.int .i64 s.1, .int .i64 (s.1 + qv - 1)] 23 (0, 0))) := Lib.hid (cells_set (row := [.int .i64 s.1, .int .i64 s.2]) (j := 1) N0.out _)
          have hon : Only (fun j => j = Bx) W1 (W1.setCell ⟨Bx, 1, none⟩ (.int .i64 (s.1 + qv - 1))) := (Only.refl (fun j => j = Bx) W1).setCell (p := ⟨Bx, 1, none⟩) rfl _
          have O2 := Lib.hid (OW.out.kept hon (fun k hk e => HNE.out k hk e.symm))
          have B2 := Lib.hid (BW.out.setCell (p := ⟨Bx, 1, none⟩) HBX0.out (.int .i64 (s.1 + qv - 1)))
          have HBX2 : Hid (Bx < (W1.setCell ⟨Bx, 1, none⟩ (.int .i64 (s.1 + qv - 1))).heap.size) := Lib.hid (Nat.lt_of_lt_of_le HBX.out hon.size)
          clear hon N0 OW BW HBX
          generalize W1.setCell ⟨Bx, 1, none⟩ (.int .i64 (s.1 + qv - 1)) = W2 at *
          obtain ⟨y1, y2⟩ := sp_cells N2.out
          have hr2 := two_range y1 y2
          have HLA : Hid (A.length ≤ 1000000) := Lib.hid (by have := HAL.out; omega)
          have HSZ : Hid (w.heap.size ≤ W2.heap.size) := Lib.hid (Nat.le_trans B1.out.size B2.out.size)
          clear s1 s2 y1 y2
          go_upto_region 10 with (first
            | (refine load_to (cs := [.int .i64 s.1, .int .i64 (s.1 + qv - 1)]) hr2 Try.underlying23 rfl spsize ?hx ?_; (case hx => rfl))
            | (at_builtin; go_must (refine push_span (by rfl) (.tmp 37) (.tmp 39) (by rfl) (s.1, s.1 + qv - 1) w.heap.size _ A (by rfl) O2.out W2.heap.size rfl (by rfl) HLA.out HSZ.out ?_; intro p3 c3 w3 own3 on3 at3 b3; have O3' := Lib.hid own3; have HOL3 : Hid (∀ j, (Value.slice p3 (A.length + 1) c3).ownBlock = some j → w1.heap.size ≤ j) := Lib.hid (fun j hj => (at3 j hj).elim (fun h => HOL.out j h) (fun h => Nat.le_trans B2.out.size h)); have N3 : Hid (w3.heap[Bx]? = some (.cells #[.int .i64 s.1, .int .i64 (s.1 + qv - 1)] 23 (0, 0))) := Lib.hid ((on3.block Bx HBX2.out (fun e => HNE.out _ e rfl)).trans N2.out); have B3 := Lib.hid (B2.out.trans (on3.below B2.out.size (by intro k hk; exact HOL.out k hk))); clear own3 on3 b3 at3)))
          obtain ⟨y1, y2⟩ := sp_cells N3.out
          go_wp2_with fail
          exact ⟨⟨k + 1, _, _, rfl, by go_num, by omega, HI, HQN, O3', B3, HOL3⟩, by simp [intOf] <;> omega⟩
        · have d1 : decide (s.2 - s.1 ≥ qv) = false := by simpa using c
          have d2 : decide (qv ≤ s.2 - s.1) = false := by simpa using c
          obtain ⟨g1, g2⟩ := f3 c
          have HI := Lib.hid (HW.out c)
          have HQN : Hid (qv - (s.2 - s.1) - 1 < 9223372036854775808) := Lib.hid (by have := HQ.out; have := HSK.out; omega)
          clear f2 f3 c HC HW
          go_upto_region 9 with fail
          have N2 := N0
          have O2 := OW
          have B2 := BW
          have HBX2 := HBX
          clear N0 OW BW HBX
          generalize W1 = W2 at *
          obtain ⟨y1, y2⟩ := sp_cells N2.out
          have hr2 := two_range y1 y2
          have HLA : Hid (A.length ≤ 1000000) := Lib.hid (by have := HAL.out; omega)
          have HSZ : Hid (w.heap.size ≤ W2.heap.size) := Lib.hid (Nat.le_trans B1.out.size B2.out.size)
          clear s1 s2 y1 y2
          go_upto_region 10 with (first
            | (refine load_to (cs := [.int .i64 s.1, .int .i64 (s.2)]) hr2 Try.underlying23 rfl spsize ?hx ?_; (case hx => rfl))
            | (at_builtin; go_must (refine push_span (by rfl) (.tmp 37) (.tmp 39) (by rfl) (s.1, s.2) w.heap.size _ A (by rfl) O2.out W2.heap.size rfl (by rfl) HLA.out HSZ.out ?_; intro p3 c3 w3 own3 on3 at3 b3; have O3' := Lib.hid own3; have HOL3 : Hid (∀ j, (Value.slice p3 (A.length + 1) c3).ownBlock = some j → w1.heap.size ≤ j) := Lib.hid (fun j hj => (at3 j hj).elim (fun h => HOL.out j h) (fun h => Nat.le_trans B2.out.size h)); have N3 : Hid (w3.heap[Bx]? = some (.cells #[.int .i64 s.1, .int .i64 (s.2)] 23 (0, 0))) := Lib.hid ((on3.block Bx HBX2.out (fun e => HNE.out _ e rfl)).trans N2.out); have B3 := Lib.hid (B2.out.trans (on3.below B2.out.size (by intro k hk; exact HOL.out k hk))); clear own3 on3 b3 at3)))
          obtain ⟨y1, y2⟩ := sp_cells N3.out
          go_wp2_with fail
          exact ⟨⟨k + 1, _, qv - (s.2 - s.1) - 1, (by first | rfl | rw [g2]), by go_num, by omega, HI, HQN, O3', B3, HOL3⟩, by simp [intOf] <;> omega⟩
      · have HE : Hid (A = r) := Lib.hid (by rw [HR.out]; exact I.out.done HN.out (.inr (by omega)))
        have hj' : (k : Int) < ln := by omega
        have dq : decide (qv > 0) = false := by simpa using hq
        have dq2 : decide (0 < qv) = false := by simpa using hq
        rw [HE.out] at O ⊢
        go_wp2_with fail
        go_ret
        exact ⟨_, rfl, O.out, B1.out.trans (B.out.mono B1.out.size)⟩
    · have HE : Hid (A = r) := Lib.hid (by rw [HR.out]; exact I.out.done HN.out (.inl (by rw [← HLN.out]; omega)))
      have hj' : ¬ (k : Int) < ln := by omega
      rw [HE.out] at O ⊢
      go_wp2_with fail
      go_ret
      exact ⟨_, rfl, O.out, B1.out.trans (B.out.mono B1.out.size)⟩
end Go.Proofs.Ytpjfgkjhhmfhkaa
