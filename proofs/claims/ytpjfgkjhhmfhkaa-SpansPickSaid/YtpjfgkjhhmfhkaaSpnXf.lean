/- The reference's First and Last. Conditions: no more than some hundred thousand spans; no end above the largest number. -/
import Derived.Test.YtpjfgkjhhmfhkaaSpnXm
import Derived.Test.YtpjfgkjhhmfhkaaSpnU
namespace Go.Proofs.Ytpjfgkjhhmfhkaa
open Go.RowKit

theorem els_eq {a b : List Sp} (ha : Nrm a) (hb : Nrm b) (h : els a = els b) : a = b := els_inj ha hb fun x => by rw [h]
theorem Nrm.drop {l : List Sp} (h : Nrm l) (k : Nat) : Nrm (l.drop k) := by
  have h1 : Nrm (l.take k ++ l.drop k) := by rw [List.take_append_drop]; exact h
  exact h1.right
/-- The numbers of the last ones. -/
abbrev frs (m : List Sp) (n : Int) : List Sp := rest m (cnt m - min (cnt m) n.toNat)
theorem cnt_td (m : List Sp) (k : Nat) : cnt m = cnt (m.take k) + cnt (m.drop k) := by rw [← cnt_app, List.take_append_drop]
theorem sdrop_at {m : List Sp} {j : Nat} {s : Sp} (h : m[j]? = some s) : m.drop j = s :: m.drop (j + 1) := by
  obtain ⟨h1, h2⟩ := List.getElem?_eq_some_iff.1 h
  rw [List.drop_eq_getElem_cons h1, h2]
/-- k spans are left, A is what was taken, q how many are wanted still. -/
def FsI (m : List Sp) (n : Int) (k : Nat) (A : List Sp) (q : Int) : Prop :=
  k ≤ m.length ∧ A.length + k ≤ m.length ∧ ((A = m.drop k ∧ q = n - cnt A ∧ (0 ≤ q ∨ k = m.length)) ∨ (q = 0 ∧ A = frs m n))
theorem FsI.start (m : List Sp) (n : Int) : FsI m n m.length [] n := ⟨Nat.le_refl _, by simp, .inl ⟨by simp, by simp [cnt, els], .inr rfl⟩⟩
section
variable {m A : List Sp} {n q : Int} {k j : Nat} {s : Sp}
theorem FsI.whole (H : FsI m n (j + 1) A q) (hm : Nrm m) (hq : 0 < q) (hs : m[j]? = some s) (c : ¬ s.2 - s.1 ≥ q) : FsI m n j (s :: A) (q - (s.2 - s.1) - 1) := by
  obtain ⟨h1, h2, h3⟩ := H
  have h0 := hm.mem s (List.mem_of_getElem? hs)
  refine ⟨by omega, by rw [List.length_cons]; omega, .inl ?_⟩
  rcases h3 with ⟨rfl, e, _⟩ | ⟨e, _⟩
  · refine ⟨(sdrop_at hs).symm, ?_, .inl (by omega)⟩
    rw [cnt_cons, e]
    omega
  · omega
theorem FsI.cut (H : FsI m n (j + 1) A q) (hm : Nrm m) (hq : 0 < q) (hs : m[j]? = some s) (c : s.2 - s.1 ≥ q) : FsI m n j ((s.2 - q + 1, s.2) :: A) (q - (s.2 - (s.2 - q + 1)) - 1) := by
  obtain ⟨h1, h2, h3⟩ := H
  have h0 := hm.mem s (List.mem_of_getElem? hs)
  refine ⟨by omega, by rw [List.length_cons]; omega, .inr ⟨by omega, ?_⟩⟩
  rcases h3 with ⟨rfl, e, _⟩ | ⟨e, _⟩
  · have hd := sdrop_at hs
    have hdn : Nrm (s :: m.drop (j + 1)) := hd ▸ hm.drop j
    have hn1 : Nrm ((s.2 - q + 1, s.2) :: m.drop (j + 1)) := nrm_cons (by simp only; omega) (by simp only; omega) hdn.tail fun x hx => hdn.gap hx
    refine els_eq hn1 (rest_nrm hm _) ?_
    have hc := cnt_td m j
    rw [hd, cnt_cons] at hc
    have hl : (els (m.take j) ++ rng s.1 (s.2 - q + 1 - 1)).length = cnt m - min (cnt m) n.toNat := by
      rw [List.length_append, rng_len]
      show cnt (m.take j) + _ = _
      omega
    have he : els m = (els (m.take j) ++ rng s.1 (s.2 - q + 1 - 1)) ++ (rng (s.2 - q + 1) s.2 ++ els (m.drop (j + 1))) := by
      conv => lhs; rw [← List.take_append_drop j m]
      rw [els_app, hd, els_cons, rng_cut (m := s.2 - q + 1) (by omega) (by omega)]
      simp only [List.append_assoc]
    rw [rest_els hm, els_cons, he, List.drop_left' hl]
  · omega
theorem FsI.done (H : FsI m n k A q) (hm : Nrm m) (h : k = 0 ∨ q ≤ 0) : A = frs m n := by
  obtain ⟨h1, h2, h3⟩ := H
  rcases h3 with ⟨rfl, e, h4⟩ | ⟨_, e⟩
  · refine els_eq (hm.drop k) (rest_nrm hm _) ?_
    rw [rest_els hm]
    have hc := cnt_td m k
    have he : els m = els (m.take k) ++ els (m.drop k) := by rw [← els_app, List.take_append_drop]
    have hl : (els (m.take k)).length = cnt (m.take k) := rfl
    by_cases hk : k = m.length
    · subst hk
      rw [List.drop_length] at *
      have hz : cnt ([] : List Sp) = 0 := rfl
      have hz0 : m.length = 0 ∨ n ≤ 0 := by omega
      rw [els_nil, List.drop_of_length_le]
      show cnt m ≤ _
      rcases hz0 with hz0 | hz0
      · have : m = [] := List.eq_nil_of_length_eq_zero hz0
        subst this
        simp [cnt, els]
      · omega
    · have hq : 0 ≤ q := by rcases h4 with h4 | h4; exact h4; exact absurd h4 hk
      rw [he, List.drop_left']
      rcases h with rfl | h
      · have : cnt (m.take 0) = 0 := rfl
        rw [hl]; omega
      · rw [hl]; omega
  · exact e
end
theorem first_fits {s : Sp} {q : Int} (hs : 0 ≤ s.1 ∧ s.1 ≤ s.2 ∧ s.2 < 9223372036854775808) (hq : 0 < q) (h : q < 9223372036854775808) :
    wrap64 (s.2 - s.1) = s.2 - s.1 ∧ (s.2 - s.1 ≥ q → wrap64 (s.2 - q) = s.2 - q ∧ wrap64 (s.2 - q + 1) = s.2 - q + 1 ∧ wrap64 (s.2 - (s.2 - q + 1)) = s.2 - (s.2 - q + 1) ∧ wrap64 (q - (s.2 - (s.2 - q + 1))) = q - (s.2 - (s.2 - q + 1)) ∧ wrap64 (q - (s.2 - (s.2 - q + 1)) - 1) = q - (s.2 - (s.2 - q + 1)) - 1) ∧
    (¬ s.2 - s.1 ≥ q → wrap64 (q - (s.2 - s.1)) = q - (s.2 - s.1) ∧ wrap64 (q - (s.2 - s.1) - 1) = q - (s.2 - s.1) - 1) := by
  unfold wrap64; omega
set_option maxRecDepth 20000 in
set_option maxHeartbeats 16000000 in
theorem xfirst_to (w : World) (v : Value) (l : List Sp) (n : Int) (hs : SSeen w v l) (hl : l.length ≤ 800000) (ht : Top topN l) (hn : n < 9223372036854775808) :
    Calls Try.prog 34 #[v, .int .i64 n] w fun e w' => ∃ v', e = .returned v' ∧ SOwn w' w.heap.size v' (fir l n.toNat) ∧ Below w.heap.size w w' := by
  have HM := Lib.hid (xmake_to w v l hs (by omega) ht)
  have hml := Nat.le_trans (mk_len l) hl
  have HN := Lib.hid (mk_nrm l)
  have HT := Lib.hid (mk_top ht)
  have hR : fir l n.toNat = frs (mk l) n := rfl
  obtain ⟨r, hr⟩ : ∃ r, r = frs (mk l) n := ⟨_, rfl⟩
  have HR := Lib.hid hr
  rw [hR, ← hr]
  obtain ⟨p, cap, rfl⟩ := hs.form
  generalize mk l = m at *
  have HNN := Lib.hid hn
  clear hs ht hl hR hr hn
  go_enter Try.func34, Try.ntmps34
  go_wp2_with fail
  refine HM.out.mono ?_
  rintro e w1 ⟨v1, rfl, o1, b1⟩
  obtain ⟨p1, c1, rfl⟩ := o1.shape
  have S1 := Lib.hid o1.seen
  have B1 := Lib.hid b1
  obtain ⟨ln, hln⟩ : ∃ ln, ln = m.length := ⟨_, rfl⟩
  have HLN := Lib.hid hln
  rw [← hln] at S1 hml ⊢
  have I0 : Hid (FsI m n ln [] n) := Lib.hid (by rw [hln]; exact FsI.start m n)
  have hw0 : wrap64 ((ln : Int) - 1) = (ln : Int) - 1 := by unfold wrap64; omega
  clear o1 b1 hln HM
  go_wp2_with fail
  go_loopw [1, 5, 6, 7] (fun q z i _ wr => ∃ (k : Nat) (A : List Sp) (qv : Int), q = .int .i64 qv ∧ i = .int .i64 ((k : Int) - 1) ∧ k ≤ ln ∧ Hid (FsI m n k A qv) ∧ Hid (qv < 9223372036854775808) ∧ Hid (SOwn wr w.heap.size z A) ∧ Hid (Below w1.heap.size w1 wr)) (fun _ _ i _ _ => (intOf i + 1).toNat)
  case atStart => exact ⟨ln, [], n, rfl, rfl, Nat.le_refl _, I0, HNN, Lib.hid (SOwn.nil w1 _), Lib.hid (Below.refl _ w1)⟩
  case round =>
    obtain ⟨k, A, qv, rfl, rfl, hk, I, HQ, O, B⟩ := hrel
    obtain ⟨pa, ca, rfl⟩ := O.out.shape
    rcases k with _ | j
    · have HE : Hid (A = r) := Lib.hid (by rw [HR.out]; exact I.out.done HN.out (.inl rfl))
      rw [show (((0 : Nat) : Int) - 1) = -1 from rfl]
      rw [HE.out] at O ⊢
      go_wp2_with fail
      go_ret
      exact ⟨_, rfl, O.out, B1.out.trans (B.out.mono B1.out.size)⟩
    · rw [show (((j + 1 : Nat) : Int) - 1) = (j : Int) from by omega]
      by_cases hq : 0 < qv
      · have hjl : j < m.length := by rw [← HLN.out]; omega
        have hj' : (j : Int) < ln := by omega
        have hj0 : (0 : Int) ≤ (j : Int) := by omega
        have hwj : wrap64 ((j : Int) - 1) = (j : Int) - 1 := by unfold wrap64; omega
        obtain ⟨b, o, rfl, a1, a2⟩ := (S1.out.kb B.out).at hjl
        obtain ⟨s, hs⟩ : ∃ s, s = m[j] := ⟨_, rfl⟩
        have hsk : m[j]? = some s := by rw [hs]; exact List.getElem?_eq_getElem hjl
        have HSK := Lib.hid (nrm_at HN.out HT.out hjl)
        rw [← hs] at a1 a2 HSK
        have hr := two_range a1 a2
        have HW := Lib.hid (I.out.whole HN.out hq hsk)
        have HC := Lib.hid (I.out.cut HN.out hq hsk)
        have HAL : Hid (A.length + 1 ≤ 900000) := Lib.hid (by have := I.out.2.1; have := HLN.out; omega)
        have HFF := Lib.hid (first_fits HSK.out hq HQ.out)
        have B0' := (Below.refl wr.heap.size wr).alloc (Nat.le_refl _) (.cells #[.int .i64 s.1, .int .i64 s.2] 23)
        have OW := Lib.hid (O.out.kb B0')
        have BW := Lib.hid (B.out.trans (B0'.mono B.out.size))
        have N0 := Lib.hid (heap_alloc_last wr (.cells #[.int .i64 s.1, .int .i64 s.2] 23))
        have HNE : Hid (∀ j, (Value.slice pa A.length ca).ownBlock = some j → wr.heap.size ≠ j) := Lib.hid (fun j hj => by have := (O.out.lt j hj).2; omega)
        have HBX0 : Hid (w1.heap.size ≤ wr.heap.size) := Lib.hid B.out.size
        obtain ⟨Bx, hBx⟩ : ∃ Bx, Bx = wr.heap.size := ⟨_, rfl⟩
        have HBX : Hid (Bx < (wr.alloc (.cells #[.int .i64 s.1, .int .i64 s.2] 23)).heap.size) := Lib.hid (by simp; omega)
        have dq : decide (qv > 0) = true := by simpa using hq
        have dq2 : decide (0 < qv) = true := by simpa using hq
        clear hs hsk
        go_upto_region 7 with (refine load_to (cs := [.int .i64 s.1, .int .i64 s.2]) hr Try.underlying23 rfl spsize ?hx ?_; (case hx => rfl))
        rw [← hBx] at N0 HNE HBX0 ⊢
        clear hBx B0' a1 a2 hr O B
        generalize wr.alloc (.cells #[.int .i64 s.1, .int .i64 s.2] 23) = W1 at *
        obtain ⟨s1, s2⟩ := sp_cells N0.out
        obtain ⟨f1, f2, f3⟩ := HFF.out
        by_cases c : s.2 - s.1 ≥ qv
        · have d1 : decide (s.2 - s.1 ≥ qv) = true := by simpa using c
          have hfz : W1.frozen? ⟨Bx, 0, none⟩ = false := by simp [World.frozen?, N0.out]
          have d2 : decide (qv ≤ s.2 - s.1) = true := by simpa using c
          obtain ⟨g1, g2, g3, g4, g5⟩ := f2 c
          have HI := Lib.hid (HC.out c)
          have HQN : Hid (qv - (s.2 - (s.2 - qv + 1)) - 1 < 9223372036854775808) := Lib.hid (by omega)
          clear f2 f3 c HC HW
          go_upto_region 9 with fail
          have N2 : Hid ((W1.setCell ⟨Bx, 0, none⟩ (.int .i64 (s.2 - qv + 1))).heap[Bx]? = some (.cells #[.int .i64 (s.2 - qv + 1), .int .i64 s.2] 23 (0, 0))) := Lib.hid (cells_set (row := [.int .i64 s.1, .int .i64 s.2]) (j := 0) N0.out _)
          have hon : Only (fun j => j = Bx) W1 (W1.setCell ⟨Bx, 0, none⟩ (.int .i64 (s.2 - qv + 1))) := (Only.refl (fun j => j = Bx) W1).setCell (p := ⟨Bx, 0, none⟩) rfl _
          have O2 := Lib.hid (OW.out.kept hon (fun k hk e => HNE.out k hk e.symm))
          have B2 := Lib.hid (BW.out.setCell (p := ⟨Bx, 0, none⟩) HBX0.out (.int .i64 (s.2 - qv + 1)))
          have HBX2 : Hid (Bx < (W1.setCell ⟨Bx, 0, none⟩ (.int .i64 (s.2 - qv + 1))).heap.size) := Lib.hid (Nat.lt_of_lt_of_le HBX.out hon.size)
          clear hon N0 OW BW HBX
          generalize W1.setCell ⟨Bx, 0, none⟩ (.int .i64 (s.2 - qv + 1)) = W2 at *
          obtain ⟨y1, y2⟩ := sp_cells N2.out
          have hr2 := two_range y1 y2
          have HOB : Hid (SOwn (W2.alloc (.cells #[.int .i64 (s.2 - qv + 1), .int .i64 s.2] 23)) w.heap.size (.slice (some ⟨W2.heap.size, 0, none⟩) 1 1) [(s.2 - qv + 1, s.2)]) := Lib.hid (SOwn.mono (B := W2.heap.size) (sown_mk (R := []) rfl (Nat.le_refl _) (heap_alloc_last W2 _) (Nat.le_refl _) (by decide) rfl) (Nat.le_trans B1.out.size B2.out.size))
          have HSA := Lib.hid (SOwn.seen (O2.out.alloc (.cells #[.int .i64 (s.2 - qv + 1), .int .i64 s.2] 23)))
          have BA := Lib.hid (B2.out.alloc B2.out.size (.cells #[.int .i64 (s.2 - qv + 1), .int .i64 s.2] 23))
          have HLA : Hid (([(s.2 - qv + 1, s.2)] : List Sp).length + A.length ≤ 1000000) := Lib.hid (by have := HAL.out; simp; omega)
          have HSZ : Hid (w.heap.size ≤ (W2.alloc (.cells #[.int .i64 (s.2 - qv + 1), .int .i64 s.2] 23)).heap.size) := Lib.hid (Nat.le_trans B1.out.size BA.out.size)
          clear s1 s2 y1 y2
          go_upto_region 10 with (first
            | (refine load_to (cs := [.int .i64 (s.2 - qv + 1), .int .i64 s.2]) hr2 Try.underlying23 rfl spsize ?hx ?_; (case hx => rfl))
            | (at_builtin; go_must (refine push_seen (by rfl) (.tmp 39) (.tmp 40) (by rfl) w.heap.size _ _ [(s.2 - qv + 1, s.2)] A (by rfl) HOB.out (by rfl) HSA.out HLA.out HSZ.out ?_; intro p3 c3 w3 own3 on3 _ b3; have O3 := Lib.hid own3; have N3 : Hid (w3.heap[Bx]? = some (.cells #[.int .i64 (s.2 - qv + 1), .int .i64 s.2] 23 (0, 0))) := Lib.hid ((on3.block Bx (by simp; have := HBX2.out; omega) (fun e => by have := HBX2.out; simp [Value.ownBlock] at e; omega)).trans ((Below.heap_alloc _ _ _ HBX2.out).trans N2.out)); have B3 := Lib.hid (BA.out.trans (on3.below BA.out.size (by intro k hk; simp [Value.ownBlock] at hk; have := B2.out.size; omega))); clear own3 on3 b3)))
          obtain ⟨y1, y2⟩ := sp_cells N3.out
          go_wp2_with fail
          exact ⟨⟨j, _, _, rfl, rfl, by omega, HI, HQN, O3, B3⟩, by simp [intOf] <;> omega⟩
        · have d1 : decide (s.2 - s.1 ≥ qv) = false := by simpa using c
          have d2 : decide (qv ≤ s.2 - s.1) = false := by simpa using c
          obtain ⟨g1, g2⟩ := f3 c
          have HI := Lib.hid (HW.out c)
          have HQN : Hid (qv - (s.2 - s.1) - 1 < 9223372036854775808) := Lib.hid (by have := HQ.out; have := HSK.out; omega)
          clear f2 f3 c HC HW
          go_upto_region 9 with fail
          have N2 := N0
          have O2 := OW
          have B2 := BW
          have HBX2 := HBX
          clear N0 OW BW HBX
          generalize W1 = W2 at *
          obtain ⟨y1, y2⟩ := sp_cells N2.out
          have hr2 := two_range y1 y2
          have HOB : Hid (SOwn (W2.alloc (.cells #[.int .i64 (s.1), .int .i64 s.2] 23)) w.heap.size (.slice (some ⟨W2.heap.size, 0, none⟩) 1 1) [(s.1, s.2)]) := Lib.hid (SOwn.mono (B := W2.heap.size) (sown_mk (R := []) rfl (Nat.le_refl _) (heap_alloc_last W2 _) (Nat.le_refl _) (by decide) rfl) (Nat.le_trans B1.out.size B2.out.size))
          have HSA := Lib.hid (SOwn.seen (O2.out.alloc (.cells #[.int .i64 (s.1), .int .i64 s.2] 23)))
          have BA := Lib.hid (B2.out.alloc B2.out.size (.cells #[.int .i64 (s.1), .int .i64 s.2] 23))
          have HLA : Hid (([(s.1, s.2)] : List Sp).length + A.length ≤ 1000000) := Lib.hid (by have := HAL.out; simp; omega)
          have HSZ : Hid (w.heap.size ≤ (W2.alloc (.cells #[.int .i64 (s.1), .int .i64 s.2] 23)).heap.size) := Lib.hid (Nat.le_trans B1.out.size BA.out.size)
          clear s1 s2 y1 y2
          go_upto_region 10 with (first
            | (refine load_to (cs := [.int .i64 (s.1), .int .i64 s.2]) hr2 Try.underlying23 rfl spsize ?hx ?_; (case hx => rfl))
            | (at_builtin; go_must (refine push_seen (by rfl) (.tmp 39) (.tmp 40) (by rfl) w.heap.size _ _ [(s.1, s.2)] A (by rfl) HOB.out (by rfl) HSA.out HLA.out HSZ.out ?_; intro p3 c3 w3 own3 on3 _ b3; have O3 := Lib.hid own3; have N3 : Hid (w3.heap[Bx]? = some (.cells #[.int .i64 (s.1), .int .i64 s.2] 23 (0, 0))) := Lib.hid ((on3.block Bx (by simp; have := HBX2.out; omega) (fun e => by have := HBX2.out; simp [Value.ownBlock] at e; omega)).trans ((Below.heap_alloc _ _ _ HBX2.out).trans N2.out)); have B3 := Lib.hid (BA.out.trans (on3.below BA.out.size (by intro k hk; simp [Value.ownBlock] at hk; have := B2.out.size; omega))); clear own3 on3 b3)))
          obtain ⟨y1, y2⟩ := sp_cells N3.out
          go_wp2_with fail
          exact ⟨⟨j, _, qv - (s.2 - s.1) - 1, (by rw [g2]), rfl, by omega, HI, HQN, O3, B3⟩, by simp [intOf] <;> omega⟩
      · have HE : Hid (A = r) := Lib.hid (by rw [HR.out]; exact I.out.done HN.out (.inr (by omega)))
        have hj0 : (0 : Int) ≤ (j : Int) := by omega
        have dq : decide (qv > 0) = false := by simpa using hq
        have dq2 : decide (0 < qv) = false := by simpa using hq
        rw [HE.out] at O ⊢
        go_wp2_with fail
        go_ret
        exact ⟨_, rfl, O.out, B1.out.trans (B.out.mono B1.out.size)⟩
end Go.Proofs.Ytpjfgkjhhmfhkaa
