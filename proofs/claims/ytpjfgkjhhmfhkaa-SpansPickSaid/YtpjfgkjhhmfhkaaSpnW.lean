/- without, Both, Minus. Conditions: no more than a hundred thousand spans; no end above the largest number. -/
import Derived.Test.YtpjfgkjhhmfhkaaSpnK
namespace Go.Proofs.Ytpjfgkjhhmfhkaa
open Go.RowKit

theorem wo_snoc : ∀ (l : List Sp) (lo : Int) (A : List Sp), A ++ wo topN lo l = A ++ wo topN lo l := fun _ _ _ => rfl
/-- What is left to be told: no number behind the last span is above the largest one. -/
theorem wo_end {lo : Int} {l : List Sp} (hl : Nrm l) (ht : Top topN l) (hlo : topN < lo) (hA : ∀ s ∈ l, lo ≤ s.1) : wo topN lo l = [] := by
  cases l with
  | nil => unfold wo; rw [if_neg (by omega)]
  | cons s l =>
    have h1 := hA s List.mem_cons_self
    have h2 := ht s List.mem_cons_self
    have h3 := hl.2.1
    omega
/-- What is taken so far, and what is left. -/
structure WoI (l : List Sp) (k : Nat) (A : List Sp) (lo : Int) : Prop where
  eq : wo topN 0 l = A ++ wo topN lo (l.drop k)
  lo0 : 0 ≤ lo
  le : lo ≤ topN
  len : A.length ≤ k
theorem WoI.start (l : List Sp) : WoI l 0 [] 0 := ⟨by simp, Int.le_refl _, by decide, Nat.le_refl _⟩
theorem drop_at {l : List Sp} {k : Nat} {s : Sp} (hs : l[k]? = some s) : l.drop k = s :: l.drop (k + 1) := by
  obtain ⟨h, e⟩ := List.getElem?_eq_some_iff.1 hs
  rw [List.drop_eq_getElem_cons h, e]
theorem WoI.gap {l A : List Sp} {k : Nat} {lo : Int} {s : Sp} (H : WoI l k A lo) (hs : l[k]? = some s) (c : lo < s.1) (h : s.2 + 1 ≤ topN) (h0 : 0 ≤ s.2 + 1) : WoI l (k + 1) (A ++ [(lo, s.1 - 1)]) (s.2 + 1) :=
  ⟨by rw [H.eq, drop_at hs]; simp [wo, c], h0, h, by have := H.len; simp; omega⟩
theorem WoI.none {l A : List Sp} {k : Nat} {lo : Int} {s : Sp} (H : WoI l k A lo) (hs : l[k]? = some s) (c : ¬ lo < s.1) (h : s.2 + 1 ≤ topN) (h0 : 0 ≤ s.2 + 1) : WoI l (k + 1) A (s.2 + 1) :=
  ⟨by rw [H.eq, drop_at hs]; simp [wo, c], h0, h, by have := H.len; omega⟩
theorem WoI.stopG {l A : List Sp} {k : Nat} {lo : Int} {s : Sp} (hl : Nrm l) (ht : Top topN l) (H : WoI l k A lo) (hs : l[k]? = some s) (c : lo < s.1) (h : s.2 = topN) : wo topN 0 l = A ++ [(lo, s.1 - 1)] := by
  have hd : Nrm (l.drop k) := by have := hl; rw [← List.take_append_drop k l] at this; exact this.right
  rw [drop_at hs] at hd
  rw [H.eq, drop_at hs]
  have e := wo_end (lo := s.2 + 1) hd.tail (fun u hu => ht u (List.mem_of_mem_drop hu)) (by omega) (fun u hu => by have := hd.2.2.1 u hu; omega)
  simp [wo, c, e]
theorem WoI.stopN {l A : List Sp} {k : Nat} {lo : Int} {s : Sp} (hl : Nrm l) (ht : Top topN l) (H : WoI l k A lo) (hs : l[k]? = some s) (c : ¬ lo < s.1) (h : s.2 = topN) : wo topN 0 l = A := by
  have hd : Nrm (l.drop k) := by have := hl; rw [← List.take_append_drop k l] at this; exact this.right
  rw [drop_at hs] at hd
  rw [H.eq, drop_at hs]
  have e := wo_end (lo := s.2 + 1) hd.tail (fun u hu => ht u (List.mem_of_mem_drop hu)) (by omega) (fun u hu => by have := hd.2.2.1 u hu; omega)
  simp [wo, c, e]
theorem WoI.last {l A : List Sp} {lo : Int} (H : WoI l l.length A lo) : wo topN 0 l = A ++ [(lo, topN)] := by
  rw [H.eq, List.drop_length]
  unfold wo
  rw [if_pos H.le]
set_option maxHeartbeats 8000000 in
theorem without_to (w : World) (v : Value) (l : List Sp) (hs : SSeen w v l) (hl : l.length ≤ 900000) (ht : Top topN l) :
    Calls Try.prog 40 #[v] w fun e w' => ∃ v', e = .returned v' ∧ SOwn w' w.heap.size v' (wo topN 0 (mk l)) ∧ Below w.heap.size w w' := by
  have HM := Lib.hid (make_to w v l hs (by omega) ht)
  have hml := Nat.le_trans (mk_len l) hl
  have HN := Lib.hid (mk_nrm l)
  have HT := Lib.hid (mk_top ht)
  obtain ⟨p, cap, rfl⟩ := hs.form
  generalize mk l = m at *
  clear hs ht hl
  go_enter Try.func40, Try.ntmps40
  go_wp2_with fail
  refine HM.out.mono ?_
  rintro e w1 ⟨v1, rfl, o1, b1⟩
  obtain ⟨p1, c1, rfl⟩ := o1.shape
  have S1 := Lib.hid o1.seen
  have B1 := Lib.hid b1
  obtain ⟨n, hn⟩ : ∃ n, n = m.length := ⟨_, rfl⟩
  have HNL := Lib.hid hn
  rw [← hn] at S1 hml ⊢
  clear o1 b1 hn HM
  go_wp2_with fail
  go_loopw [3, 4, 10] (fun z lo i wr => ∃ (k : Nat) (A : List Sp) (x : Int), k ≤ n ∧ i = .int .i64 k ∧ lo = .int .i64 x ∧ Hid (WoI m k A x) ∧ Hid (SOwn wr w1.heap.size z A) ∧ Hid (Below w1.heap.size w1 wr)) (fun _ _ i _ => n - (intOf i).toNat)
  case atStart => exact ⟨0, [], 0, Nat.zero_le _, rfl, rfl, Lib.hid (WoI.start m), Lib.hid (SOwn.nil w1 _), Lib.hid (Below.refl _ w1)⟩
  case round =>
    obtain ⟨k, A, x, hk, rfl, rfl, I, O, B⟩ := hrel
    obtain ⟨pz, cz, rfl⟩ := O.out.shape
    have HLA : Hid (A.length ≤ 1000000) := Lib.hid (by have := I.out.len; omega)
    by_cases hlt : k < n
    · have hkl : k < m.length := by rw [← HNL.out]; exact hlt
      obtain ⟨b, o, rfl, c1, c2⟩ := (S1.out.kb B.out).at hkl
      have hk' : (k : Int) < n := by omega
      have hr := two_range c1 c2
      have hne := nrm_at HN.out HT.out hkl
      obtain ⟨s, hs⟩ : ∃ s, s = m[k] := ⟨_, rfl⟩
      have hsk : m[k]? = some s := by rw [hs]; exact List.getElem?_eq_getElem hkl
      rw [← hs] at hr c1 c2 hne
      have HSK := Lib.hid hsk
      clear hs hsk
      have HNB : Hid (∀ j, (Value.slice pz A.length cz).ownBlock = some j → wr.heap.size ≠ j) := Lib.hid (fun j hj => by have := (O.out.lt j hj).2; omega)
      have OW : Hid (SOwn (wr.alloc (.cells #[.int .i64 s.1, .int .i64 s.2] 23)) w1.heap.size (.slice pz A.length cz) A) := Lib.hid (O.out.alloc _)
      have BW := Lib.hid (B.out.alloc B.out.size (.cells #[.int .i64 s.1, .int .i64 s.2] 23))
      have N0 := Lib.hid (heap_alloc_last wr (.cells #[.int .i64 s.1, .int .i64 s.2] 23))
      have hw1 : wrap64 (s.1 - 1) = s.1 - 1 := by unfold wrap64; omega
      by_cases cg : x < s.1
      · have dg : decide (x < s.1) = true := by simpa using cg
        have CG := Lib.hid cg
        by_cases ce : s.2 = 9223372036854775807
        · have de : (s.2 == 9223372036854775807) = true := by simpa using ce
          have CE := Lib.hid ce
          have HNE := Lib.hid hne
          clear cg ce hne
          go_wp2_with (first
            | (refine load_to (cs := [.int .i64 s.1, .int .i64 s.2]) hr Try.underlying23 rfl spsize ?hx ?_; (case hx => rfl))
            | (at_builtin; refine push_span (by rfl) (.tmp 18) (.tmp 24) (by rfl) (x, s.1 - 1) w1.heap.size _ A (by rfl) OW.out (wr.heap.size + 1) (by simp) (by rfl) HLA.out BW.out.size ?_; intro p3 c3 w3 own3 on3 at3 b3; have O3 := Lib.hid own3; have B3 := Lib.hid (BW.out.trans b3); obtain ⟨y5, y6⟩ := sp_cells ((on3.block wr.heap.size (by simp) (fun e => HNB.out _ e rfl)).trans N0.out); clear own3 on3 at3 b3))
          go_ret
          rw [I.out.stopG HN.out HT.out HSK.out CG.out CE.out]
          exact ⟨_, rfl, (by simpa using O3.out.mono B1.out.size), B1.out.trans (B3.out.mono B1.out.size)⟩
        · have de : (s.2 == 9223372036854775807) = false := by simpa using ce
          have HW2 : Hid (wrap64 (s.2 + 1) = s.2 + 1) := Lib.hid (by unfold wrap64; omega)
          have CE : Hid (s.2 + 1 ≤ topN ∧ 0 ≤ s.2 + 1) := Lib.hid (by unfold topN; omega)
          clear cg ce hne
          go_wp2_with (first
            | (refine load_to (cs := [.int .i64 s.1, .int .i64 s.2]) hr Try.underlying23 rfl spsize ?hx ?_; (case hx => rfl))
            | (at_builtin; refine push_span (by rfl) (.tmp 18) (.tmp 24) (by rfl) (x, s.1 - 1) w1.heap.size _ A (by rfl) OW.out (wr.heap.size + 1) (by simp) (by rfl) HLA.out BW.out.size ?_; intro p3 c3 w3 own3 on3 at3 b3; have O3 := Lib.hid own3; have B3 := Lib.hid (BW.out.trans b3); obtain ⟨y5, y6⟩ := sp_cells ((on3.block wr.heap.size (by simp) (fun e => HNB.out _ e rfl)).trans N0.out); clear own3 on3 at3 b3))
          exact ⟨⟨k + 1, _, s.2 + 1, by omega, by go_num, by rw [HW2.out], Lib.hid (I.out.gap HSK.out CG.out CE.out.1 CE.out.2), O3, B3⟩, by simp [intOf]; omega⟩
      · have dg : decide (x < s.1) = false := by simpa using cg
        have CG : Hid (¬ x < s.1) := Lib.hid cg
        by_cases ce : s.2 = 9223372036854775807
        · have de : (s.2 == 9223372036854775807) = true := by simpa using ce
          have CE := Lib.hid ce
          have HNE := Lib.hid hne
          have HEQ := Lib.hid (I.out.stopN HN.out HT.out HSK.out CG.out CE.out)
          clear cg ce hne
          go_wp2_with (first
            | (refine load_to (cs := [.int .i64 s.1, .int .i64 s.2]) hr Try.underlying23 rfl spsize ?hx ?_; (case hx => rfl)))
          go_ret
          rw [HEQ.out]
          exact ⟨_, rfl, OW.out.mono B1.out.size, B1.out.trans (BW.out.mono B1.out.size)⟩
        · have de : (s.2 == 9223372036854775807) = false := by simpa using ce
          have HW2 : Hid (wrap64 (s.2 + 1) = s.2 + 1) := Lib.hid (by unfold wrap64; omega)
          have CE : Hid (s.2 + 1 ≤ topN ∧ 0 ≤ s.2 + 1) := Lib.hid (by unfold topN; omega)
          have HI2 := Lib.hid (I.out.none HSK.out CG.out CE.out.1 CE.out.2)
          clear cg ce hne
          go_wp2_with (first
            | (refine load_to (cs := [.int .i64 s.1, .int .i64 s.2]) hr Try.underlying23 rfl spsize ?hx ?_; (case hx => rfl)))
          exact ⟨⟨k + 1, _, s.2 + 1, by omega, by go_num, by rw [HW2.out], HI2, OW, BW⟩, by simp [intOf]; omega⟩
    · obtain rfl : k = n := by omega
      have HEQ := Lib.hid (by have h := I.out; rw [HNL.out] at h; exact h.last)
      go_wp2_with (first
        | (at_builtin; refine push_span (by rfl) (.tmp 34) (.tmp 37) (by rfl) (x, 9223372036854775807) w1.heap.size _ A (by rfl) O.out wr.heap.size rfl (by rfl) HLA.out B.out.size ?_; intro p3 c3 w3 own3 on3 at3 b3; have O3 := Lib.hid own3; have B3 := Lib.hid (B.out.trans b3); clear own3 on3 at3 b3))
      go_ret
      rw [HEQ.out]
      exact ⟨_, rfl, by simpa [topN] using O3.out.mono B1.out.size, B1.out.trans (B3.out.mono B1.out.size)⟩
end Go.Proofs.Ytpjfgkjhhmfhkaa
