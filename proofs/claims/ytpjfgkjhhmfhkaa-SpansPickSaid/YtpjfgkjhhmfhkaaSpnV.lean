/- split and splitTop: a set is cut. Conditions: no more than a million spans; a set in normal form, no end above the largest number. -/
import Derived.Test.YtpjfgkjhhmfhkaaSpnK
namespace Go.Proofs.Ytpjfgkjhhmfhkaa
open Go.RowKit

theorem spl_step {l : List Sp} {k : Nat} {s : Sp} (n : Nat) (hs : l[k]? = some s) : splf (l.take (k + 1)) n = spl1 (splf (l.take k) n) s := by
  unfold splf
  rw [List.take_add_one, hs, List.foldl_append]
  rfl
section
variable {l : List Sp} {k n : Nat} {s : Sp} (hs : l[k]? = some s)
include hs
theorem spl_A (c : (s.2 - s.1 + 1).toNat ≤ (splf (l.take k) n).2) : lows (l.take (k + 1)) n = lows (l.take k) n ++ [s] ∧ rest (l.take (k + 1)) n = rest (l.take k) n ∧ (splf (l.take (k + 1)) n).2 = (splf (l.take k) n).2 - (s.2 - s.1 + 1).toNat := by
  unfold lows rest
  rw [spl_step n hs]
  unfold spl1
  rw [if_pos c]
  exact ⟨rfl, rfl, rfl⟩
theorem spl_B (c : ¬ (s.2 - s.1 + 1).toNat ≤ (splf (l.take k) n).2) (d : 0 < (splf (l.take k) n).2) : lows (l.take (k + 1)) n = lows (l.take k) n ++ [(s.1, s.1 + ((splf (l.take k) n).2 : Int) - 1)] ∧ rest (l.take (k + 1)) n = rest (l.take k) n ++ [(s.1 + ((splf (l.take k) n).2 : Int), s.2)] ∧ (splf (l.take (k + 1)) n).2 = 0 := by
  unfold lows rest
  rw [spl_step n hs]
  unfold spl1
  rw [if_neg c, if_pos d]
  exact ⟨rfl, rfl, rfl⟩
theorem spl_C (c : ¬ (s.2 - s.1 + 1).toNat ≤ (splf (l.take k) n).2) (d : ¬ 0 < (splf (l.take k) n).2) : lows (l.take (k + 1)) n = lows (l.take k) n ∧ rest (l.take (k + 1)) n = rest (l.take k) n ++ [s] ∧ (splf (l.take (k + 1)) n).2 = 0 := by
  unfold lows rest
  rw [spl_step n hs]
  unfold spl1
  rw [if_neg c, if_neg d]
  exact ⟨rfl, rfl, rfl⟩
end
theorem spl_lens {l : List Sp} (hl : Nrm l) (hle : l.length ≤ 1000000) {k : Nat} (hk : k < l.length) (n : Nat) : (lows (l.take k) n).length ≤ 1000000 ∧ (rest (l.take k) n).length ≤ 1000000 := by
  have h1 := lows_len (hl.take k) n
  have h2 := rest_len (hl.take k) n
  rw [List.length_take] at h1 h2
  omega
theorem spl_le : ∀ (l : List Sp) (n : Nat), (splf l n).2 ≤ n := fun l n => by
  suffices h : ∀ (l : List Sp) (x : (List Sp × List Sp) × Nat), (l.foldl spl1 x).2 ≤ x.2 from h l _
  intro l
  induction l with
  | nil => intro x; exact Nat.le_refl _
  | cons s l ih =>
    intro x
    refine Nat.le_trans (ih _) ?_
    unfold spl1
    split
    · exact Nat.sub_le _ _
    · split <;> exact Nat.zero_le _
/-- Two slices of the call's own that share no block. -/
structure TwoI (w wr : World) (v u : Value) (b a : List Sp) : Prop where
  below : Below w.heap.size w wr
  lo : SOwn wr w.heap.size v b
  hi : SOwn wr w.heap.size u a
  apart : ∀ j, v.ownBlock = some j → u.ownBlock ≠ some j
theorem TwoI.kb {w wr W : World} {v u : Value} {b a : List Sp} (H : TwoI w wr v u b a) (hb : Below wr.heap.size wr W) : TwoI w W v u b a := ⟨H.below.trans (hb.mono H.below.size), H.lo.kb hb, H.hi.kb hb, H.apart⟩
theorem TwoI.swap {w wr : World} {v u : Value} {b a : List Sp} (H : TwoI w wr v u b a) : TwoI w wr u v a b := ⟨H.below, H.hi, H.lo, fun j h1 h2 => H.apart j h2 h1⟩
theorem TwoI.push {w wr W : World} {v v' u : Value} {b b' a : List Sp} (H : TwoI w wr v u b a) (h1 : SOwn W w.heap.size v' b') (h2 : Only (fun j => v.ownBlock = some j) wr W) (h3 : ∀ j, v'.ownBlock = some j → v.ownBlock = some j ∨ wr.heap.size ≤ j) (h4 : Below w.heap.size wr W) : TwoI w W v' u b' a :=
  ⟨H.below.trans h4, h1, H.hi.kept h2 (fun k hk e => H.apart k e hk), fun j hj e => by
    rcases h3 j hj with h | h
    · exact H.apart j h e
    · have := (H.hi.lt j e).2
      omega⟩
theorem num_fits {s1 s2 : Int} {m : Nat} (h : 0 ≤ s1 ∧ s1 ≤ s2 ∧ s2 < 9223372036854775808) (hm : ¬ (s2 - s1 + 1).toNat ≤ m) (h0 : 0 < m) : IntKind.i64.wrap (m : Int) = m ∧ wrap64 (s1 + (m : Int)) = s1 + m ∧ wrap64 (s1 + (m : Int) - 1) = s1 + m - 1 ∧ wrap64 (m : Int) = m := by
  rw [wrap64_eq]; unfold wrap64; omega
theorem u64_fits {s1 s2 : Int} {m : Nat} (h : 0 ≤ s1 ∧ s1 ≤ s2 ∧ s2 < 9223372036854775808) (hm : (s2 - s1 + 1).toNat ≤ m) (hn : m ≤ 9223372036854775808) : IntKind.u64.wrap ((m : Int) - (s2 - s1 + 1)) = ((m - (s2 - s1 + 1).toNat : Nat) : Int) := by
  rw [IntKind.wrap_u64]; omega
set_option maxHeartbeats 8000000 in
theorem split_to (w : World) (v : Value) (l : List Sp) (n : Nat) (hs : SSeen w v l) (hn : Nrm l) (ht : Top topN l) (hl : l.length ≤ 1000000) (hn63 : n ≤ 9223372036854775808) :
    Calls Try.prog 42 #[v, .int .u64 n] w fun e w' => ∃ v1 v2, e = .returned (.tuple #[v1, v2]) ∧ SOwn w' w.heap.size v1 (lows l n) ∧ SOwn w' w.heap.size v2 (rest l n) ∧ Below w.heap.size w w' := by
  obtain ⟨p, cap, rfl⟩ := hs.form
  have HS := Lib.hid hs
  have HN := Lib.hid hn
  have HT := Lib.hid ht
  have HLE := Lib.hid hl
  obtain ⟨nl, hn'⟩ : ∃ nl, nl = l.length := ⟨_, rfl⟩
  rw [← hn'] at HS hl ⊢
  have HL := Lib.hid hn'
  clear hs hn ht hn'
  go_enter Try.func42, Try.ntmps42
  go_wp2_with fail
  go_loopw [1, 4, 5, 11] (fun z z4 z5 i wr => ∃ k : Nat, k ≤ nl ∧ i = .int .i64 k ∧ z = .int .u64 ((splf (l.take k) n).2 : Nat) ∧ Hid (TwoI w wr z4 z5 (lows (l.take k) n) (rest (l.take k) n))) (fun _ _ _ i _ => nl - (intOf i).toNat)
  case atStart => exact ⟨0, Nat.zero_le _, rfl, rfl, Lib.hid ⟨Below.refl _ w, SOwn.nil w _, SOwn.nil w _, fun j h => by simp [Value.ownBlock] at h⟩⟩
  case round =>
    obtain ⟨k, hk, rfl, rfl, I⟩ := hrel
    obtain ⟨p4, c4, rfl⟩ := I.out.lo.shape
    obtain ⟨p5, c5, rfl⟩ := I.out.hi.shape
    by_cases hlt : k < nl
    · have hkl : k < l.length := by rw [← HL.out]; exact hlt
      obtain ⟨b, o, rfl, c1, c2⟩ := (HS.out.kb I.out.below).at hkl
      have hk' : (k : Int) < nl := by omega
      have hr := two_range c1 c2
      have hne := nrm_at HN.out HT.out hkl
      have hsz := fun W => size_to W l[k] hne.1 hne.2.1 hne.2.2
      have HLN := Lib.hid (spl_lens HN.out HLE.out hkl n)
      have HLEm := spl_le (l.take k) n
      obtain ⟨s, hs⟩ : ∃ s, s = l[k] := ⟨_, rfl⟩
      have hsk : l[k]? = some s := by rw [hs]; exact List.getElem?_eq_getElem hkl
      rw [← hs] at hr hsz c1 c2 hne
      have hA := fun c => spl_A (n := n) hsk c
      have hB := fun c d => spl_B (n := n) hsk c d
      have hC := fun c d => spl_C (n := n) hsk c d
      clear hs hsk
      obtain ⟨bl, hbl⟩ : ∃ x, x = lows (l.take k) n := ⟨_, rfl⟩
      obtain ⟨al, hal⟩ : ∃ x, x = rest (l.take k) n := ⟨_, rfl⟩
      obtain ⟨m, hm⟩ : ∃ x, x = (splf (l.take k) n).2 := ⟨_, rfl⟩
      rw [← hbl, ← hal] at I HLN ⊢
      rw [← hm] at HLEm ⊢
      rw [← hbl, ← hal, ← hm] at hA hB hC
      have HA := Lib.hid hA
      have HB := Lib.hid hB
      have HC := Lib.hid hC
      have HNE := Lib.hid hne
      have HSZ := Lib.hid hsz
      clear hbl hal hm hA hB hC hne hsz
      have hm63 : m ≤ 9223372036854775808 := by omega
      have BW := Lib.hid (I.out.kb ((Below.refl wr.heap.size wr).alloc (Nat.le_refl _) (.cells #[.int .i64 s.1, .int .i64 s.2] 23)))
      have HNB : Hid (∀ j, (Value.slice p4 bl.length c4).ownBlock = some j → wr.heap.size ≠ j) := Lib.hid (fun j hj => by have := (I.out.lo.lt j hj).2; omega)
      obtain ⟨B0, hB0⟩ : ∃ B0, B0 = wr.heap.size := ⟨_, rfl⟩
      have N0 := Lib.hid (heap_alloc_last wr (.cells #[.int .i64 s.1, .int .i64 s.2] 23))
      go_wp2_with (first
        | (refine load_to (cs := [.int .i64 s.1, .int .i64 s.2]) hr Try.underlying23 rfl spsize ?hx ?_; (case hx => rfl)))
      rw [← hB0] at N0 HNB ⊢
      clear c1 c2 hr hB0
      generalize wr.alloc (.cells #[.int .i64 s.1, .int .i64 s.2] 23) = W1 at *
      refine (HSZ.out W1).mono ?_
      rintro e w2 ⟨rfl, b2⟩
      have I2 := Lib.hid (BW.out.kb b2)
      have N2 := Lib.hid ((b2.block B0 (Array.getElem?_eq_some_iff.1 N0.out).1).trans N0.out)
      obtain ⟨y3, y4⟩ := sp_cells N2.out
      clear b2 BW I N0
      have HCK : Hid (∀ W, Only (fun j => (Value.slice p4 bl.length c4).ownBlock = some j) w2 W → W.heap[B0]? = some (.cells #[.int .i64 s.1, .int .i64 s.2] 23 (0, 0))) := Lib.hid (fun W h => (h.block B0 (Array.getElem?_eq_some_iff.1 N2.out).1 (fun e => HNB.out _ e rfl)).trans N2.out)
      clear N2 HNB
      by_cases c : (s.2 - s.1 + 1).toNat ≤ m
      · have hc : decide ((m : Int) ≥ s.2 - s.1 + 1) = true := by simp; omega
        have hc' : decide (s.2 - s.1 + 1 ≤ (m : Int)) = true := by simp; omega
        have hu := u64_fits HNE.out c hm63
        have HC1 := Lib.hid c
        clear c
        go_wp2_with (first
          | (at_builtin; refine push_span (by rfl) (.tmp 24) (.tmp 26) (by rfl) s w.heap.size _ bl (by rfl) I2.out.lo w2.heap.size rfl (by rfl) HLN.out.1 I2.out.below.size ?_; intro p3 c3 w3 own3 on3 at3 b3; have I3 := Lib.hid (I2.out.push own3 on3 at3 b3); obtain ⟨y5, y6⟩ := sp_cells (HCK.out w3 on3); clear own3 on3 at3 b3 y3 y4)
          | (go_at_call 51; refine (HSZ.out _).mono ?_; rintro e w4 ⟨rfl, b4⟩; have I4 := Lib.hid (I3.out.kb b4); clear b4))
        obtain ⟨e1, e2, e3⟩ := HA.out HC1.out
        exact ⟨⟨k + 1, by omega, by go_num, by rw [e3], Lib.hid (by rw [e1, e2]; exact I4.out)⟩, by simp [intOf]; omega⟩
      · have hc : decide ((m : Int) ≥ s.2 - s.1 + 1) = false := by simp; omega
        have hc' : decide (s.2 - s.1 + 1 ≤ (m : Int)) = false := by simp; omega
        by_cases d : 0 < m
        · have hd : decide ((m : Int) > 0) = true := by simp; omega
          have hd' : decide (0 < (m : Int)) = true := by simp; omega
          obtain ⟨f1, f2, f3, f4⟩ := num_fits HNE.out c d
          have HC1 := Lib.hid c
          have HC2 := Lib.hid d
          clear c d
          go_wp2_with (first
            | (at_builtin; refine push_span (by rfl) (.tmp 40) (.tmp 46) (by rfl) (s.1, s.1 + (m : Int) - 1) w.heap.size _ bl (by rfl) I2.out.lo w2.heap.size rfl (by rfl) HLN.out.1 I2.out.below.size ?_; intro p3 c3 w3 own3 on3 at3 b3; have I3 := Lib.hid (I2.out.push own3 on3 at3 b3); obtain ⟨y5, y6⟩ := sp_cells (HCK.out w3 on3); clear own3 on3 at3 b3 y3 y4)
            | (at_builtin; refine push_span (by rfl) (.tmp 48) (.tmp 53) (by rfl) (s.1 + (m : Int), s.2) w.heap.size _ al (by rfl) I3.out.hi w3.heap.size rfl (by rfl) HLN.out.2 I3.out.below.size ?_; intro p6 c6 w4 own4 on4 at4 b4; have I4 := Lib.hid (I3.out.swap.push own4 on4 at4 b4).swap; clear own4 on4 at4 b4))
          obtain ⟨e1, e2, e3⟩ := HB.out HC1.out HC2.out
          exact ⟨⟨k + 1, by omega, by go_num, by rw [e3]; rfl, Lib.hid (by rw [e1, e2]; exact I4.out)⟩, by simp [intOf]; omega⟩
        · have hd : decide ((m : Int) > 0) = false := by simp; omega
          have hd' : decide (0 < (m : Int)) = false := by simp; omega
          have HC1 := Lib.hid c
          have HC2 := Lib.hid d
          have HM0 : Hid (m = 0) := Lib.hid (by omega)
          clear c d
          go_wp2_with (first
            | (at_builtin; refine push_span (by rfl) (.tmp 15) (.tmp 17) (by rfl) s w.heap.size _ al (by rfl) I2.out.hi w2.heap.size rfl (by rfl) HLN.out.2 I2.out.below.size ?_; intro p6 c6 w4 own4 on4 at4 b4; have I4 := Lib.hid (I2.out.swap.push own4 on4 at4 b4).swap; clear own4 on4 at4 b4))
          obtain ⟨e1, e2, e3⟩ := HC.out HC1.out HC2.out
          exact ⟨⟨k + 1, by omega, by go_num, by rw [e3, HM0.out], Lib.hid (by rw [e1, e2]; exact I4.out)⟩, by simp [intOf]; omega⟩
    · obtain rfl : k = nl := by omega
      have IL : Hid (TwoI w wr (.slice p4 (lows (l.take k) n).length c4) (.slice p5 (rest (l.take k) n).length c5) (lows l n) (rest l n)) := Lib.hid (by
        have h := I.out
        rw [List.take_of_length_le (Nat.le_of_eq HL.out.symm)] at h ⊢
        exact h)
      go_wp2_with fail
      go_ret2
      exact ⟨_, _, rfl, IL.out.lo, IL.out.hi, IL.out.below⟩
end Go.Proofs.Ytpjfgkjhhmfhkaa
