/- The reference's IDs. Conditions: no more than some hundred thousand spans, no more than a million numbers asked; no end above the largest number. -/
import Derived.Test.YtpjfgkjhhmfhkaaSpnXg
import Derived.Test.YtpjfgkjhhmfhkaaSpnId
namespace Go.Proofs.Ytpjfgkjhhmfhkaa
open Go.RowKit

theorem num_room {n : Nat} (h : n ≤ 100000000) : n + 1 ≤ maxLen ∧ (n + 1) * 8 ≤ 140737488355328 := by unfold maxLen; omega
section
variable {ops : Array Oper} {rest : List Oper} {a : Act} {Q : Exit → Act → World → Prop} {o : Oper} {w : World}
/-- append(v, y): behind the making of the slice of y. -/
theorem push_num (hgd : o.guard = none) (s x : Operand) (ho : o.op = .call { callee := .builtin .append, args := #[s, x], argTypes := #[29, 29] })
    (y : Int) (B : Nat) (v : Value) (l : List Int) (hs : a.eval s = v) (hown : NOwn w B v l) (N : Nat) (hN : w.heap.size = N) (hx : a.eval x = .slice (some ⟨N, 0, none⟩) 1 1) (hl : l.length ≤ 100000000) (hB : B ≤ w.heap.size)
    (h : ∀ p' c' w', NOwn w' B (.slice p' (l.length + 1) c') (l ++ [y]) → Below B w w' → wpList Try.prog ops Q rest (a.put o.dst (.slice p' (l.length + 1) c')) w') :
    wpList Try.prog ops Q (o :: rest) a (w.alloc (.cells #[.int .i64 y] 3)) := by
  subst hN
  obtain ⟨i0, hi0, hz0, hz1, hz2⟩ := info_parts intinfo10
  have hf := num_room hl
  refine wpList_append_lies _ hgd s x _ ho B 3 i0 _ 1 8 Try.underlying29 hi0 hz0 hz1 hz2 rfl (by omega) v l.length (l.map (Value.int .i64)) hs (World.ownsRow.alloc hown _) ⟨w.heap.size, 0, none⟩ 1 1 [.int .i64 y] hx rfl (cell_one_new _ _ _) (by simp [Value.oneCell']) (by decide) hf.1 hf.2 (by simp; omega) (w.heap.size + 1) (by simp) ?_
  intro g cap w' own grow hat _
  refine h _ _ w' ?_ ?_
  · unfold NOwn
    rw [List.length_append, List.map_append]
    exact own
  · exact (((Only.refl _ w).alloc _).grown grow (fun k _ e => e)).below hB (fun k hk => (World.ownsRow.lt hown k hk).1)
end
theorem NOwn.nil (w : World) (B : Nat) : NOwn w B (.slice none 0 0) [] := World.ownsRow_nil ..
theorem NOwn.kb {w w' : World} {B : Nat} {v : Value} {l : List Int} (h : NOwn w B v l) (hb : Below w.heap.size w w') : NOwn w' B v l := by
  refine ⟨h.1, ?_⟩
  rcases h.2 with h1 | ⟨g, cap, cur, h1, h2, hg, h3⟩
  · exact .inl h1
  · exact .inr ⟨g, cap, cur, h1, h2, (hb.block g (Array.getElem?_eq_some_iff.1 hg).1).trans hg, h3⟩
theorem NOwn.shape {w : World} {B : Nat} {v : Value} {l : List Int} (h : NOwn w B v l) : ∃ p c, v = .slice p l.length c := h.seen.form
/-- The numbers of the spans from the k-th on, the greatest first. -/
abbrev dn (L : List Sp) (k : Nat) : List Int := (els (L.drop k)).reverse
theorem dn_next {L : List Sp} {j : Nat} {s : Sp} (h : L[j]? = some s) : dn L j = dn L (j + 1) ++ (rng s.1 s.2).reverse := by
  unfold dn
  rw [sdrop_at h, els_cons, List.reverse_append]
theorem dn_len (L : List Sp) (k : Nat) : (dn L k).length ≤ cnt L := by
  unfold dn
  rw [List.length_reverse]
  show cnt _ ≤ _
  have := cnt_td L k
  omega
theorem dn_part {L : List Sp} {j : Nat} {s : Sp} (h : L[j]? = some s) (c : Nat) : (dn L (j + 1) ++ (rng s.1 s.2).reverse.take c).length ≤ cnt L := by
  have h1 := dn_len L j
  rw [dn_next h] at h1
  rw [List.length_append, List.length_take] at *
  omega
set_option maxHeartbeats 8000000 in
theorem xids_to (w : World) (v : Value) (l : List Sp) (n : Int) (hs : SSeen w v l) (hl : l.length ≤ 700000) (ht : Top topN l) (hn : n < 9223372036854775808) (hc : cnt (fir l n.toNat) ≤ 1000000) :
    Calls Try.prog 37 #[v, .int .i64 n] w fun e w' => ∃ v', e = .returned v' ∧ NOwn w' w.heap.size v' (els (fir l n.toNat)).reverse ∧ Below w.heap.size w w' := by
  have HF := Lib.hid (xfirst_to w v l n hs (by omega) ht hn)
  have hfl : (fir l n.toNat).length ≤ 800000 := by have := rest_len (mk_nrm l) (cnt (mk l) - min (cnt (mk l)) n.toNat); have := mk_len l; unfold fir; omega
  have hfn : Nrm (fir l n.toNat) := rest_nrm (mk_nrm l) _
  have ht2 : Top topN (fir l n.toNat) := top_of hfn fun z hz => top_has (mk_top ht) ((mem_els (mk_nrm l)).1 (List.mem_of_mem_drop (by have h := (mem_els hfn).2 hz; unfold fir at h; rw [rest_els (mk_nrm l)] at h; exact h)))
  obtain ⟨p, cap, rfl⟩ := hs.form
  generalize fir l n.toNat = L at *
  have HN := Lib.hid hfn
  have HT := Lib.hid ht2
  have HC := Lib.hid hc
  clear hs hl ht hn hc hfn ht2
  go_enter Try.func37, Try.ntmps37
  go_wp2_with fail
  refine HF.out.mono ?_
  rintro e w1 ⟨v1, rfl, o1, b1⟩
  obtain ⟨p1, c1, rfl⟩ := o1.shape
  have S1 := Lib.hid o1.seen
  have B1 := Lib.hid b1
  obtain ⟨ln, hln⟩ : ∃ ln, ln = L.length := ⟨_, rfl⟩
  have HLN := Lib.hid hln
  rw [← hln] at S1 hfl ⊢
  have I0 : Hid (NOwn w1 w1.heap.size (.slice none 0 0) (dn L ln)) := Lib.hid (by rw [hln]; unfold dn; rw [List.drop_length]; exact NOwn.nil w1 _)
  have hw0 : wrap64 ((ln : Int) - 1) = (ln : Int) - 1 := by unfold wrap64; omega
  clear o1 b1 hln HF
  go_wp2_with fail
  go_loopw [5, 6, 7] (fun z i _ wr => ∃ k : Nat, i = .int .i64 ((k : Int) - 1) ∧ k ≤ ln ∧ Hid (NOwn wr w1.heap.size z (dn L k)) ∧ Hid (Below w1.heap.size w1 wr)) (fun _ i _ _ => (intOf i + 1).toNat)
  case atStart => exact ⟨ln, rfl, Nat.le_refl _, I0, Lib.hid (Below.refl _ w1)⟩
  case round =>
    obtain ⟨k, rfl, hk, O, B⟩ := hrel
    obtain ⟨wo, hwo⟩ : ∃ x : World, x = wr := ⟨_, rfl⟩
    subst hwo
    rcases k with _ | j
    · rw [show (((0 : Nat) : Int) - 1) = -1 from rfl]
      go_wp2_with fail
      go_ret
      exact ⟨_, rfl, O.out.mono B1.out.size, B1.out.trans (B.out.mono B1.out.size)⟩
    · rw [show (((j + 1 : Nat) : Int) - 1) = (j : Int) from by omega]
      have hjl : j < L.length := by rw [← HLN.out]; omega
      have hj' : (j : Int) < ln := by omega
      have hj0 : (0 : Int) ≤ (j : Int) := by omega
      have hwj : wrap64 ((j : Int) - 1) = (j : Int) - 1 := by unfold wrap64; omega
      obtain ⟨b, o, rfl, a1, a2⟩ := S1.out.at hjl
      obtain ⟨s, hs⟩ : ∃ s, s = L[j] := ⟨_, rfl⟩
      have hsk : L[j]? = some s := by rw [hs]; exact List.getElem?_eq_getElem hjl
      have HSK := Lib.hid (nrm_at HN.out HT.out hjl)
      rw [← hs] at a1 a2 HSK
      have HNX := Lib.hid (dn_next hsk)
      have HPL := Lib.hid (dn_part hsk)
      have HSZ : Hid (w.heap.size ≤ wo.heap.size) := Lib.hid (Nat.le_trans B1.out.size B.out.size)
      have HE := Lib.hid (fun W (h : Below w1.heap.size w1 W) => cells2 h a1 a2)
      obtain ⟨x1, x2⟩ := HE.out wo B.out
      clear a1 a2
      clear hs hsk
      go_wp2_with fail
      go_loopw [5, 7] (fun z q wr => ∃ c : Nat, q = .int .i64 (s.2 - (c : Int)) ∧ (c : Int) ≤ s.2 - s.1 + 1 ∧ Hid (NOwn wr w1.heap.size z (dn L (j + 1) ++ (rng s.1 s.2).reverse.take c)) ∧ Hid (Below w1.heap.size w1 wr)) (fun _ q _ => (intOf q - s.1 + 1).toNat)
      case atStart => exact ⟨0, by simp, by have := HSK.out; omega, Lib.hid (by simpa using O.out), B⟩
      case round =>
        clear x1 x2 O B
        obtain ⟨c, rfl, hc, O, B⟩ := hrel
        obtain ⟨x1, x2⟩ := HE.out wr B.out
        have HPC := Lib.hid (HPL.out c)
        have HCC := HC.out
        by_cases ct : (c : Int) ≤ s.2 - s.1
        · have d1 : decide (s.2 - (c : Int) ≥ s.1) = true := by simp; omega
          have d1' : decide (s.1 ≤ s.2 - (c : Int)) = true := by simp; omega
          have HRR := Lib.hid (rng_rev ct)
          obtain ⟨P, hP⟩ : ∃ P, P = dn L (j + 1) ++ (rng s.1 s.2).reverse.take c := ⟨_, rfl⟩
          rw [← hP] at O HPC
          have HP := Lib.hid hP
          have HPN : Hid (dn L (j + 1) ++ (rng s.1 s.2).reverse.take (c + 1) = P ++ [s.2 - (c : Int)]) := Lib.hid (by rw [HRR.out, hP, List.append_assoc])
          have HPL2 : Hid (P.length ≤ 100000000) := Lib.hid (by have := HPC.out; omega)
          obtain ⟨pz, cz, rfl⟩ := O.out.shape
          have HSZ2 : Hid (w1.heap.size ≤ wr.heap.size) := Lib.hid B.out.size
          have hw1 : wrap64 (s.2 - (c : Int) - 1) = s.2 - (c : Int) - 1 := by have := HSK.out; unfold wrap64; omega
          have hcs : (c : Int) ≤ s.2 - s.1 := ct
          clear hP HCC ct
          by_cases z0 : s.2 - (c : Int) = 0
          · have dz : (s.2 - (c : Int) == 0) = true := by simpa using z0
            have HFU : Hid (P ++ [s.2 - (c : Int)] = dn L j) := Lib.hid (by
              rw [← HPN.out, HNX.out, rng_full (k := c + 1) (by have := HSK.out; omega)])
            clear z0
            go_wp2_with (first
              | (at_builtin; refine push_num (by rfl) (.tmp 32) (.tmp 34) (by rfl) (s.2 - (c : Int)) w1.heap.size _ P (by rfl) O.out wr.heap.size rfl (by rfl) HPL2.out HSZ2.out ?_; intro p3 c3 w3 own3 b3; have O3 := Lib.hid own3; have B3 := Lib.hid (B.out.trans b3); clear own3 b3))
            rw [HFU.out] at O3
            exact ⟨⟨j, rfl, by omega, O3, B3⟩, by simp [intOf] <;> omega⟩
          · have dz : (s.2 - (c : Int) == 0) = false := by simpa using z0
            clear z0
            go_wp2_with (first
              | (at_builtin; refine push_num (by rfl) (.tmp 32) (.tmp 34) (by rfl) (s.2 - (c : Int)) w1.heap.size _ P (by rfl) O.out wr.heap.size rfl (by rfl) HPL2.out HSZ2.out ?_; intro p3 c3 w3 own3 b3; have O3 := Lib.hid own3; have B3 := Lib.hid (B.out.trans b3); clear own3 b3))
            exact ⟨⟨c + 1, by go_num, by omega, Lib.hid (by rw [HPN.out]; exact O3.out), B3⟩, by simp [intOf] <;> omega⟩
        · have d1 : decide (s.2 - (c : Int) ≥ s.1) = false := by simp; omega
          have d1' : decide (s.1 ≤ s.2 - (c : Int)) = false := by simp; omega
          have HFU : Hid (dn L (j + 1) ++ (rng s.1 s.2).reverse.take c = dn L j) := Lib.hid (by rw [HNX.out, rng_full (k := c) (by omega)])
          rw [HFU.out] at O
          clear HCC
          go_wp2_with fail
          exact ⟨⟨j, rfl, by omega, O, B⟩, by simp [intOf] <;> omega⟩
end Go.Proofs.Ytpjfgkjhhmfhkaa
