/- The reference's tables: All, Parents; what the statements make of raw numbers: parents. Conditions: no more than a million of each. -/
import Derived.Test.YtadglppplgeldaaFltS
namespace Go.Proofs.Ytadglppplgeldaa
open Go.RowKit
set_option maxRecDepth 20000

/-- All IDs of a table. -/
def alls (n m : Nat) : List Int := (List.range n).map (fun i : Nat => (i : Int)) ++ (List.range m).map (fun i : Nat => spl + (i : Int))
theorem alls_len (n m : Nat) : (alls n m).length = n + m := by unfold alls; simp
theorem alls_m (k : Nat) : alls (k + 1) 0 = alls k 0 ++ [(k : Int)] := by unfold alls; rw [List.range_succ]; simp
theorem alls_o (n k : Nat) : alls n (k + 1) = alls n k ++ [spl + (k : Int)] := by unfold alls; rw [List.range_succ]; simp
section
variable {ops : Array Oper} {rest : List Oper} {o : Oper} {a : Act} {w : World} {Q : Exit → Act → World → Prop}
theorem push_int (hgd : o.guard = none) (s x : Operand) (ho : o.op = .call { callee := .builtin .append, args := #[s, x], argTypes := #[22, 22] })
    (B : Nat) (v : Value) (l : List Int) (hs : a.eval s = v) (G : JOwn w B v l) (b : Nat) (hx : a.eval x = .slice (some ⟨b, 0, none⟩) 1 1) (y : Int) (hb : w.heap[b]? = some (.cells #[.int .i64 y] 3 (0, 0)))
    (hR : B ≤ w.heap.size) (hl : l.length ≤ 2000000)
    (h : ∀ g cap w', JOwn w' B (.slice (some ⟨g, 0, none⟩) (l.length + 1) cap) (l ++ [y]) → Only (fun k => v.ownBlock = some k) w w' → wpList Try.prog ops Q rest (a.put o.dst (.slice (some ⟨g, 0, none⟩) (l.length + 1) cap)) w') :
    wpList Try.prog ops Q (o :: rest) a w := by
  obtain ⟨i0, hi0, hz0, hz1, hz2⟩ := info_parts iinfo
  refine wpList_append_lies _ hgd s x _ ho B 3 i0 _ 1 8 Try.underlying22 hi0 hz0 hz1 hz2 rfl (by decide) v l.length _ hs G ⟨b, 0, none⟩ 1 1 [.int .i64 y] hx (by rfl) (World.news_of_block hb) (by simp [Value.oneCell']) (by decide) (by unfold maxLen; omega) (by omega) hR _ rfl ?_
  intro g cap w' own grw hat _
  refine h g cap w' (by unfold JOwn; rw [List.length_append, List.map_append]; exact own) ((Only.refl (fun k => v.ownBlock = some k) w).grown grw (fun k _ e => e))
end
theorem JOwn.shape {w : World} {B : Nat} {v : Value} {l : List Int} (h : JOwn w B v l) : ∃ p n c, v = .slice p n c ∧ n = l.length := by
  rcases h.2 with ⟨h1, h2⟩ | ⟨g, cap, cur, h1, _⟩
  · exact ⟨_, _, _, h1, h2.symm⟩
  · exact ⟨_, _, _, h1, rfl⟩
set_option maxHeartbeats 8000000 in
theorem all_to (w : World) (p q : Option Addr) (n c m d : Nat) (hn : n ≤ 1000000) (hm : m ≤ 1000000) :
    Calls Try.prog 27 #[tv p n c q m d] w fun e w' => ∃ v, e = .returned v ∧ JOwn w' w.heap.size v (alls n m) ∧ Below w.heap.size w w' := by
  have B0 := Lib.hid ((Below.refl w.heap.size w).alloc (Nat.le_refl _) (.cells #[.slice p n c, .slice q m d] 41))
  have HT := Lib.hid (heap_alloc_last w (.cells #[.slice p n c, .slice q m d] 41))
  have HN := Lib.hid hn
  have HM := Lib.hid hm
  obtain ⟨R, hR⟩ : ∃ R, R = w.heap.size := ⟨_, rfl⟩
  rw [← hR] at B0 HT ⊢
  have HR := Lib.hid hR
  clear hn hm hR
  go_enter Try.func27, Try.ntmps27
  go_wp2_with fail
  rw [← HR.out]
  generalize w.alloc (.cells #[.slice p n c, .slice q m d] 41) = w0 at *
  go_loopw [3, 4] (fun v i wr => ∃ (k : Nat) (pl : Option Addr) (nl cl : Nat), k ≤ n ∧ v = .slice pl nl cl ∧ i = .int .i64 k ∧ Hid (JOwn wr R (.slice pl nl cl) (alls k 0)) ∧ Hid (Below R w wr) ∧ Hid (wr.heap[R]? = some (.cells #[.slice p n c, .slice q m d] 41 (0, 0)))) (fun _ i _ => n - (intOf i).toNat)
  case atStart => exact ⟨0, none, 0, 0, Nat.zero_le _, rfl, rfl, Lib.hid (World.ownsRow_nil _ _ _ _), B0, HT⟩
  case round =>
    clear B0 HT
    obtain ⟨k, pl, nl, cl, hk, rfl, rfl, JO, B0, HT⟩ := hrel
    have hr0 := cell_ob5 HT.out 0 rfl
    have hr1 := cell_ob5 HT.out 1 rfl
    by_cases hlt : k < n
    · obtain ⟨j1, j2, j3⟩ := next5 hlt HN.out
      have HLT := Lib.hid hlt
      have AL := (Below.refl wr.heap.size wr).alloc (Nat.le_refl _) (.cells #[.int .i64 (k : Int)] 3)
      have HB := Lib.hid (heap_alloc_last wr (.cells #[.int .i64 (k : Int)] 3))
      have JO1 := Lib.hid (ownsRow_kb JO.out AL)
      have HT1 := Lib.hid ((AL.block _ (Array.getElem?_eq_some_iff.1 HT.out).1).trans HT.out)
      have SZ := Lib.hid (Nat.le_trans (show R ≤ wr.heap.size by have h1 := B0.out.size; have h2 := HR.out; omega) AL.size)
      have B1 := Lib.hid (B0.out.trans (AL.mono (by have h1 := B0.out.size; have h2 := HR.out; omega)))
      have HFT := Lib.hid (show (alls k 0).length ≤ 2000000 by rw [alls_len]; have := HN.out; omega)
      clear hlt hk AL
      go_wp2_with (at_builtin; refine push_int (by rfl) (.tmp 13) (.tmp 15) (by rfl) R _ (alls k 0) (by rfl) JO1.out wr.heap.size (by rfl) (k : Int) HB.out SZ.out HFT.out ?_; intro g5 cap5 w5 J5 o5; have J6 := Lib.hid J5; have B5 := Lib.hid (B1.out.trans (o5.below SZ.out (fun k e => (JO1.out.lt k e).1))); have HT5 := Lib.hid ((o5.block _ (Array.getElem?_eq_some_iff.1 HT1.out).1 (fun e => by rcases JO1.out.2 with ⟨h1, _⟩ | ⟨g, cap, cur, h1, _, hg, _⟩ <;> (rw [h1] at e; first | (cases e; done) | (obtain rfl : g = R := (by simpa [Value.ownBlock] using e); rw [HT1.out] at hg; injection hg with hg; injection hg with _ hg _; exact absurd hg (by decide))))).trans HT1.out); clear J5 o5)
      refine ⟨⟨k + 1, _, _, _, HLT.out, rfl, by rw [j1], Lib.hid (by rw [alls_m]; exact J6.out), B5, HT5⟩, ?_⟩
      rw [j1]; exact meas5 HLT.out
    · obtain rfl : k = n := Nat.le_antisymm hk (Nat.le_of_not_lt hlt)
      have JE := Lib.hid JO.out
      have BE := Lib.hid B0.out
      have HTE := Lib.hid HT.out
      clear JO B0 HT hk hlt
      go_wp2_with fail
      clear hr0 hr1
      rename World => we
      go_loopw [3, 5] (fun v i wr => ∃ (j : Nat) (pl : Option Addr) (nl cl : Nat), j ≤ m ∧ v = .slice pl nl cl ∧ i = .int .i64 j ∧ Hid (JOwn wr R (.slice pl nl cl) (alls k j)) ∧ Hid (Below R w wr) ∧ Hid (wr.heap[R]? = some (.cells #[.slice p k c, .slice q m d] 41 (0, 0)))) (fun _ i _ => m - (intOf i).toNat)
      case atStart => exact ⟨0, pl, nl, cl, Nat.zero_le _, rfl, rfl, JE, BE, HTE⟩
      case round =>
        clear JE BE HTE
        obtain ⟨j, pl, nl, cl, hk, rfl, rfl, JO, B0, HT⟩ := hrel
        have hr0 := cell_ob5 HT.out 0 rfl
        have hr1 := cell_ob5 HT.out 1 rfl
        by_cases hlt : j < m
        · obtain ⟨j1, j2, j3⟩ := next5 hlt HM.out
          have HLT := Lib.hid hlt
          have hsf : wrap64 (1099511627776 + (j : Int)) = 1099511627776 + (j : Int) := low_fit (low := spl) (.inr rfl) (Nat.le_trans (Nat.le_of_lt hlt) HM.out)
          have AL := (Below.refl wr.heap.size wr).alloc (Nat.le_refl _) (.cells #[.int .i64 (1099511627776 + (j : Int))] 3)
          have HB := Lib.hid (heap_alloc_last wr (.cells #[.int .i64 (1099511627776 + (j : Int))] 3))
          have JO1 := Lib.hid (ownsRow_kb JO.out AL)
          have HT1 := Lib.hid ((AL.block _ (Array.getElem?_eq_some_iff.1 HT.out).1).trans HT.out)
          have SZ := Lib.hid (Nat.le_trans (show R ≤ wr.heap.size by have h1 := B0.out.size; have h2 := HR.out; omega) AL.size)
          have B1 := Lib.hid (B0.out.trans (AL.mono (by have h1 := B0.out.size; have h2 := HR.out; omega)))
          have HFT := Lib.hid (show (alls k j).length ≤ 2000000 by rw [alls_len]; have := HN.out; have := HM.out; omega)
          clear hlt hk AL
          go_wp2_with (at_builtin; refine push_int (by rfl) (.tmp 24) (.tmp 27) (by rfl) R _ (alls k j) (by rfl) JO1.out wr.heap.size (by rfl) (1099511627776 + (j : Int)) HB.out SZ.out HFT.out ?_; intro g5 cap5 w5 J5 o5; have J6 := Lib.hid J5; have B5 := Lib.hid (B1.out.trans (o5.below SZ.out (fun k e => (JO1.out.lt k e).1))); have HT5 := Lib.hid ((o5.block _ (Array.getElem?_eq_some_iff.1 HT1.out).1 (fun e => by rcases JO1.out.2 with ⟨h1, _⟩ | ⟨g, cap, cur, h1, _, hg, _⟩ <;> (rw [h1] at e; first | (cases e; done) | (obtain rfl : g = R := (by simpa [Value.ownBlock] using e); rw [HT1.out] at hg; injection hg with hg; injection hg with _ hg _; exact absurd hg (by decide))))).trans HT1.out); clear J5 o5)
          refine ⟨⟨j + 1, _, _, _, HLT.out, rfl, by rw [j1], Lib.hid (by rw [alls_o]; exact J6.out), B5, HT5⟩, ?_⟩
          rw [j1]; exact meas5 HLT.out
        · obtain rfl : j = m := Nat.le_antisymm hk (Nat.le_of_not_lt hlt)
          go_wp2_with fail
          go_ret
          exact ⟨_, rfl, JO.out, by rw [HR.out] at *; exact B0.out⟩
set_option maxHeartbeats 8000000 in
/-- The reference's Parents. -/
theorem rpar_to (w : World) (B : Nat) (M O : List (List Int)) (p q : Option Addr) (n c m d : Nat) (hM : LS B w (.slice p n c) M) (hO : LS B w (.slice q m d) O) (hn : n ≤ 1000000) (hm : m ≤ 1000000) (x : Int) (hx : -9223372036854775808 ≤ x ∧ x < 9223372036854775808) :
    Calls Try.prog 22 #[tv p n c q m d, .int .i64 x] w fun e w' => ∃ v, e = .returned (.tuple #[v, .bool (tpar M O x).isSome]) ∧ JS B w' v ((tpar M O x).getD []) ∧ Below w.heap.size w w' := by
  have B0 := Lib.hid ((Below.refl w.heap.size w).alloc (Nat.le_refl _) (.cells #[.slice p n c, .slice q m d] 41))
  have HT := Lib.hid (heap_alloc_last w (.cells #[.slice p n c, .slice q m d] 41))
  have HM := Lib.hid (hM.kb B0.out)
  have HO := Lib.hid (hO.kb B0.out)
  have HNM := Lib.hid hM.len.1
  have HNO := Lib.hid hO.len.1
  have hr0 := cell_ob5 HT.out 0 rfl
  have hr1 := cell_ob5 HT.out 1 rfl
  have hs0 : wrap64 (1099511627776 + (m : Int)) = 1099511627776 + (m : Int) := low_fit (low := spl) (.inr rfl) hm
  clear hM hO
  by_cases h1 : 0 ≤ x ∧ x < n
  · have d1 : decide (x ≥ 0) = true := by simpa using h1.1
    have d1' : decide (0 ≤ x) = true := by simpa using h1.1
    have d2 : decide (x < (n : Int)) = true := by simpa using h1.2
    have hk : x.toNat < M.length := by rw [← HNM.out]; omega
    obtain ⟨k, hkx⟩ : ∃ k : Nat, x = k := ⟨x.toNat, by omega⟩
    subst hkx
    obtain ⟨b, o, v, rfl, g1, g2⟩ := HM.out.at hk
    simp only [Int.toNat_natCast] at g1 g2
    have HTP : Hid (tpar M O (k : Int) = some M[k]) := Lib.hid (by unfold tpar; rw [if_pos ⟨by omega, by rw [← HNM.out]; exact h1.2⟩, Int.toNat_natCast]; exact List.getElem?_eq_getElem hk)
    obtain ⟨pv, cv, rfl⟩ := g2.form
    have G2 := Lib.hid g2
    have hk0 := h1.1
    have hk1 := h1.2
    clear h1 g2 hn hm hx
    go_enter Try.func22, Try.ntmps22
    go_wp2_with fail
    go_ret2
    rw [HTP.out]
    exact ⟨_, rfl, G2.out, B0.out⟩
  · have hd : (decide (0 ≤ x) && decide (x < (n : Int))) = false := by
      rw [Bool.and_eq_false_iff]
      by_cases h : 0 ≤ x
      · right; simp; omega
      · left; simp; omega
    by_cases h2 : spl ≤ x ∧ x < spl + (m : Int)
    · have hsp : (spl : Int) = 1099511627776 := rfl
      obtain ⟨k, hkx⟩ : ∃ k : Nat, x = 1099511627776 + (k : Int) := ⟨(x - spl).toNat, by omega⟩
      have hk : k < O.length := by rw [← HNO.out]; omega
      have d0 : decide (x ≥ 0) = true := by simp; omega
      have d0' : decide (0 ≤ x) = true := by simp; omega
      have d1 : decide (x < (n : Int)) = false := by simp; omega
      have d3 : decide (x ≥ 1099511627776) = true := by simp; omega
      have d3' : decide (1099511627776 ≤ x) = true := by simp; omega
      have d4 : decide (x < 1099511627776 + (m : Int)) = true := by simp; omega
      obtain ⟨b, o, v, rfl, g1, g2⟩ := HO.out.at hk
      have hsf : wrap64 (x - 1099511627776) = (k : Int) := by rw [hkx]; unfold wrap64; omega
      have HTP : Hid (tpar M O x = some O[k]) := Lib.hid (by
        unfold tpar
        rw [if_neg (by rw [← HNM.out]; exact h1), if_pos ⟨h2.1, by rw [← HNO.out]; exact h2.2⟩, show (x - spl).toNat = k by omega]
        exact List.getElem?_eq_getElem hk)
      have hkm : (k : Int) < m := by omega
      have hk0 : (0 : Int) ≤ k := Int.natCast_nonneg _
      obtain ⟨pv, cv, rfl⟩ := g2.form
      have G2 := Lib.hid g2
      clear h1 h2 g2 hn hm hx hd hkx
      go_enter Try.func22, Try.ntmps22
      go_wp2_with fail
      go_ret2
      rw [HTP.out]
      exact ⟨_, rfl, G2.out, B0.out⟩
    · have HTP : Hid (tpar M O x = none) := Lib.hid (by
        unfold tpar
        rw [if_neg (by rw [← HNM.out]; exact h1), if_neg (by rw [← HNO.out]; exact h2)])
      have JN := fun W => JS.nil B W
      have hsp : (spl : Int) = 1099511627776 := rfl
      rw [hsp] at h2
      rcases (show x < 0 ∨ (0 ≤ x ∧ (n : Int) ≤ x ∧ x < 1099511627776) ∨ (0 ≤ x ∧ (n : Int) ≤ x ∧ 1099511627776 ≤ x ∧ 1099511627776 + (m : Int) ≤ x) by omega) with h | h | h
      · have d0 : decide (x ≥ 0) = false := by simp; omega
        have d0' : decide (0 ≤ x) = false := by simp; omega
        have d3 : decide (x ≥ 1099511627776) = false := by simp; omega
        have d3' : decide (1099511627776 ≤ x) = false := by simp; omega
        clear h hn hm hx h1 h2 hd
        go_enter Try.func22, Try.ntmps22
        go_wp2_with fail
        go_ret2
        rw [HTP.out]
        exact ⟨_, rfl, JN _, B0.out⟩
      · have d0 : decide (x ≥ 0) = true := by simp; omega
        have d0' : decide (0 ≤ x) = true := by simp; omega
        have d1 : decide (x < (n : Int)) = false := by simp; omega
        have d3 : decide (x ≥ 1099511627776) = false := by simp; omega
        have d3' : decide (1099511627776 ≤ x) = false := by simp; omega
        clear h hn hm hx h1 h2 hd
        go_enter Try.func22, Try.ntmps22
        go_wp2_with fail
        go_ret2
        rw [HTP.out]
        exact ⟨_, rfl, JN _, B0.out⟩
      · have d0 : decide (x ≥ 0) = true := by simp; omega
        have d0' : decide (0 ≤ x) = true := by simp; omega
        have d1 : decide (x < (n : Int)) = false := by simp; omega
        have d3 : decide (x ≥ 1099511627776) = true := by simp; omega
        have d3' : decide (1099511627776 ≤ x) = true := by simp; omega
        have d4 : decide (x < 1099511627776 + (m : Int)) = false := by simp; omega
        clear h hn hm hx h1 h2 hd
        go_enter Try.func22, Try.ntmps22
        go_wp2_with fail
        go_ret2
        rw [HTP.out]
        exact ⟨_, rfl, JN _, B0.out⟩
end Go.Proofs.Ytadglppplgeldaa
