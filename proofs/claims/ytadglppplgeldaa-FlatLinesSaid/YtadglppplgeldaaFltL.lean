/- FlatLines' walk. No condition. -/
import Derived.Test.YtadglppplgeldaaFltN
import Derived.Test.YtadglppplgeldaaFltK
namespace Go.Proofs.Ytadglppplgeldaa
open Go.RowKit
set_option maxRecDepth 20000

/-- A table in a variable, and its segments, beside what lay there. -/
structure LnI (w W : World) (tb : Nat) (p : Option Addr) (n c : Nat) (q : Option Addr) (m d : Nat) (M O : List (List Int)) (pl : Option Addr) (nl cl : Nat) (pa : Option Addr) (na ca : Nat) : Prop where
  tcell : W.heap[tb]? = some (.cells #[.slice p n c, .slice q m d] 41 (0, 0))
  lm : LS 0 W (.slice p n c) M
  lo : LS 0 W (.slice q m d) O
  gs : GS 0 W (.slice pl nl cl) (flt M O)
  al : NSeen W (.slice pa na ca) (alls M.length O.length)
  bel : Below w.heap.size w W
theorem LnI.kb {w W W' : World} {tb : Nat} {p : Option Addr} {n c : Nat} {q : Option Addr} {m d : Nat} {M O : List (List Int)} {pl : Option Addr} {nl cl : Nat} {pa : Option Addr} {na ca : Nat} (h : LnI w W tb p n c q m d M O pl nl cl pa na ca) (k : Below W.heap.size W W') : LnI w W' tb p n c q m d M O pl nl cl pa na ca :=
  ⟨(k.block _ (Array.getElem?_eq_some_iff.1 h.tcell).1).trans h.tcell, h.lm.kb k, h.lo.kb k, h.gs.kb k, h.al.kb k, h.bel.trans (k.mono h.bel.size)⟩
theorem nl_fit {M O : List (List Int)} {nl : Nat} (h : nl = (flt M O).length) (k : M.length ≤ 25 ∧ O.length ≤ 25) : nl ≤ 50 := by
  rw [h]
  unfold flt
  rw [List.length_append]
  have := sgs_len 0 M
  have := sgs_len spl O
  omega
theorem SegOf.len {low : Int} {L : List (List Int)} {a b t : Nat} {s : Sg} (h : SegOf low L a s b) (ht : t < b) : t < L.length := by
  by_cases e : t ≤ a
  · have := (List.getElem?_eq_some_iff.1 h.par).1; omega
  · exact (List.getElem?_eq_some_iff.1 (h.line t (by omega) ht)).1
theorem SegOf.par_len {M O : List (List Int)} {low : Int} {L : List (List Int)} {base a b : Nat} {s : Sg} (h : SegOf low L a s b) (ok : okt M O) (g : Grp M O low L base) : s.par.length ≤ 1000000000 := by
  have hok : okl M.length O.length low L := by
    rcases g with ⟨rfl, rfl, rfl⟩ | ⟨rfl, rfl, rfl⟩
    · exact ok.1
    · exact ok.2
  exact Nat.le_trans (hok _ _ h.par).1 (by decide)
/-- How large the numbers are. -/
theorem bounds {M O : List (List Int)} {low : Int} {L : List (List Int)} {base a b : Nat} {s : Sg} (g : Grp M O low L base) (h : SegOf low L a s b) (k : M.length ≤ 25 ∧ O.length ≤ 25) : (low = 0 ∨ low = spl) ∧ base ≤ 25 ∧ b ≤ 25 := by
  have h1 := h.lt
  have h2 := h.len (t := b - 1) (by omega)
  rcases g with ⟨rfl, rfl, rfl⟩ | ⟨rfl, rfl, rfl⟩
  · exact ⟨.inl rfl, by omega, by omega⟩
  · exact ⟨.inr rfl, by omega, by omega⟩
theorem fit_n {low : Int} {base b t : Nat} (h : (low = 0 ∨ low = spl) ∧ base ≤ 25 ∧ b ≤ 25) (ht : t < b) : wrap64 (((base + t : Nat) : Int) + 1) = ((base + (t + 1) : Nat) : Int) := by unfold wrap64; omega
theorem fit_i {low : Int} {base b t : Nat} (h : (low = 0 ∨ low = spl) ∧ base ≤ 25 ∧ b ≤ 25) (ht : t < b) : wrap64 (low + (t : Int) + 1) = low + ((t + 1 : Nat) : Int) := by unfold wrap64 spl at *; omega
theorem fit_m {low : Int} {base b t : Nat} (h : (low = 0 ∨ low = spl) ∧ base ≤ 25 ∧ b ≤ 25) (ht : t < b) : wrap64 (low + (t : Int) - 1) = low + (t : Int) - 1 := by unfold wrap64 spl at *; omega
theorem fit_r {low : Int} {base b t : Nat} (h : (low = 0 ∨ low = spl) ∧ base ≤ 25 ∧ b ≤ 25) (ht : t < b) : -9223372036854775808 ≤ low + (t : Int) ∧ low + (t : Int) < 9223372036854775808 := by unfold spl at *; omega
theorem meas_id {low : Int} {b t : Nat} (h : t < b) : (low + (b : Int) - intOf (.int .i64 (low + ((t + 1 : Nat) : Int)))).toNat < (low + (b : Int) - intOf (.int .i64 (low + (t : Int)))).toNat := by simp only [intOf]; omega
set_option maxHeartbeats 16000000 in
theorem lines_to (w : World) (pm : Option Addr) (nm cm : Nat) (po : Option Addr) (no co : Nat) (xs ys : List Int) (hx : RawN w pm nm cm xs) (hy : RawN w po no co ys) :
    Calls Try.prog 6 #[tv pm nm cm po no co] w fun e w' => e = .returned (.bool true) ∧ Below w.heap.size w w' := by
  have AL := (Below.refl w.heap.size w).alloc (Nat.le_refl _) (.cells #[.slice pm nm cm, .slice po no co] 39)
  have B0 := Lib.hid AL
  have HTB := Lib.hid (table_to (w.alloc (.cells #[.slice pm nm cm, .slice po no co] 39)) 0 (Nat.zero_le _) pm nm cm po no co xs ys ⟨hx.1, hx.2.1.kb AL, hx.2.2⟩ ⟨hy.1, hy.2.1.kb AL, hy.2.2⟩)
  clear hx hy AL
  go_enter Try.func6, Try.ntmps6
  go_wp2_with fail
  generalize w.alloc (.cells #[.slice pm nm cm, .slice po no co] 39) = w0 at *
  refine HTB.out.mono ?_
  rintro e w1 ⟨p, n, c, q, m, d, X, Z, rfl, l1, l2, hM, hO, b1⟩
  have HOK := raw_ok (xs.take 25) (ys.take 25) (by rw [List.length_take]; omega)
  have hXl : X.length = (xs.take 25).length := by have := congrArg List.length hM; rwa [List.length_map, tbG_len] at this
  have hZl : Z.length = (ys.take 25).length := by have := congrArg List.length hO; rwa [List.length_map, tbG_len] at this
  rw [← hXl, ← hM, ← hO] at HOK
  obtain ⟨M, hMM⟩ : ∃ M, M = X.map (·.2) := ⟨_, rfl⟩
  obtain ⟨O, hOO⟩ : ∃ O, O = Z.map (·.2) := ⟨_, rfl⟩
  have s1 := l1.seen
  have s2 := l2.seen
  rw [← hMM] at s1 HOK
  rw [← hOO] at s2 HOK
  have HML : Hid (M.length ≤ 25 ∧ O.length ≤ 25) := Lib.hid (by rw [hMM, hOO, List.length_map, List.length_map, hXl, hZl, List.length_take, List.length_take]; omega)
  have OK := Lib.hid HOK
  have AL := (Below.refl w1.heap.size w1).alloc (Nat.le_refl _) (.cells #[.slice p n c, .slice q m d] 41)
  have HT := Lib.hid (heap_alloc_last w1 (.cells #[.slice p n c, .slice q m d] 41))
  have S1 := Lib.hid (s1.kb AL)
  have S2 := Lib.hid (s2.kb AL)
  have BB := B0.out.trans (b1.mono B0.out.size)
  have B1 := Lib.hid (BB.trans (AL.mono BB.size))
  have HN := Lib.hid (And.intro s1.len.1 s2.len.1)
  clear AL BB B0 b1 s1 s2 l1 l2 hM hO hXl hZl hMM hOO HTB HOK
  go_wp2_with fail
  generalize w1.alloc (.cells #[.slice p n c, .slice q m d] 41) = w2 at *
  generalize w1.heap.size = tb at *
  refine (plain_to w2 p q n c m d).mono ?_
  rintro e w3 ⟨rfl, b3⟩
  have HT3 := Lib.hid ((b3.block _ (Array.getElem?_eq_some_iff.1 HT.out).1).trans HT.out)
  have S13 := Lib.hid (S1.out.kb b3)
  have S23 := Lib.hid (S2.out.kb b3)
  have B3 := Lib.hid (B1.out.trans (b3.mono B1.out.size))
  clear b3 HT S1 S2 B1
  go_wp2_with fail
  refine (build_to5 w3 0 (Nat.zero_le _) M O p q n c m d S13.out S23.out (by have := HML.out; have := HN.out; omega) (by have := HML.out; have := HN.out; omega)).mono ?_
  rintro e w4 ⟨v4, Y, rfl, g4, hy4, hyn, b4⟩
  have G4 := Lib.hid (hy4 OK.out ▸ g4.seen)
  obtain ⟨pl, nl, cl, rfl, hnl⟩ := g4.shape
  have HNL : Hid (nl = (flt M O).length) := Lib.hid (by obtain ⟨_, _, e, _⟩ := G4.out; injection e)
  have HT4 := Lib.hid ((b4.block _ (Array.getElem?_eq_some_iff.1 HT3.out).1).trans HT3.out)
  have S14 := Lib.hid (S13.out.kb b4)
  have S24 := Lib.hid (S23.out.kb b4)
  have B4 := Lib.hid (B3.out.trans (b4.mono B3.out.size))
  have hr0 := cell_ob5 HT4.out 0 rfl
  have hr1 := cell_ob5 HT4.out 1 rfl
  clear b4 g4 hy4 HT3 S13 S23 B3 hnl hyn
  go_wp2_with fail
  refine (all_to w4 p q n c m d (by have := HML.out; have := HN.out; omega) (by have := HML.out; have := HN.out; omega)).mono ?_
  rintro e w5 ⟨v5, rfl, o5, b5⟩
  rw [HN.out.1, HN.out.2] at o5
  obtain ⟨pa, na, ca, rfl, hna⟩ := o5.shape
  have HI5 : Hid (LnI w w5 tb p n c q m d M O pl nl cl pa na ca) := Lib.hid ⟨(b5.block _ (Array.getElem?_eq_some_iff.1 HT4.out).1).trans HT4.out, S14.out.kb b5, S24.out.kb b5, G4.out.kb b5, JOwn.seen o5, B4.out.trans (b5.mono B4.out.size)⟩
  have HNA : Hid (na = M.length + O.length) := Lib.hid (by rw [hna, alls_len])
  clear o5 hna b5 HT4 S14 S24 B4 G4 hr0 hr1
  go_wp2_with fail
  refine (known14_to w5).mono ?_
  rintro e w6 ⟨rfl, b6⟩
  have HI6 := Lib.hid (HI5.out.kb b6)
  clear HI5 b6
  go_wp2_with fail
  go_loopw [6, 7] (fun v6 v7 wr => ∃ i : Nat, i ≤ nl ∧ v7 = .int .i64 i ∧ v6 = .int .i64 (cum ((flt M O).take i) : Nat) ∧ Hid (LnI w wr tb p n c q m d M O pl nl cl pa na ca)) (fun _ v7 _ => nl - (intOf v7).toNat)
  case atStart => exact ⟨0, Nat.zero_le _, rfl, rfl, HI6⟩
  case round =>
    clear HI6
    obtain ⟨i, hi, rfl, rfl, HI⟩ := hrel
    by_cases hlt : i < nl
    · have j1 : wrap64 ((i : Int) + 1) = ((i + 1 : Nat) : Int) := by have := nl_fit HNL.out HML.out; unfold wrap64; omega
      have j2 : (0 : Int) ≤ i := Int.natCast_nonneg _
      have j3 : (i : Int) < nl := by omega
      have hil : i < (flt M O).length := by rw [← HNL.out]; exact hlt
      obtain ⟨bs, os, xv, rfl, r0, jx0⟩ := HI.out.gs.at hil
      obtain ⟨s, hs⟩ : ∃ s, s = (flt M O)[i] := ⟨_, rfl⟩
      rw [← hs] at r0
      have hsi : (flt M O)[i]? = some s := by rw [hs]; exact List.getElem?_eq_getElem hil
      obtain ⟨low, L, base, a, b, grp, sof, hc1, hc2⟩ := flt_at hsi
      have GR := Lib.hid grp
      have SO := Lib.hid sof
      have HC2 := Lib.hid hc2
      have HSI := Lib.hid hsi
      have HLT := Lib.hid hlt
      rw [hc1]
      have LB := Lib.hid (bounds grp sof HML.out)
      obtain ⟨a1, z2, z3, z4, z5⟩ := sg_cells r0
      have hgs := gsize
      have hlo := sof.lo
      rw [hlo] at a1
      clear z2 z3 z4 z5 jx0
      clear hs hil hi hlt hc1 hc2 hsi grp sof r0 hlo
      go_wp2_with fail
      clear a1
      rename World => wo
      go_loopw [6, 8] (fun v6 v8 wx => ∃ t nn : Nat, a ≤ t ∧ t ≤ b ∧ v8 = .int .i64 (low + (t : Int)) ∧ v6 = .int .i64 (nn : Int) ∧ Hid (nn = base + t) ∧ Hid (LnI w wx tb p n c q m d M O (some ⟨bs, os, none⟩) nl cl pa na ca)) (fun _ v8 _ => (low + (b : Int) - intOf v8).toNat)
      case atStart => exact ⟨a, base + a, Nat.le_refl _, Nat.le_of_lt SO.out.lt, rfl, rfl, Lib.hid rfl, HI⟩
      case round =>
        clear HI
        obtain ⟨t, nn, hat, htb, rfl, rfl, HNN, HI⟩ := hrel
        have hil : i < (flt M O).length := (List.getElem?_eq_some_iff.1 HSI.out).1
        obtain ⟨bs', os', xv, e0, r0, jx⟩ := HI.out.gs.at hil
        injection e0 with e0
        injection e0 with e1 e2 _
        subst e1 e2
        have hgi : (flt M O)[i] = s := (List.getElem?_eq_some_iff.1 HSI.out).2
        rw [hgi] at r0 jx
        obtain ⟨a1, a2, a3, a4, a5⟩ := sg_cells r0
        rw [SO.out.lo] at a1
        rw [SO.out.hi] at a2
        clear hil hgi r0
        by_cases htl : t < b
        · have d0 : decide (low + (t : Int) ≤ low + (b : Int) - 1) = true := by simp; omega
          have hLt : t < L.length := SO.out.len htl
          have hal := alls_at GR.out hLt
          rw [← HNN.out] at hal
          obtain ⟨aa, rfl, g1⟩ := cell_of_nseen HI.out.al hal
          have hna : nn < na := by rw [HNA.out]; have := (List.getElem?_eq_some_iff.1 hal).1; rw [alls_len] at this; exact this
          have hna1 : (nn : Int) < na := by omega
          have d1 : decide ((nn : Int) ≥ na) = false := by simp; omega
          have d1' : decide ((na : Int) ≤ (nn : Int)) = false := by simp; omega
          have d1'' : decide (na ≤ nn) = false := by simp; omega
          have hn0 : (0 : Int) ≤ (nn : Int) := Int.natCast_nonneg _
          have HNX : Hid (wrap64 ((nn : Int) + 1) = ((nn + 1 : Nat) : Int)) := Lib.hid (by have h9 := fit_n LB.out htl; rw [show base + (t + 1) = base + t + 1 from rfl, ← HNN.out] at h9; exact h9)
          have HID : Hid (wrap64 (low + (t : Int) + 1) = low + ((t + 1 : Nat) : Int)) := Lib.hid (fit_i LB.out htl)
          have hnx := HNX.out
          have hid := HID.out
          have hid1 : wrap64 (low + (t : Int) - 1) = low + (t : Int) - 1 := fit_m LB.out htl
          have HME := Lib.hid (meas_id (low := low) htl)
          have HLB := Lib.hid (show a ≤ t + 1 ∧ t + 1 ≤ b from ⟨Nat.le_succ_of_le hat, htl⟩)
          have hb0 := cell_ob5 HI.out.tcell 0 rfl
          have hb1 := cell_ob5 HI.out.tcell 1 rfl
          have HRP := Lib.hid (rpar_to wr 0 M O p q n c m d HI.out.lm HI.out.lo (by have := HML.out; have := HN.out; omega) (by have := HML.out; have := HN.out; omega) (low + (t : Int)) (fit_r LB.out htl))
          rw [tpar_at GR.out (by have := HML.out; unfold spl; omega) (List.getElem?_eq_getElem hLt)] at HRP
          have HLT2 := Lib.hid (List.getElem?_eq_getElem hLt)
          generalize L[t] = l at *
          have HAT := Lib.hid hat
          have HTB := Lib.hid htl
          obtain ⟨pxv, cxv, rfl⟩ := jx.form
          obtain ⟨np, hnp⟩ : ∃ np, np = s.par.length := ⟨_, rfl⟩
          rw [← hnp] at jx a3
          have JX := Lib.hid jx
          clear hnp
          clear hLt hal hna htb hat htl jx
          go_wp2_with fail
          refine HRP.out.mono ?_
          rintro e w9 ⟨v9, rfl, j9, b9⟩
          obtain ⟨px9, cx9, rfl⟩ := j9.form
          obtain ⟨nx, hnx9⟩ : ∃ nx, nx = l.length := ⟨_, rfl⟩
          rw [show (some l).getD [] = l from rfl] at j9 ⊢
          rw [← hnx9] at j9 ⊢
          have HNX9 := Lib.hid hnx9
          clear hnx9
          have HI9 := Lib.hid (HI.out.kb b9)
          have J9 := Lib.hid j9
          have JX9 := Lib.hid (JX.out.kb b9)
          replace a1 := (b9.cell (World.block_lt_of_cell? _ _ a1)).trans a1
          replace a2 := (b9.cell (World.block_lt_of_cell? _ _ a2)).trans a2
          replace a3 := (b9.cell (World.block_lt_of_cell? _ _ a3)).trans a3
          replace a4 := (b9.cell (World.block_lt_of_cell? _ _ a4)).trans a4
          clear HI HRP b9 j9 a5 g1 hb0 hb1
          by_cases hta : a < t
          · obtain rfl : l = [low + (t : Int) - 1] := Option.some.inj (HLT2.out.symm.trans (SO.out.line t hta HTB.out))
            obtain rfl : nx = 1 := HNX9.out
            obtain ⟨q9, rfl, g9⟩ := cell_of_nseen J9.out.1 (k := 0) rfl
            rw [add_zero5] at g9
            have e1 : decide (low + (t : Int) > low + (a : Int)) = true := by simp; omega
            have e2 : decide (low + (a : Int) < low + (t : Int)) = true := by simp; omega
            have e3 : decide ((a : Int) < (t : Int)) = true := by simp; omega
            have e4 : decide (a < t) = true := by simp; omega
            have e5 : (low + (t : Int) == low + (a : Int)) = false := by simp; omega
            have e6 : ((t : Int) == (a : Int)) = false := by simp; omega
            have e7 : (t == a) = false := by simp; omega
            clear hta
            go_wp2_with fail
            refine ⟨⟨t + 1, nn + 1, HLB.out.1, HLB.out.2, by first | rw [HID.out] | rfl, by first | rw [HNX.out] | rfl, Lib.hid (by rw [HNN.out]; rfl), HI9⟩, ?_⟩
            first | (rw [HID.out]; exact HME.out) | exact HME.out
          · obtain rfl : a = t := Nat.le_antisymm HAT.out (Nat.le_of_not_lt hta)
            obtain rfl : s.par = l := Option.some.inj (SO.out.par.symm.trans HLT2.out)
            have HSM := Lib.hid (sameInts_to w9 _ _ s.par s.par J9.out.1 JX9.out.1 (SO.out.par_len OK.out GR.out))
            have hroot : ((nx : Int) == 0) = s.root := by rw [SO.out.root, HNX9.out, len_zero]
            have e2 : decide (low + (a : Int) < low + (a : Int)) = false := by simp
            have HNO := Lib.hid (no_line GR.out (by have := HML.out; unfold spl; omega) OK.out SO.out)
            clear hta
            generalize s.root = rt at *
            by_cases h1 : nx = 1
            · subst h1
              obtain ⟨y, hy⟩ : ∃ y, s.par = [y] := by
                match hp : s.par, HNX9.out with
                | [y], _ => exact ⟨y, rfl⟩
              obtain ⟨q9, rfl, g9⟩ := cell_of_nseen J9.out.1 (k := 0) (by rw [hy]; rfl)
              rw [add_zero5] at g9
              have e3 : (y == low + (a : Int) - 1) = false := by
                have h := HNO.out
                rw [hy] at h
                simpa using h
              obtain rfl : rt = false := hroot.symm
              clear hy
              go_wp2_with fail
              refine HSM.out.mono ?_
              rintro e w10 ⟨⟨r, rfl, hr⟩, b10⟩
              obtain rfl : r = true := by simpa using hr
              replace a1 := (b10.cell (World.block_lt_of_cell? _ _ a1)).trans a1
              replace a4 := (b10.cell (World.block_lt_of_cell? _ _ a4)).trans a4
              have HI9 := Lib.hid (HI9.out.kb b10)
              clear b10 hr
              go_wp2_with fail
              refine ⟨⟨a + 1, nn + 1, HLB.out.1, HLB.out.2, by first | rw [HID.out] | rfl, by first | rw [HNX.out] | rfl, Lib.hid (by rw [HNN.out]; rfl), HI9⟩, ?_⟩
              first | (rw [HID.out]; exact HME.out) | exact HME.out
            · have e3 : ((nx : Int) == 1) = false := by simp; omega
              clear h1
              go_wp2_with fail
              refine HSM.out.mono ?_
              rintro e w10 ⟨⟨r, rfl, hr⟩, b10⟩
              obtain rfl : r = true := by simpa using hr
              replace a1 := (b10.cell (World.block_lt_of_cell? _ _ a1)).trans a1
              replace a4 := (b10.cell (World.block_lt_of_cell? _ _ a4)).trans a4
              have HI9 := Lib.hid (HI9.out.kb b10)
              clear b10 hr
              go_wp2_with fail
              refine ⟨⟨a + 1, nn + 1, HLB.out.1, HLB.out.2, by first | rw [HID.out] | rfl, by first | rw [HNX.out] | rfl, Lib.hid (by rw [HNN.out]; rfl), HI9⟩, ?_⟩
              first | (rw [HID.out]; exact HME.out) | exact HME.out
        · obtain rfl : t = b := Nat.le_antisymm htb (Nat.le_of_not_lt htl)
          have d0 : decide (low + (t : Int) ≤ low + (t : Int) - 1) = false := by simp; omega
          have d0' : decide ((t : Int) ≤ (t : Int) - 1) = false := by simp; omega
          have HE : Hid (nn = cum ((flt M O).take (i + 1))) := Lib.hid (by rw [HC2.out, HNN.out])
          clear htl
          go_wp2_with fail
          refine ⟨⟨i + 1, HLT.out, by first | rw [j1] | rfl, by rw [← HE.out], HI⟩, ?_⟩
          first | (rw [j1]; exact meas5 HLT.out) | exact meas5 HLT.out
    · obtain rfl : i = nl := Nat.le_antisymm hi (Nat.le_of_not_lt hlt)
      have HE : Hid (cum ((flt M O).take i) = na) := Lib.hid (by rw [HNL.out, List.take_length, flt_sum, HNA.out])
      rw [HE.out]
      have d0 : ((na : Int) == (na : Int)) = true := by simp
      go_wp2_with fail
      go_ret
      exact ⟨by first | rfl | simp, HI.out.bel⟩
end Go.Proofs.Ytadglppplgeldaa
