/- OrderRises' walk. No condition. -/
import Derived.Test.YthfkmfepeafgjaaOrdB
import Derived.Test.YthfkmfepeafgjaaOrdF
import Derived.Deep.MidRow
namespace Go.Proofs.Ythfkmfepeafgjaa
open Go.RowKit
open Go.Maps

theorem up_take {G : Gr} {o : List Key} (h : PB G o) (i : Nat) : PB G (o.take i) := fun j x hx p hp => by
  rw [List.getElem?_take] at hx
  split at hx
  · have := h j x hx p hp
    rw [List.take_take, Nat.min_eq_left (by omega)]
    exact this
  · cases hx
theorem pb_rising {G : Gr} {o : List Key} (h : PB G o) (hn : o.Nodup) (hi : ∀ x ∈ o, (aget x G).isSome = true) : rising G o := fun i x hx => by
  refine ⟨hi x (List.mem_of_getElem? hx), fun a ha hu => ?_⟩
  have h1 := (up_take h i).up hu ha
  obtain ⟨j, hj, e⟩ := List.mem_iff_getElem.1 h1
  rw [List.length_take] at hj
  rw [List.getElem_take] at e
  obtain ⟨hi', e2⟩ := List.getElem?_eq_some_iff.1 hx
  have := (List.getElem_inj hn).1 (e.trans e2.symm)
  omega
theorem in_h32 {G : Gr} {o : List Key} (hG : H32 (G.map (·.1))) (hi : ∀ x ∈ o, (aget x G).isSome = true) : H32 o := fun x hx => by
  have := hi x hx
  rw [aget_isSome] at this
  exact hG x (of_decide_eq_true this)
/-- What a walk without done ones tells. -/
theorem walked {X : Lx} (W : Wf (gr X)) {E o : List Key} {N : Nat} (v : VL (gr X) (fun _ => false) N [] (E.filter (hasB (gr X))) o) :
    rising (gr X) o ∧ rsort o = ancs (gr X) E ∧ PB (gr X) o ∧ H32 o ∧ o.length ≤ 1000 := by
  have hE : ∀ x ∈ E.filter (hasB (gr X)), (aget x (gr X)).isSome = true := fun x hx => (List.mem_filter.1 hx).2
  have hp := (v.pb (PB.nil _)).1
  have hi := v.inG W.clo (fun _ h => by cases h) hE
  have hn := v.nodup W List.nodup_nil
  refine ⟨pb_rising hp hn hi, ?_, hp, in_h32 (keys_h32 W) hi, vl_len W v hE⟩
  refine asc_ext _ _ (rsort_asc o) (ancs_asc W.asc E) fun x => ?_
  rw [rsort_mem, ancs_mem W.clo, v.mem_iff (PB.nil _)]
  constructor
  · rintro (h | ⟨a, ha, hu⟩)
    · cases h
    · exact ⟨a, (List.mem_filter.1 ha).1, (List.mem_filter.1 ha).2, hu⟩
  · rintro ⟨a, ha, hs, hu⟩
    exact .inr ⟨a, List.mem_filter.2 ⟨ha, hs⟩, hu⟩
theorem take_h {Hs : List Int} {m : Nat} : ((Hs.map hh).take m).length ≤ m := by rw [List.length_take]; exact Nat.min_le_left _ _
set_option linter.unusedSimpArgs false in
set_option maxRecDepth 20000 in
set_option maxHeartbeats 8000000 in
attribute [local go_sem ↓] hld_open in
theorem rises_to (w : World) (p : Option Addr) (n cap : Nat) (E : List Rq) (hn : n = E.length) (hE : RqSeen w p E) (pH : Option Addr) (nH cH : Nat) (Hs : List Int) (hnH : nH = Hs.length) (hI : ISeen w (.slice pH nH cH) Hs) :
    Calls Try.prog 5 #[.slice p n cap, .slice pH nH cH] w fun e w' => e = .returned (.bool true) ∧ Below w.heap.size w w' := by
  have HBO := Lib.hid (both_to w p n cap E hn hE)
  have HNH := Lib.hid hnH
  have HI := Lib.hid hI
  clear hn hE hnH hI
  go_enter Try.func5, Try.ntmps5
  go_wp2_with fail
  refine HBO.out.mono ?_
  rintro e w1 ⟨g, bm, rg, X, p', n', c', T, rfl, kq⟩
  have B1 := Lib.hid kq.k.bel
  have G1 := Lib.hid kq.k.ga
  have HW := Lib.hid kq.wf
  clear kq HBO
  have hnp : ∀ w : World, (binOp .eql 22 (gp g) (.pointer none)).run Try.prog w = .ok (.bool false) w := fun w => by kernel_rfl
  go_wp2_with fail
  refine (known12_to w1).mono ?_
  rintro e w2 ⟨rfl, b2⟩
  have B2 := Lib.hid (B1.out.trans (b2.mono B1.out.size))
  have G2 := Lib.hid (G1.out.kb b2)
  clear b2 B1 G1
  have HHS := Lib.hid (lhashes_to w2 pH nH cH Hs HNH.out (HI.out.kb' B2.out) 8 (by decide))
  go_wp2_with fail
  refine HHS.out.mono ?_
  rintro e w3 ⟨vh, rfl, oh, b3⟩
  obtain ⟨q3, m3, c3, rfl, hm3⟩ := own_sh oh
  have hsL := HSeen.own oh
  have hl32 : H32 ((Hs.map hh).take 8) := fun x hx => hh_32 Hs x (List.mem_of_mem_take hx)
  have hll : ((Hs.map hh).take 8).length ≤ 8 := take_h
  generalize (Hs.map hh).take 8 = L at *
  have HSL := Lib.hid hsL
  have HL32 := Lib.hid hl32
  have HLL := Lib.hid hll
  have B3 := Lib.hid (B2.out.trans (b3.mono B2.out.size))
  have G3 := Lib.hid (G2.out.kb b3)
  clear hm3 hsL hl32 hll oh b3 B2 G2 HHS
  have HWK := Lib.hid (walk_to w3 g bm X G3.out HW.out (.slice q3 m3 c3) L HSL.out HL32.out (Nat.le_trans HLL.out (by decide)) .nilFunc (fun _ => false) (Dn.none w3))
  go_wp2_with fail
  refine HWK.out.mono ?_
  rintro e w4 ⟨va, A, rfl, oa, ⟨N, V⟩, b4⟩
  obtain ⟨hri, hrs, hpb, ha32, hal⟩ := walked HW.out V
  obtain ⟨qa, ma, ca, rfl, hma⟩ := own_sh oa
  have HMA := Lib.hid hma
  have OA := Lib.hid oa
  have HRI := Lib.hid hri
  have HRS := Lib.hid hrs
  have HPB := Lib.hid hpb
  have HA32 := Lib.hid ha32
  have HAL := Lib.hid hal
  have B4 := Lib.hid (B3.out.trans (b4.mono B3.out.size))
  have G4 := Lib.hid (G3.out.kb b4)
  have HS4 := Lib.hid (HSL.out.mild (mild_below b4))
  obtain ⟨Ba, hBa⟩ : ∃ Ba, Ba = w3.heap.size := ⟨_, rfl⟩
  rw [← hBa] at OA
  clear hri hrs hpb ha32 hal hma oa V b4 B3 G3 HSL HWK hBa
  have HRT := Lib.hid (rising_to w4 g bm X G4.out HW.out (.slice qa ma ca) A (HSeen.own OA.out) HA32.out (Nat.le_trans HAL.out (by decide)))
  go_wp2_with fail
  refine HRT.out.mono ?_
  rintro e w5 ⟨b, rfl, hb, b5⟩
  obtain rfl : b = true := hb.2 HRI.out
  have B5 := Lib.hid (B4.out.trans (b5.mono B4.out.size))
  have G5 := Lib.hid (G4.out.kb b5)
  have HS5 := Lib.hid (HS4.out.mild (mild_below b5))
  have OA5 := Lib.hid (own_below OA.out b5)
  clear hb b5 B4 G4 HS4 OA HRT
  have HSO := Lib.hid (rsort_any w5 A HA32.out (.slice qa ma ca) Ba OA5.out (by have := HAL.out; omega))
  go_wp2_with fail
  refine HSO.out.mono ?_
  rintro e w6 ⟨vs, rfl, os, b6⟩
  rw [HRS.out] at os
  obtain ⟨qs, ms, cs, rfl, hms⟩ := own_sh os
  have OS := Lib.hid (HSeen.own os)
  have B6 := Lib.hid (B5.out.trans (b6.mono B5.out.size))
  have G6 := Lib.hid (G5.out.kb b6)
  have HS6 := Lib.hid (HS5.out.mild (mild_below b6))
  have OA6 := Lib.hid (own_below OA5.out b6)
  clear hms os b6 B5 G5 HS5 OA5 HSO
  have HAN := Lib.hid (ancestors_to w6 g bm X (.slice q3 m3 c3) L G6.out HS6.out HL32.out (Nat.le_trans HLL.out (by decide)) (Nat.le_trans HW.out.xlen (by decide)) HW.out.clo (HW.out.parm 1000 (by decide)))
  go_wp2_with fail
  refine HAN.out.mono ?_
  rintro e w7 ⟨vn, rfl, on, b7⟩
  have h32a : H32 (ancs (gr X) L) := by rw [← HRS.out]; exact rsort_h32 HA32.out
  have hla : (ancs (gr X) L).length ≤ 1000000 := by rw [← HRS.out]; exact Nat.le_trans (rsort_length A) (Nat.le_trans HAL.out (by decide))
  obtain ⟨qn, mn, cn, rfl, hmn⟩ := own_sh on
  have HSN := Lib.hid (same_two w7 (.slice qs ms cs) (.slice qn mn cn) _ _ (OS.out.mild (mild_below b7)) (HSeen.own on) h32a h32a hla hla)
  have B7 := Lib.hid (B6.out.trans (b7.mono B6.out.size))
  have G7 := Lib.hid (G6.out.kb b7)
  have OA7 := Lib.hid (own_below OA6.out b7)
  clear h32a hla hmn on b7 B6 G6 HS6 OA6 HAN OS
  go_wp2_with fail
  refine HSN.out.mono ?_
  rintro e w8 ⟨rfl, nq, rfl⟩
  simp only [decide_true]
  have bq : Below w7.heap.size w7 (w7.drewN nq) := blw_qt _ nq w7
  have B8 := Lib.hid (B7.out.trans (bq.mono B7.out.size))
  have G8 := Lib.hid (G7.out.kb bq)
  have OA8 := Lib.hid (own_below OA7.out bq)
  clear bq B7 G7 OA7 HSN
  generalize w7.drewN nq = w8 at *
  clear HRS HRI HL32 HLL
  go_wp2_with fail
  go_loopw [9] (fun v9 wr => ∃ i : Nat, v9 = .int .i64 i ∧ i ≤ ma ∧ Hid (Below w8.heap.size w8 wr)) (fun v9 _ => ma - (intOf v9).toNat)
  case atStart => exact ⟨0, rfl, Nat.zero_le _, Lib.hid (Below.refl _ _)⟩
  case round =>
    obtain ⟨i, rfl, hi, C⟩ := hrel
    by_cases hlt : i < ma
    · have hl1 : (i : Int) < ma := by omega
      have hl0 : (0 : Int) ≤ i := by omega
      have HI1 : Hid (wrap64 ((i : Int) + 1) = ((i + 1 : Nat) : Int)) := Lib.hid (by have := HMA.out; have := HAL.out; unfold wrap64; omega)
      have hiA : i < A.length := by rw [← HMA.out]; exact hlt
      have HSA := Lib.hid ((HSeen.own OA8.out).mild (mild_below C.out))
      obtain ⟨ba, oa, ca', e1, hrg⟩ := HSA.out.at HA32.out hiA
      injection e1 with e1 e2 e3
      subst e1
      obtain ⟨x, hx⟩ : ∃ x, x = A[i] := ⟨_, rfl⟩
      rw [← hx] at hrg
      have HX : Hid (x.length = 32) := Lib.hid (by rw [hx]; exact HA32.out.at hiA)
      have HXI : Hid (A[i]? = some x) := Lib.hid (by rw [List.getElem?_eq_getElem hiA, hx])
      have hldx := hld_range HX.out hrg
      have HIM := Lib.hid hlt
      have HCA : Hid (i ≤ ca ∧ 0 < A.length) := Lib.hid (by
        rcases HSA.out with ⟨h1, _⟩ | ⟨a, cap', h1, h2, _⟩
        · injection h1 with h1; cases h1
        · injection h1 with _ h1 h3; omega)
      have HPA := Lib.hid (parents_to wr g bm X x HX.out (G8.out.kb C.out) (HW.out.parm 1000000 (by decide)))
      clear hx hiA e2 e3 hi hrg
      go_wp2_with fail
      refine HPA.out.mono ?_
      rintro e w9 ⟨vp, rfl, op, b9⟩
      have hP : (aget x (gr X)).getD [] = adj (gr X) x := by unfold adj; cases aget x (gr X) <;> rfl
      rw [hP] at op
      obtain ⟨qp, mp, cp, rfl, hmp⟩ := own_sh op
      have HMP := Lib.hid hmp
      have HSP := Lib.hid (HSeen.own op)
      have HPP : Hid (∀ q ∈ adj (gr X) x, q ∈ A.take i) := Lib.hid (HPB.out i x HXI.out)
      have C9 := Lib.hid (C.out.trans (b9.mono C.out.size))
      have HP32 : Hid (H32 (adj (gr X) x)) := Lib.hid (fun q hq => HA32.out q (List.mem_of_mem_take (HPP.out q hq)))
      have HPL : Hid ((adj (gr X) x).length ≤ 4) := Lib.hid (p4_adj (HW.out.parm 4 (Nat.le_refl 4)) x)
      generalize adj (gr X) x = P at *
      clear hmp op b9 C hldx HSA hP HXI HPA HX
      go_wp2_with fail
      go_loopw [12] (fun v12 wz => ∃ k : Nat, v12 = .int .i64 k ∧ k ≤ mp ∧ Hid (Below w8.heap.size w8 wz) ∧ Hid (HSeen wz (.slice qp mp cp) P)) (fun v12 _ => mp - (intOf v12).toNat)
      case atStart => exact ⟨0, rfl, Nat.zero_le _, C9, HSP⟩
      case round =>
        clear C9 HSP
        rename World => wz
        obtain ⟨k, rfl, hk, CZ, HSZ⟩ := hrel
        by_cases hkm : k < mp
        · have hk1 : (k : Int) < mp := by omega
          have hk0 : (0 : Int) ≤ k := by omega
          have HJ1 : Hid (wrap64 ((k : Int) + 1) = ((k + 1 : Nat) : Int)) := Lib.hid (by have := HMP.out; have := HPL.out; unfold wrap64; omega)
          have hkP : k < P.length := by rw [← HMP.out]; exact hkm
          have HSA := Lib.hid ((HSeen.own OA8.out).mild (mild_below CZ.out))
          have HST := Lib.hid (HSA.out.take (k := i) (by have := HMA.out; have := HIM.out; omega) HCA.out.2)
          obtain ⟨by_, oy, cy, e1, hry⟩ := HSZ.out.at HP32.out hkP
          injection e1 with e1 e2 e3
          subst e1
          obtain ⟨y, hy⟩ : ∃ y, y = P[k] := ⟨_, rfl⟩
          rw [← hy] at hry
          have HY : Hid (y.length = 32) := Lib.hid (by rw [hy]; exact HP32.out.at hkP)
          have HYI : Hid (y ∈ A.take i) := Lib.hid (HPP.out y (by rw [hy]; exact List.getElem_mem hkP))
          have HRY := Lib.hid hry
          have HKM := Lib.hid hkm
          have kb1 : (i : Int) ≤ ca := by have := HCA.out; omega
          have kb2 : (i : Int) ≤ ma := by have := HIM.out; omega
          have kb3 : i ≤ ca := by have := HCA.out; omega
          have kb4 : i ≤ ma := by have := HIM.out; omega
          clear hkP e2 e3 hy hry hk HSA
          go_upto_region 15 with fail
          have bq : Below wz.heap.size wz wz.drew := blw_qt _ 1 wz
          have HRQ := Lib.hid (hsr_kb HRY.out (mild_below bq))
          have HSQ := Lib.hid (HST.out.mild (mild_below bq))
          have HZQ := Lib.hid (HSZ.out.mild (mild_below bq))
          have CQ := Lib.hid (CZ.out.trans (bq.mono CZ.out.size))
          clear bq CZ HST HRY HSZ
          go_wp2_with fail
          try simp only [List.append]
          refine wp_region_noPanic ?_
          refine wp_region_held_drew (S := (fun V => (hld ⟨by_, oy + k * 32, none⟩).run Try.prog V = .ok (.agg (hv y)) V)) (by kernel_rfl) (hld_range HY.out HRQ.out) (fun hHeld => ?_)
          generalize wz.drew = cw at *
          refine wpAnyH_take (i := 0) (v := ?_) (by simp only [List.getElem?_toArray, List.getElem?_cons_zero]; rfl) (by kernel_rfl) (by kernel_rfl) (by kernel_rfl) (fun _ _ _ h => h) (Or.inl ⟨by rfl, ?_⟩) (by assumption) ?_
          rotate_left
          · intro w hSw
            try dsimp only at hSw
            go_simp
            try with_reducible rfl
          try simp only [Act.put, List.setIfInBounds_toArray, List.set_cons_zero, List.set_cons_succ]
          refine wpAnyH_take (i := 1) (v := ?_) (by simp only [List.getElem?_toArray, List.getElem?_cons_succ, List.getElem?_cons_zero]; rfl) (by kernel_rfl) (by kernel_rfl) (by kernel_rfl) (fun _ _ _ h => h) (Or.inl ⟨by rfl, ?_⟩) (by assumption) ?_
          rotate_left
          · intro w hSw
            try dsimp only at hSw
            go_simp
            try with_reducible rfl
          try simp only [Act.put, List.setIfInBounds_toArray, List.set_cons_zero, List.set_cons_succ]
          refine wpAnyH_take (i := 2) (v := ?_) (by simp only [List.getElem?_toArray, List.getElem?_cons_succ, List.getElem?_cons_zero]; rfl) (by kernel_rfl) (by kernel_rfl) (by kernel_rfl) (fun _ _ _ h => h) (Or.inl ⟨by rfl, ?_⟩) (by assumption) ?_
          rotate_left
          · intro w hSw
            try dsimp only at hSw
            go_simp
            try with_reducible rfl
          try simp only [Act.put, List.setIfInBounds_toArray, List.set_cons_zero, List.set_cons_succ]
          refine wpAnyH_take (i := 3) (v := ?_) (by simp only [List.getElem?_toArray, List.getElem?_cons_succ, List.getElem?_cons_zero]; rfl) (by kernel_rfl) (by kernel_rfl) (by kernel_rfl) (fun _ _ _ h => h) (Or.inl ⟨by rfl, ?_⟩) (by assumption) ?_
          rotate_left
          · intro w hSw
            try dsimp only at hSw
            go_simp
            try with_reducible rfl
          try simp only [Act.put, List.setIfInBounds_toArray, List.set_cons_zero, List.set_cons_succ]
          refine wpAnyH_take (i := 4) (v := ?_) (by simp only [List.getElem?_toArray, List.getElem?_cons_succ, List.getElem?_cons_zero]; rfl) (by kernel_rfl) (by kernel_rfl) (by kernel_rfl) (fun _ _ _ h => h) (Or.inl ⟨by rfl, ?_⟩) (by assumption) ?_
          rotate_left
          · intro w hSw
            try dsimp only at hSw
            go_simp
            try with_reducible rfl
          try simp only [Act.put, List.setIfInBounds_toArray, List.set_cons_zero, List.set_cons_succ]
          refine wpAnyH_take (i := 5) (v := ?_) (by simp only [List.getElem?_toArray, List.getElem?_cons_succ, List.getElem?_cons_zero]; rfl) (by kernel_rfl) (by kernel_rfl) (by kernel_rfl) (fun _ _ _ h => h) (Or.inl ⟨by rfl, ?_⟩) (by assumption) ?_
          rotate_left
          · intro w hSw
            try dsimp only at hSw
            go_simp
            try with_reducible rfl
          try simp only [Act.put, List.setIfInBounds_toArray, List.set_cons_zero, List.set_cons_succ]
          refine wpAnyH_take (i := 6) (v := ?_) (by simp only [List.getElem?_toArray, List.getElem?_cons_succ, List.getElem?_cons_zero]; rfl) (by kernel_rfl) (by kernel_rfl) (by kernel_rfl) (fun _ _ _ h => h) (Or.inl ⟨by rfl, ?_⟩) (by assumption) ?_
          rotate_left
          · intro w hSw
            try dsimp only at hSw
            go_simp
            try with_reducible rfl
          try simp only [Act.put, List.setIfInBounds_toArray, List.set_cons_zero, List.set_cons_succ]
          refine wpAnyH_ready (rs := [7]) (by kernel_rfl) (by simp) ?_
          refine AllReadyH.cons (by simp only [List.getElem?_toArray, List.getElem?_cons_succ, List.getElem?_cons_zero]; rfl) (fun K hK => ?_) AllReadyH.nil
          go_simp
          refine (in_any cw (.slice (some ⟨ba, oa, none⟩) i ca) (A.take i) y HY.out HSQ.out (fun z hz => HA32.out z (List.mem_of_mem_take hz)) (by rw [List.length_take]; have := HAL.out; omega)).mono ?_
          rintro e cx ⟨rfl, bb⟩
          rw [decide_eq_true HYI.out]
          have CX := Lib.hid (CQ.out.trans (bb.mono CQ.out.size))
          have HRX := Lib.hid (hsr_kb HRQ.out (mild_below bb))
          have HZX := Lib.hid (HZQ.out.mild (mild_below bb))
          clear bb
          go_wp2_with fail
          refine hK.out _ _ (hld_range HY.out HRX.out) (fun hHeld => ?_)
          clear hK K
          try simp only [Act.put, List.setIfInBounds_toArray, List.set_cons_zero, List.set_cons_succ]
          refine wpAnyH_take (i := 8) (v := ?_) (by simp only [List.getElem?_toArray, List.getElem?_cons_succ, List.getElem?_cons_zero]; rfl) (by kernel_rfl) (by kernel_rfl) (by kernel_rfl) (fun _ _ _ h => h) (Or.inl ⟨by rfl, ?_⟩) (by assumption) ?_
          rotate_left
          · intro w hSw
            try dsimp only at hSw
            go_simp
            try with_reducible rfl
          try simp only [Act.put, List.setIfInBounds_toArray, List.set_cons_zero, List.set_cons_succ]
          refine wpAnyH_done (by kernel_rfl) ?_ _
          refine NoPanic.normal ?_
          go_wp2_with fail
          refine ⟨⟨k + 1, congrArg _ (by first | rw [HJ1.out] | rfl), HKM.out, CX, HZX⟩, ?_⟩
          first | exact meas_nv HKM.out HJ1.out | exact meas_nw HKM.out
        · obtain rfl : k = mp := by omega
          have hjl : ¬ (k : Int) < k := by omega
          clear hkm hk
          go_wp2_with fail
          refine ⟨⟨i + 1, congrArg _ (by first | rw [HI1.out] | rfl), HIM.out, CZ⟩, ?_⟩
          first | exact meas_nv HIM.out HI1.out | exact meas_nw HIM.out
    · obtain rfl : i = ma := by omega
      have hjl : ¬ (i : Int) < i := by omega
      clear hlt hi
      go_wp2_with fail
      go_ret
      exact ⟨rfl, B8.out.trans (C.out.mono B8.out.size)⟩
end Go.Proofs.Ythfkmfepeafgjaa
