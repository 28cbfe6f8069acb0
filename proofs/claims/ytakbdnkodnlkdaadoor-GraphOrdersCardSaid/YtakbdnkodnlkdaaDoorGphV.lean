/- Add. Conditions: hashes of 32 bytes; no more than a million commits and parents. -/
import Derived.Test.YtakbdnkodnlkdaaDoorGphU
namespace Go.Proofs.YtakbdnkodnlkdaaDoor
open Go.RowKit
open Go.Maps

section
variable {ops : Array Oper} {o : Oper} {a : Act} {w : World} {K : Act → World → Prop} {Q : Exit → Act → World → Prop} {X : Prop}
theorem step_upd {t : TypeId} (hgd : o.guard = none) (m k v : Operand) (ho : o.op = .mapUpdate t m k v) {mv kv vv : Value} (hm : a.eval m = mv) (hk : a.eval k = kv) (hv' : a.eval v = vv) {w' : World} (hr : (Instr.mapUpdate t mv kv vv).run Tryd.prog w = .ok () w') (h : K (a.put o.dst undef) w') :
    if Region.wanted o (yielded ops a.tmps) = true then Oper.wp Tryd.prog o a w K Q else X := by
  have hw : Region.wanted o (yielded ops a.tmps) = true := by simp [Region.wanted, hgd]
  rw [if_pos hw]
  unfold Oper.wp execOp
  simp [ho, hm, hk, hv', hr, Result.andThen]
  exact h
end
theorem GA.only {w w' : World} {g bm : Nat} {X : Lx} {S : Nat → Prop} (h : GA w g bm X) (ho : Only S w w') (m : Mild w w') (hb : ¬ S bm) : GA w' g bm X :=
  ⟨m.cells h.cell, h.at_.mild m (ho.block bm h.at_.mp.lt hb)⟩
theorem GA.store {w w' : World} {g bm : Nat} {X : Lx} {k : Key} {v : Value} {E : List Key} (h : GA w g bm X) (mp' : MpH w' bm (aput k v (kvs X))) (ho : Only (fun j => j = bm) w w') (hv' : HSeen w v E) (hE : H32 E) : GA w' g bm (aput k (v, E) X) :=
  ⟨(mild_map h.at_.mp ho).cells h.cell, h.at_.store mp' ho hv' hE⟩
/-- What Add hands back. -/
def AddPost (w : World) (g bm : Nat) (X : Lx) (cs : List Cm) (e : Ending) (w' : World) : Prop :=
  ∃ x, e = .returned x ∧ ErrW w' x (chk (gr X) 2 cs []) ∧ Only (fun k => k = bm) w w' ∧
    ((chk (gr X) 2 cs []).isSome = true ∧ Below w.heap.size w w' ∨ ∃ X', chk (gr X) 2 cs [] = none ∧ GA w' g bm X' ∧ gr X' = adds (gr X) cs)
theorem par_of {G : Gr} (W : Wf G) {X : Lx} (hX : gr X = G) : ∀ x ∈ X, x.2.2.length ≤ 4 ∧ x.2.2.Nodup := fun x hx => by
  have : (x.1, x.2.2) ∈ gr X := List.mem_map.2 ⟨x, hx, rfl⟩
  rw [hX] at this
  exact W.par _ this
set_option linter.unusedSimpArgs false in
set_option maxRecDepth 20000 in
set_option maxHeartbeats 8000000 in
attribute [local go_sem ↓] hld_open cld_open in
theorem add_to (w : World) (g bm : Nat) (X : Lx) (v : Value) (cs : List Cm) (H : GA w g bm X) (W : Wf (gr X)) (hv' : CSeen w v cs) (hok : COk cs) (hl : cs.length ≤ 1000000) (hp : ∀ c ∈ cs, c.2.length ≤ 1000000) :
    Calls Tryd.prog 10 #[gp g, v] w (AddPost w g bm X cs) := by
  obtain ⟨p, cap, rfl, hc⟩ := id hv'
  clear hc
  obtain ⟨n, hn⟩ : ∃ n, n = cs.length := ⟨_, rfl⟩
  rw [← hn] at hv' hl ⊢
  have HV := Lib.hid hv'
  have HO := Lib.hid hok
  have HN := Lib.hid hn
  have HL := Lib.hid hl
  have HP := Lib.hid hp
  have HG0 := Lib.hid H
  have HW := Lib.hid W
  have hXl : X.length ≤ 1000 := by have := W.few; rwa [gr_len] at this
  have HXL := Lib.hid hXl
  have hne := nn_iface
  have hnn := nn_nil
  have HCK := Lib.hid (check_to w g bm X (.slice p n cap) (.slice none 0 0) 2 cs [] H hXl (fun x hx => Nat.le_trans (par_of W rfl x hx).1 (by decide)) hv' (.inl ⟨rfl, rfl⟩) hok H32.nil (by rw [← hn]; exact hl) hp (by simp))
  clear hv' hok hl hn hp H W hXl
  go_enter Tryd.func10, Tryd.ntmps10
  go_wp2_with fail
  refine HCK.out.mono ?_
  rintro e w1 ⟨x1, rfl, e1, b1⟩
  have B1 := Lib.hid b1
  have E1 := Lib.hid e1
  clear b1
  rcases e1.form with ⟨hn1, rfl⟩ | ⟨hs1, t1, y1, rfl⟩
  · have N1 := Lib.hid hn1
    have G1 := Lib.hid (HG0.out.kb B1.out)
    have O1 : Hid (Only (fun k => k = bm) w w1) := Lib.hid (Only.of_below B1.out)
    clear e1 hn1 E1
    go_wp2_with fail
    go_loopw [17] (fun s wr => ∃ (i : Nat) (Z : Lx), s = .int .i64 i ∧ i ≤ n ∧ Hid (adds (gr X) cs = adds (gr Z) (cs.drop i)) ∧ Hid (GA wr g bm Z ∧ Z.length ≤ X.length + i) ∧ Hid (Only (fun k => k = bm) w wr))
      (fun s _ => n - (intOf s).toNat)
    case atStart => exact ⟨0, X, rfl, Nat.zero_le _, Lib.hid rfl, Lib.hid ⟨G1.out, Nat.le_refl _⟩, O1⟩
    case round =>
      clear O1 G1
      obtain ⟨i, Z, rfl, hi, T, HZ, B⟩ := hrel
      by_cases hlt : i < n
      · obtain ⟨j1, j2, j3⟩ := next_fit hlt HL.out
        have hiE : i < cs.length := by rw [← HN.out]; exact hlt
        obtain ⟨p', cap', e1, hc⟩ := HV.out.mild (mild_map HG0.out.at_.mp B.out)
        injection e1 with e1 e2 e3
        obtain ⟨b, o, u, rfl, hrg, hsn⟩ := hc i cs[i] (List.getElem?_eq_getElem hiE)
        subst e1
        have hdr : cs.drop i = cs[i] :: cs.drop (i + 1) := drop_at hiE
        have hoki := HO.out _ (List.getElem_mem hiE)
        have hmemi := List.getElem_mem hiE
        obtain ⟨⟨h, E⟩, hce⟩ : ∃ c : Cm, c = cs[i] := ⟨_, rfl⟩
        rw [← hce] at hrg hsn hdr hoki hmemi
        dsimp only at hrg hsn hoki
        have hh := hoki.1
        have hld0 := cld_range hh hrg
        have st := cst_cells h u hh hsn.one wr
        have hks : (cmv h u).size = 33 := cmv_size hh u
        have b3 : Below wr.heap.size wr (wr.alloc (.cells (cmv h u) 36)) := (Below.refl _ _).alloc (Nat.le_refl _) _
        have B3 : Hid (Only (fun k => k = bm) w (wr.alloc (.cells (cmv h u) 36))) := Lib.hid (B.out.alloc _)
        have HV3 := heap_alloc_last wr (.cells (cmv h u) 36)
        have hsn3 := hsn.mild (mild_below b3)
        have hs3 : (wr.alloc (.cells (cmv h u) 36)).heap.size = wr.heap.size + 1 := by simp
        obtain ⟨pu, cu, rfl⟩ := hsn3.shape
        have HH3 := Lib.hid HV3
        have HSN := Lib.hid hsn3
        have HOK := Lib.hid hoki
        have HDR := Lib.hid hdr
        have HMI := Lib.hid hmemi
        obtain ⟨m, hm⟩ : ∃ m, m = E.length := ⟨_, rfl⟩
        rw [← hm] at hld0 st hks HH3 HSN hs3 B3
        have HB3 := Lib.hid b3
        rw [← hm] at HB3
        have HM := Lib.hid hm
        have HPI : Hid (E.length ≤ 1000000) := Lib.hid (HP.out _ hmemi)
        have HZ3 : Hid (GA (wr.alloc (.cells (cmv h (.slice pu m cu)) 36)) g bm Z) := Lib.hid (HZ.out.1.kb HB3.out)
        clear hrg hsn hdr hoki hmemi hh b3 HV3 hsn3 hc e2 e3 hce hm hiE
        generalize hw3 : wr.alloc (.cells (cmv h (.slice pu m cu)) 36) = w3 at *
        have hld3 := cm_hld (w := w3) HOK.out.1 HH3.out
        have had : adds (gr X) cs = adds (if (aget h (gr Z)).isSome then gr Z else aput h E (gr Z)) (cs.drop (i + 1)) := by rw [T.out, HDR.out]; rfl
        have HHS := Lib.hid (has_to w3 g bm Z h HOK.out.1 HZ3.out)
        have HCM := Lib.hid (fun W (hW : Below w3.heap.size w3 W) => cm_cell (w := W) HOK.out.1 ((mild_below hW).cells HH3.out))
        have HLD := Lib.hid (fun W (hW : Below w3.heap.size w3 W) => cm_hld (w := W) HOK.out.1 ((mild_below hW).cells HH3.out))
        have HLM := Lib.hid (fun W (m : Mild w3 W) => cm_hld (w := W) HOK.out.1 (m.cells HH3.out))
        have HCL := Lib.hid (fun W (hW : Below w3.heap.size w3 W) => hclone_any W (.slice pu m cu) E HOK.out.2 (srt_fit HPI.out) (HSN.out.mild (mild_below hW)))
        have HAD := Lib.hid had
        clear had
        generalize cmv h (.slice pu m cu) = q33 at *
        cases hh : (aget h (gr Z)).isSome with
        | true =>
          rw [hh] at HHS
          have HA2 : Hid (adds (gr X) cs = adds (gr Z) (cs.drop (i + 1))) := Lib.hid (by rw [HAD.out, if_pos hh])
          clear HAD hh
          go_wp2_with fail
          refine HHS.out.mono ?_
          rintro e w4 ⟨rfl, b4⟩
          have B4 : Hid (Only (fun k => k = bm) w w4) := Lib.hid (B3.out.trans (Only.of_below (S := fun k => k = bm) b4) (fun _ h => h) (fun _ _ h => h))
          have HZ4 := Lib.hid (HZ3.out.kb b4)
          clear b4
          go_wp2_with fail
          refine ⟨⟨i + 1, Z, by rw [j1], hlt, HA2, Lib.hid ⟨HZ4.out, Nat.le_trans HZ.out.2 (by omega)⟩, B4⟩, ?_⟩
          rw [j1]; simp only [intOf]; omega
        | false =>
          rw [hh] at HHS
          have HA2 : Hid (adds (gr X) cs = adds (aput h E (gr Z)) (cs.drop (i + 1))) := Lib.hid (by rw [HAD.out, if_neg (by rw [hh]; decide)])
          clear HAD hh
          go_wp2_with fail
          refine HHS.out.mono ?_
          rintro e w4 ⟨rfl, b4⟩
          have B4 : Hid (Only (fun k => k = bm) w w4) := Lib.hid (B3.out.trans (Only.of_below (S := fun k => k = bm) b4) (fun _ h => h) (fun _ _ h => h))
          have HZ4 := Lib.hid (HZ3.out.kb b4)
          have c0 := HZ4.out.c0
          have c32 := HCM.out w4 b4
          have b4d : Below w3.heap.size w3 w4.drew := b4.trans ((blw_qt _ 1 w4).mono b4.size)
          have l0 := HLD.out w4.drew b4d
          have HB4 := Lib.hid b4d
          clear b4 b4d
          go_wp2_with fail
          try simp only [List.append]
          refine wp_region_noPanic ?_
          refine wp_region_held_drew (S := (fun W => W.cell? ⟨g, 0, none⟩ = some (.map (some bm)) ∧ (hld ⟨wr.heap.size, 0, none⟩).run Tryd.prog W = .ok (.agg (hv h)) W ∧ W.cell? ⟨wr.heap.size, 32, none⟩ = some (.slice pu m cu))) (by kernel_rfl) ⟨c0, l0, c32⟩ (fun hHeld => ?_)
          refine wpAnyH_take (i := 0) (v := ?_) (by simp only [List.getElem?_toArray, List.getElem?_cons_zero]; rfl) (by kernel_rfl) (by kernel_rfl) (by kernel_rfl) (fun _ _ _ h => h) (Or.inl ⟨by rfl, ?_⟩) (by assumption) ?_
          rotate_left
          · intro w hSw
            try dsimp only at hSw
            go_simp
            try with_reducible rfl
          try simp only [Act.put, List.setIfInBounds_toArray, List.set_cons_zero, List.set_cons_succ]
          refine wpAnyH_take (i := 1) (v := ?_) (by simp only [List.getElem?_toArray, List.getElem?_cons_succ, List.getElem?_cons_zero]; rfl) (by kernel_rfl) (by kernel_rfl) (by kernel_rfl) (fun _ _ _ h => h) (Or.inl ⟨by rfl, ?_⟩) (by assumption) ?_
          rotate_left
          · intro w hSw
            try dsimp only at hSw
            go_simp
            try with_reducible rfl
          try simp only [Act.put, List.setIfInBounds_toArray, List.set_cons_zero, List.set_cons_succ]
          refine wpAnyH_take (i := 2) (v := ?_) (by simp only [List.getElem?_toArray, List.getElem?_cons_succ, List.getElem?_cons_zero]; rfl) (by kernel_rfl) (by kernel_rfl) (by kernel_rfl) (fun _ _ _ h => h) (Or.inl ⟨by rfl, ?_⟩) (by assumption) ?_
          rotate_left
          · intro w hSw
            try dsimp only at hSw
            go_simp
            try with_reducible rfl
          try simp only [Act.put, List.setIfInBounds_toArray, List.set_cons_zero, List.set_cons_succ]
          refine wpAnyH_take (i := 3) (v := ?_) (by simp only [List.getElem?_toArray, List.getElem?_cons_succ, List.getElem?_cons_zero]; rfl) (by kernel_rfl) (by kernel_rfl) (by kernel_rfl) (fun _ _ _ h => h) (Or.inl ⟨by rfl, ?_⟩) (by assumption) ?_
          rotate_left
          · intro w hSw
            try dsimp only at hSw
            go_simp
            try with_reducible rfl
          try simp only [Act.put, List.setIfInBounds_toArray, List.set_cons_zero, List.set_cons_succ]
          refine wpAnyH_take (i := 4) (v := ?_) (by simp only [List.getElem?_toArray, List.getElem?_cons_succ, List.getElem?_cons_zero]; rfl) (by kernel_rfl) (by kernel_rfl) (by kernel_rfl) (fun _ _ _ h => h) (Or.inl ⟨by rfl, ?_⟩) (by assumption) ?_
          rotate_left
          · intro w hSw
            try dsimp only at hSw
            go_simp
            try with_reducible rfl
          try simp only [Act.put, List.setIfInBounds_toArray, List.set_cons_zero, List.set_cons_succ]
          refine wpAnyH_take (i := 5) (v := ?_) (by simp only [List.getElem?_toArray, List.getElem?_cons_succ, List.getElem?_cons_zero]; rfl) (by kernel_rfl) (by kernel_rfl) (by kernel_rfl) (fun _ _ _ h => h) (Or.inl ⟨by rfl, ?_⟩) (by assumption) ?_
          rotate_left
          · intro w hSw
            try dsimp only at hSw
            go_simp
            try with_reducible rfl
          try simp only [Act.put, List.setIfInBounds_toArray, List.set_cons_zero, List.set_cons_succ]
          refine wpAnyH_take (i := 6) (v := ?_) (by simp only [List.getElem?_toArray, List.getElem?_cons_succ, List.getElem?_cons_zero]; rfl) (by kernel_rfl) (by kernel_rfl) (by kernel_rfl) (fun _ _ _ h => h) (Or.inl ⟨by rfl, ?_⟩) (by assumption) ?_
          rotate_left
          · intro w hSw
            try dsimp only at hSw
            go_simp
            try with_reducible rfl
          try simp only [Act.put, List.setIfInBounds_toArray, List.set_cons_zero, List.set_cons_succ]
          refine wpAnyH_take (i := 7) (v := ?_) (by simp only [List.getElem?_toArray, List.getElem?_cons_succ, List.getElem?_cons_zero]; rfl) (by kernel_rfl) (by kernel_rfl) (by kernel_rfl) (fun _ _ _ h => h) (Or.inl ⟨by rfl, ?_⟩) (by assumption) ?_
          rotate_left
          · intro w hSw
            try dsimp only at hSw
            go_simp
            try with_reducible rfl
          try simp only [Act.put, List.setIfInBounds_toArray, List.set_cons_zero, List.set_cons_succ]
          refine wpAnyH_ready (rs := [8]) (by kernel_rfl) (by simp) ?_
          refine AllReadyH.cons (by simp only [List.getElem?_toArray, List.getElem?_cons_succ, List.getElem?_cons_zero]; rfl) (fun K hK => ?_) AllReadyH.nil
          go_simp
          refine (HCL.out w4.drew HB4.out).mono ?_
          rintro e w5 ⟨v5, rfl, o5, b5⟩
          have b5' := HB4.out.trans (b5.mono HB4.out.size)
          have c0' := (HZ3.out.kb b5').c0
          have l0' := HLD.out w5 b5'
          have c32' := HCM.out w5 b5'
          have HZ5 := Lib.hid (HZ3.out.kb b5')
          have B5 : Hid (Only (fun k => k = bm) w w5) := Lib.hid (B3.out.trans (Only.of_below (S := fun k => k = bm) b5') (fun _ h => h) (fun _ _ h => h))
          have O5 := Lib.hid (HSeen.own o5)
          obtain ⟨p5, c5, rfl⟩ := (HSeen.own o5).shape
          have hZl : Z.length < maxLen := by have := HZ.out.2; have := HXL.out; have := HL.out; unfold maxLen; omega
          obtain ⟨w6, hmu, mp6, o6⟩ := HZ5.out.at_.mp.store Tryd.underlying63 h HOK.out.1 (by rw [kvs_len]; exact hZl) (.slice p5 E.length c5)
          have HZ6 := Lib.hid (HZ5.out.store mp6 o6 O5.out HOK.out.2)
          have B6 : Hid (Only (fun k => k = bm) w w6) := Lib.hid (B5.out.trans o6 (fun _ h => h) (fun _ _ h => h))
          have l6 : (hld ⟨wr.heap.size, 0, none⟩).run Tryd.prog w6 = .ok (.agg (hv h)) w6 := HLM.out w6 ((mild_below b5').trans (mild_map HZ5.out.at_.mp o6))
          have c6 := (mild_map HZ5.out.at_.mp o6).cell c32'
          have g6 := HZ6.out.c0
          have HMU := Lib.hid hmu
          clear o5 b5 b5' mp6 o6 hmu
          go_wp2_with fail
          refine hK.out _ _ ⟨c0', l0', c32'⟩ (fun hHeld => ?_)
          clear hK K
          try simp only [Act.put, List.setIfInBounds_toArray, List.set_cons_zero, List.set_cons_succ]
          refine wpAnyH_ready (rs := [9]) (by kernel_rfl) (by simp) ?_
          refine AllReadyH.cons (by simp only [List.getElem?_toArray, List.getElem?_cons_succ, List.getElem?_cons_zero]; rfl) (fun K hK => ?_) AllReadyH.nil
          refine step_upd (by rfl) (.tmp 29) (.tmp 31) (.tmp 34) (by rfl) (by rfl) (by rfl) (by rfl) HMU.out ?_
          refine hK.out _ _ ⟨g6, l6, c6⟩ (fun hHeld => ?_)
          clear hK K
          try simp only [Act.put, List.setIfInBounds_toArray, List.set_cons_zero, List.set_cons_succ]
          refine wpAnyH_done (by kernel_rfl) ?_ _
          refine NoPanic.normal ?_
          go_wp2_with fail
          refine ⟨⟨i + 1, aput h (.slice p5 E.length c5, E) Z, by rw [j1], hlt, Lib.hid (by rw [gr_put]; exact HA2.out), Lib.hid ⟨HZ6.out, Nat.le_trans (aput_len _ _ _) (by have := HZ.out.2; omega)⟩, B6⟩, ?_⟩
          rw [j1]; simp only [intOf]; omega
      · obtain rfl : i = n := by omega
        go_wp2
        go_ret
        have hT := T.out
        rw [List.drop_eq_nil_of_le (by rw [HN.out]; exact Nat.le_refl _)] at hT
        exact ⟨_, rfl, by rw [N1.out]; rfl, B.out, .inr ⟨Z, N1.out, HZ.out.1, hT.symm⟩⟩
  · have HS1 := Lib.hid hs1
    clear e1 hs1
    go_wp2
    go_ret
    exact ⟨_, rfl, E1.out, Only.of_below B1.out, .inl ⟨HS1.out, B1.out⟩⟩
end Go.Proofs.YtakbdnkodnlkdaaDoor
