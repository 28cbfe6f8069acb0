/- The reference's visit, Walk. -/
import Derived.Test.YthfkmfepeafgjaaOrdB
namespace Go.Proofs.Ythfkmfepeafgjaa
open Go.RowKit
open Go.Maps

theorem VL.split2 {G : Gr} {D : Key → Bool} {n : Nat} {o hs o' : List Key} {h : Key} (v : VL G D n o (h :: hs) o') : ∃ a b o1, VL G D a o [h] o1 ∧ VL G D b o1 hs o' ∧ a ≤ n ∧ b ≤ n := by
  cases v with
  | skip hk t => exact ⟨_, _, o, .skip hk (.nil _), t, by omega, by omega⟩
  | go h1 h2 a t => exact ⟨_, _, _, .go h1 h2 a (.nil _), t, by omega, by omega⟩
theorem VL.one2 {G : Gr} {D : Key → Bool} {n : Nat} {o o' : List Key} {h : Key} (v : VL G D n o [h] o') : ((h ∈ o ∨ D h = true) ∧ o' = o) ∨ (h ∉ o ∧ D h = false ∧ ∃ m o1, m < n ∧ VL G D m o (adj G h) o1 ∧ o' = o1 ++ [h]) := by
  cases v with
  | skip hk t => cases t; exact .inl ⟨hk, rfl⟩
  | go h1 h2 a t => cases t; exact .inr ⟨h1, h2, _, _, by omega, a, rfl⟩
set_option linter.unusedSimpArgs false in
set_option maxRecDepth 20000 in
set_option maxHeartbeats 2000000 in
attribute [local go_sem ↓] hld_open in
theorem rparents_at (w : World) (rg : Nat) (p : Option Addr) (n cap : Nat) (T : Lx) (h : Key) (hh : h.length = 32) (R : RG w rg p n cap T) :
    Calls Try.prog 51 #[rp rg, .agg (hv h)] w fun e w' => ∃ v, e = .returned v ∧ (∀ W0, TS W0 (.slice p n cap) T → HSeen W0 v ((aget h (gr T)).getD [])) ∧ Below w.heap.size w w' := by
  have BA := Lib.hid (below_al11 w (.cells (hv h) 28))
  have HF := Lib.hid (rfind_to _ rg p n cap T h hh (R.kb BA.out))
  have hld0 := hld_row hh (heap_alloc_last w (.cells (hv h) 28))
  have RR := Lib.hid R
  clear R hh
  go_enter Try.func51, Try.ntmps51
  go_wp2_with fail
  refine HF.out.mono ?_
  rintro e w1 ⟨i, rfl, hf, b1⟩
  have B1 : Hid (Below w.heap.size w w1) := Lib.hid (BA.out.trans (b1.mono BA.out.size))
  have R1 := Lib.hid (RR.out.kb B1.out)
  clear b1 hld0
  rcases hf with ⟨k, rfl, hk⟩ | ⟨rfl, hn⟩
  · obtain ⟨x, hx, hxh, hg⟩ := atk_get RR.out.asc hk
    have HXM := Lib.hid (List.mem_of_getElem? hx)
    have hkT := (List.getElem?_eq_some_iff.1 hx).1
    obtain ⟨b, o, cap', e1, hrg⟩ := R1.out.ts.at hx
    injection e1 with e1 e2 e3
    subst e1
    have hr1 := R1.out.c
    have hk0 : (0 : Int) ≤ k := by omega
    have hk1 : (k : Int) ≥ 0 := by omega
    have hk2 : (k : Int) < n := by have := R1.out.len; omega
    have hx32 := R1.out.ts.h32 x (List.mem_of_getElem? hx)
    have hcu : w1.cell? ⟨b, o + k * 33 + 32, none⟩ = some x.2.1 := hrg 32 _ (by rw [List.getElem?_append_right (by rw [usn_length, hx32]; exact Nat.le_refl _), usn_length, hx32]; rfl)
    have HG : Hid ((aget h (gr T)).getD [] = x.2.2) := Lib.hid (by rw [gr_get, hg]; rfl)
    clear hk hx hxh hg hkT hrg e2 e3 hx32
    go_wp2_with fail
    go_ret
    exact ⟨_, rfl, fun W0 h0 => by rw [HG.out]; exact h0.lit x HXM.out, B1.out⟩
  · have HG : Hid ((aget h (gr T)).getD [] = []) := Lib.hid (by rw [gr_get, hn]; rfl)
    clear hn
    go_wp2_with fail
    go_ret
    exact ⟨_, rfl, fun W0 _ => by rw [HG.out]; exact .inl ⟨rfl, rfl⟩, B1.out⟩
theorem keys_h32g {G : Gr} (W : Wf G) : H32 (G.map (·.1)) := fun x hx => by
  obtain ⟨c, hc, rfl⟩ := List.mem_map.1 hx
  exact (W.h32 c hc).1
theorem in_h32g {G : Gr} {o : List Key} (hG : H32 (G.map (·.1))) (hi : ∀ x ∈ o, (aget x G).isSome = true) : H32 o := fun x hx => by
  have := hi x hx
  rw [aget_isSome] at this
  exact hG x (of_decide_eq_true this)
theorem adj_len4 {G : Gr} (W : Wf G) (x : Key) : (adj G x).length ≤ 1000000 := by
  unfold adj
  cases h : aget x G with
  | none => simp
  | some ps => exact Nat.le_trans (W.par _ (aget_mem h)).1 (by decide)
def RvPost (w : World) (B : Nat) (v : Value) (o' : List Key) (e : Ending) (w' : World) : Prop :=
  ∃ v', e = .returned v' ∧ HOwn w' B v' o' ∧ Only (fun j => v.ownBlock = some j) w w' ∧ ∀ j, v'.ownBlock = some j → v.ownBlock = some j ∨ w.heap.size ≤ j
set_option linter.unusedSimpArgs false in
set_option maxRecDepth 20000 in
set_option maxHeartbeats 8000000 in
attribute [local go_sem ↓] hld_open in
theorem rvisit_to (W0 : World) (rg : Nat) (p : Option Addr) (n cap : Nat) (T : Lx) (R0 : RG W0 rg p n cap T) (HW : Wf (gr T)) (pd : Option Addr) (nd cd : Nat) (Dl : List Key) (hD : HSeen W0 (.slice pd nd cd) Dl) (d32 : H32 Dl) (dl : Dl.length ≤ 1000000) :
    ∀ (N : Nat) (w : World), Below W0.heap.size W0 w → ∀ (v : Value) (o : List Key), HOwn w W0.heap.size v o → o.Nodup → (∀ y ∈ o, (aget y (gr T)).isSome = true) → ∀ x : Key, (aget x (gr T)).isSome = true → ∀ o' : List Key, VL (gr T) (fun h => decide (h ∈ Dl)) N o [x] o' →
    Calls Try.prog 38 #[rp rg, v, .agg (hv x), .slice pd nd cd] w (RvPost w W0.heap.size v o') := by
  have HR0 := Lib.hid R0
  have HWF := Lib.hid HW
  have HDS := Lib.hid hD
  have HD32 := Lib.hid d32
  have HDL := Lib.hid dl
  clear R0 HW hD d32 dl
  intro N
  induction N using Nat.strongRecOn with
  | _ N ih =>
    intro w hb v o ho hn hi x hxi o' hv'
    have IH := Lib.hid ih
    obtain ⟨q0, m0, c0, rfl, hm0⟩ := own_sh ho
    have HB := Lib.hid hb
    have HO := Lib.hid ho
    have HN := Lib.hid hn
    have HI := Lib.hid hi
    have HX : Hid (x.length = 32) := Lib.hid (in_h32g (keys_h32g HWF.out) (o := [x]) (fun y hy => by rw [List.mem_singleton.1 hy]; exact hxi) x (by simp))
    have H32o : Hid (H32 o) := Lib.hid (in_h32g (keys_h32g HWF.out) hi)
    have HOL : Hid (o.length ≤ 1000) := Lib.hid (Nat.le_trans (in_len hn hi) HWF.out.few)
    have HV := Lib.hid hv'.one2
    have BA := Lib.hid (below_al11 w (.cells (hv x) 28))
    have HBX := Lib.hid (heap_alloc_last w (.cells (hv x) 28))
    have HHB : Hid ((w.alloc (.cells (hv x) 28)).heap.size = w.heap.size + 1 ∧ ∀ j, (Value.slice q0 m0 c0).ownBlock = some j → j < w.heap.size) := Lib.hid ⟨by simp, fun j hj => own_lt ho j hj⟩
    clear ih hm0 hb ho hn hi hxi hv'
    go_enter Try.func38, Try.ntmps38
    go_upto_region 1 with fail
    generalize w.alloc (.cells (hv x) 28) = w0 at *
    generalize hbe : w.heap.size = hb at HBX HHB
    have HBE := Lib.hid hbe
    clear hbe
    have hld0 := hld_row HX.out HBX.out
    obtain ⟨d1, hd1⟩ : ∃ d1, d1 = decide (x ∈ o) := ⟨_, rfl⟩
    obtain ⟨d2, hd2⟩ : ∃ d2, d2 = decide (x ∈ Dl) := ⟨_, rfl⟩
    have HD1 := Lib.hid hd1
    have HD2 := Lib.hid hd2
    have HI1 := Lib.hid (in_any w0 (.slice q0 m0 c0) o x HX.out ((HSeen.own HO.out).mild (mild_below BA.out)) H32o.out (Nat.le_trans HOL.out (by decide)))
    rw [← hd1] at HI1
    clear hd1 hd2
    go_wp2_with fail
    refine HI1.out.mono ?_
    rintro e w1 ⟨rfl, b1⟩
    have B1 := Lib.hid (BA.out.trans (b1.mono BA.out.size))
    have BX1 := Lib.hid b1
    have HB1 := Lib.hid ((mild_below b1).cells HBX.out)
    have hld1 := hld_row HX.out HB1.out
    clear b1 HI1 hld0
    have HOU : ∀ W', Below w.heap.size w W' → RvPost w W0.heap.size (.slice q0 m0 c0) o (.returned (.slice q0 m0 c0)) W' := fun W' b => ⟨_, rfl, own_below HO.out b, Only.of_below b, fun j hj => .inl hj⟩
    have HOUT := Lib.hid HOU
    clear HOU
    cases d1 with
    | true =>
      go_wp2_with fail
      go_ret
      have ho' : o' = o := by
        rcases HV.out with ⟨_, h⟩ | ⟨h, _⟩
        · exact h
        · exact absurd (of_decide_eq_true HD1.out.symm) h
      rw [ho']
      exact HOUT.out _ B1.out
    | false =>
      have HI2 := Lib.hid (in_any w1 (.slice pd nd cd) Dl x HX.out (HDS.out.mild (mild_below (HB.out.trans (B1.out.mono HB.out.size)))) HD32.out HDL.out)
      rw [← HD2.out] at HI2
      go_wp2_with fail
      refine HI2.out.mono ?_
      rintro e w2 ⟨rfl, b2⟩
      have B2 := Lib.hid (B1.out.trans (b2.mono B1.out.size))
      have BX2 := Lib.hid (BX1.out.trans (b2.mono BX1.out.size))
      have HB2 := Lib.hid ((mild_below b2).cells HB1.out)
      have hld2 := hld_row HX.out HB2.out
      clear b2 HI2 hld1 B1 BX1 HB1
      cases d2 with
      | true =>
        go_wp2_with fail
        go_ret
        have ho' : o' = o := by
          rcases HV.out with ⟨_, h⟩ | ⟨_, h, _⟩
          · exact h
          · rw [← HD2.out] at h; cases h
        rw [ho']
        exact HOUT.out _ B2.out
      | false =>
        obtain ⟨M, o1, hM, V1, rfl⟩ : ∃ M o1, M < N ∧ VL (gr T) (fun h => decide (h ∈ Dl)) M o (adj (gr T) x) o1 ∧ o' = o1 ++ [x] := by
          rcases HV.out with ⟨h, _⟩ | ⟨_, _, h⟩
          · rcases h with h | h
            · exact absurd h (of_decide_eq_false HD1.out.symm)
            · rw [← HD2.out] at h; cases h
          · exact h
        have HM := Lib.hid hM
        have HV1 := Lib.hid V1
        clear hM V1 HV HOUT HD1 HD2
        have HPA := Lib.hid (rparents_at w2 rg p n cap T x HX.out (HR0.out.kb (HB.out.trans (B2.out.mono HB.out.size))))
        go_wp2_with fail
        refine HPA.out.mono ?_
        rintro e w3 ⟨vp, rfl, hp, b3⟩
        have hps := hp W0 HR0.out.ts
        have hP : (aget x (gr T)).getD [] = adj (gr T) x := by unfold adj; cases aget x (gr T) <;> rfl
        rw [hP] at hps
        obtain ⟨qp, mp, cp, rfl, hmp, _⟩ : ∃ qp mp cp, vp = .slice qp mp cp ∧ mp = (adj (gr T) x).length ∧ True := by
          obtain ⟨a1, a2, h⟩ := hps.shape
          exact ⟨a1, _, a2, h, rfl, trivial⟩
        have HPS := Lib.hid hps
        have HMP := Lib.hid hmp
        have B3 := Lib.hid (B2.out.trans (b3.mono B2.out.size))
        have BX3 := Lib.hid (BX2.out.trans (b3.mono BX2.out.size))
        have HPI : Hid (∀ y ∈ adj (gr T) x, (aget y (gr T)).isSome = true) := Lib.hid (fun y hy => HWF.out.clo x y hy)
        have HP32 : Hid (H32 (adj (gr T) x)) := Lib.hid (in_h32g (keys_h32g HWF.out) HPI.out)
        have HPL : Hid ((adj (gr T) x).length ≤ 1000000) := Lib.hid (adj_len4 HWF.out x)
        obtain ⟨P, hPe⟩ : ∃ P, P = adj (gr T) x := ⟨_, rfl⟩
        rw [← hPe] at HPS HMP HPI HP32 HPL HV1
        clear hps hmp hP hp b3 HPA hld2 HB2 B2 BX2 hPe
        go_wp2_with fail
        go_loopw [1, 10] (fun v1 v10 wr => ∃ (q : Option Addr) (m c k : Nat) (o2 : List Key) (n2 : Nat), v1 = .slice q m c ∧ v10 = .int .i64 k ∧ k ≤ mp ∧ Hid (HOwn wr W0.heap.size (.slice q m c) o2 ∧ o2.Nodup ∧ ∀ y ∈ o2, (aget y (gr T)).isSome = true) ∧ Hid (n2 < N ∧ VL (gr T) (fun h => decide (h ∈ Dl)) n2 o2 (P.drop k) o1) ∧ Hid (Only (fun j => (Value.slice q0 m0 c0).ownBlock = some j) w0 wr) ∧ Hid (∀ j, (Value.slice q m c).ownBlock = some j → (Value.slice q0 m0 c0).ownBlock = some j ∨ w0.heap.size ≤ j)) (fun _ v10 _ => mp - (intOf v10).toNat)
        case atStart => exact ⟨q0, m0, c0, 0, o, M, rfl, rfl, Nat.zero_le _, Lib.hid ⟨own_below HO.out B3.out, HN.out, HI.out⟩, Lib.hid ⟨HM.out, by rw [List.drop_zero]; exact HV1.out⟩, Lib.hid (Only.of_below BX3.out), Lib.hid (fun j hj => .inl hj)⟩
        case round =>
          clear B3 BX3
          obtain ⟨q, m, c, k, o2, n2, rfl, rfl, hk, OO, VV, OW, LC⟩ := hrel
          have hHB : wr.heap[hb]? = some (.cells (hv x) 28 (0, 0)) := (OW.out.block hb (Array.getElem?_eq_some_iff.1 HBX.out).1 (fun e => by have := HHB.out.2 hb e; omega)).trans HBX.out
          have hldx := hld_row HX.out hHB
          have hW0 : Below W0.heap.size W0 wr := (HB.out.trans (BA.out.mono HB.out.size)).trans (OW.out.below (Nat.le_trans HB.out.size BA.out.size) (fun j hj => own_from HO.out j hj))
          have HW0 := Lib.hid hW0
          clear hHB hW0
          by_cases hlt : k < mp
          · have hl1 : (k : Int) < mp := by omega
            have hl0 : (0 : Int) ≤ k := by omega
            have HJ1 : Hid (wrap64 ((k : Int) + 1) = ((k + 1 : Nat) : Int)) := Lib.hid (by have := HMP.out; have := HPL.out; unfold wrap64; omega)
            have HKM := Lib.hid hlt
            have hkP : k < P.length := by rw [← HMP.out]; exact hlt
            have HSW := Lib.hid (HPS.out.mild (mild_below HW0.out))
            obtain ⟨by_, oy, cy, e1, hry⟩ := HSW.out.at HP32.out hkP
            injection e1 with e1 e2 e3
            subst e1
            obtain ⟨y, hy⟩ : ∃ y, y = P[k] := ⟨_, rfl⟩
            have hdr : P.drop k = y :: P.drop (k + 1) := by rw [hy]; exact List.drop_eq_getElem_cons hkP
            have HYS : Hid ((aget y (gr T)).isSome = true) := Lib.hid (HPI.out y (by rw [hy]; exact List.getElem_mem hkP))
            have HY : Hid (y.length = 32) := Lib.hid (by rw [hy]; exact HP32.out.at hkP)
            rw [← hy] at hry
            obtain ⟨a, b, o3, va, vb, ha, hbn⟩ := (by have h := VV.out.2; rw [hdr] at h; exact h.split2 : ∃ a b o3, VL (gr T) (fun h => decide (h ∈ Dl)) a o2 [y] o3 ∧ VL (gr T) (fun h => decide (h ∈ Dl)) b o3 (P.drop (k + 1)) o1 ∧ a ≤ n2 ∧ b ≤ n2)
            have HVB : Hid (b < N ∧ VL (gr T) (fun h => decide (h ∈ Dl)) b o3 (P.drop (k + 1)) o1) := Lib.hid ⟨by have := VV.out.1; omega, vb⟩
            have HO3 : Hid (o3.Nodup ∧ ∀ z ∈ o3, (aget z (gr T)).isSome = true) := Lib.hid ⟨va.nodup HWF.out OO.out.2.1, va.inG HWF.out.clo OO.out.2.2 (fun z hz => by rw [List.mem_singleton.1 hz]; exact HYS.out)⟩
            have hldy := hld_range HY.out hry
            have HVI := Lib.hid (IH.out a (by have := VV.out.1; omega) wr HW0.out (.slice q m c) o2 OO.out.1 OO.out.2.1 OO.out.2.2 y HYS.out o3 va)
            clear hkP e2 e3 hy hry hdr va vb ha hbn hk hldx
            go_wp2_with fail
            refine HVI.out.mono ?_
            rintro e wx ⟨v', rfl, ho', oo', loc'⟩
            obtain ⟨q', m', c', rfl, hm'⟩ := own_sh ho'
            have ON : Hid (HOwn wx W0.heap.size (.slice q' m' c') o3 ∧ o3.Nodup ∧ ∀ z ∈ o3, (aget z (gr T)).isSome = true) := Lib.hid ⟨ho', HO3.out⟩
            have OWN : Hid (Only (fun j => (Value.slice q0 m0 c0).ownBlock = some j) w0 wx) := Lib.hid (OW.out.trans oo' (fun _ h => h) (fun j hj h => (LC.out j h).elim id (fun h2 => absurd h2 (by omega))))
            have LCN : Hid (∀ j, (Value.slice q' m' c').ownBlock = some j → (Value.slice q0 m0 c0).ownBlock = some j ∨ w0.heap.size ≤ j) := Lib.hid (fun j hj => (loc' j hj).elim (LC.out j) (fun h => .inr (Nat.le_trans OW.out.size h)))
            clear hm' ho' oo' loc' HVI hldy
            go_wp2_with fail
            refine ⟨⟨q', m', c', k + 1, o3, b, rfl, congrArg _ (by first | rw [HJ1.out] | rfl), HKM.out, ON, HVB, OWN, LCN⟩, ?_⟩
            first | exact meas_nv HKM.out HJ1.out | exact meas_nw HKM.out
          · obtain rfl : k = mp := by omega
            have hjl : ¬ (k : Int) < k := by omega
            have ho2 : o2 = o1 := by
              have h := VV.out.2
              rw [List.drop_eq_nil_of_le (by rw [HMP.out]; exact Nat.le_refl _)] at h
              cases h; rfl
            subst ho2
            have HO2L : Hid (o2.length ≤ 1000) := Lib.hid (Nat.le_trans (in_len OO.out.2.1 OO.out.2.2) HWF.out.few)
            have AL := Lib.hid (below_al11 wr (.cells (hv x) 28))
            have O7 := Lib.hid (own_below OO.out.1 AL.out)
            have HN7 := Lib.hid (heap_alloc_last wr (.cells (hv x) 28))
            clear hlt hk
            go_wp2_with (first
              | (at_builtin; refine push_loc rfl (.tmp 37) (.tmp 39) rfl W0.heap.size (.slice q m c) o2 wr.heap.size x HX.out rfl O7.out rfl (by have := range_row HN7.out; rwa [hv_list] at this) (by have := HO2L.out; omega) (Nat.le_trans HW0.out.size AL.out.size) ?_; intro v8 w8 o8 oth8 loc8; have O8 := Lib.hid o8; have OT8 := Lib.hid oth8; have LO8 := Lib.hid loc8; clear o8 oth8 loc8)
              | (refine build_one x HX.out rfl ?_))
            go_ret
            refine ⟨_, rfl, O8.out, ?_, fun j hj => ?_⟩
            · refine (Only.of_below (S := fun j => (Value.slice q0 m0 c0).ownBlock = some j) BA.out).trans (OW.out.trans ((Only.of_below (S := fun j => (Value.slice q m c).ownBlock = some j) AL.out).trans OT8.out (fun _ h => h) (fun _ _ h => h)) (fun _ h => h) (fun j hj h => (LC.out j h).elim id (fun h2 => absurd h2 (by omega)))) (fun _ h => h) (fun _ _ h => h)
            · rcases LO8.out j hj with h | h
              · rcases LC.out j h with h2 | h2
                · exact .inl h2
                · exact .inr (Nat.le_trans BA.out.size h2)
              · exact .inr (Nat.le_trans BA.out.size (Nat.le_trans OW.out.size (Nat.le_trans AL.out.size h)))
set_option linter.unusedSimpArgs false in
set_option maxRecDepth 20000 in
set_option maxHeartbeats 8000000 in
attribute [local go_sem ↓] hld_open in
theorem rwalk_to (W0 : World) (rg : Nat) (p : Option Addr) (n cap : Nat) (T : Lx) (R0 : RG W0 rg p n cap T) (HW : Wf (gr T)) (pe : Option Addr) (ne ce : Nat) (E : List Key) (hE : HSeen W0 (.slice pe ne ce) E) (h32 : H32 E) (hl : E.length ≤ 1000000) (pd : Option Addr) (nd cd : Nat) (Dl : List Key) (hD : HSeen W0 (.slice pd nd cd) Dl) (d32 : H32 Dl) (dl : Dl.length ≤ 1000000) :
    Calls Try.prog 18 #[rp rg, .slice pe ne ce, .slice pd nd cd] W0 fun e w' => ∃ v' o', e = .returned v' ∧ HOwn w' W0.heap.size v' o' ∧ (∃ N, VL (gr T) (fun h => decide (h ∈ Dl)) N [] (E.filter (hasB (gr T))) o') ∧ Below W0.heap.size W0 w' := by
  have HVT := Lib.hid (rvisit_to W0 rg p n cap T R0 HW pd nd cd Dl hD d32 dl)
  have HR0 := Lib.hid R0
  have HWF := Lib.hid HW
  have HES := Lib.hid hE
  have HE32 := Lib.hid h32
  have HEL := Lib.hid hl
  have hne : ne = E.length := by
    obtain ⟨a1, a2, h⟩ := hE.shape
    injection h
  have HNE := Lib.hid hne
  clear R0 HW hE h32 hl hD d32 dl hne
  go_enter Try.func18, Try.ntmps18
  go_wp2_with fail
  go_loopw [7, 8] (fun v7 v8 wr => ∃ (q : Option Addr) (m c i : Nat) (o : List Key) (N : Nat), v7 = .slice q m c ∧ v8 = .int .i64 i ∧ i ≤ ne ∧ Hid (HOwn wr W0.heap.size (.slice q m c) o) ∧ Hid (VL (gr T) (fun h => decide (h ∈ Dl)) N [] ((E.take i).filter (hasB (gr T))) o) ∧ Hid (Below W0.heap.size W0 wr)) (fun _ v8 _ => ne - (intOf v8).toNat)
  case atStart => exact ⟨none, 0, 0, 0, [], 0, rfl, rfl, Nat.zero_le _, Lib.hid (World.ownsRow_nil _ _ _ _), Lib.hid (by rw [List.take_zero]; exact .nil _), Lib.hid (Below.refl _ _)⟩
  case round =>
    obtain ⟨q, m, c, i, o, N, rfl, rfl, hi, OO, VV, B⟩ := hrel
    by_cases hlt : i < ne
    · have hl1 : (i : Int) < ne := by omega
      have hl0 : (0 : Int) ≤ i := by omega
      have HI1 : Hid (wrap64 ((i : Int) + 1) = ((i + 1 : Nat) : Int)) := Lib.hid (by have := HNE.out; have := HEL.out; unfold wrap64; omega)
      have HIN := Lib.hid hlt
      have hiE : i < E.length := by rw [← HNE.out]; exact hlt
      obtain ⟨be, oe, ce', e1, hrg⟩ := (HES.out.mild (mild_below B.out)).at HE32.out hiE
      injection e1 with e1 e2 e3
      subst e1
      have htk : E.take (i + 1) = E.take i ++ [E[i]] := List.take_succ_eq_append_getElem hiE
      obtain ⟨x, hx⟩ : ∃ x, x = E[i] := ⟨_, rfl⟩
      rw [← hx] at hrg htk
      have HX : Hid (x.length = 32) := Lib.hid (by rw [hx]; exact HE32.out.at hiE)
      have HRG := Lib.hid hrg
      have hldx := hld_range HX.out hrg
      obtain ⟨d, hd⟩ : ∃ d, d = (aget x (gr T)).isSome := ⟨_, rfl⟩
      have HD := Lib.hid hd
      have HFT : Hid ((E.take (i + 1)).filter (hasB (gr T)) = (E.take i).filter (hasB (gr T)) ++ (if d then [x] else [])) := Lib.hid (by rw [htk, List.filter_append, hd]; unfold hasB; cases h : (aget x (gr T)).isSome <;> simp [h])
      have HHS := Lib.hid (rhas_to wr rg p n cap T x HX.out (HR0.out.kb B.out))
      rw [← hd] at HHS
      clear hiE e2 e3 htk hx hrg hd hi
      go_wp2_with fail
      refine HHS.out.mono ?_
      rintro e w1 ⟨rfl, b1⟩
      have B1 := Lib.hid (B.out.trans (b1.mono B.out.size))
      have O1 := Lib.hid (own_below OO.out b1)
      have hld1 := hld_range HX.out (hsr_kb HRG.out (mild_below b1))
      clear b1 HHS B OO hldx
      have hfi : ∀ y ∈ (E.take i).filter (hasB (gr T)), (aget y (gr T)).isSome = true := fun y hy => (List.mem_filter.1 hy).2
      cases d with
      | true =>
        obtain ⟨N2, o2, v2⟩ := VL.ex' HWF.out (fun h => decide (h ∈ Dl)) [x] o
        obtain ⟨N3, v3⟩ := VV.out.app v2
        have HV3 : Hid (VL (gr T) (fun h => decide (h ∈ Dl)) N3 [] ((E.take (i + 1)).filter (hasB (gr T))) o2) := Lib.hid (by rw [HFT.out]; exact v3)
        have HCA := Lib.hid (HVT.out N2 w1 B1.out (.slice q m c) o O1.out (VV.out.nodup HWF.out List.nodup_nil) (VV.out.inG HWF.out.clo (fun _ h => by cases h) hfi) x HD.out.symm o2 v2)
        clear v2 v3 hfi
        go_wp2_with fail
        refine HCA.out.mono ?_
        rintro e w2 ⟨v', rfl, ho', oo', _⟩
        obtain ⟨q', m', c', rfl, hm'⟩ := own_sh ho'
        have ON := Lib.hid ho'
        have BN : Hid (Below W0.heap.size W0 w2) := Lib.hid (B1.out.trans (oo'.below B1.out.size (fun j hj => own_from O1.out j hj)))
        clear hm' ho' oo' HCA hld1
        go_wp2_with fail
        refine ⟨⟨q', m', c', i + 1, o2, N3, rfl, congrArg _ (by first | rw [HI1.out] | rfl), HIN.out, ON, HV3, BN⟩, ?_⟩
        first | exact meas_nv HIN.out HI1.out | exact meas_nw HIN.out
      | false =>
        have HV3 : Hid (VL (gr T) (fun h => decide (h ∈ Dl)) N [] ((E.take (i + 1)).filter (hasB (gr T))) o) := Lib.hid (by rw [HFT.out]; simpa using VV.out)
        clear hfi hld1
        go_wp2_with fail
        refine ⟨⟨q, m, c, i + 1, o, N, rfl, congrArg _ (by first | rw [HI1.out] | rfl), HIN.out, O1, HV3, B1⟩, ?_⟩
        first | exact meas_nv HIN.out HI1.out | exact meas_nw HIN.out
    · obtain rfl : i = ne := by omega
      have hjl : ¬ (i : Int) < i := by omega
      clear hlt hi
      go_wp2_with fail
      go_ret
      have h := VV.out
      rw [List.take_of_length_le (by rw [HNE.out]; exact Nat.le_refl _)] at h
      exact ⟨_, rfl, _, OO.out, ⟨N, h⟩, B.out⟩
end Go.Proofs.Ythfkmfepeafgjaa
