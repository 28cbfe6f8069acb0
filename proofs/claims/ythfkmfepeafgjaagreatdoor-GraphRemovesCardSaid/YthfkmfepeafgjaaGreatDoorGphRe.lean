/- GraphRemoves' walk (genrem.py wrote it). Condition: errors.errorType holds what its text lays. -/
import Derived.Test.YthfkmfepeafgjaaGreatDoorRgrX
import Derived.Test.YthfkmfepeafgjaaGreatDoorHndR
import Derived.Deep.CutBlock
import Derived.Deep.CutRange
namespace Go.Proofs.YthfkmfepeafgjaaGreatDoor
open Go.RowKit Go.Extern.Stop Go.Stop Go.Extern
open Go.Maps

set_option linter.unusedSimpArgs false in
set_option maxRecDepth 20000 in
set_option maxHeartbeats 32000000 in
attribute [local go_sem ↓] hld_open cld_open in
theorem removes_to (w : World) (p : Option Addr) (n cap : Nat) (E : List Rq) (hn : n = E.length) (hE : RqSeen w p E) (pl : Option Addr) (nl cl : Nat) (LS : List (Value × List Int)) (hnl : nl = LS.length) (hL : IIs w pl LS) (wh : Bool) (hg : Glob w) :
    Calls Tryz.prog 4 #[.slice p n cap, .slice pl nl cl, .bool wh] w fun e w' => e = .returned (.bool true) ∧ Below w.heap.size w w' := by
  have HE := Lib.hid hE
  have HG := Lib.hid hg
  have HN := Lib.hid hn
  have HNL := Lib.hid hnl
  have HLS := Lib.hid hL
  clear hE hg hn hnl hL
  have hne := nn_iface
  have hnn := nn_nil
  go_enter Tryz.func4, Tryz.ntmps4
  go_wp2_with fail
  refine (new_to w).mono ?_
  rintro e w1 ⟨rfl, g1, b1⟩
  obtain ⟨bm, hbm⟩ : ∃ bm, bm = w.heap.size := ⟨_, rfl⟩
  have K1 : Hid (Ks w w1 [] (w.heap.size + 1) bm [] []) := Lib.hid ⟨b1, (fun p hp => by cases hp), hbm ▸ g1, by omega, (fun p hp => by cases hp)⟩
  have HG1 := Lib.hid (HG.out.kb b1)
  clear g1 b1 hbm
  generalize w.heap.size + 1 = g at *
  have hnp : ∀ w : World, (binOp .eql 24 (gp g) (.pointer none)).run Tryz.prog w = .ok (.bool false) w := fun w => by kernel_rfl
  go_wp2_with fail
  refine (known11_to w1 HG1.out).mono ?_
  rintro e w2 ⟨rfl, b2⟩
  have K2 := Lib.hid (K1.out.kb b2)
  clear b2 K1 HG1
  have KQ : Hid (Kq w (w2.alloc (.cells #[.slice none 0 0] 30)) g bm w2.heap.size [] none 0 0 []) := Lib.hid ⟨K2.out.kb (below_al11 w2 _), rg_new w2, rfl, Wf.nil, K2.out.bel.size⟩
  go_upto_block 0 with fail
  clear K2
  generalize w2.alloc (.cells #[.slice none 0 0] 30) = w3 at *
  generalize w2.heap.size = rg at *
  go_cut [9] from 30 to 63 (fun _ wr => ∃ X p' n' c' T, Hid (Kq w wr g bm rg X p' n' c' T))
  case first =>
    as_aux_lemma =>
      go_wp2_with fail
      go_loopw [9] (fun s wr => ∃ (i : Nat) (X : Lx) (p' : Option Addr) (n' c' : Nat) (T : Lx), s = .int .i64 i ∧ i ≤ n ∧ i ≤ 4 ∧ Hid (Kq w wr g bm rg X p' n' c' T)) (fun s _ => 4 - (intOf s).toNat)
      case atStart => exact ⟨0, [], none, 0, 0, [], rfl, Nat.zero_le _, Nat.zero_le _, KQ⟩
      case round =>
        clear KQ
        obtain ⟨i, X, p', n', c', T, rfl, hi, hi8, K⟩ := hrel
        by_cases hlt : i < n ∧ i < 4
        · obtain ⟨h1, h2⟩ := hlt
          have hl1 : (i : Int) < n := by omega
          have hl2 : (i : Int) < 4 := by omega
          have hl0 : (0 : Int) ≤ i := by omega
          have HI1 : Hid (wrap64 ((i : Int) + 1) = ((i + 1 : Nat) : Int)) := Lib.hid (by unfold wrap64; omega)
          have HI8 := Lib.hid h2
          have HIN := Lib.hid h1
          have hiE : i < E.length := by rw [← HN.out]; exact h1
          obtain ⟨b, o, x, rfl, hin, c0, c1, c2, c3⟩ := HE.out.get K.out.k.bel hiE
          have HRQ := Lib.hid (request_to wr x.vL x.vH x.grp x.how x.L x.hs hin.1 hin.2)
          clear hiE h1 h2 hi hi8 hin
          go_wp2_with fail
          refine HRQ.out.mono ?_
          rintro e w3 ⟨vc, vh, gg, cs, hs, rfl, hcs, hhs, hok, h32, hp10, hcl, hhl, b3, hfm⟩
          obtain ⟨pc, cc, rfl, _⟩ := id hcs
          obtain ⟨ph, ch, rfl⟩ := hhs.shape
          obtain ⟨m, hm⟩ : ∃ m, m = cs.length := ⟨_, rfl⟩
          generalize hs.length = mh at *
          rw [← hm] at hcs
          have AL3 := below_al11 w3 (.cells #[.slice pc m cc, .slice ph mh ch, .int .i64 gg] 33)
          have RV : Hid (Rv (w3.alloc (.cells #[.slice pc m cc, .slice ph mh ch, .int .i64 gg] 33)) w3.heap.size pc m cc (.slice ph mh ch) gg cs) :=
            Lib.hid ⟨heap_alloc_last w3 _, hcs.kb AL3, hok, hm, hcl, hp10⟩
          have K4 := Lib.hid ((K.out.kb b3).kb AL3)
          have HR32' := Lib.hid (chk_32 (G := gr X) (grp := 2) hok H32.nil)
          rw [← hm]
          clear hcs hhs hok h32 hp10 hcl hhl hfm b3 hm c0 c1 c2 c3 K AL3
          go_upto_region 9 with fail
          generalize w3.alloc (.cells #[.slice pc m cc, .slice ph mh ch, .int .i64 gg] 33) = w4 at *
          generalize w3.heap.size = rb at *
          have a0 := cell_obj RV.out.cell 0 rfl
          obtain ⟨r2, hr2⟩ : ∃ r2, r2 = chk (gr X) 2 cs [] := ⟨_, rfl⟩
          have HR2 := Lib.hid hr2
          have HCKR2 := Lib.hid (rcheck_to w4 rg p' n' c' T K4.out.r K4.out.wft (.slice pc m cc) (.slice none 0 0) 2 cs [] RV.out.seen (.inl ⟨rfl, rfl⟩) RV.out.ok H32.nil (Nat.le_trans RV.out.few (by decide)) (fun c hc => Nat.le_trans (RV.out.par c hc) (by decide)) (by simp))
          rw [← K4.out.eq, ← hr2] at HCKR2
          rw [← hr2] at HR32'
          clear hr2
          obtain ⟨k2, hk2⟩ : ∃ k2, k2 = kindOf r2 := ⟨_, rfl⟩
          obtain ⟨q2, hq2⟩ : ∃ q2, q2 = whoH r2 := ⟨_, rfl⟩
          obtain ⟨o2, ho2⟩ : ∃ o2, o2 = whoB r2 := ⟨_, rfl⟩
          rw [← hk2, ← hq2, ← ho2] at HCKR2
          have HQ2 : Hid (q2.length = 32) := Lib.hid (by rw [hq2]; exact HR32'.out)
          have HKK2 := Lib.hid hk2
          clear hk2 hq2 ho2
          go_wp2_with fail
          refine HCKR2.out.mono ?_
          rintro e w5 ⟨rfl, b5⟩
          have st := hst_cells q2 HQ2.out w5
          have hks : (hv q2).size = 32 := by rw [hv_size, HQ2.out]
          have B6 := Lib.hid (b5.alloc b5.size (.cells (hv q2) 40))
          clear b5 a0
          go_upto_region 10 with fail
          clear st
          generalize w5.alloc (.cells (hv q2) 40) = wz at *
          generalize w5.heap.size = hb at *
          have KC := Lib.hid (K4.out.kb B6.out)
          have RVC := Lib.hid (RV.out.kb B6.out)
          cases hr : r2 with
          | some rr =>
            have hk0 : ¬ k2 = 0 := by rw [HKK2.out, hr]; obtain ⟨kk, oo⟩ := rr; exact chk_kind kk oo (by rw [← HR2.out]; exact hr)
            have hk1 : decide (k2 = 0) = false := decide_eq_false hk0
            have hk3 : (k2 == 0) = false := by simp [hk0]
            have HRS := Lib.hid hr
            have KZ := Lib.hid KC.out.k
            have RGZ := Lib.hid KC.out.r
            have RVZ := RVC
            have HWX := Lib.hid KC.out.wf
            have HLO := Lib.hid KC.out.lo
            have HEQ : Hid (∀ X', (r2.isSome = true → X' = X) → (r2 = none → gr X' = adds (gr X) cs) → gr X' = gr T) := Lib.hid (fun X' h _ => by rw [h (by rw [hr]; rfl)]; exact KC.out.eq)
            have HWN : Hid (∀ X', (r2.isSome = true → X' = X) → (r2 = none → gr X' = adds (gr X) cs) → Wf (gr X')) := Lib.hid (fun X' h _ => by rw [h (by rw [hr]; rfl)]; exact KC.out.wf)
            clear hr KC RVC
            obtain ⟨p2, hp2⟩ : ∃ p2, p2 = p' := ⟨_, rfl⟩
            obtain ⟨n2, hn2⟩ : ∃ n2, n2 = n' := ⟨_, rfl⟩
            obtain ⟨cc2, hc2⟩ : ∃ cc2, cc2 = c' := ⟨_, rfl⟩
            obtain ⟨T', hT'⟩ : ∃ T', T' = T := ⟨_, rfl⟩
            rw [← hp2, ← hn2, ← hc2, ← hT'] at RGZ
            rw [← hT'] at HEQ
            clear hp2 hn2 hc2 hT'
            have a0 := RVZ.out.c
            go_wp2_with fail
            refine (add_to wz g bm X _ cs KZ.out.ga HWX.out RVZ.out.seen RVZ.out.ok (Nat.le_trans RVZ.out.few (by decide)) (fun c hc => Nat.le_trans (RVZ.out.par c hc) (by decide))).mono ?_
            intro e wy hadd
            obtain ⟨y, X', he, k6, h61, h62⟩ := KZ.out.added hadd
            subst he
            obtain ⟨_, _, _, o6, _⟩ := id hadd
            have hm6 := mild_map KZ.out.ga.at_.mp o6
            rw [← HR2.out] at h61 h62
            have KN : Hid (Kq w wy g bm rg X' p2 n2 cc2 T') := Lib.hid ⟨k6.bare, RGZ.out.mild hm6, HEQ.out X' h61 h62, HWN.out X' h61 h62, HLO.out⟩
            clear hadd k6 h61 h62 o6 hm6 a0
            go_wp2_with fail
            refine ⟨⟨i + 1, X', p2, n2, cc2, T', congrArg _ (by first | rw [HI1.out] | rfl), HIN.out, HI8.out, KN⟩, ?_⟩
            first | exact meas_nv HI8.out HI1.out | exact meas_nw HI8.out
          | none =>
            have hk0 : k2 = 0 := by rw [HKK2.out, hr]; rfl
            subst hk0
            have HF : Hid (Fine (gr X) 2 cs []) := Lib.hid (chk_fine.1 (by rw [← HR2.out]; exact hr))
            have a0 := RVC.out.c
            have HAD := Lib.hid (radd_to wz rg p' n' c' T KC.out.r (.slice pc m cc) cs RVC.out.seen RVC.out.ok (fun c hc => Nat.le_trans (RVC.out.par c hc) (by decide)) (by have := KC.out.wft.few; rw [gr_len] at this; have := RVC.out.few; omega))
            have HRN := Lib.hid hr
            clear hr
            go_wp2_with fail
            refine HAD.out.mono ?_
            rintro e wy0 ⟨rfl, oy, p2, n2, cc2, T', rT, gT⟩
            have KZ := Lib.hid (KC.out.k.rturn KC.out.r oy KC.out.lo)
            have RGZ := Lib.hid rT
            have HNRB : Hid (rb ≠ rg) := Lib.hid (fun e => by have h1 := RVC.out.cell; rw [e, KC.out.r.cell] at h1; injection h1 with h1; injection h1 with h1 _ _; have := congrArg (fun a : Array Value => a.size) h1; simp at this)
            have RVZ : Hid (Rv wy0 rb pc m cc (.slice ph mh ch) gg cs) := Lib.hid ⟨(oy.block rb (Array.getElem?_eq_some_iff.1 RVC.out.cell).1 HNRB.out).trans RVC.out.cell, RVC.out.seen.away RVC.out.ok KC.out.r.cell oy, RVC.out.ok, RVC.out.len, RVC.out.few, RVC.out.par⟩
            have HWX := Lib.hid KC.out.wf
            have HLO := Lib.hid KC.out.lo
            have HGT := Lib.hid gT
            have HEQ : Hid (∀ X', (r2.isSome = true → X' = X) → (r2 = none → gr X' = adds (gr X) cs) → gr X' = gr T') := Lib.hid (fun X' _ h => by rw [h HRN.out, HGT.out, KC.out.eq])
            have HWN : Hid (∀ X', (r2.isSome = true → X' = X) → (r2 = none → gr X' = adds (gr X) cs) → Wf (gr X')) := Lib.hid (fun X' _ h => by rw [h HRN.out]; exact add_wf KC.out.wf RVC.out.ok HF.out)
            clear oy rT gT KC RVC HAD a0 HNRB HGT
            obtain ⟨wz9, hwz9⟩ : ∃ wz9, wz9 = wz := ⟨_, rfl⟩
            clear hwz9
            have a0 := RVZ.out.c
            go_wp2_with fail
            refine (add_to wy0 g bm X _ cs KZ.out.ga HWX.out RVZ.out.seen RVZ.out.ok (Nat.le_trans RVZ.out.few (by decide)) (fun c hc => Nat.le_trans (RVZ.out.par c hc) (by decide))).mono ?_
            intro e wy hadd
            obtain ⟨y, X', he, k6, h61, h62⟩ := KZ.out.added hadd
            subst he
            obtain ⟨_, _, _, o6, _⟩ := id hadd
            have hm6 := mild_map KZ.out.ga.at_.mp o6
            rw [← HR2.out] at h61 h62
            have KN : Hid (Kq w wy g bm rg X' p2 n2 cc2 T') := Lib.hid ⟨k6.bare, RGZ.out.mild hm6, HEQ.out X' h61 h62, HWN.out X' h61 h62, HLO.out⟩
            clear hadd k6 h61 h62 o6 hm6 a0
            go_wp2_with fail
            refine ⟨⟨i + 1, X', p2, n2, cc2, T', congrArg _ (by first | rw [HI1.out] | rfl), HIN.out, HI8.out, KN⟩, ?_⟩
            first | exact meas_nv HI8.out HI1.out | exact meas_nw HI8.out
        · rcases (by omega : ¬ i < n ∨ (i < n ∧ ¬ i < 4)) with hq1 | ⟨hq1, hq2⟩
          · have hjl : ¬ (i : Int) < n := by omega
            clear hlt hq1 hi
            go_wp2_with fail
            go_meet
            case rel => exact ⟨X, p', n', c', T, K⟩
          · have hjl : (i : Int) < n := by omega
            have hjl6 : ¬ (i : Int) < 4 := by omega
            clear hlt hq1 hq2 hi
            go_wp2_with fail
            go_meet
            case rel => exact ⟨X, p', n', c', T, K⟩
  case rest =>
    clear KQ
    obtain ⟨X, p', n', c', T, K⟩ := hcut
    rename World => w4
    go_wp2_with fail
    go_loopw [14] (fun s wr => ∃ (i : Nat) (X : Lx) (p' : Option Addr) (n' c' : Nat) (T : Lx), s = .int .i64 i ∧ i ≤ nl ∧ i ≤ 5 ∧ Hid (Kq w wr g bm rg X p' n' c' T)) (fun s _ => 5 - (intOf s).toNat)
    case atStart => exact ⟨0, X, p', n', c', T, rfl, Nat.zero_le _, Nat.zero_le _, K⟩
    case round =>
      clear K
      obtain ⟨i, X, p', n', c', T, rfl, hi, hi5, K⟩ := hrel
      by_cases hlt : i < nl ∧ i < 5
      · obtain ⟨h1, h2⟩ := hlt
        have hl1 : (i : Int) < nl := by omega
        have hl2 : (i : Int) < 5 := by omega
        have hi0 : (0 : Int) ≤ i := by omega
        have HJ1 : Hid (wrap64 ((i : Int) + 1) = ((i + 1 : Nat) : Int)) := Lib.hid (by unfold wrap64; omega)
        have HI5 := Lib.hid h2
        have HIN := Lib.hid h1
        have hiE : i < LS.length := by rw [← HNL.out]; exact h1
        obtain ⟨b, o, rfl, hcl, hsn⟩ := HLS.out.get K.out.k.bel hiE
        obtain ⟨⟨vs, os⟩, hx⟩ : ∃ x, x = LS[i] := ⟨_, rfl⟩
        rw [← hx] at hcl hsn
        dsimp only at hcl hsn
        obtain ⟨pa, na, ca, hvs, hna⟩ : ∃ pa na ca, vs = .slice pa na ca ∧ na = os.length := by
          rcases hsn with ⟨h3, h4⟩ | ⟨a, cap, h3, _⟩
          · exact ⟨none, 0, 0, h3, by rw [h4]; rfl⟩
          · exact ⟨_, _, _, h3, rfl⟩
        subst hvs
        have HCL := Lib.hid hcl
        have HOS := Lib.hid hsn
        have HNA := Lib.hid hna
        clear hiE h1 h2 hi hi5 hx hcl hsn hna
        go_upto_block 4 with fail
        go_cut [15] from 74 to 97 (fun v15 wy => ∃ (q : Option Addr) (m c : Nat) (L : List Key), v15 = .slice q m c ∧ Hid (HOwn wy wr.heap.size (.slice q m c) L) ∧ Hid (H32 L ∧ L.length ≤ 5) ∧ Hid (Below wr.heap.size wr wy))
        case first =>
          as_aux_lemma =>
            go_wp2_with fail
            go_loopw [15, 16] (fun v15 v16 wy => ∃ (q : Option Addr) (m c k : Nat), v15 = .slice q m c ∧ v16 = .int .i64 k ∧ k ≤ na ∧ k ≤ 5 ∧ Hid (∃ L, HOwn wy wr.heap.size (.slice q m c) L ∧ H32 L ∧ L.length ≤ k) ∧ Hid (Below wr.heap.size wr wy)) (fun _ v16 _ => 5 - (intOf v16).toNat)
            case atStart => exact ⟨none, 0, 0, 0, rfl, rfl, Nat.zero_le _, Nat.zero_le _, Lib.hid ⟨[], World.ownsRow_nil _ _ _ _, H32.nil, Nat.le_refl _⟩, Lib.hid (Below.refl _ _)⟩
            case round =>
              obtain ⟨q, m, c, k, rfl, rfl, hk, hk5, OL, B⟩ := hrel
              rename World => wy
              have hcl := (mild_below B.out).cell HCL.out
              by_cases hlt : k < na ∧ k < 5
              · obtain ⟨h1, h2⟩ := hlt
                have hl1 : (k : Int) < na := by omega
                have hl2 : (k : Int) < 5 := by omega
                have hl0 : (0 : Int) ≤ k := by omega
                have HI1 : Hid (wrap64 ((k : Int) + 1) = ((k + 1 : Nat) : Int)) := Lib.hid (by unfold wrap64; omega)
                have HK5 := Lib.hid h2
                have HKN := Lib.hid h1
                have hkE : k < os.length := by rw [← HNA.out]; exact h1
                obtain ⟨a, ha, hca⟩ := HOS.out.at' (List.getElem?_eq_getElem hkE)
                subst ha
                obtain ⟨x, hx⟩ : ∃ x, x = os[k] := ⟨_, rfl⟩
                rw [← hx] at hca
                have hcx := (mild_below (K.out.k.bel.trans (B.out.mono K.out.k.bel.size))).cell hca
                obtain ⟨L, oL, hL32, hLl⟩ := OL.out
                have OL1 := Lib.hid oL
                have HL32 := Lib.hid hL32
                have HLL := Lib.hid hLl
                clear hkE hx hca h1 h2 hk hk5 OL oL hL32 hLl
                go_wp2_with fail
                refine (hash_to wy x).mono ?_
                rintro e w5 ⟨rfl, b5⟩
                obtain ⟨y, hy⟩ : ∃ y, y = hh x := ⟨_, rfl⟩
                have hy32 : y.length = 32 := by rw [hy]; exact hh_length _
                rw [← hy]
                have HY := Lib.hid hy32
                have AL := Lib.hid (below_al11 w5 (.cells (hv y) 40))
                have B7 := Lib.hid ((B.out.trans (b5.mono B.out.size)).alloc (Nat.le_trans B.out.size b5.size) (.cells (hv y) 40))
                have O7 := Lib.hid (own_below (own_below OL1.out b5) AL.out)
                have HN7 := Lib.hid (heap_alloc_last w5 (.cells (hv y) 40))
                clear hy hy32 b5 hcx B OL1 hcl
                go_wp2_with (first
                  | (at_builtin; refine push_loc rfl (.tmp 87) (.tmp 96) rfl wr.heap.size (.slice q m c) L w5.heap.size y HY.out rfl O7.out rfl (by have := range_row HN7.out; rwa [hv_list] at this) (by have := HLL.out; have := HK5.out; omega) B7.out.size ?_; intro v8 w8 o8 oth8 loc8; have O8 := Lib.hid o8; have B8 := Lib.hid (B7.out.trans (oth8.below B7.out.size (fun k hk => own_from O7.out k hk))); clear o8 oth8 loc8)
                  | (refine build_one y HY.out rfl ?_))
                obtain ⟨q8, m8, c8, hv8, hn8⟩ := own_sh O8.out
                subst hv8
                clear hn8
                refine ⟨⟨q8, m8, c8, k + 1, rfl, congrArg _ (by first | rw [HI1.out] | rfl), HKN.out, HK5.out, Lib.hid ⟨L ++ [y], O8.out, HL32.out.app (H32.one HY.out), by have := HLL.out; simp; omega⟩, B8⟩, ?_⟩
                first | exact meas_nv HK5.out HI1.out | exact meas_nw HK5.out
              · rcases (by omega : ¬ k < na ∨ (k < na ∧ ¬ k < 5)) with hq1 | ⟨hq1, hq2⟩
                · have hjl : ¬ (k : Int) < na := by omega
                  clear hlt hq1 hk
                  go_wp2_with fail
                  go_meet
                  case rel =>
                    obtain ⟨L, h1, h2, h3⟩ := OL.out
                    exact ⟨q, m, c, L, rfl, Lib.hid h1, Lib.hid ⟨h2, Nat.le_trans h3 hk5⟩, B⟩
                · have hjl : (k : Int) < na := by omega
                  have hjl6 : ¬ (k : Int) < 5 := by omega
                  clear hlt hq1 hq2 hk
                  go_wp2_with fail
                  go_meet
                  case rel =>
                    obtain ⟨L, h1, h2, h3⟩ := OL.out
                    exact ⟨q, m, c, L, rfl, Lib.hid h1, Lib.hid ⟨h2, Nat.le_trans h3 hk5⟩, B⟩
        case rest =>
          obtain ⟨q, m, c, L, rfl, OL, HL, B⟩ := hcut
          rename World => wz
          have KZ := Lib.hid (K.out.kb B.out)
          clear HCL HOS HNA
          cases wh with
          | false =>
            have HL2 : Hid (H32 L ∧ L.length ≤ 2000) := Lib.hid ⟨HL.out.1, Nat.le_trans HL.out.2 (by decide)⟩
            clear HL
            have HL := HL2
            clear HL2
            clear K
            as_aux_lemma =>
              go_wp2_with fail
              refine (copy_to wz g bm X KZ.out.k.ga).mono ?_
              rintro e w6 ⟨gc, rfl, hgc, hga, b6⟩
              have HNB : Hid (bm ≠ wz.heap.size) := Lib.hid (by have := KZ.out.k.ga.at_.mp.lt; omega)
              have K6 := Lib.hid (KZ.out.kb b6)
              have O6 := Lib.hid (own_below OL.out b6)
              have C6 := Lib.hid hga
              obtain ⟨bc, hbc⟩ : ∃ bc, bc = wz.heap.size := ⟨_, rfl⟩
              rw [← hbc] at C6 HNB
              clear hgc hga b6 hbc
              have hnpc : ∀ w : World, (binOp .eql 24 (gp gc) (.pointer none)).run Tryz.prog w = .ok (.bool false) w := fun w => by kernel_rfl
              obtain ⟨xl, hxl⟩ : ∃ xl, xl = X.length := ⟨_, rfl⟩
              have HXL := Lib.hid hxl
              have HCN := Lib.hid (count_to w6 g bm X K6.out.k.ga)
              rw [← hxl] at HCN
              clear hxl
              go_wp2_with fail
              refine HCN.out.mono ?_
              rintro e w7 ⟨rfl, rfl⟩
              clear HCN
              obtain ⟨r3, hr3⟩ : ∃ r3, r3 = rm1 L (gr X) := ⟨_, rfl⟩
              have HR3 := Lib.hid hr3
              have HR32 := Lib.hid (rm1_32 (E := L) KZ.out.wf)
              rw [← hr3] at HR32
              obtain ⟨k3, hk3⟩ : ∃ k3, k3 = kindOf r3 := ⟨_, rfl⟩
              obtain ⟨q3, hq3⟩ : ∃ q3, q3 = whoH r3 := ⟨_, rfl⟩
              obtain ⟨o3, ho3⟩ : ∃ o3, o3 = whoB r3 := ⟨_, rfl⟩
              have hkn : (k3 != 0) = o3 := by rw [hk3, ho3, hr3]; exact rm1_who
              have HKN3 := Lib.hid hkn
              have HQ3 : Hid (q3.length = 32) := Lib.hid (by rw [hq3]; exact HR32.out)
              have HRM := Lib.hid (rremove_to w6 rg p' n' c' T K6.out.r (.slice q m c) L (HSeen.own O6.out) HL.out.1 (Nat.le_trans HL.out.2 (by decide)))
              have HKK := Lib.hid hk3
              have HQQ := Lib.hid hq3
              have HOO := Lib.hid ho3
              clear hr3 hk3 hq3 ho3 hkn
              go_wp2_with fail
              refine HRM.out.mono ?_
              intro e w8 hpost
              obtain ⟨he, o8, p2, n2, cc2, T2, rT2, gT2⟩ := hpost.all K6.out.r
              rw [← K6.out.eq, ← HR3.out, ← HKK.out, ← HQQ.out] at he
              subst he
              have K8 := Lib.hid (K6.out.k.rturn K6.out.r o8 K6.out.lo)
              have C8 := Lib.hid (C6.out.away K6.out.r.cell o8)
              have O8 := Lib.hid (own_keep O6.out o8 (fun j hj e => own_apart O6.out K6.out.r.cell (by decide) (by rw [hj, e])))
              have RG8 := Lib.hid rT2
              have HGT : Hid (gr T2 = aft L (gr X)) := Lib.hid (by rw [gT2, K6.out.eq])
              have st := hst_cells q3 HQ3.out w8
              have hks : (hv q3).size = 32 := by rw [hv_size, HQ3.out]
              have AL := Lib.hid (below_al11 w8 (.cells (hv q3) 40))
              have HB9 := Lib.hid (heap_alloc_last w8 (.cells (hv q3) 40))
              have K9 := Lib.hid (K8.out.kb AL.out)
              have C9 := Lib.hid (C8.out.kb AL.out)
              have O9 := Lib.hid (own_below O8.out AL.out)
              have RG9 := Lib.hid (RG8.out.kb AL.out)
              clear hpost o8 rT2 gT2 K8 C8 O8 RG8
              go_upto_region 26 with fail
              clear st AL
              generalize w8.alloc (.cells (hv q3) 40) = w9 at *
              generalize w8.heap.size = hb at *
              have bq : Below w9.heap.size w9 w9.drew := blw_qt _ 1 w9
              have KA := Lib.hid (K9.out.kb bq)
              have CA := Lib.hid (C9.out.kb bq)
              have OA := Lib.hid (own_below O9.out bq)
              have RA := Lib.hid (RG9.out.kb bq)
              have HBA := Lib.hid ((mild_below bq).cells HB9.out)
              clear bq K9 C9 O9 RG9 HB9
              go_wp2_with fail
              try simp only [List.append]
              refine wp_region_noPanic ?_
              refine wp_region_held_drew (S := (fun V => (hld ⟨hb, 0, none⟩).run Tryz.prog V = .ok (.agg (hv q3)) V)) (by kernel_rfl) (hld_row HQ3.out HBA.out) (fun hHeld => ?_)
              generalize w9.drew = cw at *
              refine wpAnyH_take (i := 0) (v := ?_) (by simp only [List.getElem?_toArray, List.getElem?_cons_zero]; rfl) (by kernel_rfl) (by kernel_rfl) (by kernel_rfl) (fun _ _ _ h => h) (Or.inl ⟨by rfl, ?_⟩) (by assumption) ?_
              rotate_left
              · intro w hSw
                try dsimp only at hSw
                go_simp
                try with_reducible rfl
              try simp only [Act.put, List.setIfInBounds_toArray, List.set_cons_zero, List.set_cons_succ]
              refine wpAnyH_take (i := 1) (v := ?_) (by simp only [List.getElem?_toArray, List.getElem?_cons_succ, List.getElem?_cons_zero]; rfl) (by kernel_rfl) (by kernel_rfl) (by kernel_rfl) (fun _ _ _ h => h) (Or.inl ⟨by rfl, ?_⟩) (by assumption) ?_
              rotate_left
              · intro w hSw
                try dsimp only at hSw
                go_simp
                try with_reducible rfl
              try simp only [Act.put, List.setIfInBounds_toArray, List.set_cons_zero, List.set_cons_succ]
              refine wpAnyH_take (i := 2) (v := ?_) (by simp only [List.getElem?_toArray, List.getElem?_cons_succ, List.getElem?_cons_zero]; rfl) (by kernel_rfl) (by kernel_rfl) (by kernel_rfl) (fun _ _ _ h => h) (Or.inl ⟨by rfl, ?_⟩) (by assumption) ?_
              rotate_left
              · intro w hSw
                try dsimp only at hSw
                go_simp
                try with_reducible rfl
              try simp only [Act.put, List.setIfInBounds_toArray, List.set_cons_zero, List.set_cons_succ]
              refine wpAnyH_take (i := 3) (v := ?_) (by simp only [List.getElem?_toArray, List.getElem?_cons_succ, List.getElem?_cons_zero]; rfl) (by kernel_rfl) (by kernel_rfl) (by kernel_rfl) (fun _ _ _ h => h) (Or.inl ⟨by rfl, ?_⟩) (by assumption) ?_
              rotate_left
              · intro w hSw
                try dsimp only at hSw
                go_simp
                try with_reducible rfl
              try simp only [Act.put, List.setIfInBounds_toArray, List.set_cons_zero, List.set_cons_succ]
              refine wpAnyH_take (i := 4) (v := ?_) (by simp only [List.getElem?_toArray, List.getElem?_cons_succ, List.getElem?_cons_zero]; rfl) (by kernel_rfl) (by kernel_rfl) (by kernel_rfl) (fun _ _ _ h => h) (Or.inl ⟨by rfl, ?_⟩) (by assumption) ?_
              rotate_left
              · intro w hSw
                try dsimp only at hSw
                go_simp
                try with_reducible rfl
              try simp only [Act.put, List.setIfInBounds_toArray, List.set_cons_zero, List.set_cons_succ]
              refine wpAnyH_take (i := 6) (v := ?_) (by simp only [List.getElem?_toArray, List.getElem?_cons_succ, List.getElem?_cons_zero]; rfl) (by kernel_rfl) (by kernel_rfl) (by kernel_rfl) (fun _ _ _ h => h) (Or.inl ⟨by rfl, ?_⟩) (by assumption) ?_
              rotate_left
              · intro w hSw
                try dsimp only at hSw
                go_simp
                try with_reducible rfl
              try simp only [Act.put, List.setIfInBounds_toArray, List.set_cons_zero, List.set_cons_succ]
              refine wpAnyH_take (i := 7) (v := ?_) (by simp only [List.getElem?_toArray, List.getElem?_cons_succ, List.getElem?_cons_zero]; rfl) (by kernel_rfl) (by kernel_rfl) (by kernel_rfl) (fun _ _ _ h => h) (Or.inl ⟨by rfl, ?_⟩) (by assumption) ?_
              rotate_left
              · intro w hSw
                try dsimp only at hSw
                go_simp
                try with_reducible rfl
              try simp only [Act.put, List.setIfInBounds_toArray, List.set_cons_zero, List.set_cons_succ]
              refine wpAnyH_take (i := 8) (v := ?_) (by simp only [List.getElem?_toArray, List.getElem?_cons_succ, List.getElem?_cons_zero]; rfl) (by kernel_rfl) (by kernel_rfl) (by kernel_rfl) (fun _ _ _ h => h) (Or.inl ⟨by rfl, ?_⟩) (by assumption) ?_
              rotate_left
              · intro w hSw
                try dsimp only at hSw
                go_simp
                try with_reducible rfl
              try simp only [Act.put, List.setIfInBounds_toArray, List.set_cons_zero, List.set_cons_succ]
              refine wpAnyH_take (i := 9) (v := (.bool (k3 != 0))) (by simp only [List.getElem?_toArray, List.getElem?_cons_succ, List.getElem?_cons_zero]; rfl) (by kernel_rfl) (by kernel_rfl) (by kernel_rfl) (fun _ _ _ h => h) (Or.inl ⟨by rfl, ?_⟩) (by assumption) ?_
              · intro w hSw
                try dsimp only at hSw
                go_simp
              try simp only [Act.put, List.setIfInBounds_toArray, List.set_cons_zero, List.set_cons_succ]
              refine wpAnyH_ready (rs := [5]) (by kernel_rfl) (by simp) ?_
              refine AllReadyH.cons (by simp only [List.getElem?_toArray, List.getElem?_cons_succ, List.getElem?_cons_zero]; rfl) (fun K hK => ?_) AllReadyH.nil
              go_simp
              refine (remove_to cw g bm X (.slice q m c) L KA.out.ga KZ.out.wf (HSeen.own OA.out) HL.out.1 (Nat.le_trans HL.out.2 (by decide))).mono ?_
              intro e cx hrem
              obtain ⟨y, X2, he, k6, h61, h62⟩ := KA.out.removed hrem
              subst he
              obtain ⟨_, _, _, o6, _⟩ := id hrem
              have hm6 := mild_map KA.out.ga.at_.mp o6
              rw [← HR3.out] at k6 h61 h62
              have KB := Lib.hid k6
              have CB := Lib.hid (CA.out.only o6 hm6 (fun e => HNB.out e.symm))
              have RB := Lib.hid (RA.out.mild hm6)
              have HBB := Lib.hid (hm6.cells HBA.out)
              have EY := Lib.hid (k6.err _ List.mem_cons_self)
              have HG2 : Hid (gr X2 = aft L (gr X)) := Lib.hid (by
                unfold aft
                rw [← HR3.out]
                cases hr : r3 with
                | none => rw [h62 hr]; rfl
                | some x => rw [h61 (by rw [hr]; rfl)]; rfl)
              clear hrem k6 h61 h62 o6 hm6 KA CA RA HBA OA
              obtain ⟨z, hz⟩ : ∃ z, z = y := ⟨_, rfl⟩
              rw [← hz]
              have HZY := Lib.hid hz
              clear hz
              go_wp2_with fail
              refine hK.out _ _ (hld_row HQ3.out HBB.out) (fun hHeld => ?_)
              clear hK K
              try simp only [Act.put, List.setIfInBounds_toArray, List.set_cons_zero, List.set_cons_succ]
              rename World => cw
              refine wpAnyH_ready (rs := [10]) (by kernel_rfl) (by simp) ?_
              refine AllReadyH.cons (by simp only [List.getElem?_toArray, List.getElem?_cons_succ, List.getElem?_cons_zero]; rfl) (fun K hK => ?_) AllReadyH.nil
              go_simp
              have hsm := same11_to cw z r3 (HG.out.kb KB.out.bel) (by rw [HZY.out]; exact EY.out) (by rw [HR3.out]; exact fun k o h => (rm1_kind k o h).1)
              rw [← HKK.out, ← HQQ.out, ← HOO.out, ← HKN3.out] at hsm
              refine hsm.mono ?_
              clear hsm
              rintro e cx ⟨rfl, bb⟩
              have KQ2 : Hid (Kq w cx g bm rg X2 p2 n2 cc2 T2) := Lib.hid ⟨KB.out.bare.kb bb, RB.out.kb bb, by rw [HG2.out, HGT.out], by rw [HG2.out]; exact aft_wf KZ.out.wf, KZ.out.lo⟩
              have CC := Lib.hid (CB.out.kb bb)
              have HBC := Lib.hid ((mild_below bb).cells HBB.out)
              obtain ⟨KL, hKL⟩ : ∃ KL, KL = (gr X2).map (·.1) := ⟨_, rfl⟩
              have HKL := Lib.hid hKL
              have HKLH : Hid (H32 KL ∧ KL.length ≤ 4611686018427387904) := Lib.hid (by rw [hKL]; exact ⟨keys_h32 KQ2.out.wf, Nat.le_trans (keys_len KQ2.out.wf) (by decide)⟩)
              clear hKL bb KB CB RB HBB EY HZY HG2 HGT
              go_wp2_with fail
              refine hK.out _ _ (hld_row HQ3.out HBC.out) (fun hHeld => ?_)
              clear hK K
              try simp only [Act.put, List.setIfInBounds_toArray, List.set_cons_zero, List.set_cons_succ]
              rename World => cw
              refine wpAnyH_take (i := 11) (v := ?_) (by simp only [List.getElem?_toArray, List.getElem?_cons_succ, List.getElem?_cons_zero]; rfl) (by kernel_rfl) (by kernel_rfl) (by kernel_rfl) (fun _ _ _ h => h) (Or.inl ⟨by rfl, ?_⟩) (by assumption) ?_
              rotate_left
              · intro w hSw
                try dsimp only at hSw
                go_simp
                try with_reducible rfl
              try simp only [Act.put, List.setIfInBounds_toArray, List.set_cons_zero, List.set_cons_succ]
              refine wpAnyH_take (i := 12) (v := ?_) (by simp only [List.getElem?_toArray, List.getElem?_cons_succ, List.getElem?_cons_zero]; rfl) (by kernel_rfl) (by kernel_rfl) (by kernel_rfl) (fun _ _ _ h => h) (Or.inl ⟨by rfl, ?_⟩) (by assumption) ?_
              rotate_left
              · intro w hSw
                try dsimp only at hSw
                go_simp
                try with_reducible rfl
              try simp only [Act.put, List.setIfInBounds_toArray, List.set_cons_zero, List.set_cons_succ]
              refine wpAnyH_take (i := 13) (v := ?_) (by simp only [List.getElem?_toArray, List.getElem?_cons_succ, List.getElem?_cons_zero]; rfl) (by kernel_rfl) (by kernel_rfl) (by kernel_rfl) (fun _ _ _ h => h) (Or.inl ⟨by rfl, ?_⟩) (by assumption) ?_
              rotate_left
              · intro w hSw
                try dsimp only at hSw
                go_simp
                try with_reducible rfl
              try simp only [Act.put, List.setIfInBounds_toArray, List.set_cons_zero, List.set_cons_succ]
              refine wpAnyH_take (i := 14) (v := ?_) (by simp only [List.getElem?_toArray, List.getElem?_cons_succ, List.getElem?_cons_zero]; rfl) (by kernel_rfl) (by kernel_rfl) (by kernel_rfl) (fun _ _ _ h => h) (Or.inl ⟨by rfl, ?_⟩) (by assumption) ?_
              rotate_left
              · intro w hSw
                try dsimp only at hSw
                go_simp
                try with_reducible rfl
              try simp only [Act.put, List.setIfInBounds_toArray, List.set_cons_zero, List.set_cons_succ]
              refine wpAnyH_take (i := 16) (v := ?_) (by simp only [List.getElem?_toArray, List.getElem?_cons_succ, List.getElem?_cons_zero]; rfl) (by kernel_rfl) (by kernel_rfl) (by kernel_rfl) (fun _ _ _ h => h) (Or.inl ⟨by rfl, ?_⟩) (by assumption) ?_
              rotate_left
              · intro w hSw
                try dsimp only at hSw
                go_simp
                try with_reducible rfl
              try simp only [Act.put, List.setIfInBounds_toArray, List.set_cons_zero, List.set_cons_succ]
              refine wpAnyH_ready (rs := [15]) (by kernel_rfl) (by simp) ?_
              refine AllReadyH.cons (by simp only [List.getElem?_toArray, List.getElem?_cons_succ, List.getElem?_cons_zero]; rfl) (fun K hK => ?_) AllReadyH.nil
              go_simp
              refine (hashes_to cw g bm X2 (Nat.le_trans KQ2.out.wf.xlen (by decide)) KQ2.out.k.ga).mono ?_
              rintro e cx ⟨vA, rfl, oA, bk⟩
              rw [← gr_keys, ← HKL.out] at oA
              obtain ⟨pA, nA, cA, rfl, hnA⟩ := own_sh oA
              clear hnA
              have KX := Lib.hid (KQ2.out.kb bk)
              have CX := Lib.hid (CC.out.kb bk)
              have HBX := Lib.hid ((mild_below bk).cells HBC.out)
              have OA := Lib.hid oA
              clear bk oA KQ2 CC HBC
              go_wp2_with fail
              refine hK.out _ _ (hld_row HQ3.out HBX.out) (fun hHeld => ?_)
              clear hK K
              try simp only [Act.put, List.setIfInBounds_toArray, List.set_cons_zero, List.set_cons_succ]
              rename World => cw
              refine wpAnyH_ready (rs := [17]) (by kernel_rfl) (by simp) ?_
              refine AllReadyH.cons (by simp only [List.getElem?_toArray, List.getElem?_cons_succ, List.getElem?_cons_zero]; rfl) (fun K hK => ?_) AllReadyH.nil
              go_simp
              refine (rhashes_to cw rg p2 n2 cc2 T2 KX.out.r).mono ?_
              rintro e cx ⟨vB, rfl, oB, bk⟩
              rw [← gr_keys, ← KX.out.eq, ← HKL.out] at oB
              obtain ⟨pB, nB, cB, rfl, hnB⟩ := own_sh oB
              clear hnB
              have KY := Lib.hid (KX.out.kb bk)
              have CY := Lib.hid (CX.out.kb bk)
              have HBY := Lib.hid ((mild_below bk).cells HBX.out)
              have OB := Lib.hid oB
              have OA2 := Lib.hid (own_below OA.out bk)
              clear bk oB KX CX HBX OA
              go_wp2_with fail
              refine hK.out _ _ (hld_row HQ3.out HBY.out) (fun hHeld => ?_)
              clear hK K
              try simp only [Act.put, List.setIfInBounds_toArray, List.set_cons_zero, List.set_cons_succ]
              rename World => cw
              refine wpAnyH_ready (rs := [18]) (by kernel_rfl) (by simp) ?_
              refine AllReadyH.cons (by simp only [List.getElem?_toArray, List.getElem?_cons_succ, List.getElem?_cons_zero]; rfl) (fun K hK => ?_) AllReadyH.nil
              go_simp
              refine (same_any cw _ _ _ _ KL HKLH.out.1 OA2.out OB.out HKLH.out.2).mono ?_
              rintro e cx ⟨rfl, zz, rfl⟩
              have KU := Lib.hid (KY.out.kb (blw_qt cw.heap.size zz cw))
              have CU := Lib.hid (CY.out.kb (blw_qt cw.heap.size zz cw))
              have HBU := Lib.hid ((mild_below (blw_qt cw.heap.size zz cw)).cells HBY.out)
              clear OB OA2 KY CY HBY
              generalize cw.drewN zz = cx at *
              go_wp2_with fail
              refine hK.out _ _ (hld_row HQ3.out HBU.out) (fun hHeld => ?_)
              clear hK K
              try simp only [Act.put, List.setIfInBounds_toArray, List.set_cons_zero, List.set_cons_succ]
              rename World => cw
              refine wpAnyH_take (i := 19) (v := ?_) (by simp only [List.getElem?_toArray, List.getElem?_cons_succ, List.getElem?_cons_zero]; rfl) (by kernel_rfl) (by kernel_rfl) (by kernel_rfl) (fun _ _ _ h => h) (Or.inl ⟨by rfl, ?_⟩) (by assumption) ?_
              rotate_left
              · intro w hSw
                try dsimp only at hSw
                go_simp
                try with_reducible rfl
              try simp only [Act.put, List.setIfInBounds_toArray, List.set_cons_zero, List.set_cons_succ]
              refine wpAnyH_take (i := 20) (v := ?_) (by simp only [List.getElem?_toArray, List.getElem?_cons_succ, List.getElem?_cons_zero]; rfl) (by kernel_rfl) (by kernel_rfl) (by kernel_rfl) (fun _ _ _ h => h) (Or.inl ⟨by rfl, ?_⟩) (by assumption) ?_
              rotate_left
              · intro w hSw
                try dsimp only at hSw
                go_simp
                try with_reducible rfl
              try simp only [Act.put, List.setIfInBounds_toArray, List.set_cons_zero, List.set_cons_succ]
              refine wpAnyH_take (i := 21) (v := ?_) (by simp only [List.getElem?_toArray, List.getElem?_cons_succ, List.getElem?_cons_zero]; rfl) (by kernel_rfl) (by kernel_rfl) (by kernel_rfl) (fun _ _ _ h => h) (Or.inl ⟨by rfl, ?_⟩) (by assumption) ?_
              rotate_left
              · intro w hSw
                try dsimp only at hSw
                go_simp
                try with_reducible rfl
              try simp only [Act.put, List.setIfInBounds_toArray, List.set_cons_zero, List.set_cons_succ]
              refine wpAnyH_take (i := 22) (v := ?_) (by simp only [List.getElem?_toArray, List.getElem?_cons_succ, List.getElem?_cons_zero]; rfl) (by kernel_rfl) (by kernel_rfl) (by kernel_rfl) (fun _ _ _ h => h) (Or.inl ⟨by rfl, ?_⟩) (by assumption) ?_
              rotate_left
              · intro w hSw
                try dsimp only at hSw
                go_simp
                try with_reducible rfl
              try simp only [Act.put, List.setIfInBounds_toArray, List.set_cons_zero, List.set_cons_succ]
              refine wpAnyH_take (i := 24) (v := ?_) (by simp only [List.getElem?_toArray, List.getElem?_cons_succ, List.getElem?_cons_zero]; rfl) (by kernel_rfl) (by kernel_rfl) (by kernel_rfl) (fun _ _ _ h => h) (Or.inl ⟨by rfl, ?_⟩) (by assumption) ?_
              rotate_left
              · intro w hSw
                try dsimp only at hSw
                go_simp
                try with_reducible rfl
              try simp only [Act.put, List.setIfInBounds_toArray, List.set_cons_zero, List.set_cons_succ]
              refine wpAnyH_ready (rs := [23]) (by kernel_rfl) (by simp) ?_
              refine AllReadyH.cons (by simp only [List.getElem?_toArray, List.getElem?_cons_succ, List.getElem?_cons_zero]; rfl) (fun K hK => ?_) AllReadyH.nil
              go_simp
              have hcnt := count_to cw gc bc X CU.out
              rw [← HXL.out] at hcnt
              refine hcnt.mono ?_
              clear hcnt
              rintro e cx ⟨rfl, rfl⟩
              go_wp2_with fail
              refine hK.out _ _ (hld_row HQ3.out HBU.out) (fun hHeld => ?_)
              clear hK K
              try simp only [Act.put, List.setIfInBounds_toArray, List.set_cons_zero, List.set_cons_succ]
              refine wpAnyH_take (i := 25) (v := ?_) (by simp only [List.getElem?_toArray, List.getElem?_cons_succ, List.getElem?_cons_zero]; rfl) (by kernel_rfl) (by kernel_rfl) (by kernel_rfl) (fun _ _ _ h => h) (Or.inl ⟨by rfl, ?_⟩) (by assumption) ?_
              rotate_left
              · intro w hSw
                try dsimp only at hSw
                go_simp
                try with_reducible rfl
              try simp only [Act.put, List.setIfInBounds_toArray, List.set_cons_zero, List.set_cons_succ]
              refine wpAnyH_take (i := 26) (v := ?_) (by simp only [List.getElem?_toArray, List.getElem?_cons_succ, List.getElem?_cons_zero]; rfl) (by kernel_rfl) (by kernel_rfl) (by kernel_rfl) (fun _ _ _ h => h) (Or.inl ⟨by rfl, ?_⟩) (by assumption) ?_
              rotate_left
              · intro w hSw
                try dsimp only at hSw
                go_simp
                try with_reducible rfl
              try simp only [Act.put, List.setIfInBounds_toArray, List.set_cons_zero, List.set_cons_succ]
              refine wpAnyH_done (by kernel_rfl) ?_ _
              refine NoPanic.normal ?_
              clear hHeld
              go_wp2_with fail
              refine ⟨⟨i + 1, X2, p2, n2, cc2, T2, congrArg _ (by first | rw [HJ1.out] | rfl), HIN.out, HI5.out, KU⟩, ?_⟩
              first | exact meas_nv HI5.out HJ1.out | exact meas_nw HI5.out
          | true =>
            go_wp2_with fail
            refine (rdesc_to wz rg p' n' c' T KZ.out.r (.slice q m c) L (HSeen.own OL.out) HL.out.1 (Nat.le_trans HL.out.2 (by decide)) KZ.out.wft.clo).mono ?_
            rintro e wy ⟨vd, rfl, od, bd⟩
            rw [← KZ.out.eq] at od
            obtain ⟨pd, nd, cd, rfl, hnd⟩ := own_sh od
            have OD := Lib.hid (HSeen.own od)
            have HD : Hid (H32 (descs (gr X) L) ∧ (descs (gr X) L).length ≤ 1000) := Lib.hid ⟨sub_h32 KZ.out.wf (descs_sub _ _), Nat.le_trans (descs_len _ _) KZ.out.wf.few⟩
            have OL2 := Lib.hid (own_below OL.out bd)
            have B2 := Lib.hid (B.out.trans (bd.mono B.out.size))
            have K2 := Lib.hid (KZ.out.kb bd)
            clear od bd hnd OL B KZ
            generalize descs (gr X) L = DL at *
            go_upto_region 23 with (at_builtin; refine push_hash rfl _ _ rfl wr.heap.size (.slice q m c) (.slice pd nd cd) L DL rfl OL2.out rfl OD.out HD.out.1 (by have := HD.out.2; have := HL.out.2; omega) B2.out.size ?_; intro v8 w5z o8 oth8; have O8z := Lib.hid o8; have OT8 := Lib.hid oth8; clear o8 oth8)
            obtain ⟨q8, m8, c8, rfl, hn8⟩ := own_sh O8z.out
            have HL8 : Hid (H32 (L ++ DL) ∧ (L ++ DL).length ≤ 2000) := Lib.hid ⟨HL.out.1.app HD.out.1, by have := HL.out.2; have := HD.out.2; rw [List.length_append]; omega⟩
            have B8 := Lib.hid (B2.out.trans (OT8.out.below B2.out.size (fun k hk => own_from OL2.out k hk)))
            have KZ := Lib.hid (K.out.kb B8.out)
            clear hn8 OT8 OL2 OD HD B2 HL K2 K B8
            generalize L ++ DL = L8 at *
            as_aux_lemma =>
              go_wp2_with fail
              refine (copy_to w5z g bm X KZ.out.k.ga).mono ?_
              rintro e w6 ⟨gc, rfl, hgc, hga, b6⟩
              have HNB : Hid (bm ≠ w5z.heap.size) := Lib.hid (by have := KZ.out.k.ga.at_.mp.lt; omega)
              have K6 := Lib.hid (KZ.out.kb b6)
              have O6 := Lib.hid (own_below O8z.out b6)
              have C6 := Lib.hid hga
              obtain ⟨bc, hbc⟩ : ∃ bc, bc = w5z.heap.size := ⟨_, rfl⟩
              rw [← hbc] at C6 HNB
              clear hgc hga b6 hbc
              have hnpc : ∀ w : World, (binOp .eql 24 (gp gc) (.pointer none)).run Tryz.prog w = .ok (.bool false) w := fun w => by kernel_rfl
              obtain ⟨xl, hxl⟩ : ∃ xl, xl = X.length := ⟨_, rfl⟩
              have HXL := Lib.hid hxl
              have HCN := Lib.hid (count_to w6 g bm X K6.out.k.ga)
              rw [← hxl] at HCN
              clear hxl
              go_wp2_with fail
              refine HCN.out.mono ?_
              rintro e w7 ⟨rfl, rfl⟩
              clear HCN
              obtain ⟨r3, hr3⟩ : ∃ r3, r3 = rm1 L8 (gr X) := ⟨_, rfl⟩
              have HR3 := Lib.hid hr3
              have HR32 := Lib.hid (rm1_32 (E := L8) KZ.out.wf)
              rw [← hr3] at HR32
              obtain ⟨k3, hk3⟩ : ∃ k3, k3 = kindOf r3 := ⟨_, rfl⟩
              obtain ⟨q3, hq3⟩ : ∃ q3, q3 = whoH r3 := ⟨_, rfl⟩
              obtain ⟨o3, ho3⟩ : ∃ o3, o3 = whoB r3 := ⟨_, rfl⟩
              have hkn : (k3 != 0) = o3 := by rw [hk3, ho3, hr3]; exact rm1_who
              have HKN3 := Lib.hid hkn
              have HQ3 : Hid (q3.length = 32) := Lib.hid (by rw [hq3]; exact HR32.out)
              have HRM := Lib.hid (rremove_to w6 rg p' n' c' T K6.out.r (.slice q8 m8 c8) L8 (HSeen.own O6.out) HL8.out.1 (Nat.le_trans HL8.out.2 (by decide)))
              have HKK := Lib.hid hk3
              have HQQ := Lib.hid hq3
              have HOO := Lib.hid ho3
              clear hr3 hk3 hq3 ho3 hkn
              go_wp2_with fail
              refine HRM.out.mono ?_
              intro e w8 hpost
              obtain ⟨he, o8, p2, n2, cc2, T2, rT2, gT2⟩ := hpost.all K6.out.r
              rw [← K6.out.eq, ← HR3.out, ← HKK.out, ← HQQ.out] at he
              subst he
              have K8 := Lib.hid (K6.out.k.rturn K6.out.r o8 K6.out.lo)
              have C8 := Lib.hid (C6.out.away K6.out.r.cell o8)
              have O8 := Lib.hid (own_keep O6.out o8 (fun j hj e => own_apart O6.out K6.out.r.cell (by decide) (by rw [hj, e])))
              have RG8 := Lib.hid rT2
              have HGT : Hid (gr T2 = aft L8 (gr X)) := Lib.hid (by rw [gT2, K6.out.eq])
              have st := hst_cells q3 HQ3.out w8
              have hks : (hv q3).size = 32 := by rw [hv_size, HQ3.out]
              have AL := Lib.hid (below_al11 w8 (.cells (hv q3) 40))
              have HB9 := Lib.hid (heap_alloc_last w8 (.cells (hv q3) 40))
              have K9 := Lib.hid (K8.out.kb AL.out)
              have C9 := Lib.hid (C8.out.kb AL.out)
              have O9 := Lib.hid (own_below O8.out AL.out)
              have RG9 := Lib.hid (RG8.out.kb AL.out)
              clear hpost o8 rT2 gT2 K8 C8 O8 RG8
              go_upto_region 26 with fail
              clear st AL
              generalize w8.alloc (.cells (hv q3) 40) = w9 at *
              generalize w8.heap.size = hb at *
              have bq : Below w9.heap.size w9 w9.drew := blw_qt _ 1 w9
              have KA := Lib.hid (K9.out.kb bq)
              have CA := Lib.hid (C9.out.kb bq)
              have OA := Lib.hid (own_below O9.out bq)
              have RA := Lib.hid (RG9.out.kb bq)
              have HBA := Lib.hid ((mild_below bq).cells HB9.out)
              clear bq K9 C9 O9 RG9 HB9
              go_wp2_with fail
              try simp only [List.append]
              refine wp_region_noPanic ?_
              refine wp_region_held_drew (S := (fun V => (hld ⟨hb, 0, none⟩).run Tryz.prog V = .ok (.agg (hv q3)) V)) (by kernel_rfl) (hld_row HQ3.out HBA.out) (fun hHeld => ?_)
              generalize w9.drew = cw at *
              refine wpAnyH_take (i := 0) (v := ?_) (by simp only [List.getElem?_toArray, List.getElem?_cons_zero]; rfl) (by kernel_rfl) (by kernel_rfl) (by kernel_rfl) (fun _ _ _ h => h) (Or.inl ⟨by rfl, ?_⟩) (by assumption) ?_
              rotate_left
              · intro w hSw
                try dsimp only at hSw
                go_simp
                try with_reducible rfl
              try simp only [Act.put, List.setIfInBounds_toArray, List.set_cons_zero, List.set_cons_succ]
              refine wpAnyH_take (i := 1) (v := ?_) (by simp only [List.getElem?_toArray, List.getElem?_cons_succ, List.getElem?_cons_zero]; rfl) (by kernel_rfl) (by kernel_rfl) (by kernel_rfl) (fun _ _ _ h => h) (Or.inl ⟨by rfl, ?_⟩) (by assumption) ?_
              rotate_left
              · intro w hSw
                try dsimp only at hSw
                go_simp
                try with_reducible rfl
              try simp only [Act.put, List.setIfInBounds_toArray, List.set_cons_zero, List.set_cons_succ]
              refine wpAnyH_take (i := 2) (v := ?_) (by simp only [List.getElem?_toArray, List.getElem?_cons_succ, List.getElem?_cons_zero]; rfl) (by kernel_rfl) (by kernel_rfl) (by kernel_rfl) (fun _ _ _ h => h) (Or.inl ⟨by rfl, ?_⟩) (by assumption) ?_
              rotate_left
              · intro w hSw
                try dsimp only at hSw
                go_simp
                try with_reducible rfl
              try simp only [Act.put, List.setIfInBounds_toArray, List.set_cons_zero, List.set_cons_succ]
              refine wpAnyH_take (i := 3) (v := ?_) (by simp only [List.getElem?_toArray, List.getElem?_cons_succ, List.getElem?_cons_zero]; rfl) (by kernel_rfl) (by kernel_rfl) (by kernel_rfl) (fun _ _ _ h => h) (Or.inl ⟨by rfl, ?_⟩) (by assumption) ?_
              rotate_left
              · intro w hSw
                try dsimp only at hSw
                go_simp
                try with_reducible rfl
              try simp only [Act.put, List.setIfInBounds_toArray, List.set_cons_zero, List.set_cons_succ]
              refine wpAnyH_take (i := 4) (v := ?_) (by simp only [List.getElem?_toArray, List.getElem?_cons_succ, List.getElem?_cons_zero]; rfl) (by kernel_rfl) (by kernel_rfl) (by kernel_rfl) (fun _ _ _ h => h) (Or.inl ⟨by rfl, ?_⟩) (by assumption) ?_
              rotate_left
              · intro w hSw
                try dsimp only at hSw
                go_simp
                try with_reducible rfl
              try simp only [Act.put, List.setIfInBounds_toArray, List.set_cons_zero, List.set_cons_succ]
              refine wpAnyH_take (i := 6) (v := ?_) (by simp only [List.getElem?_toArray, List.getElem?_cons_succ, List.getElem?_cons_zero]; rfl) (by kernel_rfl) (by kernel_rfl) (by kernel_rfl) (fun _ _ _ h => h) (Or.inl ⟨by rfl, ?_⟩) (by assumption) ?_
              rotate_left
              · intro w hSw
                try dsimp only at hSw
                go_simp
                try with_reducible rfl
              try simp only [Act.put, List.setIfInBounds_toArray, List.set_cons_zero, List.set_cons_succ]
              refine wpAnyH_take (i := 7) (v := ?_) (by simp only [List.getElem?_toArray, List.getElem?_cons_succ, List.getElem?_cons_zero]; rfl) (by kernel_rfl) (by kernel_rfl) (by kernel_rfl) (fun _ _ _ h => h) (Or.inl ⟨by rfl, ?_⟩) (by assumption) ?_
              rotate_left
              · intro w hSw
                try dsimp only at hSw
                go_simp
                try with_reducible rfl
              try simp only [Act.put, List.setIfInBounds_toArray, List.set_cons_zero, List.set_cons_succ]
              refine wpAnyH_take (i := 8) (v := ?_) (by simp only [List.getElem?_toArray, List.getElem?_cons_succ, List.getElem?_cons_zero]; rfl) (by kernel_rfl) (by kernel_rfl) (by kernel_rfl) (fun _ _ _ h => h) (Or.inl ⟨by rfl, ?_⟩) (by assumption) ?_
              rotate_left
              · intro w hSw
                try dsimp only at hSw
                go_simp
                try with_reducible rfl
              try simp only [Act.put, List.setIfInBounds_toArray, List.set_cons_zero, List.set_cons_succ]
              refine wpAnyH_take (i := 9) (v := (.bool (k3 != 0))) (by simp only [List.getElem?_toArray, List.getElem?_cons_succ, List.getElem?_cons_zero]; rfl) (by kernel_rfl) (by kernel_rfl) (by kernel_rfl) (fun _ _ _ h => h) (Or.inl ⟨by rfl, ?_⟩) (by assumption) ?_
              · intro w hSw
                try dsimp only at hSw
                go_simp
              try simp only [Act.put, List.setIfInBounds_toArray, List.set_cons_zero, List.set_cons_succ]
              refine wpAnyH_ready (rs := [5]) (by kernel_rfl) (by simp) ?_
              refine AllReadyH.cons (by simp only [List.getElem?_toArray, List.getElem?_cons_succ, List.getElem?_cons_zero]; rfl) (fun K hK => ?_) AllReadyH.nil
              go_simp
              refine (remove_to cw g bm X (.slice q8 m8 c8) L8 KA.out.ga KZ.out.wf (HSeen.own OA.out) HL8.out.1 (Nat.le_trans HL8.out.2 (by decide))).mono ?_
              intro e cx hrem
              obtain ⟨y, X2, he, k6, h61, h62⟩ := KA.out.removed hrem
              subst he
              obtain ⟨_, _, _, o6, _⟩ := id hrem
              have hm6 := mild_map KA.out.ga.at_.mp o6
              rw [← HR3.out] at k6 h61 h62
              have KB := Lib.hid k6
              have CB := Lib.hid (CA.out.only o6 hm6 (fun e => HNB.out e.symm))
              have RB := Lib.hid (RA.out.mild hm6)
              have HBB := Lib.hid (hm6.cells HBA.out)
              have EY := Lib.hid (k6.err _ List.mem_cons_self)
              have HG2 : Hid (gr X2 = aft L8 (gr X)) := Lib.hid (by
                unfold aft
                rw [← HR3.out]
                cases hr : r3 with
                | none => rw [h62 hr]; rfl
                | some x => rw [h61 (by rw [hr]; rfl)]; rfl)
              clear hrem k6 h61 h62 o6 hm6 KA CA RA HBA OA
              obtain ⟨z, hz⟩ : ∃ z, z = y := ⟨_, rfl⟩
              rw [← hz]
              have HZY := Lib.hid hz
              clear hz
              go_wp2_with fail
              refine hK.out _ _ (hld_row HQ3.out HBB.out) (fun hHeld => ?_)
              clear hK K
              try simp only [Act.put, List.setIfInBounds_toArray, List.set_cons_zero, List.set_cons_succ]
              rename World => cw
              refine wpAnyH_ready (rs := [10]) (by kernel_rfl) (by simp) ?_
              refine AllReadyH.cons (by simp only [List.getElem?_toArray, List.getElem?_cons_succ, List.getElem?_cons_zero]; rfl) (fun K hK => ?_) AllReadyH.nil
              go_simp
              have hsm := same11_to cw z r3 (HG.out.kb KB.out.bel) (by rw [HZY.out]; exact EY.out) (by rw [HR3.out]; exact fun k o h => (rm1_kind k o h).1)
              rw [← HKK.out, ← HQQ.out, ← HOO.out, ← HKN3.out] at hsm
              refine hsm.mono ?_
              clear hsm
              rintro e cx ⟨rfl, bb⟩
              have KQ2 : Hid (Kq w cx g bm rg X2 p2 n2 cc2 T2) := Lib.hid ⟨KB.out.bare.kb bb, RB.out.kb bb, by rw [HG2.out, HGT.out], by rw [HG2.out]; exact aft_wf KZ.out.wf, KZ.out.lo⟩
              have CC := Lib.hid (CB.out.kb bb)
              have HBC := Lib.hid ((mild_below bb).cells HBB.out)
              obtain ⟨KL, hKL⟩ : ∃ KL, KL = (gr X2).map (·.1) := ⟨_, rfl⟩
              have HKL := Lib.hid hKL
              have HKLH : Hid (H32 KL ∧ KL.length ≤ 4611686018427387904) := Lib.hid (by rw [hKL]; exact ⟨keys_h32 KQ2.out.wf, Nat.le_trans (keys_len KQ2.out.wf) (by decide)⟩)
              clear hKL bb KB CB RB HBB EY HZY HG2 HGT
              go_wp2_with fail
              refine hK.out _ _ (hld_row HQ3.out HBC.out) (fun hHeld => ?_)
              clear hK K
              try simp only [Act.put, List.setIfInBounds_toArray, List.set_cons_zero, List.set_cons_succ]
              rename World => cw
              refine wpAnyH_take (i := 11) (v := ?_) (by simp only [List.getElem?_toArray, List.getElem?_cons_succ, List.getElem?_cons_zero]; rfl) (by kernel_rfl) (by kernel_rfl) (by kernel_rfl) (fun _ _ _ h => h) (Or.inl ⟨by rfl, ?_⟩) (by assumption) ?_
              rotate_left
              · intro w hSw
                try dsimp only at hSw
                go_simp
                try with_reducible rfl
              try simp only [Act.put, List.setIfInBounds_toArray, List.set_cons_zero, List.set_cons_succ]
              refine wpAnyH_take (i := 12) (v := ?_) (by simp only [List.getElem?_toArray, List.getElem?_cons_succ, List.getElem?_cons_zero]; rfl) (by kernel_rfl) (by kernel_rfl) (by kernel_rfl) (fun _ _ _ h => h) (Or.inl ⟨by rfl, ?_⟩) (by assumption) ?_
              rotate_left
              · intro w hSw
                try dsimp only at hSw
                go_simp
                try with_reducible rfl
              try simp only [Act.put, List.setIfInBounds_toArray, List.set_cons_zero, List.set_cons_succ]
              refine wpAnyH_take (i := 13) (v := ?_) (by simp only [List.getElem?_toArray, List.getElem?_cons_succ, List.getElem?_cons_zero]; rfl) (by kernel_rfl) (by kernel_rfl) (by kernel_rfl) (fun _ _ _ h => h) (Or.inl ⟨by rfl, ?_⟩) (by assumption) ?_
              rotate_left
              · intro w hSw
                try dsimp only at hSw
                go_simp
                try with_reducible rfl
              try simp only [Act.put, List.setIfInBounds_toArray, List.set_cons_zero, List.set_cons_succ]
              refine wpAnyH_take (i := 14) (v := ?_) (by simp only [List.getElem?_toArray, List.getElem?_cons_succ, List.getElem?_cons_zero]; rfl) (by kernel_rfl) (by kernel_rfl) (by kernel_rfl) (fun _ _ _ h => h) (Or.inl ⟨by rfl, ?_⟩) (by assumption) ?_
              rotate_left
              · intro w hSw
                try dsimp only at hSw
                go_simp
                try with_reducible rfl
              try simp only [Act.put, List.setIfInBounds_toArray, List.set_cons_zero, List.set_cons_succ]
              refine wpAnyH_take (i := 16) (v := ?_) (by simp only [List.getElem?_toArray, List.getElem?_cons_succ, List.getElem?_cons_zero]; rfl) (by kernel_rfl) (by kernel_rfl) (by kernel_rfl) (fun _ _ _ h => h) (Or.inl ⟨by rfl, ?_⟩) (by assumption) ?_
              rotate_left
              · intro w hSw
                try dsimp only at hSw
                go_simp
                try with_reducible rfl
              try simp only [Act.put, List.setIfInBounds_toArray, List.set_cons_zero, List.set_cons_succ]
              refine wpAnyH_ready (rs := [15]) (by kernel_rfl) (by simp) ?_
              refine AllReadyH.cons (by simp only [List.getElem?_toArray, List.getElem?_cons_succ, List.getElem?_cons_zero]; rfl) (fun K hK => ?_) AllReadyH.nil
              go_simp
              refine (hashes_to cw g bm X2 (Nat.le_trans KQ2.out.wf.xlen (by decide)) KQ2.out.k.ga).mono ?_
              rintro e cx ⟨vA, rfl, oA, bk⟩
              rw [← gr_keys, ← HKL.out] at oA
              obtain ⟨pA, nA, cA, rfl, hnA⟩ := own_sh oA
              clear hnA
              have KX := Lib.hid (KQ2.out.kb bk)
              have CX := Lib.hid (CC.out.kb bk)
              have HBX := Lib.hid ((mild_below bk).cells HBC.out)
              have OA := Lib.hid oA
              clear bk oA KQ2 CC HBC
              go_wp2_with fail
              refine hK.out _ _ (hld_row HQ3.out HBX.out) (fun hHeld => ?_)
              clear hK K
              try simp only [Act.put, List.setIfInBounds_toArray, List.set_cons_zero, List.set_cons_succ]
              rename World => cw
              refine wpAnyH_ready (rs := [17]) (by kernel_rfl) (by simp) ?_
              refine AllReadyH.cons (by simp only [List.getElem?_toArray, List.getElem?_cons_succ, List.getElem?_cons_zero]; rfl) (fun K hK => ?_) AllReadyH.nil
              go_simp
              refine (rhashes_to cw rg p2 n2 cc2 T2 KX.out.r).mono ?_
              rintro e cx ⟨vB, rfl, oB, bk⟩
              rw [← gr_keys, ← KX.out.eq, ← HKL.out] at oB
              obtain ⟨pB, nB, cB, rfl, hnB⟩ := own_sh oB
              clear hnB
              have KY := Lib.hid (KX.out.kb bk)
              have CY := Lib.hid (CX.out.kb bk)
              have HBY := Lib.hid ((mild_below bk).cells HBX.out)
              have OB := Lib.hid oB
              have OA2 := Lib.hid (own_below OA.out bk)
              clear bk oB KX CX HBX OA
              go_wp2_with fail
              refine hK.out _ _ (hld_row HQ3.out HBY.out) (fun hHeld => ?_)
              clear hK K
              try simp only [Act.put, List.setIfInBounds_toArray, List.set_cons_zero, List.set_cons_succ]
              rename World => cw
              refine wpAnyH_ready (rs := [18]) (by kernel_rfl) (by simp) ?_
              refine AllReadyH.cons (by simp only [List.getElem?_toArray, List.getElem?_cons_succ, List.getElem?_cons_zero]; rfl) (fun K hK => ?_) AllReadyH.nil
              go_simp
              refine (same_any cw _ _ _ _ KL HKLH.out.1 OA2.out OB.out HKLH.out.2).mono ?_
              rintro e cx ⟨rfl, zz, rfl⟩
              have KU := Lib.hid (KY.out.kb (blw_qt cw.heap.size zz cw))
              have CU := Lib.hid (CY.out.kb (blw_qt cw.heap.size zz cw))
              have HBU := Lib.hid ((mild_below (blw_qt cw.heap.size zz cw)).cells HBY.out)
              clear OB OA2 KY CY HBY
              generalize cw.drewN zz = cx at *
              go_wp2_with fail
              refine hK.out _ _ (hld_row HQ3.out HBU.out) (fun hHeld => ?_)
              clear hK K
              try simp only [Act.put, List.setIfInBounds_toArray, List.set_cons_zero, List.set_cons_succ]
              rename World => cw
              refine wpAnyH_take (i := 19) (v := ?_) (by simp only [List.getElem?_toArray, List.getElem?_cons_succ, List.getElem?_cons_zero]; rfl) (by kernel_rfl) (by kernel_rfl) (by kernel_rfl) (fun _ _ _ h => h) (Or.inl ⟨by rfl, ?_⟩) (by assumption) ?_
              rotate_left
              · intro w hSw
                try dsimp only at hSw
                go_simp
                try with_reducible rfl
              try simp only [Act.put, List.setIfInBounds_toArray, List.set_cons_zero, List.set_cons_succ]
              refine wpAnyH_take (i := 20) (v := ?_) (by simp only [List.getElem?_toArray, List.getElem?_cons_succ, List.getElem?_cons_zero]; rfl) (by kernel_rfl) (by kernel_rfl) (by kernel_rfl) (fun _ _ _ h => h) (Or.inl ⟨by rfl, ?_⟩) (by assumption) ?_
              rotate_left
              · intro w hSw
                try dsimp only at hSw
                go_simp
                try with_reducible rfl
              try simp only [Act.put, List.setIfInBounds_toArray, List.set_cons_zero, List.set_cons_succ]
              refine wpAnyH_take (i := 21) (v := ?_) (by simp only [List.getElem?_toArray, List.getElem?_cons_succ, List.getElem?_cons_zero]; rfl) (by kernel_rfl) (by kernel_rfl) (by kernel_rfl) (fun _ _ _ h => h) (Or.inl ⟨by rfl, ?_⟩) (by assumption) ?_
              rotate_left
              · intro w hSw
                try dsimp only at hSw
                go_simp
                try with_reducible rfl
              try simp only [Act.put, List.setIfInBounds_toArray, List.set_cons_zero, List.set_cons_succ]
              refine wpAnyH_take (i := 22) (v := ?_) (by simp only [List.getElem?_toArray, List.getElem?_cons_succ, List.getElem?_cons_zero]; rfl) (by kernel_rfl) (by kernel_rfl) (by kernel_rfl) (fun _ _ _ h => h) (Or.inl ⟨by rfl, ?_⟩) (by assumption) ?_
              rotate_left
              · intro w hSw
                try dsimp only at hSw
                go_simp
                try with_reducible rfl
              try simp only [Act.put, List.setIfInBounds_toArray, List.set_cons_zero, List.set_cons_succ]
              refine wpAnyH_take (i := 24) (v := ?_) (by simp only [List.getElem?_toArray, List.getElem?_cons_succ, List.getElem?_cons_zero]; rfl) (by kernel_rfl) (by kernel_rfl) (by kernel_rfl) (fun _ _ _ h => h) (Or.inl ⟨by rfl, ?_⟩) (by assumption) ?_
              rotate_left
              · intro w hSw
                try dsimp only at hSw
                go_simp
                try with_reducible rfl
              try simp only [Act.put, List.setIfInBounds_toArray, List.set_cons_zero, List.set_cons_succ]
              refine wpAnyH_ready (rs := [23]) (by kernel_rfl) (by simp) ?_
              refine AllReadyH.cons (by simp only [List.getElem?_toArray, List.getElem?_cons_succ, List.getElem?_cons_zero]; rfl) (fun K hK => ?_) AllReadyH.nil
              go_simp
              have hcnt := count_to cw gc bc X CU.out
              rw [← HXL.out] at hcnt
              refine hcnt.mono ?_
              clear hcnt
              rintro e cx ⟨rfl, rfl⟩
              go_wp2_with fail
              refine hK.out _ _ (hld_row HQ3.out HBU.out) (fun hHeld => ?_)
              clear hK K
              try simp only [Act.put, List.setIfInBounds_toArray, List.set_cons_zero, List.set_cons_succ]
              refine wpAnyH_take (i := 25) (v := ?_) (by simp only [List.getElem?_toArray, List.getElem?_cons_succ, List.getElem?_cons_zero]; rfl) (by kernel_rfl) (by kernel_rfl) (by kernel_rfl) (fun _ _ _ h => h) (Or.inl ⟨by rfl, ?_⟩) (by assumption) ?_
              rotate_left
              · intro w hSw
                try dsimp only at hSw
                go_simp
                try with_reducible rfl
              try simp only [Act.put, List.setIfInBounds_toArray, List.set_cons_zero, List.set_cons_succ]
              refine wpAnyH_take (i := 26) (v := ?_) (by simp only [List.getElem?_toArray, List.getElem?_cons_succ, List.getElem?_cons_zero]; rfl) (by kernel_rfl) (by kernel_rfl) (by kernel_rfl) (fun _ _ _ h => h) (Or.inl ⟨by rfl, ?_⟩) (by assumption) ?_
              rotate_left
              · intro w hSw
                try dsimp only at hSw
                go_simp
                try with_reducible rfl
              try simp only [Act.put, List.setIfInBounds_toArray, List.set_cons_zero, List.set_cons_succ]
              refine wpAnyH_done (by kernel_rfl) ?_ _
              refine NoPanic.normal ?_
              clear hHeld
              go_wp2_with fail
              refine ⟨⟨i + 1, X2, p2, n2, cc2, T2, congrArg _ (by first | rw [HJ1.out] | rfl), HIN.out, HI5.out, KU⟩, ?_⟩
              first | exact meas_nv HI5.out HJ1.out | exact meas_nw HI5.out
      · rcases (by omega : ¬ i < nl ∨ (i < nl ∧ ¬ i < 5)) with hq1 | ⟨hq1, hq2⟩
        · have hjl : ¬ (i : Int) < nl := by omega
          clear hlt hq1 hi
          go_wp2_with fail
          go_ret
          exact ⟨rfl, K.out.k.bel⟩
        · have hjl : (i : Int) < nl := by omega
          have hjl6 : ¬ (i : Int) < 5 := by omega
          clear hlt hq1 hq2 hi
          go_wp2_with fail
          go_ret
          exact ⟨rfl, K.out.k.bel⟩
end Go.Proofs.YthfkmfepeafgjaaGreatDoor
