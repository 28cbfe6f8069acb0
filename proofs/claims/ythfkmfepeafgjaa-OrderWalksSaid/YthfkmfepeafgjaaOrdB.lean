/- both, hashes: what the law takes of raw requests and numbers. · hashes: what the law takes of raw numbers. -/
import Derived.Test.YthfkmfepeafgjaaOrdR
import Derived.Test.YthfkmfepeafgjaaHndR
import Derived.Deep.CutBlock
import Derived.Deep.CutRange
import Derived.Test.YthfkmfepeafgjaaHndT
namespace Go.Proofs.Ythfkmfepeafgjaa
open Go.RowKit Go.Extern.Stop Go.Stop Go.Extern
open Go.Maps

set_option linter.unusedSimpArgs false in
set_option maxRecDepth 20000 in
set_option maxHeartbeats 32000000 in
attribute [local go_sem ↓] hld_open cld_open in
theorem both_to (w : World) (p : Option Addr) (n cap : Nat) (E : List Rq) (hn : n = E.length) (hE : RqSeen w p E) :
    Calls Try.prog 14 #[.slice p n cap] w fun e w' => ∃ g bm rg X p' n' c' T, e = .returned (.tuple #[gp g, gp rg]) ∧ Kq w w' g bm rg X p' n' c' T := by
  have HE := Lib.hid hE
  have HN := Lib.hid hn
  clear hE hn
  have hne := nn_iface
  have hnn := nn_nil
  go_enter Try.func14, Try.ntmps14
  go_wp2_with fail
  refine (new_to w).mono ?_
  rintro e w1 ⟨rfl, g1, b1⟩
  obtain ⟨bm, hbm⟩ : ∃ bm, bm = w.heap.size := ⟨_, rfl⟩
  have K1 : Hid (Ks w w1 [] (w.heap.size + 1) bm [] []) := Lib.hid ⟨b1, (fun p hp => by cases hp), hbm ▸ g1, by omega, (fun p hp => by cases hp)⟩
  clear g1 b1 hbm
  generalize w.heap.size + 1 = g at *
  have hnp : ∀ w : World, (binOp .neq 22 (gp g) (.pointer none)).run Try.prog w = .ok (.bool true) w := fun w => by kernel_rfl
  have KQ : Hid (Kq w (w1.alloc (.cells #[.slice none 0 0] 62)) g bm w1.heap.size [] none 0 0 []) := Lib.hid ⟨K1.out.kb (below_al11 w1 _), rg_new w1, rfl, Wf.nil, K1.out.bel.size⟩
  go_upto_region 3 with fail
  clear K1
  generalize w1.alloc (.cells #[.slice none 0 0] 62) = w3 at *
  generalize w1.heap.size = rg at *
  go_wp2_with fail
  go_loopw [6] (fun s wr => ∃ (i : Nat) (X : Lx) (p' : Option Addr) (n' c' : Nat) (T : Lx), s = .int .i64 i ∧ i ≤ n ∧ i ≤ 5 ∧ Hid (Kq w wr g bm rg X p' n' c' T)) (fun s _ => 5 - (intOf s).toNat)
  case atStart => exact ⟨0, [], none, 0, 0, [], rfl, Nat.zero_le _, Nat.zero_le _, KQ⟩
  case round =>
    clear KQ
    obtain ⟨i, X, p', n', c', T, rfl, hi, hi8, K⟩ := hrel
    by_cases hlt : i < n ∧ i < 5
    · obtain ⟨h1, h2⟩ := hlt
      have hl1 : (i : Int) < n := by omega
      have hl2 : (i : Int) < 5 := by omega
      have hl0 : (0 : Int) ≤ i := by omega
      have HI1 : Hid (wrap64 ((i : Int) + 1) = ((i + 1 : Nat) : Int)) := Lib.hid (by unfold wrap64; omega)
      have HI8 := Lib.hid h2
      have HIN := Lib.hid h1
      have hiE : i < E.length := by rw [← HN.out]; exact h1
      obtain ⟨b, o, x, rfl, hin, c0, c1, c2, c3⟩ := HE.out.get K.out.k.bel hiE
      have HRQ := Lib.hid (request_to wr x.vL x.vH x.grp x.how x.L x.hs hin.1 hin.2)
      clear hiE h1 h2 hi hi8 hin
      go_wp2_with fail
      refine HRQ.out.mono ?_
      rintro e w3 ⟨vc, vh, gg, cs, hs, rfl, hcs, hhs, hok, h32, hp10, hcl, hhl, b3, hfm⟩
      obtain ⟨pc, cc, rfl, _⟩ := id hcs
      obtain ⟨ph, ch, rfl⟩ := hhs.shape
      obtain ⟨m, hm⟩ : ∃ m, m = cs.length := ⟨_, rfl⟩
      generalize hs.length = mh at *
      rw [← hm] at hcs
      have AL3 := below_al11 w3 (.cells #[.slice pc m cc, .slice ph mh ch, .int .i64 gg] 64)
      have RV : Hid (Rv (w3.alloc (.cells #[.slice pc m cc, .slice ph mh ch, .int .i64 gg] 64)) w3.heap.size pc m cc (.slice ph mh ch) gg cs) :=
        Lib.hid ⟨heap_alloc_last w3 _, hcs.kb AL3, hok, hm, hcl, hp10⟩
      have K4 := Lib.hid ((K.out.kb b3).kb AL3)
      have HR32' := Lib.hid (chk_32 (G := gr X) (grp := 2) hok H32.nil)
      rw [← hm]
      clear hcs hhs hok h32 hp10 hcl hhl hfm b3 hm c0 c1 c2 c3 K AL3
      go_upto_region 7 with fail
      generalize w3.alloc (.cells #[.slice pc m cc, .slice ph mh ch, .int .i64 gg] 64) = w4 at *
      generalize w3.heap.size = rb at *
      have a0 := cell_obj RV.out.cell 0 rfl
      obtain ⟨r2, hr2⟩ : ∃ r2, r2 = chk (gr X) 2 cs [] := ⟨_, rfl⟩
      have HR2 := Lib.hid hr2
      have HCKR2 := Lib.hid (rcheck_to w4 rg p' n' c' T K4.out.r K4.out.wft (.slice pc m cc) (.slice none 0 0) 2 cs [] RV.out.seen (.inl ⟨rfl, rfl⟩) RV.out.ok H32.nil (Nat.le_trans RV.out.few (by decide)) (fun c hc => Nat.le_trans (RV.out.par c hc) (by decide)) (by simp))
      rw [← K4.out.eq, ← hr2] at HCKR2
      rw [← hr2] at HR32'
      clear hr2
      obtain ⟨k2, hk2⟩ : ∃ k2, k2 = kindOf r2 := ⟨_, rfl⟩
      obtain ⟨q2, hq2⟩ : ∃ q2, q2 = whoH r2 := ⟨_, rfl⟩
      obtain ⟨o2, ho2⟩ : ∃ o2, o2 = whoB r2 := ⟨_, rfl⟩
      rw [← hk2, ← hq2, ← ho2] at HCKR2
      have HQ2 : Hid (q2.length = 32) := Lib.hid (by rw [hq2]; exact HR32'.out)
      have HKK2 := Lib.hid hk2
      clear hk2 hq2 ho2
      go_wp2_with fail
      refine HCKR2.out.mono ?_
      rintro e w5 ⟨rfl, b5⟩
      have st := hst_cells q2 HQ2.out w5
      have hks : (hv q2).size = 32 := by rw [hv_size, HQ2.out]
      have B6 := Lib.hid (b5.alloc b5.size (.cells (hv q2) 28))
      clear b5 a0
      go_upto_region 8 with fail
      clear st
      generalize w5.alloc (.cells (hv q2) 28) = wz at *
      generalize w5.heap.size = hb at *
      have KC := Lib.hid (K4.out.kb B6.out)
      have RVC := Lib.hid (RV.out.kb B6.out)
      cases hr : r2 with
      | some rr =>
        have hk0 : ¬ k2 = 0 := by rw [HKK2.out, hr]; obtain ⟨kk, oo⟩ := rr; exact chk_kind kk oo (by rw [← HR2.out]; exact hr)
        have hk1 : decide (k2 = 0) = false := decide_eq_false hk0
        have hk3 : (k2 == 0) = false := by simp [hk0]
        clear hr
        go_wp2_with fail
        refine ⟨⟨i + 1, X, p', n', c', T, congrArg _ (by first | rw [HI1.out] | rfl), HIN.out, HI8.out, KC⟩, ?_⟩
        first | exact meas_nv HI8.out HI1.out | exact meas_nw HI8.out
      | none =>
        have hk0 : k2 = 0 := by rw [HKK2.out, hr]; rfl
        subst hk0
        have HF : Hid (Fine (gr X) 2 cs []) := Lib.hid (chk_fine.1 (by rw [← HR2.out]; exact hr))
        have a0 := RVC.out.c
        have HAD := Lib.hid (radd_to wz rg p' n' c' T KC.out.r (.slice pc m cc) cs RVC.out.seen RVC.out.ok (fun c hc => Nat.le_trans (RVC.out.par c hc) (by decide)) (by have := KC.out.wft.few; rw [gr_len] at this; have := RVC.out.few; omega))
        have HRN := Lib.hid hr
        clear hr
        go_wp2_with fail
        refine HAD.out.mono ?_
        rintro e wy0 ⟨rfl, oy, p2, n2, cc2, T', rT, gT⟩
        have KZ := Lib.hid (KC.out.k.rturn KC.out.r oy KC.out.lo)
        have RGZ := Lib.hid rT
        have HNRB : Hid (rb ≠ rg) := Lib.hid (fun e => by have h1 := RVC.out.cell; rw [e, KC.out.r.cell] at h1; injection h1 with h1; injection h1 with h1 _ _; have := congrArg (fun a : Array Value => a.size) h1; simp at this)
        have RVZ : Hid (Rv wy0 rb pc m cc (.slice ph mh ch) gg cs) := Lib.hid ⟨(oy.block rb (Array.getElem?_eq_some_iff.1 RVC.out.cell).1 HNRB.out).trans RVC.out.cell, RVC.out.seen.away RVC.out.ok KC.out.r.cell oy, RVC.out.ok, RVC.out.len, RVC.out.few, RVC.out.par⟩
        have HWX := Lib.hid KC.out.wf
        have HLO := Lib.hid KC.out.lo
        have HGT := Lib.hid gT
        have HEQ : Hid (∀ X', gr X' = adds (gr X) cs → gr X' = gr T') := Lib.hid (fun X' h => by rw [h, HGT.out, KC.out.eq])
        have HWN : Hid (∀ X', gr X' = adds (gr X) cs → Wf (gr X')) := Lib.hid (fun X' h => by rw [h]; exact add_wf KC.out.wf RVC.out.ok HF.out)
        have HCN : Hid (chk (gr X) 2 cs [] = none) := Lib.hid (by rw [← HR2.out]; exact HRN.out)
        clear oy rT gT KC RVC HAD a0 HNRB HGT
        have a0 := RVZ.out.c
        go_wp2_with fail
        refine (add_to wy0 g bm X _ cs KZ.out.ga HWX.out RVZ.out.seen RVZ.out.ok (Nat.le_trans RVZ.out.few (by decide)) (fun c hc => Nat.le_trans (RVZ.out.par c hc) (by decide))).mono ?_
        intro e wy hadd
        obtain ⟨X', he, k6, h62⟩ := KZ.out.taken HCN.out hadd
        subst he
        obtain ⟨_, _, _, o6, _⟩ := id hadd
        have hm6 := mild_map KZ.out.ga.at_.mp o6
        have KN : Hid (Kq w wy g bm rg X' p2 n2 cc2 T') := Lib.hid ⟨k6, RGZ.out.mild hm6, HEQ.out X' h62, HWN.out X' h62, HLO.out⟩
        clear hadd k6 h62 o6 hm6 a0
        go_wp2_with fail
        refine ⟨⟨i + 1, X', p2, n2, cc2, T', congrArg _ (by first | rw [HI1.out] | rfl), HIN.out, HI8.out, KN⟩, ?_⟩
        first | exact meas_nv HI8.out HI1.out | exact meas_nw HI8.out
    · rcases (by omega : ¬ i < n ∨ (i < n ∧ ¬ i < 5)) with hq1 | ⟨hq1, hq2⟩
      · have hjl : ¬ (i : Int) < n := by omega
        clear hlt hq1 hi
        go_wp2_with fail
        go_ret2
        exact ⟨g, bm, rg, rfl, X, p', n', c', T, K.out⟩
      · have hjl : (i : Int) < n := by omega
        have hjl6 : ¬ (i : Int) < 5 := by omega
        clear hlt hq1 hq2 hi
        go_wp2_with fail
        go_ret2
        exact ⟨g, bm, rg, rfl, X, p', n', c', T, K.out⟩
end Go.Proofs.Ythfkmfepeafgjaa
namespace Go.Proofs.Ythfkmfepeafgjaa
open Go.RowKit
open Go.Maps

theorem take_hh {os : List Int} {k : Nat} (h : k < os.length) : (os.map hh).take (k + 1) = (os.map hh).take k ++ [hh os[k]] := by
  rw [List.take_succ_eq_append_getElem (by rw [List.length_map]; exact h), List.getElem_map]
theorem hh_len {os : List Int} {k : Nat} (h : k ≤ os.length) : ((os.map hh).take k).length = k := by
  rw [List.length_take, List.length_map]; omega
theorem hh_32 (l : List Int) : H32 (l.map hh) := fun x hx => by
  obtain ⟨a, _, rfl⟩ := List.mem_map.1 hx
  exact hh_length a
set_option linter.unusedSimpArgs false in
set_option maxRecDepth 20000 in
set_option maxHeartbeats 8000000 in
attribute [local go_sem ↓] hld_open in
theorem lhashes_to (w : World) (p : Option Addr) (n c : Nat) (os : List Int) (hn : n = os.length) (hI : ISeen w (.slice p n c) os) (m : Nat) (hm : m ≤ 1000) :
    Calls Try.prog 15 #[.slice p n c, .int .i64 m] w fun e w' => ∃ v, e = .returned v ∧ HOwn w' w.heap.size v ((os.map hh).take m) ∧ Below w.heap.size w w' := by
  have HI := Lib.hid hI
  have HN := Lib.hid hn
  have HM := Lib.hid hm
  clear hI hn hm
  go_enter Try.func15, Try.ntmps15
  go_wp2_with fail
  go_loopw [5, 6] (fun v s wr => ∃ (q : Option Addr) (m' c' k : Nat), v = .slice q m' c' ∧ s = .int .i64 k ∧ k ≤ n ∧ k ≤ m ∧ Hid (HOwn wr w.heap.size (.slice q m' c') ((os.map hh).take k)) ∧ Hid (Below w.heap.size w wr)) (fun _ s _ => m - (intOf s).toNat)
  case atStart => exact ⟨none, 0, 0, 0, rfl, rfl, Nat.zero_le _, Nat.zero_le _, Lib.hid (by rw [List.take_zero]; exact World.ownsRow_nil _ _ _ _), Lib.hid (Below.refl _ _)⟩
  case round =>
    obtain ⟨q, m', c', k, rfl, rfl, hk, hk5, OL, B⟩ := hrel
    by_cases hlt : k < n ∧ k < m
    · obtain ⟨h1, h2⟩ := hlt
      have hl1 : (k : Int) < n := by omega
      have hl2 : (k : Int) < m := by omega
      have hl0 : (0 : Int) ≤ k := by omega
      have HI1 : Hid (wrap64 ((k : Int) + 1) = ((k + 1 : Nat) : Int)) := Lib.hid (by have := HM.out; unfold wrap64; omega)
      have HK5 := Lib.hid h2
      have HKN := Lib.hid h1
      have hkE : k < os.length := by rw [← HN.out]; exact h1
      obtain ⟨a, ha, hca⟩ := HI.out.at' (List.getElem?_eq_getElem hkE)
      subst ha
      have htk := take_hh hkE
      obtain ⟨x, hx⟩ : ∃ x, x = os[k] := ⟨_, rfl⟩
      rw [← hx] at hca htk
      have hcx := (mild_below B.out).cell hca
      obtain ⟨L, hL⟩ : ∃ L, L = (os.map hh).take k := ⟨_, rfl⟩
      have HLL : Hid (L.length = k) := Lib.hid (by rw [hL]; exact hh_len (Nat.le_of_lt hkE))
      rw [← hL] at OL htk
      have HTK := Lib.hid htk
      clear hkE hx hca h1 h2 hk hk5 hL htk
      go_wp2_with fail
      refine (hash_to wr x).mono ?_
      rintro e w5 ⟨rfl, b5⟩
      obtain ⟨y, hy⟩ : ∃ y, y = hh x := ⟨_, rfl⟩
      have hy32 : y.length = 32 := by rw [hy]; exact hh_length _
      rw [← hy] at HTK ⊢
      have HY := Lib.hid hy32
      have AL := Lib.hid (below_al11 w5 (.cells (hv y) 28))
      have B7 := Lib.hid ((B.out.trans (b5.mono B.out.size)).alloc (Nat.le_trans B.out.size b5.size) (.cells (hv y) 28))
      have O7 := Lib.hid (own_below (own_below OL.out b5) AL.out)
      have HN7 := Lib.hid (heap_alloc_last w5 (.cells (hv y) 28))
      clear hy hy32 b5 hcx B OL
      go_wp2_with (first
        | (at_builtin; refine push_loc rfl (.tmp 18) (.tmp 24) rfl w.heap.size (.slice q m' c') L w5.heap.size y HY.out rfl O7.out rfl (by have := range_row HN7.out; rwa [hv_list] at this) (by have := HLL.out; have := HK5.out; have := HM.out; omega) B7.out.size ?_; intro v8 w8 o8 oth8 loc8; have O8 := Lib.hid o8; have B8 := Lib.hid (B7.out.trans (oth8.below B7.out.size (fun k hk => own_from O7.out k hk))); clear o8 oth8 loc8)
        | (refine build_one y HY.out rfl ?_))
      obtain ⟨q8, m8, c8, hv8, hn8⟩ := own_sh O8.out
      subst hv8
      clear hn8
      refine ⟨⟨q8, m8, c8, k + 1, rfl, congrArg _ (by first | rw [HI1.out] | rfl), HKN.out, HK5.out, Lib.hid (by rw [HTK.out]; exact O8.out), B8⟩, ?_⟩
      first | exact meas_nv HK5.out HI1.out | exact meas_nw HK5.out
    · rcases (by omega : ¬ k < n ∨ (k < n ∧ ¬ k < m)) with hq1 | ⟨hq1, hq2⟩
      · have hjl : ¬ (k : Int) < n := by omega
        have HK : Hid (k = os.length ∧ os.length ≤ m) := Lib.hid (by have := HN.out; omega)
        clear hlt hq1 hk
        go_wp2_with fail
        go_ret
        refine ⟨_, rfl, ?_, B.out⟩
        have h := OL.out
        rw [HK.out.1, List.take_of_length_le (by rw [List.length_map]; exact Nat.le_refl _)] at h
        rw [List.take_of_length_le (by rw [List.length_map]; exact HK.out.2)]
        exact h
      · have hjl : (k : Int) < n := by omega
        have hjl6 : ¬ (k : Int) < m := by omega
        have HK : Hid (k = m) := Lib.hid (by omega)
        clear hlt hq1 hq2 hk
        go_wp2_with fail
        go_ret
        refine ⟨_, rfl, ?_, B.out⟩
        have h := OL.out
        rw [HK.out] at h
        exact h
end Go.Proofs.Ythfkmfepeafgjaa
