/- What the reference's ReadRoot answers. The bytes are bytes, within what a slice may take up. -/
import Derived.Test.YtfneadlknieppaaGreatDoorRootX
import Derived.Test.YtfneadlknieppaaGreatDoorRootR
import Derived.Test.YtfneadlknieppaaGreatDoorOctS
namespace Go.Proofs.YtfneadlknieppaaGreatDoor
open Go.RowKit
open Go.Maps

theorem svar_nx (w : World) (B b : Nat) (v : Value) (l : List Int) (lk : Bool) (h : Rd 148 B w b v l lk) :
    Calls Tryz.prog 85 #[.pointer (some ⟨b, 0, none⟩)] w fun e w' => e = .returned (.int .i64 (nxV l lk).1) ∧ Rdd 148 B w b v (nxV l lk).2.1 (nxV l lk).2.2 w' :=
  (svar_any B w b v l lk h).mono fun _ _ h => nx_post h
theorem nxV_bd (l : List Int) (lk : Bool) : -9223372036854775808 ≤ (nxV l lk).1 ∧ (nxV l lk).1 ≤ 9223372036854775807 := by
  unfold nxV pV
  cases h : rv 10 0 0 l with
  | none => simp
  | some p =>
    simp only [Option.map_some]
    unfold wrap64
    omega
/-- What the reference's ReadRoot answers. -/
def XRdPost (w : World) (b : List Int) (e : Ending) (w' : World) : Prop := ∃ g v i c ls, e = .returned (.tuple #[rtv g v i, .int .i64 c]) ∧ IOwn w' w.heap.size v ls ∧ RdIs b c ⟨g, ls, i⟩ ∧ Below w.heap.size w w'
theorem nxV_lk {l : List Int} : (nxV l false).2.2 = true ∨ (nxV l false).2.2 = false := by cases (nxV l false).2.2 <;> simp
theorem strs_bne {l m : List Int} (hl : Okb l) (hm : Okb m) : ((strOfNums l).toList != (strOfNums m).toList) = !decide (l = m) := by
  rw [bne, strs_beq hl hm]
/-- What a decoder that says whether it lacked has read. -/
def EnIs (X : List Int) (lk : Bool) (r : Rt) : Prop := ∀ r0, okR r0 = true → X = bodyR r0 → lk = false ∧ r = r0
set_option maxRecDepth 20000 in
set_option maxHeartbeats 8000000 in
theorem xread_root (w : World) (u : Value) (b : List Int) (ok : Okb b) (hl : b.length ≤ 140737488351232) (hs : SeenR w u b) :
    Calls Tryz.prog 53 #[u] w (XRdPost w b) := by
  unfold XRdPost
  have B1 : Hid (Below w.heap.size w (w.alloc (.cells #[.int .i64 0, .slice none 0 0, .int .i64 0] 49))) := Lib.hid ((Below.refl _ w).alloc (Nat.le_refl _) _)
  have H1 : Hid ((w.alloc (.cells #[.int .i64 0, .slice none 0 0, .int .i64 0] 49)).heap[w.heap.size]? = some (.cells #[.int .i64 0, .slice none 0 0, .int .i64 0] 49 (0, 0))) := Lib.hid (heap_alloc_last w _)
  have HZ1 : Hid ((w.alloc (.cells #[.int .i64 0, .slice none 0 0, .int .i64 0] 49)).heap.size = w.heap.size + 1) := Lib.hid (by simp)
  have HS := Lib.hid hs
  have HNX := Lib.hid (xnext_any (w.alloc (.cells #[.int .i64 0, .slice none 0 0, .int .i64 0] 49)) u b ok hl (hs.kb B1.out))
  have OKX : Hid (Okb (nxt b).2.1) := Lib.hid (nxt_ok ok)
  unfold XNextPost at HNX
  obtain ⟨K, hK⟩ : ∃ K, K = nxt b := ⟨_, rfl⟩
  rw [← hK] at HNX OKX
  have HK := Lib.hid hK
  obtain ⟨pu, cu, rfl⟩ := len_val hs.seen
  obtain ⟨i0, hi0, hz0, hz1, hz2⟩ := info_parts iinfo
  clear hs hK
  obtain ⟨k, X, nn, c⟩ := K
  simp only at HNX OKX
  go_enter Tryz.func53, Tryz.ntmps53
  go_wp2_with fail
  refine HNX.out.mono ?_
  rintro e w2 ⟨u2, rfl, ou, gu, b2⟩
  have B2 : Hid (Below w.heap.size w w2) := Lib.hid (B1.out.trans (b2.mono (by simp)))
  have H2 := Lib.hid ((b2.block _ (lt_of_block H1.out)).trans H1.out)
  have OU := Lib.hid ou
  have GU : Hid (∀ j, u2.ownBlock = some j → w.heap.size < j ∧ j < w2.heap.size) := Lib.hid (fun j hj => by have := gu j hj; rw [HZ1.out] at this; omega)
  obtain ⟨px, cx, rfl⟩ := len_val ou.seen
  clear b2 ou gu HNX H1 B1 HZ1
  by_cases hc : c = 0
  case neg =>
    have hne : ¬ c = 0 := hc
    have HR : Hid (RdIs b c Rt.zero) := Lib.hid (by
      have h1 : (nxt b).2.2.2 = c := by rw [← HK.out]
      have := rdis_bad (b := b) (by rw [h1]; exact hc)
      rwa [h1] at this)
    obtain ⟨r0, r1, r2, rf⟩ := three_cells H2.out
    go_wp2_with fail
    (try simp only [Exit.inBlock, Exit.then])
    refine bodyPost_ret (res_two rfl _ _ w.heap.size _ _ (0, 0) _ rfl (set3 H2.out) Tryz.underlying49 rfl (by kernel_rfl)) rfl ?_
    have o := only3 (Only.refl (fun k => k = w.heap.size) w2) rfl (.int .i64 0) (.slice none 0 0) (.int .i64 0)
    exact ⟨0, .slice none 0 0, 0, c, [], rfl, World.ownsRow_nil _ _ _ _, HR.out, B2.out.trans (o.below B2.out.size (fun k hk => by omega))⟩
  case pos =>
    subst hc
    have HX0 : Hid (nxt b = (k, X, nn, 0)) := Lib.hid HK.out.symm
    have HXL : Hid (X.length ≤ 140737488351232) := Lib.hid (by
      have h1 := nxt_size ok (by rw [HX0.out])
      rw [HX0.out] at h1
      have := h1.2.2.2.2.1
      simp only at this
      omega)
    have R3 : Hid (Rd 148 w.heap.size (w2.alloc (.cells #[.slice px X.length cx, .bool false] 148)) w2.heap.size (.slice px X.length cx) X false) := Lib.hid ⟨B2.out.size, heap_alloc_last w2 _, OU.out.kb ((Below.refl _ _).alloc (Nat.le_refl _) _), fun j hj => by
      have := GU.out j hj
      exact ⟨by omega, by omega, by simp; omega⟩, OKX.out, HXL.out, fun e => by cases e⟩
    have B3 : Hid (Below w2.heap.size w2 (w2.alloc (.cells #[.slice px X.length cx, .bool false] 148))) := Lib.hid ((Below.refl _ _).alloc (Nat.le_refl _) _)
    have HZ3 : Hid ((w2.alloc (.cells #[.slice px X.length cx, .bool false] 148)).heap.size = w2.heap.size + 1) := Lib.hid (by simp)
    have HW2 : Hid (w.heap.size < w2.heap.size) := Lib.hid (lt_of_block H2.out)
    clear HK OU
    go_wp2_with fail
    generalize w2.alloc (.cells #[.slice px X.length cx, .bool false] 148) = w3 at R3 B3 HZ3 ⊢
    obtain ⟨bb, hbb⟩ : ∃ z, z = w2.heap.size := ⟨_, rfl⟩
    have HB : Hid (w.heap.size < bb ∧ bb + 1 = w3.heap.size ∧ ∀ j, (Value.slice px X.length cx).ownBlock = some j → w.heap.size < j ∧ j < bb) := Lib.hid ⟨by rw [hbb]; exact HW2.out, by rw [hbb]; exact HZ3.out.symm, by rw [hbb]; exact GU.out⟩
    have BW3 : Hid (Below w.heap.size w w3) := Lib.hid (B2.out.trans (B3.out.mono B2.out.size))
    have H3 := Lib.hid ((B3.out.block _ (lt_of_block H2.out)).trans H2.out)
    rw [← hbb] at R3 ⊢
    clear hbb B2 B3 HZ3 GU HW2 H2
    have F := Lib.hid (RdAt.first X)
    refine (svar_nx w3 _ bb _ X false R3.out).mono ?_
    rintro e w4 ⟨rfl, v4, r4, o4, s4⟩
    obtain ⟨N1, hN1⟩ : ∃ z, z = nxV X false := ⟨_, rfl⟩
    rw [← hN1] at r4 F ⊢
    have R4 := Lib.hid r4
    have O4 := Lib.hid o4
    have S4 := Lib.hid s4
    clear r4 o4 s4 hN1 R3
    go_wp2_with fail
    have HQ : Hid ((w4.alloc (.cells #[.int .i64 N1.1, .slice none 0 0, .int .i64 0] 49)).heap[w4.heap.size]? = some (.cells #[.int .i64 N1.1, .slice none 0 0, .int .i64 0] 49 (0, 0))) := Lib.hid (heap_alloc_last w4 _)
    have BQ : Hid (Below w4.heap.size w4 (w4.alloc (.cells #[.int .i64 N1.1, .slice none 0 0, .int .i64 0] 49))) := Lib.hid ((Below.refl _ w4).alloc (Nat.le_refl _) _)
    generalize w4.alloc (.cells #[.int .i64 N1.1, .slice none 0 0, .int .i64 0] 49) = w5 at HQ BQ ⊢
    have R5 := Lib.hid (R4.out.kb BQ.out)
    have O5 : Hid (Only (fun k => k = bb) w3 w5) := Lib.hid (O4.out.trans (Only.of_below BQ.out (S := fun _ => False)) (fun _ h => h) (fun _ _ h => h.elim))
    obtain ⟨q, hq⟩ : ∃ q, q = w4.heap.size := ⟨_, rfl⟩
    have HQM : Hid (w3.heap.size ≤ q) := Lib.hid (by rw [hq]; exact O4.out.size)
    rw [← hq] at HQ ⊢
    clear hq BQ O4 R4
    refine (svar_nx w5 _ bb v4 _ _ R5.out).mono ?_
    rintro e w6 ⟨rfl, v6, r6, o6, s6⟩
    obtain ⟨N2, hN2⟩ : ∃ z, z = nxV N1.2.1 N1.2.2 := ⟨_, rfl⟩
    rw [← hN2] at r6 F ⊢
    have HQ6 : Hid (w6.heap[q]? = some (.cells #[.int .i64 N1.1, .slice none 0 0, .int .i64 0] 49 (0, 0))) := Lib.hid ((o6.block _ (lt_of_block HQ.out) (by have := HQM.out; have := HB.out.2.1; omega)).trans HQ.out)
    have O6 : Hid (Only (fun k => k = bb) w3 w6) := Lib.hid (O5.out.trans o6 (fun _ h => h) (fun _ _ h => h))
    have R6 := Lib.hid r6
    have S6 : Hid (∀ k, v6.ownBlock = some k → (Value.slice px X.length cx).ownBlock = some k) := Lib.hid (fun k hk => S4.out k (s6 k hk))
    clear r6 o6 s6 hN2 R5 O5 S4 HQ
    obtain ⟨q0, q1, q2, qf⟩ := three_cells HQ6.out
    go_wp2_with fail
    clear q0 q1 q2 qf
    have OQ : Hid (Only (fun k => k = q) w6 (w6.setCell ⟨q, 2, none⟩ (.int .i64 N2.1))) := Lib.hid (Only.one (S := fun k => k = q) (Only.refl _ _) rfl _)
    have HQ7 : Hid ((w6.setCell ⟨q, 2, none⟩ (.int .i64 N2.1)).heap[q]? = some (.cells #[.int .i64 N1.1, .slice none 0 0, .int .i64 N2.1] 49 (0, 0))) := Lib.hid (set4 HQ6.out (g := .int .i64 0) (v := .int .i64 0) (i := .int .i64 N2.1)).2.2
    generalize w6.setCell ⟨q, 2, none⟩ (.int .i64 N2.1) = w7 at OQ HQ7 ⊢
    have R7 : Hid (Rd 148 w.heap.size w7 bb v6 N2.2.1 N2.2.2) := Lib.hid (R6.out.kept OQ.out (fun e => by have := HQM.out; have := HB.out.2.1; omega) (fun k hk e => by have := HQM.out; have := HB.out.2.1; have := HB.out.2.2 k (S6.out k hk); omega))
    refine (svar_nx w7 _ bb v6 _ _ R7.out).mono ?_
    rintro e w8 ⟨rfl, v8, r8, o8, s8⟩
    have HBD := Lib.hid (nxV_bd N2.2.1 N2.2.2)
    obtain ⟨N3, hN3⟩ : ∃ z, z = nxV N2.2.1 N2.2.2 := ⟨_, rfl⟩
    rw [← hN3] at r8 F HBD ⊢
    have D8 : Hid (Dc 148 49 w w8 w3.heap.size bb q X N1.1 N2.1 N3.1 [] (.slice none 0 0)) := Lib.hid (by
      have hb := HB.out
      have hqm := HQM.out
      have O8 : Only (fun k => k = bb ∨ k = q) w3 w8 := ((O6.out.mono (fun _ _ e => .inl e)).trans (T := fun k => k = q) OQ.out (fun _ h => h) (fun _ _ e => .inr e)).trans (T := fun k => k = bb) o8 (fun _ h => h) (fun _ _ e => .inl e)
      refine ⟨⟨v8, _, _, r8, fun k hk => by have := hb.2.2 k (S6.out k (s8 k hk)); omega, F.out⟩, (o8.block _ (lt_of_block HQ7.out) (by omega)).trans HQ7.out, World.ownsRow_nil _ _ _ _, BW3.out.trans (O8.below BW3.out.size (fun k hk => by omega)), (O8.block _ (lt_of_block H3.out) (by omega)).trans H3.out, hqm, by omega, by omega, O8.size, hb.1⟩)
    obtain ⟨M, hM⟩ : ∃ z, z = w3.heap.size := ⟨_, rfl⟩
    rw [← hM] at D8
    obtain ⟨n3, hn3⟩ : ∃ z, z = N3.1 := ⟨_, rfl⟩
    rw [← hn3] at D8 HBD ⊢
    clear r8 o8 s8 hN3 F HQ7 R7 OQ R6 S6 HQ6 O6 H3 BW3 HB HQM hM hn3
    go_upto_block 0 with fail
    go_cut [10] from 35 to 58 (fun _ wr => ∃ (n : Int) (ls : List Int) (lv : Value) (lk : Bool), Hid (Dc 148 49 w wr M bb q X N1.1 N2.1 n ls lv) ∧ Hid (wr.cell? ⟨bb, 1, none⟩ = some (.bool lk)) ∧ Hid (ls.length ≤ 9) ∧ Hid (EnIs X lk ⟨N1.1, ls, N2.1⟩))
    case first =>
      go_wp2_with fail
      go_loopw [10] (fun t wr => ∃ (j : Nat) (n : Int) (ls : List Int) (lv : Value), t = .int .i64 n ∧ j ≤ 9 ∧ ls.length = j ∧ n ≤ 9223372036854775807 ∧ Hid (Dc 148 49 w wr M bb q X N1.1 N2.1 n ls lv)) (fun t _ => (intOf t).toNat)
      case atStart => exact ⟨0, n3, [], _, rfl, by omega, rfl, HBD.out.2, D8⟩
      case round =>
        clear D8 HBD
        obtain ⟨j, n, ls, lv, rfl, hj9, hlj, hnb, D⟩ := hrel
        obtain ⟨v, l, lk, hr, hv, hra⟩ := D.out.rd
        have HR := Lib.hid hr
        have HV := Lib.hid hv
        have HRA := Lib.hid hra
        have k1 := hr.c1
        clear hr hv hra
        obtain ⟨p, c, rfl⟩ := own_slice D.out.own
        obtain ⟨c0, c1, c2, _⟩ := three_cells D.out.obj
        have HLJ := Lib.hid hlj
        rw [hlj] at c1
        clear hlj
        have H9 : Hid (ls.length ≤ 9) := Lib.hid (by rw [HLJ.out]; exact hj9)
        have K1 := Lib.hid k1
        by_cases hn : 0 < n
        case neg =>
          have HDN : Hid (EnIs X lk ⟨N1.1, ls, N2.1⟩) := Lib.hid (fun r0 h0 e => HRA.out.done (.inr (.inl (by omega))) h0 e)
          have hn' : ¬ n > 0 := hn
          go_wp2_with fail
          go_meet
          case rel => exact ⟨n, ls, _, lk, D, K1, H9, HDN⟩
        cases lk with
        | true =>
          have hn' : n > 0 := hn
          have HDN : Hid (EnIs X true ⟨N1.1, ls, N2.1⟩) := Lib.hid (fun r0 h0 e => HRA.out.done (.inl rfl) h0 e)
          go_wp2_with fail
          go_meet
          case rel => exact ⟨n, ls, _, true, D, K1, H9, HDN⟩
        | false =>
          have hn' : n > 0 := hn
          by_cases h8 : j ≤ 8
          case neg =>
            have h8' : ¬ (j : Int) ≤ 8 := by omega
            have HDN : Hid (EnIs X false ⟨N1.1, ls, N2.1⟩) := Lib.hid (fun r0 h0 e => HRA.out.done (.inr (.inr (by rw [HLJ.out]; omega))) h0 e)
            go_wp2_with fail
            go_meet
            case rel => exact ⟨n, ls, _, false, D, K1, H9, HDN⟩
          case pos =>
            have h8' : (j : Int) ≤ 8 := by omega
            have DD := Lib.hid D.out.drew
            have HRC := Lib.hid (svar_nx wr.drew _ bb v l false (HR.out.kb (below_dw (Below.refl _ _))))
            have HRD := Lib.hid (fun w' hp => DD.out.read (w' := w') HV.out HRA.out hn hp)
            have c1d : wr.drew.cell? ⟨q, 1, none⟩ = some (.slice p j c) := c1
            have HFT := Lib.hid (rdec_fit (j := j) (by omega))
            obtain ⟨x, hx⟩ : ∃ z, z = (nxV l false).1 := ⟨_, rfl⟩
            rw [← hx] at HRC HRD
            clear hx
            go_wp2_with fail
            clear k1 c0 c1 c2
            try simp only [List.append]
            refine wp_region_noPanic ?_
            refine wp_region_any_drew (by kernel_rfl) ?_
            refine wpAny_take (i := 0) (v := ?_) (by simp only [List.getElem?_toArray, List.getElem?_cons_zero]; rfl) (by kernel_rfl) (by kernel_rfl) (by kernel_rfl) (fun _ _ _ h => h) (Or.inl ⟨by rfl, ?_⟩) ?_
            rotate_left
            · intro w
              go_simp
              try with_reducible rfl
            try simp only [Act.put, List.setIfInBounds_toArray, List.set_cons_zero, List.set_cons_succ]
            refine wpAny_take (i := 2) (v := ?_) (by simp only [List.getElem?_toArray, List.getElem?_cons_succ, List.getElem?_cons_zero]; rfl) (by kernel_rfl) (by kernel_rfl) (by kernel_rfl) (fun _ _ _ h => h) (Or.inl ⟨by rfl, ?_⟩) ?_
            rotate_left
            · intro w
              go_simp
              try with_reducible rfl
            try simp only [Act.put, List.setIfInBounds_toArray, List.set_cons_zero, List.set_cons_succ]
            refine wpAny_ready (rs := [1, 3]) (by kernel_rfl) (by simp) ?_
            refine (AllReady.cons (by simp only [List.getElem?_toArray, List.getElem?_cons_succ, List.getElem?_cons_zero]; rfl) (fun K hK => ?_) (AllReady.cons (by simp only [List.getElem?_toArray, List.getElem?_cons_succ, List.getElem?_cons_zero]; rfl) (fun K hK => ?_) AllReady.nil))
            · have HK := Lib.hid hK
              clear hK
              go_simp
              refine HK.out _ _ ?_
              clear HK K
              try simp only [Act.put, List.setIfInBounds_toArray, List.set_cons_zero, List.set_cons_succ]
              refine wpAny_ready (rs := [3]) (by kernel_rfl) (by simp) ?_
              refine (AllReady.cons (by simp only [List.getElem?_toArray, List.getElem?_cons_succ, List.getElem?_cons_zero]; rfl) (fun K hK => ?_) AllReady.nil)
              have HK := Lib.hid hK
              clear hK
              go_simp
              refine HRC.out.mono ?_
              rintro e w1 ⟨rfl, hp⟩
              have HP := Lib.hid (HRD.out w1 hp)
              clear hp
              obtain ⟨_, c1w, _, _⟩ := three_cells HP.out.2.1
              rw [HLJ.out] at c1w
              go_wp2_with fail
              refine HK.out _ _ ?_
              clear HK K
              try simp only [Act.put, List.setIfInBounds_toArray, List.set_cons_zero, List.set_cons_succ]
              refine wpAny_ready (rs := [4]) (by kernel_rfl) (by simp) ?_
              refine (AllReady.cons (by simp only [List.getElem?_toArray, List.getElem?_cons_succ, List.getElem?_cons_zero]; rfl) (fun K hK => ?_) AllReady.nil)
              have HK := Lib.hid hK
              clear hK
              go_simp
              have HB4 : Hid (Below w1.heap.size w1 (w1.alloc (.cells #[.int .i64 x] 3))) := Lib.hid ((Below.refl _ w1).alloc (Nat.le_refl _) _)
              have c1a : (w1.alloc (.cells #[.int .i64 x] 3)).cell? ⟨q, 1, none⟩ = some (.slice p j c) := by rw [World.cell?_of_block (w := w1) (HB4.out.block _ (lt_of_block HP.out.2.1))]; exact c1w
              have HN4 : Hid (∀ j u, ([.int .i64 x] : List Value)[j]? = some u → (w1.alloc (.cells #[.int .i64 x] 3)).cell? ((⟨w1.heap.size, 0, none⟩ : Addr).add j) = some u) := Lib.hid (World.news_of_block (cs := #[.int .i64 x]) (t := 3) (fr := (0, 0)) (heap_alloc_new w1 _))
              refine HK.out _ _ ?_
              clear HK K
              try simp only [Act.put, List.setIfInBounds_toArray, List.set_cons_zero, List.set_cons_succ]
              refine wpAny_ready (rs := [5]) (by kernel_rfl) (by simp) ?_
              refine (AllReady.cons (by simp only [List.getElem?_toArray, List.getElem?_cons_succ, List.getElem?_cons_zero]; rfl) (fun K hK => ?_) AllReady.nil)
              have HK := Lib.hid hK
              clear hK
              refine step_append_lies _ (by rfl) _ _ _ (by rfl) M 3 i0 _ 1 8 Tryz.underlying29 hi0 hz0 hz1 hz2 rfl (by omega) (.slice p j c) j (iv ls) (by rfl) (by have := own_kb HP.out.2.2.1 HB4.out; rw [HLJ.out] at this; exact this) ⟨w1.heap.size, 0, none⟩ 1 1 [.int .i64 x] (by rfl) (by rfl) (fun j u hj => HN4.out j u hj) (by simp [Value.oneCell']) (by decide) HFT.out.1 HFT.out.2 (Nat.le_trans DD.out.msz (Nat.le_trans HP.out.1 HB4.out.size)) (w1.heap.size + 1) (by simp) ?_
              intro gg cc w5 own5 grow5 hat5 hlt5
              have HDC : Hid (w5.heap[q]? = some (.cells #[.int .i64 N1.1, .slice p j c, .int .i64 N2.1] 49 (0, 0)) ∧ Dc 148 49 w (w5.setCell ⟨q, 1, none⟩ (.slice (some ⟨gg, 0, none⟩) (j + 1) cc)) M bb q X N1.1 N2.1 (n - 1) (ls ++ [x]) (.slice (some ⟨gg, 0, none⟩) (j + 1) cc)) := Lib.hid (by
                obtain ⟨h1, h2, h3, h4, h5, h6⟩ := HP.out
                have := Dc.laid (T := 148) (U := 49) h2 h3 h4 h5 DD.out.ge DD.out.le DD.out.bm DD.out.bne (Nat.le_trans DD.out.msz h1) h6 HB4.out (by decide) (gg := gg) (cc := cc) (w3 := w5) (by rw [HLJ.out]; exact own5) (by rw [HLJ.out]; exact grow5) (by rw [HLJ.out]; exact hat5) (Nat.le_succ _)
                rw [HLJ.out] at this
                exact this)
              obtain ⟨_, c5, _, f5⟩ := three_cells HDC.out.1
              clear own5 grow5 hat5 hlt5
              refine HK.out _ _ ?_
              clear HK K
              try simp only [Act.put, List.setIfInBounds_toArray, List.set_cons_zero, List.set_cons_succ]
              refine wpAny_take (i := 6) (v := ?_) (by simp only [List.getElem?_toArray, List.getElem?_cons_succ, List.getElem?_cons_zero]; rfl) (by kernel_rfl) (by kernel_rfl) (by kernel_rfl) (fun _ _ _ h => h) (Or.inl ⟨by rfl, ?_⟩) ?_
              rotate_left
              · intro w
                go_simp
                try with_reducible rfl
              try simp only [Act.put, List.setIfInBounds_toArray, List.set_cons_zero, List.set_cons_succ]
              refine wpAny_ready (rs := [7]) (by kernel_rfl) (by simp) ?_
              refine (AllReady.cons (by simp only [List.getElem?_toArray, List.getElem?_cons_succ, List.getElem?_cons_zero]; rfl) (fun K hK => ?_) AllReady.nil)
              have HK := Lib.hid hK
              clear hK
              go_simp
              refine HK.out _ _ ?_
              clear HK K
              try simp only [Act.put, List.setIfInBounds_toArray, List.set_cons_zero, List.set_cons_succ]
              refine wpAny_done (by kernel_rfl) ?_ _
              refine NoPanic.normal ?_
              clear c1d c1w c1a c5 f5
              go_wp2_with fail
              exact ⟨⟨j + 1, n - 1, ls ++ [x], .slice (some ⟨gg, 0, none⟩) (j + 1) cc, by go_num, by omega, by rw [List.length_append, HLJ.out]; rfl, by omega, Lib.hid HDC.out.2⟩, by simp [intOf]; omega⟩
            · have HK := Lib.hid hK
              clear hK
              go_simp
              refine HRC.out.mono ?_
              rintro e w1 ⟨rfl, hp⟩
              have HP := Lib.hid (HRD.out w1 hp)
              clear hp
              obtain ⟨_, c1w, _, _⟩ := three_cells HP.out.2.1
              rw [HLJ.out] at c1w
              go_wp2_with fail
              refine HK.out _ _ ?_
              clear HK K
              try simp only [Act.put, List.setIfInBounds_toArray, List.set_cons_zero, List.set_cons_succ]
              refine wpAny_ready (rs := [1, 4]) (by kernel_rfl) (by simp) ?_
              refine (AllReady.cons (by simp only [List.getElem?_toArray, List.getElem?_cons_succ, List.getElem?_cons_zero]; rfl) (fun K hK => ?_) (AllReady.cons (by simp only [List.getElem?_toArray, List.getElem?_cons_succ, List.getElem?_cons_zero]; rfl) (fun K hK => ?_) AllReady.nil))
              · have HK := Lib.hid hK
                clear hK
                go_simp
                refine HK.out _ _ ?_
                clear HK K
                try simp only [Act.put, List.setIfInBounds_toArray, List.set_cons_zero, List.set_cons_succ]
                refine wpAny_ready (rs := [4]) (by kernel_rfl) (by simp) ?_
                refine (AllReady.cons (by simp only [List.getElem?_toArray, List.getElem?_cons_succ, List.getElem?_cons_zero]; rfl) (fun K hK => ?_) AllReady.nil)
                have HK := Lib.hid hK
                clear hK
                go_simp
                have HB4 : Hid (Below w1.heap.size w1 (w1.alloc (.cells #[.int .i64 x] 3))) := Lib.hid ((Below.refl _ w1).alloc (Nat.le_refl _) _)
                have c1a : (w1.alloc (.cells #[.int .i64 x] 3)).cell? ⟨q, 1, none⟩ = some (.slice p j c) := by rw [World.cell?_of_block (w := w1) (HB4.out.block _ (lt_of_block HP.out.2.1))]; exact c1w
                have HN4 : Hid (∀ j u, ([.int .i64 x] : List Value)[j]? = some u → (w1.alloc (.cells #[.int .i64 x] 3)).cell? ((⟨w1.heap.size, 0, none⟩ : Addr).add j) = some u) := Lib.hid (World.news_of_block (cs := #[.int .i64 x]) (t := 3) (fr := (0, 0)) (heap_alloc_new w1 _))
                refine HK.out _ _ ?_
                clear HK K
                try simp only [Act.put, List.setIfInBounds_toArray, List.set_cons_zero, List.set_cons_succ]
                refine wpAny_ready (rs := [5]) (by kernel_rfl) (by simp) ?_
                refine (AllReady.cons (by simp only [List.getElem?_toArray, List.getElem?_cons_succ, List.getElem?_cons_zero]; rfl) (fun K hK => ?_) AllReady.nil)
                have HK := Lib.hid hK
                clear hK
                refine step_append_lies _ (by rfl) _ _ _ (by rfl) M 3 i0 _ 1 8 Tryz.underlying29 hi0 hz0 hz1 hz2 rfl (by omega) (.slice p j c) j (iv ls) (by rfl) (by have := own_kb HP.out.2.2.1 HB4.out; rw [HLJ.out] at this; exact this) ⟨w1.heap.size, 0, none⟩ 1 1 [.int .i64 x] (by rfl) (by rfl) (fun j u hj => HN4.out j u hj) (by simp [Value.oneCell']) (by decide) HFT.out.1 HFT.out.2 (Nat.le_trans DD.out.msz (Nat.le_trans HP.out.1 HB4.out.size)) (w1.heap.size + 1) (by simp) ?_
                intro gg cc w5 own5 grow5 hat5 hlt5
                have HDC : Hid (w5.heap[q]? = some (.cells #[.int .i64 N1.1, .slice p j c, .int .i64 N2.1] 49 (0, 0)) ∧ Dc 148 49 w (w5.setCell ⟨q, 1, none⟩ (.slice (some ⟨gg, 0, none⟩) (j + 1) cc)) M bb q X N1.1 N2.1 (n - 1) (ls ++ [x]) (.slice (some ⟨gg, 0, none⟩) (j + 1) cc)) := Lib.hid (by
                  obtain ⟨h1, h2, h3, h4, h5, h6⟩ := HP.out
                  have := Dc.laid (T := 148) (U := 49) h2 h3 h4 h5 DD.out.ge DD.out.le DD.out.bm DD.out.bne (Nat.le_trans DD.out.msz h1) h6 HB4.out (by decide) (gg := gg) (cc := cc) (w3 := w5) (by rw [HLJ.out]; exact own5) (by rw [HLJ.out]; exact grow5) (by rw [HLJ.out]; exact hat5) (Nat.le_succ _)
                  rw [HLJ.out] at this
                  exact this)
                obtain ⟨_, c5, _, f5⟩ := three_cells HDC.out.1
                clear own5 grow5 hat5 hlt5
                refine HK.out _ _ ?_
                clear HK K
                try simp only [Act.put, List.setIfInBounds_toArray, List.set_cons_zero, List.set_cons_succ]
                refine wpAny_take (i := 6) (v := ?_) (by simp only [List.getElem?_toArray, List.getElem?_cons_succ, List.getElem?_cons_zero]; rfl) (by kernel_rfl) (by kernel_rfl) (by kernel_rfl) (fun _ _ _ h => h) (Or.inl ⟨by rfl, ?_⟩) ?_
                rotate_left
                · intro w
                  go_simp
                  try with_reducible rfl
                try simp only [Act.put, List.setIfInBounds_toArray, List.set_cons_zero, List.set_cons_succ]
                refine wpAny_ready (rs := [7]) (by kernel_rfl) (by simp) ?_
                refine (AllReady.cons (by simp only [List.getElem?_toArray, List.getElem?_cons_succ, List.getElem?_cons_zero]; rfl) (fun K hK => ?_) AllReady.nil)
                have HK := Lib.hid hK
                clear hK
                go_simp
                refine HK.out _ _ ?_
                clear HK K
                try simp only [Act.put, List.setIfInBounds_toArray, List.set_cons_zero, List.set_cons_succ]
                refine wpAny_done (by kernel_rfl) ?_ _
                refine NoPanic.normal ?_
                clear c1d c1w c1a c5 f5
                go_wp2_with fail
                exact ⟨⟨j + 1, n - 1, ls ++ [x], .slice (some ⟨gg, 0, none⟩) (j + 1) cc, by go_num, by omega, by rw [List.length_append, HLJ.out]; rfl, by omega, Lib.hid HDC.out.2⟩, by simp [intOf]; omega⟩
              · have HK := Lib.hid hK
                clear hK
                go_simp
                have HB4 : Hid (Below w1.heap.size w1 (w1.alloc (.cells #[.int .i64 x] 3))) := Lib.hid ((Below.refl _ w1).alloc (Nat.le_refl _) _)
                have c1a : (w1.alloc (.cells #[.int .i64 x] 3)).cell? ⟨q, 1, none⟩ = some (.slice p j c) := by rw [World.cell?_of_block (w := w1) (HB4.out.block _ (lt_of_block HP.out.2.1))]; exact c1w
                have HN4 : Hid (∀ j u, ([.int .i64 x] : List Value)[j]? = some u → (w1.alloc (.cells #[.int .i64 x] 3)).cell? ((⟨w1.heap.size, 0, none⟩ : Addr).add j) = some u) := Lib.hid (World.news_of_block (cs := #[.int .i64 x]) (t := 3) (fr := (0, 0)) (heap_alloc_new w1 _))
                refine HK.out _ _ ?_
                clear HK K
                try simp only [Act.put, List.setIfInBounds_toArray, List.set_cons_zero, List.set_cons_succ]
                refine wpAny_ready (rs := [1]) (by kernel_rfl) (by simp) ?_
                refine (AllReady.cons (by simp only [List.getElem?_toArray, List.getElem?_cons_succ, List.getElem?_cons_zero]; rfl) (fun K hK => ?_) AllReady.nil)
                have HK := Lib.hid hK
                clear hK
                go_simp
                refine HK.out _ _ ?_
                clear HK K
                try simp only [Act.put, List.setIfInBounds_toArray, List.set_cons_zero, List.set_cons_succ]
                refine wpAny_ready (rs := [5]) (by kernel_rfl) (by simp) ?_
                refine (AllReady.cons (by simp only [List.getElem?_toArray, List.getElem?_cons_succ, List.getElem?_cons_zero]; rfl) (fun K hK => ?_) AllReady.nil)
                have HK := Lib.hid hK
                clear hK
                refine step_append_lies _ (by rfl) _ _ _ (by rfl) M 3 i0 _ 1 8 Tryz.underlying29 hi0 hz0 hz1 hz2 rfl (by omega) (.slice p j c) j (iv ls) (by rfl) (by have := own_kb HP.out.2.2.1 HB4.out; rw [HLJ.out] at this; exact this) ⟨w1.heap.size, 0, none⟩ 1 1 [.int .i64 x] (by rfl) (by rfl) (fun j u hj => HN4.out j u hj) (by simp [Value.oneCell']) (by decide) HFT.out.1 HFT.out.2 (Nat.le_trans DD.out.msz (Nat.le_trans HP.out.1 HB4.out.size)) (w1.heap.size + 1) (by simp) ?_
                intro gg cc w5 own5 grow5 hat5 hlt5
                have HDC : Hid (w5.heap[q]? = some (.cells #[.int .i64 N1.1, .slice p j c, .int .i64 N2.1] 49 (0, 0)) ∧ Dc 148 49 w (w5.setCell ⟨q, 1, none⟩ (.slice (some ⟨gg, 0, none⟩) (j + 1) cc)) M bb q X N1.1 N2.1 (n - 1) (ls ++ [x]) (.slice (some ⟨gg, 0, none⟩) (j + 1) cc)) := Lib.hid (by
                  obtain ⟨h1, h2, h3, h4, h5, h6⟩ := HP.out
                  have := Dc.laid (T := 148) (U := 49) h2 h3 h4 h5 DD.out.ge DD.out.le DD.out.bm DD.out.bne (Nat.le_trans DD.out.msz h1) h6 HB4.out (by decide) (gg := gg) (cc := cc) (w3 := w5) (by rw [HLJ.out]; exact own5) (by rw [HLJ.out]; exact grow5) (by rw [HLJ.out]; exact hat5) (Nat.le_succ _)
                  rw [HLJ.out] at this
                  exact this)
                obtain ⟨_, c5, _, f5⟩ := three_cells HDC.out.1
                clear own5 grow5 hat5 hlt5
                refine HK.out _ _ ?_
                clear HK K
                try simp only [Act.put, List.setIfInBounds_toArray, List.set_cons_zero, List.set_cons_succ]
                refine wpAny_take (i := 6) (v := ?_) (by simp only [List.getElem?_toArray, List.getElem?_cons_succ, List.getElem?_cons_zero]; rfl) (by kernel_rfl) (by kernel_rfl) (by kernel_rfl) (fun _ _ _ h => h) (Or.inl ⟨by rfl, ?_⟩) ?_
                rotate_left
                · intro w
                  go_simp
                  try with_reducible rfl
                try simp only [Act.put, List.setIfInBounds_toArray, List.set_cons_zero, List.set_cons_succ]
                refine wpAny_ready (rs := [7]) (by kernel_rfl) (by simp) ?_
                refine (AllReady.cons (by simp only [List.getElem?_toArray, List.getElem?_cons_succ, List.getElem?_cons_zero]; rfl) (fun K hK => ?_) AllReady.nil)
                have HK := Lib.hid hK
                clear hK
                go_simp
                refine HK.out _ _ ?_
                clear HK K
                try simp only [Act.put, List.setIfInBounds_toArray, List.set_cons_zero, List.set_cons_succ]
                refine wpAny_done (by kernel_rfl) ?_ _
                refine NoPanic.normal ?_
                clear c1d c1w c1a c5 f5
                go_wp2_with fail
                exact ⟨⟨j + 1, n - 1, ls ++ [x], .slice (some ⟨gg, 0, none⟩) (j + 1) cc, by go_num, by omega, by rw [List.length_append, HLJ.out]; rfl, by omega, Lib.hid HDC.out.2⟩, by simp [intOf]; omega⟩
    case rest =>
      clear D8 HBD
      obtain ⟨n, ls, lv, lk, D, K1, H9, HDN⟩ := hcut
      obtain ⟨p, c, rfl⟩ := own_slice D.out.own
      obtain ⟨c0, c1, c2, _⟩ := three_cells D.out.obj
      go_wp2_with fail
      clear c0 c1 c2
      refine (xlay_to wc N1.1 N2.1 _ ls (ISeen.own D.out.own) (Nat.le_trans H9.out (by decide))).mono ?_
      rintro e w9 ⟨v5, rfl, o5, b5⟩
      have O5 := Lib.hid o5
      have B9 : Hid (Below w.heap.size w w9) := Lib.hid (D.out.bel.trans (b5.mono D.out.bel.size))
      have Q9 := Lib.hid ((b5.block _ (lt_of_block D.out.obj)).trans D.out.obj)
      have R9 := Lib.hid ((b5.block _ (lt_of_block D.out.res)).trans D.out.res)
      have OV9 := Lib.hid (own_kb D.out.own b5)
      have k9 : w9.cell? ⟨bb, 1, none⟩ = some (.bool lk) := by rw [World.cell?_of_block (w := wc) (b5.block _ (World.block_lt_of_cell? wc _ K1.out))]; exact K1.out
      have S9 : Hid (SeenR w9 (.slice pu b.length cu) b) := Lib.hid (HS.out.kb B9.out)
      have HLE : Hid (w.heap.size < M) := Lib.hid D.out.le
      obtain ⟨q0, q1, q2, qf⟩ := three_cells Q9.out
      obtain ⟨r0, r1, r2, rf⟩ := three_cells R9.out
      clear b5 D K1
      have HFM : Hid (¬ (okR ⟨N1.1, ls, N2.1⟩ = true ∧ lk = false ∧ encR ⟨N1.1, ls, N2.1⟩ = b) → RdIs b 2 Rt.zero) := Lib.hid (fun hn => rdis_lack (b := b) (r := ⟨N1.1, ls, N2.1⟩) (lk := lk) (by rw [HX0.out]) (fun r0 h0 e => by rw [HX0.out] at e; exact HDN.out r0 h0 e) hn)
      by_cases hok : okR ⟨N1.1, ls, N2.1⟩ = true
      case neg =>
        have HF := Lib.hid (HFM.out (fun e => hok e.1))
        rw [layR_no hok]
        clear hok
        go_wp2_with fail
        (try simp only [Exit.inBlock, Exit.then])
        refine bodyPost_ret (res_two rfl _ _ w.heap.size _ _ (0, 0) _ rfl (set3 R9.out) Tryz.underlying49 rfl (by kernel_rfl)) rfl ?_
        have o := only3 (Only.refl (fun k => k = w.heap.size) w9) rfl (.int .i64 0) (.slice none 0 0) (.int .i64 0)
        exact ⟨0, .slice none 0 0, 0, 2, [], rfl, World.ownsRow_nil _ _ _ _, HF.out, B9.out.trans (o.below B9.out.size (fun k hk => by omega))⟩
      case pos =>
        have HOK := Lib.hid hok
        rw [layR_yes hok] at O5
        rw [layR_yes hok]
        obtain ⟨p5, c5, rfl⟩ := own_slice O5.out
        clear hok
        cases lk with
        | true =>
          have HF := Lib.hid (HFM.out (fun e => by have := e.2.1; cases this))
          go_wp2_with fail
          (try simp only [Exit.inBlock, Exit.then])
          refine bodyPost_ret (res_two rfl _ _ w.heap.size _ _ (0, 0) _ rfl (set3 R9.out) Tryz.underlying49 rfl (by kernel_rfl)) rfl ?_
          have o := only3 (Only.refl (fun k => k = w.heap.size) w9) rfl (.int .i64 0) (.slice none 0 0) (.int .i64 0)
          exact ⟨0, .slice none 0 0, 0, 2, [], rfl, World.ownsRow_nil _ _ _ _, HF.out, B9.out.trans (o.below B9.out.size (fun k hk => by omega))⟩
        | false =>
          have hc1 := conv_any (SeenR.own O5.out)
          have hc2 := conv_any S9.out
          have hbn := strs_beq (encR_ok ⟨N1.1, ls, N2.1⟩) ok
          by_cases hb : encR ⟨N1.1, ls, N2.1⟩ = b
          case neg =>
            have HF := Lib.hid (HFM.out (fun e => hb e.2.2))
            rw [decide_eq_false hb] at hbn
            clear hb
            go_wp2_with fail
            (try simp only [Exit.inBlock, Exit.then])
            refine bodyPost_ret (res_two rfl _ _ w.heap.size _ _ (0, 0) _ rfl (set3 R9.out) Tryz.underlying49 rfl (by kernel_rfl)) rfl ?_
            have o := only3 (Only.refl (fun k => k = w.heap.size) w9) rfl (.int .i64 0) (.slice none 0 0) (.int .i64 0)
            exact ⟨0, .slice none 0 0, 0, 2, [], rfl, World.ownsRow_nil _ _ _ _, HF.out, B9.out.trans (o.below B9.out.size (fun k hk => by omega))⟩
          case pos =>
            have HF := Lib.hid (rdis_good (b := b) (r := ⟨N1.1, ls, N2.1⟩) (by rw [HX0.out]) HOK.out hb)
            rw [decide_eq_true hb] at hbn
            clear hb
            go_wp2_with fail
            (try simp only [Exit.inBlock, Exit.then])
            refine bodyPost_ret (res_two rfl _ _ w.heap.size _ _ (0, 0) _ rfl (set3 R9.out) Tryz.underlying49 rfl (by kernel_rfl)) rfl ?_
            have o := only3 (Only.refl (fun k => k = w.heap.size) w9) rfl (.int .i64 N1.1) (.slice p ls.length c) (.int .i64 N2.1)
            exact ⟨N1.1, _, N2.1, 0, ls, rfl, (own_kept OV9.out o (fun k hk e => by have := (OV9.out.lt k hk).1; have := HLE.out; omega)).mono (Nat.le_of_lt HLE.out), HF.out, B9.out.trans (o.below B9.out.size (fun k hk => by omega))⟩
end Go.Proofs.YtfneadlknieppaaGreatDoor
