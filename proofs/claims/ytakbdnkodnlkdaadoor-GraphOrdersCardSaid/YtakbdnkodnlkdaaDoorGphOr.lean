/- GraphOrders' walk. Condition: errors.errorType holds what its text lays. -/
import Derived.Test.YtakbdnkodnlkdaaDoorGphOm
import Derived.Test.YtakbdnkodnlkdaaDoorGphOc
import Derived.Deep.CutBlock
import Derived.Deep.CutRange
namespace Go.Proofs.YtakbdnkodnlkdaaDoor
open Go.RowKit Go.Extern.Stop Go.Stop Go.Extern
open Go.Maps

/-- One graph stays as another one turns. -/
theorem Ks.aside {w W W' : World} {H : List (Nat × Key)} {g bm g' bm' : Nat} {X X' : Lx} {L : List (Value × Rf)} (h : Ks w W H g bm X L) (h' : GA W g' bm' X') (o : Only (fun j => j = bm') W W') (hlo : w.heap.size ≤ bm') (hne : bm ≠ bm') : Ks w W' H g bm X L :=
  have m := mild_map h'.at_.mp o
  ⟨h.bel.trans (o.below h.bel.size fun k hk => by rw [hk]; exact hlo), fun p hp => ⟨m.cells (h.own p hp).1, (h.own p hp).2⟩, h.ga.only o m hne, h.lo, fun p hp => (h.err p hp).mild m⟩
theorem TS.one {W : World} {b : Nat} {x : Key × (Value × List Key)} (hb : W.heap[b]? = some (.cells (cf [(x.1, x.2.1)]).toArray 36 (0, 0))) (hx : x.1.length = 32) (hl : HSeen W x.2.1 x.2.2) : TS W (.slice (some ⟨b, 0, none⟩) 1 1) [x] :=
  ⟨.inr ⟨b, 0, 1, rfl, Nat.le_refl _, fun j u hj => by rw [Nat.zero_add, cell_of_row W b j _ _ _ hb, List.getElem?_toArray]; exact hj⟩, fun y hy => by rw [List.mem_singleton.1 hy]; exact hx, fun y hy => by rw [List.mem_singleton.1 hy]; exact hl⟩
theorem perm_move {S T T0 : Lx} {k : Nat} (h : (S ++ T).Perm T0) (hk : k < T.length) : ((S ++ [T[k]]) ++ (T.take k ++ T.drop (k + 1))).Perm T0 := by
  refine List.Perm.trans ?_ h
  rw [List.append_assoc]
  refine List.Perm.append_left S ?_
  have e : T = T.take k ++ (T[k] :: T.drop (k + 1)) := by rw [← List.drop_eq_getElem_cons hk, List.take_append_drop]
  conv => rhs; rw [e]
  exact (List.perm_middle (a := T[k]) (l₁ := T.take k) (l₂ := T.drop (k + 1))).symm
theorem own_shc {W : World} {B : Nat} {v : Value} {T : Lx} (h : TOwn W B v T) : ∃ p n c, v = .slice p n c ∧ n = T.length := by
  rcases h.2 with ⟨h1, h2⟩ | ⟨g, cap, cur, h1, _⟩
  · exact ⟨none, 0, 0, h1, h2.symm⟩
  · exact ⟨_, _, _, h1, rfl⟩
set_option linter.unusedSimpArgs false in
set_option maxRecDepth 20000 in
set_option maxHeartbeats 16000000 in
attribute [local go_sem ↓] hld_open cld_open in
theorem orders_to (w : World) (x : Rq) (hin : x.In w) (p : Option Addr) (n cap : Nat) (os : List Int) (hn : n = os.length) (hos : ISeen w (.slice p n cap) os) (hg : Glob w) :
    Calls Tryd.prog 5 #[.agg #[x.vL, x.vH, .int .i64 x.grp, .int .i64 x.how], .slice p n cap] w fun e w' => e = .returned (.bool true) ∧ Below w.heap.size w w' := by
  have HIN := Lib.hid hin
  have HG := Lib.hid hg
  have HN := Lib.hid hn
  have HOS := Lib.hid hos
  clear hin hg hn hos
  have hne := nn_iface
  have hnn := nn_nil
  have B0 := Lib.hid (below_al11 w (.cells #[x.vL, x.vH, .int .i64 x.grp, .int .i64 x.how] 51))
  have HB0 := Lib.hid (heap_alloc_last w (.cells #[x.vL, x.vH, .int .i64 x.grp, .int .i64 x.how] 51))
  go_enter Tryd.func5, Tryd.ntmps5
  go_wp2_with fail
  generalize w.alloc (.cells #[x.vL, x.vH, .int .i64 x.grp, .int .i64 x.how] 51) = w0 at *
  generalize hbx : w.heap.size = bx at HB0
  clear hbx
  refine (new_to w0).mono ?_
  rintro e w1 ⟨rfl, g1, b1⟩
  obtain ⟨ba, hba⟩ : ∃ ba, ba = w0.heap.size := ⟨_, rfl⟩
  have KA1 : Hid (Ks w w1 [] (w0.heap.size + 1) ba [] []) := Lib.hid ⟨B0.out.trans (b1.mono B0.out.size), (fun p hp => by cases hp), hba ▸ g1, by rw [hba]; exact B0.out.size, (fun p hp => by cases hp)⟩
  have HX1 := Lib.hid ((mild_below b1).cells HB0.out)
  have HBA : Hid (ba < w1.heap.size) := Lib.hid KA1.out.ga.at_.mp.lt
  clear g1 b1 hba HB0
  generalize w0.heap.size + 1 = ga at *
  go_wp2_with fail
  refine (new_to w1).mono ?_
  rintro e w2 ⟨rfl, g2, b2⟩
  obtain ⟨bb, hbb⟩ : ∃ bb, bb = w1.heap.size := ⟨_, rfl⟩
  have KA2 := Lib.hid (KA1.out.kb b2)
  have KB2 : Hid (Ks w w2 [] (w1.heap.size + 1) bb [] []) := Lib.hid ⟨KA2.out.bel, (fun p hp => by cases hp), hbb ▸ g2, by rw [hbb]; exact KA1.out.bel.size, (fun p hp => by cases hp)⟩
  have HX2 := Lib.hid ((mild_below b2).cells HX1.out)
  have HNE : Hid (ba ≠ bb) := Lib.hid (by have := HBA.out; omega)
  have HG2 := Lib.hid (HG.out.kb KA2.out.bel)
  clear g2 b2 hbb HX1 KA1 HBA
  generalize w1.heap.size + 1 = gb at *
  have hnpa : ∀ w : World, (binOp .eql 22 (gp ga) (.pointer none)).run Tryd.prog w = .ok (.bool false) w := fun w => by kernel_rfl
  have hnpb : ∀ w : World, (binOp .eql 22 (gp gb) (.pointer none)).run Tryd.prog w = .ok (.bool false) w := fun w => by kernel_rfl
  go_wp2_with fail
  refine (known11_to w2 HG2.out).mono ?_
  rintro e w3 ⟨rfl, b3⟩
  have KA3 := Lib.hid (KA2.out.kb b3)
  have KB3 := Lib.hid (KB2.out.kb b3)
  have HX3 := Lib.hid ((mild_below b3).cells HX2.out)
  have hcx : ∀ i u, (#[x.vL, x.vH, .int .i64 x.grp, .int .i64 x.how] : Array Value)[i]? = some u → w3.cell? ⟨bx, i, none⟩ = some u := fun i u hu => by rw [cell_of_row w3 bx i _ _ _ HX3.out]; exact hu
  have c0 := hcx 0 _ rfl
  have c1 := hcx 1 _ rfl
  have c2 := hcx 2 _ rfl
  have c3 := hcx 3 _ rfl
  have HRQ := Lib.hid (request_to w3 x.vL x.vH x.grp x.how x.L x.hs (HIN.out.1.kb KA3.out.bel) (HIN.out.2.kb' KA3.out.bel))
  clear hcx b3 KA2 KB2 HX2 HX3 HG2
  go_wp2_with fail
  refine HRQ.out.mono ?_
  rintro e w4 ⟨vc, vh, gg, cs, hs, rfl, hcs, hhs, hok, h32, hp10, hcl, hhl, b4, hfm⟩
  obtain ⟨pc, cc, rfl, _⟩ := id hcs
  obtain ⟨ph, ch, rfl⟩ := hhs.shape
  obtain ⟨T0, hgr, ts⟩ := TS.of hcs hok hfm
  obtain ⟨m, hm⟩ : ∃ m, m = cs.length := ⟨_, rfl⟩
  generalize hs.length = mh at *
  have TS5 : Hid (TS (w4.alloc (.cells #[.slice pc m cc, .slice ph mh ch, .int .i64 gg] 33)) (.slice pc m cc) T0) := Lib.hid (by rw [hm]; exact ts.kb (below_al11 w4 _))
  have HR5 := Lib.hid (heap_alloc_last w4 (.cells #[.slice pc m cc, .slice ph mh ch, .int .i64 gg] 33))
  have KA5 := Lib.hid ((KA3.out.kb b4).kb (below_al11 w4 (.cells #[.slice pc m cc, .slice ph mh ch, .int .i64 gg] 33)))
  have KB5 := Lib.hid ((KB3.out.kb b4).kb (below_al11 w4 (.cells #[.slice pc m cc, .slice ph mh ch, .int .i64 gg] 33)))
  have HOK := Lib.hid hok
  have HGR := Lib.hid hgr
  have HM := Lib.hid hm
  have HCL := Lib.hid hcl
  have HPL := Lib.hid hp10
  rw [← hm]
  clear hcs hhs hok h32 hp10 hcl hhl hfm b4 hm c0 c1 c2 c3 KA3 KB3 hgr ts
  go_wp2_with fail
  generalize w4.alloc (.cells #[.slice pc m cc, .slice ph mh ch, .int .i64 gg] 33) = w5 at *
  generalize w4.heap.size = rb at *
  refine (add_to w5 ga ba [] _ cs KA5.out.ga Wf.nil (HGR.out ▸ TS5.out.cseen) HOK.out (Nat.le_trans HCL.out (by decide)) (fun c hc => Nat.le_trans (HPL.out c hc) (by decide))).mono ?_
  intro e w6 hadd
  obtain ⟨y, Xa, he, k6, h61, h62⟩ := KA5.out.added hadd
  subst he
  obtain ⟨_, _, _, o6, _⟩ := id hadd
  have hm6 := mild_map KA5.out.ga.at_.mp o6
  have KA6 := Lib.hid k6.bare
  have KB6 := Lib.hid (KB5.out.aside KA5.out.ga o6 KA5.out.lo (Ne.symm HNE.out))
  have TS6 := Lib.hid (TS5.out.mild hm6)
  have HR6 := Lib.hid (hm6.cells HR5.out)
  have EY := Lib.hid (k6.err _ List.mem_cons_self)
  have H61 := Lib.hid h61
  have H62 := Lib.hid h62
  clear hadd k6 o6 hm6 h61 h62 KA5 KB5 TS5 HR5
  rcases EY.out.form with ⟨hn1, rfl⟩ | ⟨hs1, t1, y1, rfl⟩
  case inr =>
    obtain rfl := H61.out hs1
    clear hs1
    go_wp2_with fail
    refine (count_to w6 ga ba [] KA6.out.ga).mono ?_
    rintro e w7 ⟨rfl, rfl⟩
    go_wp2_with fail
    go_ret
    exact ⟨rfl, KA6.out.bel⟩
  case inl =>
    have HFN : Hid (chk [] 2 cs [] = none) := Lib.hid hn1
    have HGA : Hid (gr Xa = adds [] cs) := Lib.hid (H62.out hn1)
    have hr6 : w6.cell? ⟨rb, 0, none⟩ = some (.slice pc m cc) := by rw [cell_of_row w6 rb _ _ _ _ HR6.out]; rfl
    have E0 : Hid (TOwn (w6.alloc (.cells #[] 36)) w6.heap.size (.slice (some ⟨w6.heap.size, 0, none⟩) 0 0) []) := Lib.hid (own_empty w6 _ _ (Nat.le_refl _))
    have BE := Lib.hid (below_al11 w6 (.cells #[] 36))
    have TE := Lib.hid (TS6.out.kb BE.out)
    have hr6a := (mild_below BE.out).cell hr6
    have HTL : Hid (T0.length ≤ 100) := Lib.hid (by rw [← gr_len, HGR.out]; exact HCL.out)
    have HML : Hid (m = T0.length) := Lib.hid (by rw [HM.out, ← HGR.out, gr_len])
    clear hn1 H61 H62 EY
    go_upto_region 9 with (first
      | (at_builtin; refine push_comms rfl (.tmp 40) (.tmp 42) rfl w6.heap.size (.slice (some ⟨w6.heap.size, 0, none⟩) 0 0) (.slice pc m cc) [] T0 rfl E0.out rfl TE.out (by have := HTL.out; simp; omega) BE.out.size ?_; intro v7 w7 o7 oth7 loc7; have O7 : Hid (TOwn w7 w6.heap.size v7 T0) := Lib.hid o7; have B7 := Lib.hid (BE.out.trans (oth7.below BE.out.size (fun k hk => own_from E0.out k hk))); clear o7 oth7 loc7)
      | (refine push_empty_c rfl rfl ?_))
    obtain ⟨pl, nl, cl, hv7, hnl⟩ := own_shc O7.out
    subst hv7
    have HNL : Hid (nl = T0.length) := Lib.hid hnl
    clear hnl hr6 hr6a E0 BE TE
    obtain ⟨B6, hB6⟩ : ∃ B6, B6 = w6.heap.size := ⟨_, rfl⟩
    have O7 : Hid (TOwn w7 B6 (.slice pl nl cl) T0) := Lib.hid (by rw [hB6]; exact O7.out)
    have HB6 := Lib.hid hB6
    clear hB6
    go_wp2_with fail
    go_loopw [8, 9, 10] (fun v8 v9 v10 wq => ∃ (pl : Option Addr) (nl cl : Nat) (p2 : Option Addr) (n2 c2 i : Nat) (S T : Lx), v8 = .slice pl nl cl ∧ v9 = .slice p2 n2 c2 ∧ v10 = .int .i64 i ∧ Hid (nl = T.length) ∧ Hid (n2 = S.length) ∧ Hid (i + nl = m) ∧ Hid (TOwn wq B6 (.slice pl nl cl) T) ∧ Hid (TOwn wq B6 (.slice p2 n2 c2) S) ∧ Hid (∀ j, (Value.slice pl nl cl).ownBlock = some j → (Value.slice p2 n2 c2).ownBlock ≠ some j) ∧ Hid ((S ++ T).Perm T0) ∧ Hid (Below B6 w6 wq)) (fun v8 _ _ _ => slen v8)
    case atStart => exact ⟨pl, nl, cl, none, 0, 0, 0, [], T0, rfl, rfl, rfl, HNL, Lib.hid rfl, Lib.hid (by rw [HNL.out, HML.out, Nat.zero_add]), O7, Lib.hid (World.ownsRow_nil _ _ _ _), Lib.hid (fun j _ h => by cases h), Lib.hid (by simp), Lib.hid (by rw [HB6.out]; exact B7.out)⟩
    case round =>
      clear O7 B7 HNL
      obtain ⟨pl, nl, cl, p2, n2, c2, i, S, T, rfl, rfl, rfl, HNL, HN2, HIM, OT, OS, HSP, HPM, BW⟩ := hrel
      have HBS : Hid (w.heap.size ≤ B6) := Lib.hid (by rw [HB6.out]; exact KA6.out.bel.size)
      have BW6 : Hid (Below w6.heap.size w6 wr) := Lib.hid (by rw [← HB6.out]; exact BW.out)
      have HLT : Hid (∀ z ∈ T0, z.1.length = 32 ∧ HSeen wr z.2.1 z.2.2) := Lib.hid fun z hz => ⟨TS6.out.h32 z hz, (TS6.out.lit z hz).mild (mild_below BW6.out)⟩
      have HMT : Hid (∀ z ∈ T, z ∈ T0) := Lib.hid fun z hz => HPM.out.mem_iff.1 (List.mem_append_right S hz)
      have HMS : Hid (∀ z ∈ S, z ∈ T0) := Lib.hid fun z hz => HPM.out.mem_iff.1 (List.mem_append_left T hz)
      have HLS : Hid (S.length + T.length = T0.length) := Lib.hid (by rw [← List.length_append]; exact HPM.out.length_eq)
      have ST : Hid (TS wr (.slice pl nl cl) T) := Lib.hid (TS.own OT.out (fun z hz => (HLT.out z (HMT.out z hz)).1) (fun z hz => (HLT.out z (HMT.out z hz)).2))
      have SS : Hid (TS wr (.slice p2 n2 c2) S) := Lib.hid (TS.own OS.out (fun z hz => (HLT.out z (HMS.out z hz)).1) (fun z hz => (HLT.out z (HMS.out z hz)).2))
      by_cases hgo : 0 < nl
      case pos =>
        have hg1 : (0 : Int) < nl := by omega
        have hg2 : (nl : Int) > 0 := by omega
        have hn0 : 0 ≤ (i : Int) := by omega
        go_upto_if 52 with fail
        go_cut [11] from 52 to 59 (fun vj wx => wr = wx ∧ ∃ j : Nat, j < nl ∧ vj = .int .i64 j)
        case first =>
          by_cases h1 : i < n
          · have hk : (i : Int) < n := by omega
            obtain ⟨x1, hx1⟩ : ∃ x1, os[i]? = some x1 := ⟨os[i]'(by rw [← HN.out]; exact h1), List.getElem?_eq_getElem _⟩
            obtain ⟨a8, rfl, hc0⟩ := (HOS.out.kb' (KA6.out.bel.trans (BW6.out.mono KA6.out.bel.size))).at' hx1
            obtain ⟨r, hr⟩ : ∃ r, r = x1 % (nl : Int) := ⟨_, rfl⟩
            have h3 : 0 ≤ r := by rw [hr]; exact Int.emod_nonneg _ (by omega)
            have h4 : r < nl := by rw [hr]; exact Int.emod_lt_of_pos _ hg1
            have HPK := Lib.hid (pick_to wr x1 nl r hg1 (by have := HNL.out; have := HLS.out; have := HTL.out; omega) hr.symm)
            obtain ⟨rn, hrn⟩ : ∃ rn : Nat, r = rn := ⟨r.toNat, by omega⟩
            subst hrn
            have HRN : Hid (rn < nl) := Lib.hid (by omega)
            clear hr h3 h4 h1 hx1
            go_wp2_with (go_at_call 25; refine HPK.out.mono ?_; rintro e w' ⟨rfl, rfl⟩)
            go_meet
            case rel => exact ⟨rfl, rn, HRN.out, rfl⟩
          · have hk : ¬ (i : Int) < n := by omega
            clear h1
            go_wp2_with fail
            go_meet
            case rel => exact ⟨rfl, 0, hgo, rfl⟩
        case rest =>
          obtain ⟨hwc, k, hk, rfl⟩ := hcut
          subst hwc
          obtain ⟨gl, cl', hfl, hlc⟩ := OT.out.form (by rw [← HNL.out]; exact hgo)
          injection hfl with hfl e11 hcl2
          subst hcl2 hfl
          clear e11
          have hkT : k < T.length := by rw [← HNL.out]; exact hk
          obtain ⟨x1, hx1⟩ : ∃ x1, x1 = T[k] := ⟨_, rfl⟩
          have HX1 : Hid (T[k]? = some x1) := Lib.hid (by rw [hx1]; exact List.getElem?_eq_getElem hkT)
          have HXM : Hid (x1 ∈ T) := Lib.hid (by rw [hx1]; exact List.getElem_mem hkT)
          have HPN : Hid (((S ++ [x1]) ++ (T.take k ++ T.drop (k + 1))).Perm T0) := Lib.hid (by rw [hx1]; exact perm_move HPM.out hkT)
          have HXL := Lib.hid (HLT.out x1 (HMT.out x1 HXM.out))
          obtain ⟨bg, og, cg, eg, hrg⟩ := ST.out.at HX1.out
          injection eg with eg e8 e9
          injection eg with eg
          injection eg with eg1 eg2 e10
          subst eg1 eg2
          clear e8 e9 e10
          rw [Nat.zero_add] at hrg
          have hcl := cld_range HXL.out.1 hrg
          have HKT := Lib.hid hkT
          have HLC : Hid (nl ≤ cl) := Lib.hid (by obtain ⟨_, _, _, e, _, hle⟩ := ST.out.shape; injection e with _ e1 e2; omega)
          have BA := Lib.hid (below_al11 wr (.cells (cf [(x1.1, x1.2.1)]).toArray 36))
          have OSA := Lib.hid (own_below OS.out BA.out)
          have T1 : Hid (TS (wr.alloc (.cells (cf [(x1.1, x1.2.1)]).toArray 36)) (.slice (some ⟨wr.heap.size, 0, none⟩) 1 1) [x1]) := Lib.hid (TS.one (heap_alloc_last wr _) HXL.out.1 (HXL.out.2.mild (mild_below BA.out)))
          have HBW : Hid (B6 ≤ wr.heap.size) := Lib.hid (by rw [HB6.out]; exact BW6.out.size)
          clear hx1 hkT hlc hrg
          go_upto_region 17 with (first
            | (at_builtin; refine push_comms rfl (.tmp 60) (.tmp 65) rfl B6 (.slice p2 n2 c2) (.slice (some ⟨wr.heap.size, 0, none⟩) 1 1) S [x1] rfl OSA.out rfl T1.out (by have := HLS.out; have := HTL.out; simp; omega) (Nat.le_trans HBW.out BA.out.size) ?_; intro v9 w9 o9 oth9 loc9; have O9 := Lib.hid o9; have OT9 := Lib.hid oth9; have LC9 := Lib.hid loc9; clear o9 oth9 loc9)
            | (refine slicec_w (C := [(x1.1, x1.2.1)]) (by simpa using HXL.out.1) rfl (by simp) (by simp) ?hv ?hw ?_; (case hv => first | rfl | simp [Act.put, Act.eval]); (case hw => first | rfl | simp [Region.wanted, yielded])))
          obtain ⟨p9, n9, c9, hv9, hn9⟩ := own_shc O9.out
          subst hv9
          have HN9 := Lib.hid hn9
          have BW9 : Hid (Below B6 w6 w9) := Lib.hid ((BW.out.trans (BA.out.mono HBW.out)).trans (OT9.out.below (Nat.le_trans HBW.out BA.out.size) (fun k hk => own_from OSA.out k hk)))
          have OT9T : Hid (TOwn w9 B6 (.slice (some ⟨gl, 0, none⟩) nl cl) T) := Lib.hid (own_keep (own_below OT.out BA.out) OT9.out (fun j hj e => HSP.out j hj e))
          clear hn9 hcl BA OSA T1 OT9
          have bq : Below w9.heap.size w9 w9.drew := blw_qt _ 1 w9
          have HTW : Hid (∀ V, Below w9.heap.size w9 V → TS V (.slice (some ⟨gl, 0, none⟩) nl cl) T) := Lib.hid (fun V hV => TS.own (own_below OT9T.out hV) (fun z hz => (HLT.out z (HMT.out z hz)).1) (fun z hz => (TS6.out.lit z (HMT.out z hz)).mild (mild_below ((HB6.out ▸ BW9.out).trans (hV.mono (HB6.out ▸ BW9.out.size))))))
          have hb1 : ((k : Nat) : Int) ≤ cl := by have := HLC.out; omega
          have hb2 : (0 : Int) ≤ k := by omega
          have hwj : IntKind.i64.wrap ((k : Int) + 1) = (k : Int) + 1 := IntWalk.i64_in _ (by have := HNL.out; have := HLS.out; have := HTL.out; omega)
          have hb3 : (0 : Int) ≤ (k : Int) + 1 := by omega
          have hb4 : (k : Int) + 1 ≤ nl := by omega
          have hb5 : k + 1 ≤ nl := by omega
          have hb6 : k ≤ cl := by have := HLC.out; omega
          have HK := Lib.hid hk
          have BV : Hid (Below w9.heap.size w9 w9.drew) := Lib.hid bq
          clear bq
          try simp only [List.append]
          refine wp_region_noPanic ?_
          refine wp_region_held_drew (S := (fun _ => True)) (by kernel_rfl) trivial (fun hHeld => ?_)
          generalize w9.drew = cw at *
          refine wpAnyH_take (i := 1) (v := ?_) (by simp only [List.getElem?_toArray, List.getElem?_cons_succ, List.getElem?_cons_zero]; rfl) (by kernel_rfl) (by kernel_rfl) (by kernel_rfl) (fun _ _ _ h => h) (Or.inl ⟨by rfl, ?_⟩) (by assumption) ?_
          rotate_left
          · intro w hSw
            try dsimp only at hSw
            go_simp
            try with_reducible rfl
          try simp only [Act.put, List.setIfInBounds_toArray, List.set_cons_zero, List.set_cons_succ]
          refine wpAnyH_take (i := 2) (v := ?_) (by simp only [List.getElem?_toArray, List.getElem?_cons_succ, List.getElem?_cons_zero]; rfl) (by kernel_rfl) (by kernel_rfl) (by kernel_rfl) (fun _ _ _ h => h) (Or.inl ⟨by rfl, ?_⟩) (by assumption) ?_
          rotate_left
          · intro w hSw
            try dsimp only at hSw
            go_simp
            try with_reducible rfl
          try simp only [Act.put, List.setIfInBounds_toArray, List.set_cons_zero, List.set_cons_succ]
          refine wpAnyH_take (i := 3) (v := ?_) (by simp only [List.getElem?_toArray, List.getElem?_cons_succ, List.getElem?_cons_zero]; rfl) (by kernel_rfl) (by kernel_rfl) (by kernel_rfl) (fun _ _ _ h => h) (Or.inl ⟨by rfl, ?_⟩) (by assumption) ?_
          rotate_left
          · intro w hSw
            try dsimp only at hSw
            go_simp
            try with_reducible rfl
          try simp only [Act.put, List.setIfInBounds_toArray, List.set_cons_zero, List.set_cons_succ]
          refine wpAnyH_take (i := 5) (v := ?_) (by simp only [List.getElem?_toArray, List.getElem?_cons_succ, List.getElem?_cons_zero]; rfl) (by kernel_rfl) (by kernel_rfl) (by kernel_rfl) (fun _ _ _ h => h) (Or.inl ⟨by rfl, ?_⟩) (by assumption) ?_
          rotate_left
          · intro w hSw
            try dsimp only at hSw
            go_simp
            try with_reducible rfl
          try simp only [Act.put, List.setIfInBounds_toArray, List.set_cons_zero, List.set_cons_succ]
          refine wpAnyH_take (i := 6) (v := ?_) (by simp only [List.getElem?_toArray, List.getElem?_cons_succ, List.getElem?_cons_zero]; rfl) (by kernel_rfl) (by kernel_rfl) (by kernel_rfl) (fun _ _ _ h => h) (Or.inl ⟨by rfl, ?_⟩) (by assumption) ?_
          rotate_left
          · intro w hSw
            try dsimp only at hSw
            go_simp
            try with_reducible rfl
          try simp only [Act.put, List.setIfInBounds_toArray, List.set_cons_zero, List.set_cons_succ]
          refine wpAnyH_take (i := 7) (v := ?_) (by simp only [List.getElem?_toArray, List.getElem?_cons_succ, List.getElem?_cons_zero]; rfl) (by kernel_rfl) (by kernel_rfl) (by kernel_rfl) (fun _ _ _ h => h) (Or.inl ⟨by rfl, ?_⟩) (by assumption) ?_
          rotate_left
          · intro w hSw
            try dsimp only at hSw
            go_simp
            try with_reducible rfl
          try simp only [Act.put, List.setIfInBounds_toArray, List.set_cons_zero, List.set_cons_succ]
          refine wpAnyH_take (i := 8) (v := ?_) (by simp only [List.getElem?_toArray, List.getElem?_cons_succ, List.getElem?_cons_zero]; rfl) (by kernel_rfl) (by kernel_rfl) (by kernel_rfl) (fun _ _ _ h => h) (Or.inl ⟨by rfl, ?_⟩) (by assumption) ?_
          rotate_left
          · intro w hSw
            try dsimp only at hSw
            go_simp
            try with_reducible rfl
          try simp only [Act.put, List.setIfInBounds_toArray, List.set_cons_zero, List.set_cons_succ]
          generalize hgq : (if cl = k + 1 then some (⟨gl, 0, none⟩ : Addr) else some ⟨gl, (k + 1) * 33, none⟩) = q at *
          generalize hgm : nl - (k + 1) = mr at *
          generalize hgc : cl - (k + 1) = cr at *
          have HQT : Hid (∀ V, Below w9.heap.size w9 V → TS V (.slice q mr cr) (T.drop (k + 1))) := Lib.hid (fun V hV => by
            have h1 := (HTW.out V hV).drop (k := k + 1) (m := mr) HKT.out (by rw [← hgm, HNL.out])
            rwa [Nat.zero_add, hgq, hgc] at h1)
          have HMR : Hid (mr + (k + 1) = nl) := Lib.hid (by rw [← hgm]; omega)
          clear hgq hgm hgc hb1 hb2 hwj hb3 hb4 hb5 hb6
          refine wpAnyH_ready (rs := [0]) (by kernel_rfl) (by simp) ?_
          refine (AllReadyH.cons (by simp only [List.getElem?_toArray, List.getElem?_cons_zero]; rfl) (fun K hK => ?_) AllReadyH.nil)
          refine step_empty_c rfl rfl ?_
          have E0 : Hid (TOwn (cw.alloc (.cells #[] 36)) w9.heap.size (.slice (some ⟨cw.heap.size, 0, none⟩) 0 0) []) := Lib.hid (own_empty cw _ _ BV.out.size)
          have BV := Lib.hid (BV.out.alloc BV.out.size (.cells #[] 36))
          generalize cw.alloc (.cells #[] 36) = cx at *
          generalize cw.heap.size = b0 at *
          rename World => cw
          refine hK.out _ _ trivial (fun hHeld => ?_)
          clear hK K
          try simp only [Act.put, List.setIfInBounds_toArray, List.set_cons_zero, List.set_cons_succ]
          refine wpAnyH_ready (rs := [4]) (by kernel_rfl) (by simp) ?_
          refine (AllReadyH.cons (by simp only [List.getElem?_toArray, List.getElem?_cons_succ, List.getElem?_cons_zero]; rfl) (fun K hK => ?_) AllReadyH.nil)
          refine step_comms rfl _ _ rfl w9.heap.size (.slice (some ⟨b0, 0, none⟩) 0 0) (.slice (some ⟨gl, 0, none⟩) k cl) [] (T.take k) (by rfl) E0.out (by rfl) ((HTW.out _ BV.out).take (Nat.le_of_lt HKT.out)) (by have := HKT.out; have := HLS.out; have := HTL.out; rw [List.length_take]; simp; omega) BV.out.size ?_
          intro v2 cx o2 oth2 loc2
          obtain ⟨pt, nt, ct, rfl, hnt⟩ := own_shc o2
          have O2 : Hid (TOwn cx w9.heap.size (.slice pt nt ct) (T.take k)) := Lib.hid o2
          have BV := Lib.hid (BV.out.trans (oth2.below BV.out.size (fun k hk => own_from E0.out k hk)))
          clear o2 oth2 loc2 hnt
          rename World => cw
          refine hK.out _ _ trivial (fun hHeld => ?_)
          clear hK K
          try simp only [Act.put, List.setIfInBounds_toArray, List.set_cons_zero, List.set_cons_succ]
          refine wpAnyH_ready (rs := [9]) (by kernel_rfl) (by simp) ?_
          refine (AllReadyH.cons (by simp only [List.getElem?_toArray, List.getElem?_cons_succ, List.getElem?_cons_zero]; rfl) (fun K hK => ?_) AllReadyH.nil)
          refine step_comms rfl _ _ rfl w9.heap.size (.slice pt nt ct) (.slice q mr cr) (T.take k) (T.drop (k + 1)) (by rfl) O2.out (by rfl) (HQT.out _ BV.out) (by have := HKT.out; have := HLS.out; have := HTL.out; rw [List.length_take, List.length_drop]; omega) BV.out.size ?_
          intro v2 cx o2 oth2 loc2
          obtain ⟨pu, nu, cu, rfl, hnu⟩ := own_shc o2
          have O3 : Hid (TOwn cx w9.heap.size (.slice pu nu cu) (T.take k ++ T.drop (k + 1))) := Lib.hid o2
          have HNU : Hid (nu = (T.take k ++ T.drop (k + 1)).length ∧ nu + 1 = nl) := Lib.hid ⟨hnu, by rw [hnu, List.length_append, List.length_take, List.length_drop, HNL.out, Nat.min_eq_left (Nat.le_of_lt HKT.out)]; have := HKT.out; omega⟩
          have BV := Lib.hid (BV.out.trans (oth2.below BV.out.size (fun k hk => own_from O2.out k hk)))
          clear o2 oth2 loc2 hnu
          rename World => cw
          refine hK.out _ _ trivial (fun hHeld => ?_)
          clear hK K
          try simp only [Act.put, List.setIfInBounds_toArray, List.set_cons_zero, List.set_cons_succ]
          refine wpAnyH_take (i := 10) (v := ?_) (by simp only [List.getElem?_toArray, List.getElem?_cons_succ, List.getElem?_cons_zero]; rfl) (by kernel_rfl) (by kernel_rfl) (by kernel_rfl) (fun _ _ _ h => h) (Or.inl ⟨by rfl, ?_⟩) (by assumption) ?_
          rotate_left
          · intro w hSw
            try dsimp only at hSw
            go_simp
            try with_reducible rfl
          try simp only [Act.put, List.setIfInBounds_toArray, List.set_cons_zero, List.set_cons_succ]
          refine wpAnyH_done (by kernel_rfl) ?_ _
          refine NoPanic.normal ?_
          go_wp2_with fail
          have HSQ : Hid (∀ j, (Value.slice pu nu cu).ownBlock = some j → (Value.slice p9 n9 c9).ownBlock ≠ some j) := Lib.hid (fun j hj e => by
            have h1 := own_from O3.out j hj
            obtain ⟨_, h2, _⟩ := own_type O9.out e
            have := (Array.getElem?_eq_some_iff.1 h2).1
            omega)
          refine ⟨⟨pu, nu, cu, p9, n9, c9, i + 1, S ++ [x1], T.take k ++ T.drop (k + 1), rfl, rfl, congrArg _ (by have := HIM.out; have := HML.out; have := HTL.out; unfold wrap64; omega), Lib.hid HNU.out.1, HN9, Lib.hid (by have := HNU.out.2; have := HIM.out; omega), Lib.hid (own_mono O3.out (by rw [HB6.out]; have := BW9.out.size; exact this)), Lib.hid (own_below O9.out BV.out), HSQ, HPN, Lib.hid (BW9.out.trans (BV.out.mono (by rw [HB6.out]; exact BW9.out.size)))⟩, ?_⟩
          simp only [slen]; have := HNU.out.2; omega
      case neg =>
        obtain rfl : nl = 0 := by omega
        obtain rfl : T = [] := List.eq_nil_of_length_eq_zero HNL.out.symm
        clear hgo
        have HP0 : Hid (S.Perm T0) := Lib.hid (by have := HPM.out; rwa [List.append_nil] at this)
        have HSL : Hid (S.length ≤ 100) := Lib.hid (by rw [HP0.out.length_eq]; exact HTL.out)
        obtain ⟨h2, hh2⟩ : ∃ h2 : Nat, wrap64 ((n2 : Int) / 2) = h2 := ⟨n2 / 2, by have := HN2.out; have := HSL.out; unfold wrap64; omega⟩
        have HH2 : Hid (h2 = n2 / 2) := Lib.hid (by have := HN2.out; have := HSL.out; unfold wrap64 at hh2; omega)
        have HC2 : Hid (n2 ≤ c2) := Lib.hid (by obtain ⟨_, _, _, e, _, hle⟩ := SS.out.shape; injection e with _ e1 e2; omega)
        have hd1 : (h2 : Int) ≤ c2 := by have := HC2.out; have := HH2.out; omega
        have hd2 : (0 : Int) ≤ h2 := by omega
        have S2 : Hid (TS wr (.slice p2 h2 c2) (S.take h2)) := Lib.hid (SS.out.take (by have := HN2.out; have := HH2.out; omega))
        have HBW : Hid (B6 ≤ wr.heap.size) := Lib.hid (by rw [HB6.out]; exact BW6.out.size)
        go_upto_region 19 with (at_builtin; refine push_comms rfl (.tmp 77) (.tmp 82) rfl B6 (.slice p2 n2 c2) (.slice p2 h2 c2) S (S.take h2) rfl OS.out rfl S2.out (by have := HSL.out; rw [List.length_take]; omega) HBW.out ?_; intro v9 w9 o9 oth9 loc9; have O9 := Lib.hid o9; have BW9 : Hid (Below B6 w6 w9) := Lib.hid (BW.out.trans (oth9.below HBW.out (fun k hk => own_from OS.out k hk))); clear o9 oth9 loc9)
        obtain ⟨p9, n9, c9, hv9, hn9⟩ := own_shc O9.out
        subst hv9
        have HN9 : Hid (n9 = S.length + h2) := Lib.hid (by rw [hn9, List.length_append, List.length_take, Nat.min_eq_left (by have := HN2.out; have := HH2.out; omega)])
        have HL9 : Hid ((S ++ S.take h2).length ≤ 200) := Lib.hid (by rw [← hn9, HN9.out]; have := HSL.out; have := HN2.out; have := HH2.out; omega)
        have hg9 : ¬ (n9 : Int) > 200 := by rw [hn9]; have := HL9.out; omega
        have hm9 : ∀ c, c ∈ gr (S ++ S.take h2) ↔ c ∈ cs := fun c => by
          rw [← HGR.out]
          unfold gr amap
          rw [List.map_append, List.mem_append, List.mem_map, List.mem_map, List.mem_map]
          constructor
          · rintro (⟨z, hz, rfl⟩ | ⟨z, hz, rfl⟩)
            · exact ⟨z, HP0.out.mem_iff.1 hz, rfl⟩
            · exact ⟨z, HP0.out.mem_iff.1 (List.mem_of_mem_take hz), rfl⟩
          · rintro ⟨z, hz, rfl⟩
            exact .inl ⟨z, HP0.out.mem_iff.2 hz, rfl⟩
        have HOR := Lib.hid (order_same HFN.out hm9 (by rw [gr_len]; exact HL9.out))
        have BW96 : Hid (Below w6.heap.size w6 w9) := Lib.hid (by rw [← HB6.out]; exact BW9.out)
        have KA9 := Lib.hid (KA6.out.kb BW96.out)
        have KB9 := Lib.hid (KB6.out.kb BW96.out)
        have C9 : Hid (CSeen w9 (.slice p9 n9 c9) (gr (S ++ S.take h2))) := Lib.hid (TS.cseen (TS.own O9.out
          (fun z hz => by rcases List.mem_append.1 hz with h | h; exact (HLT.out z (HMS.out z h)).1; exact (HLT.out z (HMS.out z (List.mem_of_mem_take h))).1)
          (fun z hz => (TS6.out.lit z (by rcases List.mem_append.1 hz with h | h; exact HMS.out z h; exact HMS.out z (List.mem_of_mem_take h))).mild (mild_below BW96.out))))
        have CK9 : Hid (COk (gr (S ++ S.take h2)) ∧ (∀ c ∈ gr (S ++ S.take h2), c.2.length ≤ 10) ∧ (gr (S ++ S.take h2)).length ≤ 200) := Lib.hid ⟨fun c hc => HOK.out c ((hm9 c).1 hc), fun c hc => HPL.out c ((hm9 c).1 hc), by rw [gr_len]; exact HL9.out⟩
        clear hm9 hn9 hh2 hd1 hd2
        generalize gr (S ++ S.take h2) = cs9 at *
        go_wp2_with fail
        refine (add_to w9 gb bb [] _ cs9 KB9.out.ga Wf.nil C9.out CK9.out.1 (Nat.le_trans CK9.out.2.2 (by decide)) (fun c hc => Nat.le_trans (CK9.out.2.1 c hc) (by decide))).mono ?_
        intro e wa hadd
        obtain ⟨Xb, he, kb1, hgb⟩ := KB9.out.taken HOR.out.1 hadd
        subst he
        obtain ⟨_, _, _, oa, _⟩ := id hadd
        have KAa := Lib.hid (KA9.out.aside KB9.out.ga oa KB9.out.lo HNE.out)
        have KBa := Lib.hid kb1
        have HGB : Hid (gr Xb = gr Xa) := Lib.hid (by rw [hgb, HGA.out]; exact HOR.out.2)
        have HWA : Hid (Wf (gr Xa)) := Lib.hid (by rw [HGA.out]; exact add_wf Wf.nil HOK.out (chk_fine.1 HFN.out))
        have HWB : Hid (Wf (gr Xb)) := Lib.hid (by rw [HGB.out]; exact HWA.out)
        obtain ⟨KS, hKS⟩ : ∃ KS, KS = (gr Xa).map (·.1) := ⟨_, rfl⟩
        have HKA : Hid (Xa.map (·.1) = KS) := Lib.hid (by rw [hKS, gr_keys])
        have HKB : Hid (Xb.map (·.1) = KS) := Lib.hid (by rw [← gr_keys, HGB.out, hKS])
        have HKS : Hid (H32 KS ∧ KS.length ≤ 1000) := Lib.hid (by rw [hKS]; exact ⟨keys_h32 HWA.out, keys_len HWA.out⟩)
        have HKM : Hid (∀ z ∈ KS, (aget z (gr Xa)).isSome = true) := Lib.hid (fun z hz => by rw [hKS] at hz; exact mem_keys.1 hz)
        clear hadd oa kb1 hgb hKS KA9 KB9 C9 O9 hg9
        go_wp2_with fail
        refine (hashes_to wa ga ba Xa (Nat.le_trans HWA.out.xlen (by decide)) KAa.out.ga).mono ?_
        rintro e wb ⟨va, rfl, ova, bb1⟩
        rw [HKA.out] at ova
        obtain ⟨pa, la, ca, rfl, hla⟩ := own_sh ova
        clear hla
        have OVA := Lib.hid ova
        have KAb := Lib.hid (KAa.out.kb bb1)
        have KBb := Lib.hid (KBa.out.kb bb1)
        clear ova bb1
        go_wp2_with fail
        refine (hashes_to wb gb bb Xb (Nat.le_trans HWB.out.xlen (by decide)) KBb.out.ga).mono ?_
        rintro e wc ⟨vb, rfl, ovb, bb1⟩
        rw [HKB.out] at ovb
        obtain ⟨pb, lb, cb, rfl, hlb⟩ := own_sh ovb
        clear hlb
        have OVB := Lib.hid ovb
        have OVA2 := Lib.hid (own_below OVA.out bb1)
        have KAc := Lib.hid (KAb.out.kb bb1)
        have KBc := Lib.hid (KBb.out.kb bb1)
        clear ovb bb1
        go_wp2_with fail
        refine (same_any wc _ _ _ _ _ HKS.out.1 OVA2.out OVB.out (Nat.le_trans HKS.out.2 (by decide))).mono ?_
        rintro e wd ⟨rfl, q, rfl⟩
        have KAd := Lib.hid (KAc.out.kb (blw_qt _ q wc))
        have KBd := Lib.hid (KBc.out.kb (blw_qt _ q wc))
        clear KAa KBa KAb KBb KAc KBc OVA OVB OVA2
        generalize wc.drewN q = wd at *
        go_wp2_with fail
        refine (hashes_to wd ga ba Xa (Nat.le_trans HWA.out.xlen (by decide)) KAd.out.ga).mono ?_
        rintro e we ⟨vh, rfl, ovh, bb1⟩
        rw [HKA.out] at ovh
        obtain ⟨p3, l3, c3, rfl, hl3⟩ := own_sh ovh
        have OVH := Lib.hid ovh
        have HL3 := Lib.hid hl3
        have KAe := Lib.hid (KAd.out.kb bb1)
        have KBe := Lib.hid (KBd.out.kb bb1)
        clear ovh bb1 hl3 KAd KBd
        go_wp2_with fail
        go_loopw [13] (fun vi wq => ∃ k : Nat, vi = .int .i64 k ∧ k ≤ l3 ∧ Hid (Below we.heap.size we wq)) (fun vi _ => l3 - (intOf vi).toNat)
        case atStart => exact ⟨0, rfl, Nat.zero_le _, Lib.hid (Below.refl _ _)⟩
        case round =>
          obtain ⟨k, rfl, hk3, B3⟩ := hrel
          by_cases hlt : k < l3
          · obtain ⟨j1, j2, j3⟩ := next_fit hlt (by have := HKS.out.2; rw [← HL3.out] at this; omega)
            have hkk : k < KS.length := by rw [← HL3.out]; exact hlt
            obtain ⟨b9, o9, c9, e1, hrg⟩ := (HSeen.own OVH.out).at HKS.out.1 hkk
            injection e1 with e1 e2 e3
            subst e1
            obtain ⟨h, hh⟩ : ∃ h, h = KS[k] := ⟨_, rfl⟩
            rw [← hh] at hrg
            have hmem : h ∈ KS := by rw [hh]; exact List.getElem_mem hkk
            have HH32 : Hid (h.length = 32) := Lib.hid (HKS.out.1 _ hmem)
            have HRG := Lib.hid hrg
            obtain ⟨ps, hps⟩ := Option.isSome_iff_exists.1 (HKM.out h hmem)
            have HP32 : Hid (H32 ps ∧ ps.length ≤ 4) := Lib.hid ⟨(HWA.out.h32 _ (aget_mem hps)).2, (HWA.out.par _ (aget_mem hps)).1⟩
            have hld3 := hld_range HH32.out (rng_kb hrg B3.out)
            have KA3' := Lib.hid (KAe.out.kb B3.out)
            have KB3' := Lib.hid (KBe.out.kb B3.out)
            have HPA := Lib.hid (parents_to wr ga ba Xa h HH32.out KA3'.out.ga (HWA.out.parm 1000000 (by decide)))
            have HPB := Lib.hid (fun V (hV : Below wr.heap.size wr V) => parents_to V gb bb Xb h HH32.out (KB3'.out.kb hV).ga (HWB.out.parm 1000000 (by decide)))
            rw [HGB.out] at HPB
            rw [hps] at HPA HPB
            have HK3 := Lib.hid hlt
            have HJK := Lib.hid j1
            clear hh hmem hkk hrg hps hk3 hlt e2 e3
            go_wp2_with fail
            refine HPA.out.mono ?_
            rintro e wf ⟨vp, rfl, op, ba1⟩
            simp only [Option.isSome_some, Option.getD_some] at op ⊢
            obtain ⟨pp, lp, cp, rfl, hlp⟩ := own_sh op
            clear hlp
            have BWA := Lib.hid (B3.out.trans (ba1.mono B3.out.size))
            have BWR := Lib.hid ba1
            have OP := Lib.hid op
            have hld4 := hld_range HH32.out (rng_kb HRG.out BWA.out)
            clear op ba1 hld3
            go_wp2_with fail
            refine (HPB.out _ BWR.out).mono ?_
            rintro e wg ⟨vq, rfl, oq, ba2⟩
            simp only [Option.isSome_some, Option.getD_some] at oq ⊢
            obtain ⟨pq, lq, cq, rfl, hlq⟩ := own_sh oq
            clear hlq
            have BWB := Lib.hid (BWA.out.trans (ba2.mono BWA.out.size))
            have OP2 := Lib.hid (own_below OP.out ba2)
            have OQ := Lib.hid oq
            clear oq ba2 hld4
            go_wp2_with fail
            refine (same_any wg _ _ _ _ _ HP32.out.1 OP2.out OQ.out (Nat.le_trans HP32.out.2 (by decide))).mono ?_
            rintro e wz ⟨rfl, q, rfl⟩
            have BWC := Lib.hid (BWB.out.trans (blw_qt _ q wg))
            generalize wg.drewN q = wz at *
            go_wp2_with fail
            refine ⟨⟨k + 1, by rw [HJK.out], HK3.out, BWC⟩, ?_⟩
            rw [HJK.out]; simp only [intOf]; have := HK3.out; omega
          · obtain rfl : k = l3 := by omega
            go_wp2_with fail
            go_ret
            exact ⟨rfl, KAe.out.bel.trans (B3.out.mono KAe.out.bel.size)⟩
end Go.Proofs.YtakbdnkodnlkdaaDoor
