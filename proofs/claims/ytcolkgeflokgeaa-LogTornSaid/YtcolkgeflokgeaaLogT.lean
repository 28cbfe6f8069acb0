/- LogTorn returns true and makes new memory alone. No condition but how its arguments read. -/
import Derived.Test.YtcolkgeflokgeaaLogI
import Derived.BigQuiet
import Derived.Deep.CutBlock
namespace Go.Proofs.Ytcolkgeflokgeaa
open Go.RowKit
open Go.Maps

structure T1 (w wr : World) (d l : Nat) (S : Nat → Prop) (s : St) (R : List Rc) (k : Nat) (v : Value) : Prop where
  cl : CL w wr w.heap.size d l S s [102] R
  one : OneF s (encs R) (k + 1)
  pnd : Pnd s [] (pcs R)
  len : R.length = k
  small : ∀ r ∈ R, r.1 = 1 ∧ r.2.length ≤ 100
  row : RBes wr S w.heap.size 9 v k (tsts R)
structure T2 (w wr : World) (d l : Nat) (S : Nat → Prop) (s : St) (R Q : List Rc) (F : Fil) (m k : Nat) (v : Value) : Prop where
  cl : CL w wr w.heap.size d l S s [102] (R ++ Q)
  one : OneF s (encs (R ++ Q)) (m + k + 2)
  pnd : Pnd s F (pcs Q)
  fil : AAsc F ∧ fbytes [102] F = encs R ∧ totF F = (encs R).length
  len : R.length = m ∧ Q.length = k
  small : ∀ r ∈ R ++ Q, r.2.length ≤ 100
  kind : ∀ r ∈ R, r.1 = 1
  row : RBes wr S w.heap.size 9 v m (tsts R)
theorem T1.ends {w wr : World} {d l k : Nat} {S : Nat → Prop} {s : St} {R : List Rc} {v : Value} (h : T1 w wr d l S s R k v) : ends R ≤ 109 * k := by
  have := ends_le fun r hr => (h.small r hr).2
  rwa [h.len] at this
theorem T2.ends {w wr : World} {d l m k : Nat} {S : Nat → Prop} {s : St} {R Q : List Rc} {F : Fil} {v : Value} (h : T2 w wr d l S s R Q F m k v) : ends (R ++ Q) ≤ 109 * (m + k) := by
  have := ends_le h.small
  rwa [List.length_append, h.len.1, h.len.2] at this
theorem str_fits {n : Nat} (h : n ≤ 10) : n + 1 ≤ maxLen ∧ (n + 1) * 16 ≤ 140737488355328 := by unfold maxLen; omega
theorem lt_ten {k m : Nat} (h : k < m) (hm : m ≤ 10) : k ≤ 10 := by omega
theorem rok_on : Rok ((3 : Int), [111, 110]) := ⟨by decide, by decide, by decide, by unfold Okb; decide⟩
theorem neq_str_self3 (x : ByteArray) (W : World) : (binOp .neq 9 (.string x) (.string x)).run Try.prog W = .ok (.bool false) W := by
  show (Op.stringOp .neq x x).run Try.prog W = _
  unfold Op.stringOp
  simp
set_option maxRecDepth 20000 in
set_option maxHeartbeats 8000000 in
theorem logTorn_walk (w : World) (p0 p1 : Option Addr) (c0 c1 : Nat) (E D : List (List Int)) (hE : LSeen w p0 E) (hD : LSeen w p1 D) (okE : ∀ x ∈ E, Okb x) (okD : ∀ x ∈ D, Okb x) (done cut : Int) :
    Calls Try.prog 3 #[.slice p0 E.length c0, .slice p1 D.length c1, .int .i64 done, .int .i64 cut] w fun e w' => e = .returned (.bool true) ∧ Below w.heap.size w w' := by
  obtain ⟨i0, hi0, hz0, hz1, hz2⟩ := info_parts sinfo
  obtain ⟨n, hn⟩ : ∃ n, n = E.length := ⟨_, rfl⟩
  obtain ⟨q, hq⟩ : ∃ q, q = D.length := ⟨_, rfl⟩
  obtain ⟨m, hm⟩ : ∃ m, m = min n 10 := ⟨_, rfl⟩
  rw [← hn, ← hq]
  have HN := Lib.hid hn
  have HQ := Lib.hid hq
  have HE := Lib.hid hE
  have HD := Lib.hid hD
  have OKE := Lib.hid okE
  have OKD := Lib.hid okD
  clear hn hq hE hD okE okD
  go_enter Try.func3, Try.ntmps3
  go_wp2_with fail
  refine (new_to w 100000).mono ?_
  rintro e w1 ⟨d, S1, rfl, h1, b1, g1⟩
  have C1 : Hid (Cl w w1 w.heap.size d S1 (St.new 100000)) := Lib.hid ⟨h1, b1, g1⟩
  clear h1 b1 g1
  go_wp2_with fail
  refine (known7_to w1).mono ?_
  rintro e w2 ⟨rfl, b2⟩
  have C2 := Lib.hid (C1.out.kb b2)
  clear b2 C1
  go_wp2_with fail
  have hop := OneF.new.open0
  refine (open_ok w2 _ d S1 _ [102] 0 C2.out.ds (by decide) (by decide) (by decide) (by rw [OneF.new.fb]; exact Okb.nil) (by rw [hop])).mono ?_
  rintro e w3 ⟨l, S2, rfl, h2, o2, s2⟩
  have H0 : Hid (T1 w w3 d l S2 (St.new 100000) [] 0 (.slice none 0 0)) := Lib.hid (by
    rw [hop] at h2
    exact ⟨C2.out.opened h2 o2 s2, OneF.new.mono (by omega), ⟨rfl, rfl⟩, rfl, fun r hr => by simp at hr, ⟨World.ownsRow_nil _ _ _ _, fun j hj => by simp [Value.ownBlock] at hj⟩⟩)
  clear h2 o2 s2 C2 hop
  go_upto_block 0 with fail
  go_cut [12] from 44 to 67 (fun v wr => ∃ (S : Nat → Prop) (s : St) (R : List Rc), Hid (T1 w wr d l S s R m v))
  case first =>
    go_wp2_with fail
    go_loopw [12, 13] (fun v i wr => ∃ (k : Nat) (S : Nat → Prop) (s : St) (R : List Rc), k ≤ m ∧ i = .int .i64 k ∧ Hid (T1 w wr d l S s R k v)) (fun _ i _ => n - (intOf i).toNat)
    case atStart => exact ⟨0, S2, _, [], Nat.zero_le _, rfl, H0⟩
    case round =>
      obtain ⟨k, S, s, R, hk, rfl, HR⟩ := hrel
      clear H0
      by_cases hlt : k < m
      · have hk' : (k : Int) < n := by omega
        have hk'' : (k : Int) < 10 := by omega
        have hk0 : 0 ≤ (k : Int) := by omega
        have hkn : k < n := by omega
        have hk10 : k < 10 := by omega
        obtain ⟨x, hx⟩ : ∃ x, E[k]? = some x := ⟨E[k]'(by rw [← HN.out]; exact hkn), List.getElem?_eq_getElem _⟩
        obtain ⟨a, q0, cq, rfl, hcx, hsx⟩ := HE.out k x hx
        have HXO : Hid (Okb x) := Lib.hid (OKE.out x (List.mem_of_getElem? hx))
        have hc : wr.cell? (a.add k) = some (.slice q0 x.length cq) := by
          rw [World.cell?_of_block (w := w) (HR.out.cl.bel.block _ (World.block_lt_of_cell? w _ hcx))]; exact hcx
        have HF := Lib.hid (few_nb wr (.slice q0 x.length cq) x 100 (by decide) (hsx.kb HR.out.cl.bel))
        clear hx hcx hsx
        go_wp2_with fail
        refine HF.out.mono ?_
        rintro e w4 ⟨ga, ca, rfl, o4, b4⟩
        obtain ⟨y, hy⟩ : ∃ y, y = x.take 100 := ⟨_, rfl⟩
        have HYL : Hid (Rok ((1 : Int), y) ∧ y.length ≤ 100) := Lib.hid (by
          have : y.length ≤ 100 := by rw [hy, List.length_take]; omega
          exact ⟨⟨by show (1 : Int) ≤ 1; decide, by show (1 : Int) ≤ 255; decide, Nat.le_trans this (by decide), by rw [hy]; exact HXO.out.take 100⟩, this⟩)
        rw [← hy] at o4 ⊢
        have C4 := Lib.hid (HR.out.cl.kb b4)
        have I4 := Lib.hid (HR.out.row.kb b4)
        have hlt4 := HR.out.cl.dl.lt
        have BY4 : Hid (Beside w4 S wr.heap.size (.slice (some ⟨ga, 0, none⟩) y.length ca) y) := Lib.hid ⟨o4, fun j hj hs => by have h1 := (o4.lt j hj).1; have h2 := hlt4 j hs; omega⟩
        clear o4 b4 hy HF hc hlt4
        have HEN := Lib.hid HR.out.ends
        have HAD := Lib.hid (HR.out.one.added (R := R) HYL.out.1 (by have h1 := HEN.out; have h2 := HYL.out.2; show _ + (9 + y.length) ≤ 100000; omega))
        have HPD := Lib.hid (HR.out.pnd.append HR.out.one (frm 1 y) (by rw [encs_len, frm_len]; have h1 := HEN.out; have h2 := HYL.out.2; omega))
        go_wp2_with fail
        refine (add_to w4 _ d l S s [102] R 1 _ y C4.out.dl (Nat.le_trans HR.out.one.works (by omega)) (by rw [HR.out.one.fuse]; decide) (by decide) HYL.out.1.2.2.2 (Seen.own BY4.out.own) BY4.out.out (Nat.le_trans HYL.out.2 (by decide)) (by have := HEN.out; omega)).mono ?_
        rintro e w5 ⟨rfl, S5, h5, o5, s5⟩
        rw [HAD.out.1, show enoOf 0 = .nilIface from rfl]
        rw [HAD.out.2.1] at h5
        have C5 := Lib.hid (C4.out.step h5 o5 s5)
        have I5 := Lib.hid (I4.out.step o5 s5)
        have hcv := conv_own (BY4.out.step o5 s5).own
        clear h5 o5 s5 C4 I4
        have HB5 : Hid (∀ j u, [Value.string (strOfNums y)][j]? = some u → (w5.alloc (.cells #[.string (strOfNums y)] 9)).cell? ((⟨w5.heap.size, 0, none⟩ : Addr).add j) = some u) := Lib.hid (World.news_of_block (cs := #[.string (strOfNums y)]) (t := 9) (fr := (0, 0)) (heap_alloc_new w5 _))
        have HFT := Lib.hid (str_fits (lt_ten hlt (by omega)))
        have HBB : Hid (w.heap.size ≤ w5.heap.size) := Lib.hid C5.out.bel.size
        go_wp2_with (at_builtin; refine wpList_append_lies _ (by rfl) _ _ _ (by rfl) w.heap.size 9 i0 _ 1 16 Try.underlying31 hi0 hz0 hz1 hz2 rfl (by omega) u12 k _ (by rfl) (I5.out.own.alloc _) ⟨w5.heap.size, 0, none⟩ 1 1 [Value.string (strOfNums y)] (by rfl) (by rfl) HB5.out (by simp [Value.oneCell']) (by decide) HFT.out.1 HFT.out.2 (Nat.le_trans HBB.out (by simp)) (w5.heap.size + 1) (by simp) ?_; intro gg cap6 w6 own6 grow6 hat6 hlt6; have O6 := Lib.hid own6; have G6 : Hid (Only (fun k => u12.ownBlock = some k) w5 w6) := Lib.hid (((Only.refl _ w5).alloc _).grown grow6 (fun k _ e => e)); have A6 := Lib.hid hat6; clear own6 grow6 hat6 hlt6)
        refine ⟨⟨k + 1, S5, (addS s [102] R 1 y).2.1, R ++ [(1, y)], by omega, by go_num, Lib.hid ⟨?_, ?_, ?_, ?_, ?_, ?_⟩⟩, by simp [intOf]; omega⟩
        · exact ⟨C5.out.dl.kept G6.out (fun j hj e => I5.out.out j e hj), C5.out.bel.trans (G6.out.below HBB.out (fun j e => (I5.out.own.lt j e).1)), C5.out.ge⟩
        · exact HAD.out.2.2.1
        · rw [pcs_snoc, HAD.out.2.2.2]; exact HPD.out
        · rw [List.length_append, HR.out.len]; rfl
        · intro r hr
          rcases List.mem_append.1 hr with hr | hr
          · exact HR.out.small r hr
          · rw [List.mem_singleton.1 hr]; exact ⟨rfl, HYL.out.2⟩
        · refine ⟨by rw [tsts_snoc]; exact O6.out, fun j hj hs => ?_⟩
          simp only [Value.ownBlock, Option.some.injEq] at hj
          subst hj
          rcases A6.out with e | e
          · exact I5.out.out _ e hs
          · have := C5.out.dl.lt _ hs
            omega
      · have hkm : k = m := by omega
        by_cases h1 : k < n
        · have hk' : (k : Int) < n := by omega
          have hk'' : ¬ (k : Int) < 10 := by omega
          subst hkm
          clear hlt h1 hm
          go_wp2_with fail
          go_meet
          case rel => exact ⟨S, s, R, HR⟩
        · have hk' : ¬ (k : Int) < n := by omega
          subst hkm
          clear hlt h1 hm
          go_wp2_with fail
          go_meet
          case rel => exact ⟨S, s, R, HR⟩
  case rest =>
    obtain ⟨S, s, R, HR⟩ := hcut
    clear H0
    have HRM := Lib.hid hm
    have hm10 : m ≤ 10 := by omega
    clear hm
    have HSY := Lib.hid HR.out.one.sync
    obtain ⟨S0, hd0, hs0, hp0⟩ := HR.out.cl.dl.disk
    have HP0 := Lib.hid hp0
    have HS0 := Lib.hid (sync_to wc _ d S0 s hd0 (Nat.le_trans HR.out.one.works (by omega)) (by rw [HR.out.one.fuse]; decide))
    clear hd0 hs0 hp0
    go_wp2_with fail
    refine HS0.out.mono ?_
    rintro e w4 ⟨rfl, hp⟩
    obtain ⟨S4, h4, o4, s4⟩ := HP0.out _ _ hp
    rw [HSY.out.1, show enoOf 0 = .nilIface from rfl]
    have H4 : Hid (T2 w w4 d l S4 s.sync.2 R [] s.files m 0 u12) := Lib.hid ⟨by rw [List.append_nil]; exact HR.out.cl.step h4 o4 s4, by rw [List.append_nil]; exact HSY.out.2.1, ⟨HSY.out.2.2.1, HSY.out.2.2.2⟩, ⟨HR.out.one.asc, HR.out.one.fb, HR.out.one.tot⟩, ⟨HR.out.len, rfl⟩, fun r hr => by rw [List.append_nil] at hr; exact (HR.out.small r hr).2, fun r hr => (HR.out.small r hr).1, HR.out.row.step o4 s4⟩
    obtain ⟨F, hF⟩ : ∃ F, F = s.files := ⟨_, rfl⟩
    obtain ⟨t0, ht0⟩ : ∃ t0, t0 = s.sync.2 := ⟨_, rfl⟩
    rw [← hF, ← ht0] at H4
    clear hp h4 o4 s4 HS0 HP0 HSY HR hF ht0
    obtain ⟨pw, cw, rfl⟩ := own_slice H4.out.row.own
    have HLN := Lib.hid (len_dl w4 _ d l S4 t0 [102] R (by have := H4.out.cl.dl; rwa [List.append_nil] at this))
    obtain ⟨en, hen⟩ : ∃ en, en = ends R := ⟨_, rfl⟩
    have HEN := Lib.hid hen
    have hen1 : en ≤ 1090 := by
      have := H4.out.ends
      rw [List.append_nil, ← hen] at this
      omega
    rw [← hen] at HLN
    clear hen
    go_wp2_with fail
    refine HLN.out.mono ?_
    rintro e w' ⟨rfl, rfl⟩
    clear HLN
    obtain ⟨q1, hq1⟩ : ∃ q1, q1 = min q 10 := ⟨_, rfl⟩
    go_upto_block 2 with fail
    go_cut [16] from 73 to 90 (fun _ wr => ∃ (S : Nat → Prop) (s : St) (Q : List Rc), Hid (T2 w wr d l S s R Q F m q1 (.slice pw m cw)))
    case first =>
      go_wp2_with fail
      go_loopw [16] (fun i wr => ∃ (k : Nat) (S : Nat → Prop) (s : St) (Q : List Rc), k ≤ q1 ∧ i = .int .i64 k ∧ Hid (T2 w wr d l S s R Q F m k (.slice pw m cw))) (fun i _ => q - (intOf i).toNat)
      case atStart => exact ⟨0, S4, t0, [], Nat.zero_le _, rfl, H4⟩
      case round =>
        obtain ⟨k, S, s, Q, hk, rfl, HR⟩ := hrel
        clear H4
        by_cases hlt : k < q1
        · have hk' : (k : Int) < q := by omega
          have hk'' : (k : Int) < 10 := by omega
          have hk0 : 0 ≤ (k : Int) := by omega
          have hkn : k < q := by omega
          have hk10 : k < 10 := by omega
          obtain ⟨x, hx⟩ : ∃ x, D[k]? = some x := ⟨D[k]'(by rw [← HQ.out]; exact hkn), List.getElem?_eq_getElem _⟩
          obtain ⟨a, q0, cq, rfl, hcx, hsx⟩ := HD.out k x hx
          have HXO : Hid (Okb x) := Lib.hid (OKD.out x (List.mem_of_getElem? hx))
          have hc : wr.cell? (a.add k) = some (.slice q0 x.length cq) := by
            rw [World.cell?_of_block (w := w) (HR.out.cl.bel.block _ (World.block_lt_of_cell? w _ hcx))]; exact hcx
          have HF := Lib.hid (few_nb wr (.slice q0 x.length cq) x 100 (by decide) (hsx.kb HR.out.cl.bel))
          clear hx hcx hsx
          go_wp2_with fail
          refine HF.out.mono ?_
          rintro e w5 ⟨ga, ca, rfl, o4, b4⟩
          obtain ⟨y, hy⟩ : ∃ y, y = x.take 100 := ⟨_, rfl⟩
          have HYL : Hid (Rok ((2 : Int), y) ∧ y.length ≤ 100) := Lib.hid (by
            have : y.length ≤ 100 := by rw [hy, List.length_take]; omega
            exact ⟨⟨by show (1 : Int) ≤ 2; decide, by show (2 : Int) ≤ 255; decide, Nat.le_trans this (by decide), by rw [hy]; exact HXO.out.take 100⟩, this⟩)
          rw [← hy] at o4 ⊢
          have C4 := Lib.hid (HR.out.cl.kb b4)
          have I4 := Lib.hid (HR.out.row.kb b4)
          have hlt4 := HR.out.cl.dl.lt
          have BY4 : Hid (Beside w5 S wr.heap.size (.slice (some ⟨ga, 0, none⟩) y.length ca) y) := Lib.hid ⟨o4, fun j hj hs => by have h1 := (o4.lt j hj).1; have h2 := hlt4 j hs; omega⟩
          clear o4 b4 hy HF hc hlt4
          have HEN2 : Hid (ends (R ++ Q) ≤ 2180) := Lib.hid (Nat.le_trans HR.out.ends (by omega))
          have HAD := Lib.hid (HR.out.one.added (R := R ++ Q) HYL.out.1 (by have h1 := HEN2.out; have h2 := HYL.out.2; show _ + (9 + y.length) ≤ 100000; omega))
          have HPD := Lib.hid (HR.out.pnd.append HR.out.one (frm 2 y) (by rw [encs_len, frm_len]; have h1 := HEN2.out; have h2 := HYL.out.2; omega))
          go_wp2_with fail
          refine (add_to w5 _ d l S s [102] (R ++ Q) 2 _ y C4.out.dl (Nat.le_trans HR.out.one.works (by omega)) (by rw [HR.out.one.fuse]; decide) (by decide) HYL.out.1.2.2.2 (Seen.own BY4.out.own) BY4.out.out (Nat.le_trans HYL.out.2 (by decide)) (Nat.le_trans HEN2.out (by decide))).mono ?_
          rintro e w6 ⟨rfl, S5, h5, o5, s5⟩
          rw [HAD.out.1, show enoOf 0 = .nilIface from rfl]
          rw [HAD.out.2.1] at h5
          have C5 := Lib.hid (C4.out.step h5 o5 s5)
          have I5 := Lib.hid (I4.out.step o5 s5)
          clear h5 o5 s5 C4 I4
          go_wp2_with fail
          refine ⟨⟨k + 1, S5, (addS s [102] (R ++ Q) 2 y).2.1, Q ++ [(2, y)], by omega, by go_num, Lib.hid ⟨?_, ?_, ?_, HR.out.fil, ?_, ?_, HR.out.kind, I5.out⟩⟩, by simp [intOf]; omega⟩
          · rw [← List.append_assoc]; exact C5.out
          · rw [← List.append_assoc]; exact HAD.out.2.2.1.mono (by omega)
          · rw [pcs_snoc, HAD.out.2.2.2]; exact HPD.out
          · exact ⟨HR.out.len.1, by rw [List.length_append, HR.out.len.2]; rfl⟩
          · intro r hr
            rw [← List.append_assoc] at hr
            rcases List.mem_append.1 hr with hr | hr
            · exact HR.out.small r hr
            · rw [List.mem_singleton.1 hr]; exact HYL.out.2
        · have hkm : k = q1 := by omega
          by_cases h1 : k < q
          · have hk' : (k : Int) < q := by omega
            have hk'' : ¬ (k : Int) < 10 := by omega
            subst hkm
            clear hlt h1 hq1
            go_wp2_with fail
            go_meet
            case rel => exact ⟨S, s, Q, HR⟩
          · have hk' : ¬ (k : Int) < q := by omega
            subst hkm
            clear hlt h1 hq1
            go_wp2_with fail
            go_meet
            case rel => exact ⟨S, s, Q, HR⟩
    case rest =>
      obtain ⟨S, s, Q, HR⟩ := hcut
      clear H4
      have HQM := Lib.hid hq1
      have hq10 : q1 ≤ 10 := by omega
      clear hq1
      have HRK : Hid (∀ r ∈ R ++ Q, Rok r) := Lib.hid HR.out.cl.dl.rok.1
      obtain ⟨T, hT, hcr⟩ := HR.out.one.crashed HR.out.pnd HR.out.fil.1 HR.out.fil.2.1 HR.out.fil.2.2 (pcs_okb fun r hr => HRK.out r (List.mem_append_right _ hr)) done cut
      have HRR : Hid (∀ r ∈ R, Rok r) := Lib.hid fun r hr => HRK.out r (List.mem_append_left _ hr)
      have HCR := Lib.hid hcr
      have HT := Lib.hid hT
      have HOP := Lib.hid (hcr.opened HRR.out)
      obtain ⟨S0, hd0, hs0, hp0⟩ := HR.out.cl.dl.disk
      have HP0 := Lib.hid hp0
      have HS0 := Lib.hid (crash_to wc _ d S0 s done cut hd0 (Nat.le_trans HR.out.one.works (by omega)))
      clear hd0 hs0 hp0 hT hcr
      go_wp2_with fail
      refine HS0.out.mono ?_
      rintro e w7 ⟨rfl, hp⟩
      obtain ⟨S7, h7, o7, s7⟩ := HP0.out _ _ hp
      have C7 := Lib.hid (HR.out.cl.step h7 o7 s7)
      have I7 := Lib.hid (HR.out.row.step o7 s7)
      obtain ⟨S8, hd8, hs8⟩ := C7.out.dl.ds
      have HD8 := Lib.hid hd8
      have HS8 := Lib.hid hs8
      have HLR := Lib.hid HR.out.len.1
      have HKR := Lib.hid HR.out.kind
      have HOK7 : Hid (Okb (fbytes [102] (s.crash done cut).files)) := Lib.hid (by rw [HCR.out.fb]; exact (encs_ok fun r hr => (HRR.out r hr).2.2.2).app HT.out)
      clear hp h7 o7 s7 hd8 hs8 HS0 HP0 HR
      obtain ⟨s7, hs7⟩ : ∃ s7, s7 = s.crash done cut := ⟨_, rfl⟩
      rw [← hs7] at C7 HD8 HCR HOP HOK7
      clear hs7
      rw [← HEN.out] at HOP
      go_wp2_with fail
      refine (open_ok w7 _ d S8 s7 [102] en HD8.out (Nat.le_trans HCR.out.works (by omega)) (by rw [HCR.out.fuse]; decide) (by decide) HOK7.out HOP.out.1).mono ?_
      rintro e w8 ⟨c, S9, rfl, h8, o8, s8⟩
      rw [HOP.out.2.1] at h8
      have C8 := Lib.hid (C7.out.opened HS8.out h8 o8 s8)
      have I8 := Lib.hid (I7.out.step (o8.mono fun k _ e => HS8.out k e) (fun k hk => (s8 k hk).imp (HS8.out k) id))
      have HO8 := Lib.hid HOP.out.2.2
      obtain ⟨t8, ht8⟩ : ∃ t8, t8 = (openS s7 [102] en).2.1 := ⟨_, rfl⟩
      rw [← ht8] at C8 HO8
      clear h8 o8 s8 ht8 C7 I7 HD8 HS8 HCR HOP HOK7
      have HCN := Lib.hid (count_dl w8 _ d c S9 t8 [102] R C8.out.dl)
      have HLE := Lib.hid (len_dl w8 _ d c S9 t8 [102] R C8.out.dl)
      rw [HLR.out] at HCN
      rw [← HEN.out] at HLE
      have hkc : ∀ (w : World) (C : Array Value) (n c : Nat), _ := fun (w : World) (C : Array Value) (n c : Nat) => Lib.run_convert_bytes_const (P := Try.prog) w 32 5 C n c Try.underlying32 Try.underlying5
      go_wp2_with (first
        | (refine HCN.out.mono ?_; rintro e w' ⟨rfl, rfl⟩)
        | (refine HLE.out.mono ?_; rintro e w' ⟨rfl, rfl⟩))
      have b9 : Below w8.heap.size w8 (w8.alloc (.cells #[.int .u8 111, .int .u8 110] 5 (2, 3))) := (Below.refl _ w8).alloc (Nat.le_refl _) _
      have hse : Seen (w8.alloc (.cells #[.int .u8 111, .int .u8 110] 5 (2, 3))) (.slice (some ⟨w8.heap.size, 0, none⟩) 2 2) [111, 110] := seen_lit2 w8 [111, 110] 2 2 rfl (by decide) _ _ _ rfl
      have hlt8 := C8.out.dl.lt
      have C9 := Lib.hid (C8.out.kb b9)
      have I9 := Lib.hid (I8.out.kb b9)
      have HAD := Lib.hid (HO8.out.added (R := R) rok_on (by rw [← HEN.out]; show _ + (9 + 2) ≤ 100000; omega))
      refine (add_to _ _ d c S9 t8 [102] R 3 (.slice (some ⟨w8.heap.size, 0, none⟩) 2 2) [111, 110] C9.out.dl (Nat.le_trans HO8.out.works (by omega)) (by rw [HO8.out.fuse]; decide) (by decide) rok_on.2.2.2 hse (fun j hj hs => by cases hj; exact absurd (hlt8 _ hs) (Nat.lt_irrefl _)) (by decide) (by rw [← HEN.out]; omega)).mono ?_
      rintro e wa ⟨rfl, Sa, ha, oa, sa⟩
      rw [HAD.out.1, show enoOf 0 = .nilIface from rfl]
      rw [HAD.out.2.1] at ha
      have Ca := Lib.hid (C9.out.step ha oa sa)
      have Ia := Lib.hid (I9.out.step oa sa)
      obtain ⟨ta, hta⟩ : ∃ ta, ta = (addS t8 [102] R 3 [111, 110]).2.1 := ⟨_, rfl⟩
      rw [← hta] at Ca
      clear ha oa sa b9 hse hlt8 C8 I8 C9 I9 HAD HO8 HCN HLE hta
      go_wp2_with fail
      go_loopw [19] (fun i wr => ∃ (k : Nat), k ≤ m ∧ i = .int .i64 k ∧ Hid (CL w wr w.heap.size d c Sa ta [102] (R ++ [(3, [111, 110])]) ∧ RBes wr Sa w.heap.size 9 (.slice pw m cw) m (tsts R))) (fun i _ => m - (intOf i).toNat)
      case atStart => exact ⟨0, Nat.zero_le _, rfl, Lib.hid ⟨Ca.out, Ia.out⟩⟩
      case round =>
        obtain ⟨k, hk, rfl, HC⟩ := hrel
        clear Ca Ia
        by_cases hlt : k < m
        · have hk' : (k : Int) < m := by omega
          have hk0 : 0 ≤ (k : Int) := by omega
          have hkR : k < R.length := by rw [HLR.out]; exact hlt
          have HRE : Hid (recR (R ++ [(3, [111, 110])]) k = (1, R[k].2, true)) := Lib.hid (by
            unfold recR
            rw [if_neg (by rw [List.length_append]; omega), Int.toNat_natCast, List.getElem?_append_left hkR, List.getElem?_eq_getElem hkR]
            simp only [HKR.out R[k] (List.getElem_mem hkR)])
          have hcl : ∃ g, pw = some ⟨g, 0, none⟩ ∧ wr.cell? ⟨g, k, none⟩ = some (.string (strOfNums R[k].2)) := by
            rcases HC.out.2.own.2 with ⟨_, h0⟩ | ⟨g, cap', cur, he, _⟩
            · omega
            · cases he
              refine ⟨g, rfl, ?_⟩
              have := HC.out.2.own.cells (g := g) rfl k _ (tsts_at hkR)
              rwa [Addr.add_lit, Nat.zero_add] at this
          obtain ⟨g, rfl, hcell⟩ := hcl
          generalize R[k].2 = z at *
          have HRC := Lib.hid (record_dl wr _ d c Sa ta [102] _ k HC.out.1.dl)
          clear hkR
          go_wp2_with fail
          refine HRC.out.mono ?_
          rintro e wb ⟨v, he, ob, bb⟩
          rw [HRE.out] at he ob
          subst he
          have HCB : Hid (CL w wb w.heap.size d c Sa ta [102] (R ++ [(3, [111, 110])]) ∧ RBes wb Sa w.heap.size 9 (.slice (some ⟨g, 0, none⟩) m cw) m (tsts R)) := Lib.hid ⟨HC.out.1.kb bb, HC.out.2.kb bb⟩
          have hcell2 := lcell_kb hcell bb
          have ob : BOwn wb wr.heap.size v z := ob
          have hcvd := fun j => conv_own (show BOwn (wb.drewN j) wr.heap.size v z from ob)
          obtain ⟨pv, cv, rfl⟩ := own_slice ob
          have hne := neq_str_self3 (strOfNums z)
          clear ob bb hcell HRC
          go_wp2_with fail
          go_quiet (fail)
          have bq : Below wb.heap.size wb (wb.drewN nq) := ⟨rfl, rfl, rfl, Nat.le_refl _, fun _ _ => rfl⟩
          have HCQ := Lib.hid (And.intro (HCB.out.1.kb bq) (HCB.out.2.kb bq))
          clear hcell2 hcvd hne bq
          generalize wb.drewN nq = wq at *
          go_wp2_with fail
          exact ⟨⟨k + 1, by omega, by go_num, HCQ⟩, by simp [intOf]; omega⟩
        · obtain rfl : k = m := by omega
          have hk' : ¬ (k : Int) < k := by omega
          have HRE : Hid (recR (R ++ [(3, [111, 110])]) k = (3, [111, 110], true)) := Lib.hid (by
            unfold recR
            rw [if_neg (by rw [List.length_append, HLR.out]; simp; omega), Int.toNat_natCast, List.getElem?_append_right (by rw [HLR.out]; exact Nat.le_refl _), HLR.out, Nat.sub_self]
            rfl)
          have HRC := Lib.hid (record_dl wr _ d c Sa ta [102] _ k HC.out.1.dl)
          clear hlt
          go_wp2_with fail
          refine HRC.out.mono ?_
          rintro e wb ⟨v, he, ob, bb⟩
          rw [HRE.out] at he ob
          subst he
          have HCB := Lib.hid (HC.out.1.kb bb)
          have ob : BOwn wb wr.heap.size v [111, 110] := ob
          obtain ⟨pv, cv, rfl⟩ := own_slice ob
          have hon : strOfNums [111, 110] = ⟨#[111, 110]⟩ := by decide +kernel
          have hcv : (convert 32 9 (.slice pv 2 cv)).run Try.prog wb = .ok (.string ⟨#[111, 110]⟩) wb := by rw [← hon]; exact conv_own ob
          have HLE := Lib.hid (len_dl wb _ d c Sa ta [102] _ HCB.out.dl)
          rw [ends_snoc, ← HEN.out] at HLE
          clear ob bb HRC hon
          go_wp2_with (refine HLE.out.mono ?_; rintro e w' ⟨rfl, rfl⟩)
          go_ret
          exact ⟨rfl, HCB.out.bel⟩
end Go.Proofs.Ytcolkgeflokgeaa
