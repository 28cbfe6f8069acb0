/- GraphUnion's walk. Condition: errors.errorType holds what its text lays. -/
import Derived.Test.YtakbdnkodnlkdaaDoorHndR
import Derived.Test.YtakbdnkodnlkdaaDoorGphIn
import Derived.Test.YtakbdnkodnlkdaaDoorGphJ
namespace Go.Proofs.YtakbdnkodnlkdaaDoor
open Go.RowKit Go.Extern.Stop Go.Stop Go.Extern
open Go.Maps

/-- The hashes that Put makes of the commits'. -/
def hputs (l : List Key) (cs : List Cm) : List Key := cs.foldl (fun l c => rput l c.1) l
theorem hputs_len (cs : List Cm) : ∀ l, (hputs l cs).length ≤ l.length + cs.length := by
  induction cs with
  | nil => intro l; exact Nat.le_refl _
  | cons c cs ih =>
    intro l
    show (hputs (rput l c.1) cs).length ≤ _
    have := ih (rput l c.1)
    have := rput_length c.1 l
    rw [List.length_cons]; omega
theorem hputs_h32 {cs : List Cm} (hc : COk cs) : ∀ {l}, H32 l → H32 (hputs l cs) := by
  induction cs with
  | nil => intro l h; exact h
  | cons c cs ih =>
    intro l h
    exact ih (fun d hd => hc d (List.mem_cons_of_mem _ hd)) (fun x hx => by
      rcases (rput_mem x c.1 l).1 hx with e | e
      · rw [e]; exact (hc c List.mem_cons_self).1
      · exact h x e)
theorem hputs_snoc (l : List Key) (cs : List Cm) (c : Cm) : hputs l (cs ++ [c]) = rput (hputs l cs) c.1 := by simp [hputs, List.foldl_append]
theorem RqSeen.get {w W : World} {p : Option Addr} {E : List Rq} (h : RqSeen w p E) (k : Below w.heap.size w W) {i : Nat} (hi : i < E.length) : ∃ (b o : Nat) (x : Rq), p = some ⟨b, o, none⟩ ∧ x.In W ∧ W.cell? ⟨b, o + i * 4, none⟩ = some x.vL ∧ W.cell? ⟨b, o + i * 4 + 1, none⟩ = some x.vH ∧ W.cell? ⟨b, o + i * 4 + 2, none⟩ = some (.int .i64 x.grp) ∧ W.cell? ⟨b, o + i * 4 + 3, none⟩ = some (.int .i64 x.how) := by
  obtain ⟨b, o, h1, h2, h3⟩ := h i _ (List.getElem?_eq_getElem hi)
  have h4 := rng_kb h2 k
  exact ⟨b, o, _, h1, ⟨h3.1.kb k, h3.2.kb' k⟩, by simpa using h4 0 _ rfl, h4 1 _ rfl, h4 2 _ rfl, h4 3 _ rfl⟩
theorem rng_pre {w : World} {b o : Nat} {xs ys : List Value} (h : w.rangeAt b o (xs ++ ys)) : w.rangeAt b o xs := fun j v hj => h j v (by rw [List.getElem?_append_left (List.getElem?_eq_some_iff.1 hj).1]; exact hj)
theorem adj_is {G : Gr} {h : Key} {ps : List Key} (e : aget h G = some ps) : adj G h = ps := by unfold adj; rw [e]; rfl
/-- No commit is an ancestor of one of its parents. -/
theorem not_anc {G : Gr} (W : Wf G) {h x : Key} {ps : List Key} (e : aget h G = some ps) (hx : x ∈ ps) : h ∉ ancs G [x] := fun hm => by
  obtain ⟨a, ha, _, hu⟩ := (ancs_mem W.clo).1 hm
  rw [List.mem_singleton.1 ha] at hu
  exact W.acy h x (by rw [adj_is e]; exact hx) hu
theorem par_has {G : Gr} (W : Wf G) {h x : Key} {ps : List Key} (e : aget h G = some ps) (hx : x ∈ ps) : (aget x G).isSome = true := W.clo h x (by rw [adj_is e]; exact hx)
theorem own_mild {w w' : World} {B : Nat} {e : TypeId} {s : Nat} {v : Value} {n : Nat} {xs : List Value} (h : w.ownsRow B e s v n xs) (m : Mild w w') : w'.ownsRow B e s v n xs := by
  refine ⟨h.1, ?_⟩
  rcases h.2 with h1 | ⟨g, cap, cur, h1, h2, hg, h3⟩
  · exact .inl h1
  · exact .inr ⟨g, cap, cur, h1, h2, m.cells hg, h3⟩
theorem Ks.bare {w W : World} {H : List (Nat × Key)} {g bm : Nat} {X : Lx} {L : List (Value × Rf)} (h : Ks w W H g bm X L) : Ks w W H g bm X [] := ⟨h.bel, h.own, h.ga, h.lo, fun p hp => by cases hp⟩
/-- A request's own variable, and its commits. -/
structure Rv (W : World) (rb : Nat) (pc : Option Addr) (m cc : Nat) (vh : Value) (gg : Int) (cs : List Cm) : Prop where
  cell : W.heap[rb]? = some (.cells #[.slice pc m cc, vh, .int .i64 gg] 33 (0, 0))
  seen : CSeen W (.slice pc m cc) cs
  ok : COk cs
  len : m = cs.length
  few : cs.length ≤ 100
  par : ∀ c ∈ cs, c.2.length ≤ 10
theorem Rv.mild {W W' : World} {rb : Nat} {pc : Option Addr} {m cc : Nat} {vh : Value} {gg : Int} {cs : List Cm} (h : Rv W rb pc m cc vh gg cs) (k : Mild W W') : Rv W' rb pc m cc vh gg cs := ⟨k.cells h.cell, h.seen.mild k, h.ok, h.len, h.few, h.par⟩
theorem Rv.kb {W W' : World} {rb : Nat} {pc : Option Addr} {m cc : Nat} {vh : Value} {gg : Int} {cs : List Cm} (h : Rv W rb pc m cc vh gg cs) (k : Below W.heap.size W W') : Rv W' rb pc m cc vh gg cs := h.mild (mild_below k)
theorem Rv.c {W : World} {rb : Nat} {pc : Option Addr} {m cc : Nat} {vh : Value} {gg : Int} {cs : List Cm} (h : Rv W rb pc m cc vh gg cs) : W.cell? ⟨rb, 0, none⟩ = some (.slice pc m cc) := by rw [cell_of_row W rb _ _ _ _ h.cell]; rfl
/-- A row of hashes of one's own, by its shape. -/
theorem own_sh {w : World} {B : Nat} {v : Value} {E : List Key} (h : HOwn w B v E) : ∃ p n cap, v = .slice p n cap ∧ n = E.length := by
  obtain ⟨p, cap, e⟩ := own_shape h
  exact ⟨p, _, cap, e, rfl⟩
theorem keys_h32 {X : Lx} (h : Wf (gr X)) : H32 ((gr X).map (·.1)) := fun x hx => by
  obtain ⟨c, hc, rfl⟩ := List.mem_map.1 hx
  exact (h.h32 c hc).1
theorem keys_len {X : Lx} (h : Wf (gr X)) : ((gr X).map (·.1)).length ≤ 1000 := by rw [List.length_map]; exact h.few
set_option linter.unusedSimpArgs false in
set_option maxRecDepth 20000 in
set_option maxHeartbeats 16000000 in
attribute [local go_sem ↓] hld_open cld_open in
theorem union_to (w : World) (p : Option Addr) (n cap : Nat) (E : List Rq) (hn : n = E.length) (hE : RqSeen w p E) (hg : Glob w) :
    Calls Tryd.prog 4 #[.slice p n cap] w fun e w' => e = .returned (.bool true) ∧ Below w.heap.size w w' := by
  have HE := Lib.hid hE
  have HG := Lib.hid hg
  have HN := Lib.hid hn
  clear hE hg hn
  have hne := nn_iface
  have hnn := nn_nil
  go_enter Tryd.func4, Tryd.ntmps4
  go_wp2_with fail
  refine (new_to w).mono ?_
  rintro e w1 ⟨rfl, g1, b1⟩
  obtain ⟨bm, hbm⟩ : ∃ bm, bm = w.heap.size := ⟨_, rfl⟩
  have K1 : Hid (Ks w w1 [] (w.heap.size + 1) bm [] []) := Lib.hid ⟨b1, (fun p hp => by cases hp), hbm ▸ g1, by omega, (fun p hp => by cases hp)⟩
  have HG1 := Lib.hid (HG.out.kb b1)
  clear g1 b1 hbm
  generalize w.heap.size + 1 = g at *
  have hnp : ∀ w : World, (binOp .eql 22 (gp g) (.pointer none)).run Tryd.prog w = .ok (.bool false) w := fun w => by kernel_rfl
  go_wp2_with fail
  refine (known11_to w1 HG1.out).mono ?_
  rintro e w2 ⟨rfl, b2⟩
  have K2 := Lib.hid (K1.out.kb b2)
  clear b2 K1
  go_wp2_with fail
  go_loopw [4] (fun s wr => ∃ (i : Nat) (X : Lx), s = .int .i64 i ∧ i ≤ n ∧ i ≤ 8 ∧ Hid (Ks w wr [] g bm X []) ∧ Hid (Wf (gr X))) (fun s _ => 8 - (intOf s).toNat)
  case atStart => exact ⟨0, [], rfl, Nat.zero_le _, Nat.zero_le _, K2, Lib.hid Wf.nil⟩
  case round =>
    clear K2 HG1
    obtain ⟨i, X, rfl, hi, hi8, K, HW⟩ := hrel
    by_cases hlt : i < n ∧ i < 8
    · obtain ⟨h1, h2⟩ := hlt
      have hl1 : (i : Int) < n := by omega
      have hl2 : (i : Int) < 8 := by omega
      have hl0 : (0 : Int) ≤ i := by omega
      have hi1 : wrap64 ((i : Int) + 1) = ((i + 1 : Nat) : Int) := by unfold wrap64; omega
      have HI8 := Lib.hid h2
      have HIN := Lib.hid h1
      have hiE : i < E.length := by rw [← HN.out]; exact h1
      obtain ⟨b, o, x, rfl, hin, c0, c1, c2, c3⟩ := HE.out.get K.out.bel hiE
      have HRQ := Lib.hid (request_to wr x.vL x.vH x.grp x.how x.L x.hs hin.1 hin.2)
      clear hiE h1 h2 hi hi8 hin
      go_wp2_with fail
      refine HRQ.out.mono ?_
      rintro e w3 ⟨vc, vh, gg, cs, hs, rfl, hcs, hhs, hok, h32, hp10, hcl, hhl, b3, hfm⟩
      obtain ⟨pc, cc, rfl, _⟩ := id hcs
      obtain ⟨ph, ch, rfl⟩ := hhs.shape
      obtain ⟨m, hm⟩ : ∃ m, m = cs.length := ⟨_, rfl⟩
      generalize hs.length = mh at *
      have RV : Hid (Rv (w3.alloc (.cells #[.slice pc m cc, .slice ph mh ch, .int .i64 gg] 33)) w3.heap.size pc m cc (.slice ph mh ch) gg cs) :=
        Lib.hid ⟨heap_alloc_last w3 _, by rw [hm]; exact hcs.kb (below_al11 w3 _), hok, hm, hcl, hp10⟩
      have K4 := Lib.hid ((K.out.kb b3).kb (below_al11 w3 (.cells #[.slice pc m cc, .slice ph mh ch, .int .i64 gg] 33)))
      rw [← hm]
      clear hcs hhs hok h32 hp10 hcl hhl hfm b3 hm c0 c1 c2 c3 K
      go_wp2_with fail
      generalize w3.alloc (.cells #[.slice pc m cc, .slice ph mh ch, .int .i64 gg] 33) = w4 at *
      generalize w3.heap.size = rb at *
      refine (hashes_to w4 g bm X (Nat.le_trans HW.out.xlen (by decide)) K4.out.ga).mono ?_
      rintro e w5 ⟨va, rfl, oa, b5⟩
      rw [← gr_keys] at oa
      have K5 := Lib.hid (K4.out.kb b5)
      have B45 : Hid (w4.heap.size ≤ w5.heap.size) := Lib.hid b5.size
      have RV5 := Lib.hid (RV.out.kb b5)
      obtain ⟨pa, la, ca, rfl, hla⟩ := own_sh oa
      have OA := Lib.hid oa
      have HLA := Lib.hid hla
      have hr0 := RV5.out.c
      clear oa hla b5 K4 RV
      go_wp2_with fail
      refine (add_to w5 g bm X _ cs K5.out.ga HW.out RV5.out.seen RV5.out.ok (Nat.le_trans RV5.out.few (by decide)) (fun c hc => Nat.le_trans (RV5.out.par c hc) (by decide))).mono ?_
      intro e w6 hadd
      obtain ⟨y, X', he, k6, h61, h62⟩ := K5.out.added hadd
      subst he
      have hm6 : Mild w5 w6 := by
        obtain ⟨_, _, _, o6, _⟩ := hadd
        exact mild_map K5.out.ga.at_.mp o6
      have K6 := Lib.hid k6
      have RV6 := Lib.hid (RV5.out.mild hm6)
      have OA6 := Lib.hid (own_mild OA.out hm6)
      have HW6 : Hid (Wf (gr X')) := Lib.hid (by
        cases hc : chk (gr X) 2 cs [] with
        | some r => rw [h61 (by rw [hc]; rfl)]; exact HW.out
        | none => rw [h62 hc]; exact add_wf HW.out RV5.out.ok (chk_fine.1 hc))
      have H61 := Lib.hid h61
      have H62 := Lib.hid h62
      have EY := Lib.hid (k6.err _ List.mem_cons_self)
      have B46 : Hid (w4.heap.size ≤ w6.heap.size) := Lib.hid (by
        obtain ⟨_, _, _, o6, _⟩ := hadd
        exact Nat.le_trans B45.out (o6.below (B := 0) (Nat.zero_le _) (fun _ _ => Nat.zero_le _)).size)
      clear hadd k6 hm6 h61 h62 K5 RV5 OA hr0 B45
      go_wp2_with fail
      refine (hashes_to w6 g bm X' (Nat.le_trans HW6.out.xlen (by decide)) K6.out.ga).mono ?_
      rintro e w7 ⟨vb, rfl, ob, b7⟩
      rw [← gr_keys] at ob
      have K7 := Lib.hid (K6.out.bare.kb b7)
      have B47 : Hid (w4.heap.size ≤ w7.heap.size) := Lib.hid (Nat.le_trans B46.out b7.size)
      have RV7 := Lib.hid (RV6.out.kb b7)
      have OA7 := Lib.hid (own_below OA6.out b7)
      obtain ⟨pb, lb, cb, rfl, hlb⟩ := own_sh ob
      have OB := Lib.hid ob
      have HLB := Lib.hid hlb
      clear ob hlb b7 RV6 OA6
      rcases EY.out.form with ⟨hn1, rfl⟩ | ⟨hs1, t1, y1, rfl⟩
      · have HG7 := Lib.hid (H62.out hn1)
        obtain ⟨KS, hKS⟩ : ∃ KS, KS = (gr X).map (·.1) := ⟨_, rfl⟩
        have HKB : Hid ((gr X').map (·.1) = hputs KS cs) := Lib.hid (by rw [HG7.out, hKS]; exact adds_keys HW.out.asc)
        have HKH : Hid (H32 KS ∧ KS.length ≤ 1000) := Lib.hid (by rw [hKS]; exact ⟨keys_h32 HW.out, keys_len HW.out⟩)
        have OA7 : Hid (HOwn w7 w4.heap.size (.slice pa la ca) KS) := Lib.hid (by rw [hKS]; exact OA7.out)
        have HLA : Hid (la = KS.length) := Lib.hid (by rw [hKS]; exact HLA.out)
        have HB0 : Hid (w4.heap.size ≤ w7.heap.size) := Lib.hid (by
          exact B47.out)
        clear hn1 hKS H61 H62 EY K6
        generalize w4.heap.size = B0 at *
        go_wp2_with fail
        go_loopw [9, 10] (fun vt vi wq => ∃ (k : Nat) (pw : Option Addr) (lw cw : Nat), vt = .slice pw lw cw ∧ vi = .int .i64 k ∧ k ≤ m ∧ Hid (lw = (hputs KS (cs.take k)).length) ∧ Hid (HOwn wq B0 (.slice pw lw cw) (hputs KS (cs.take k))) ∧ Hid (Below w7.heap.size w7 wq)) (fun _ vi _ => m - (intOf vi).toNat)
        case atStart => exact ⟨0, pa, la, ca, rfl, rfl, Nat.zero_le _, HLA, OA7, Lib.hid (Below.refl _ _)⟩
        case round =>
          clear OA7 HLA
          obtain ⟨k, pw, lw, cw, rfl, rfl, hk, HLW, OW, BW⟩ := hrel
          have RVk := Lib.hid (RV7.out.kb BW.out)
          have hr0 := RVk.out.c
          by_cases hlt : k < m
          · obtain ⟨j1, j2, j3⟩ := next_fit hlt (by have := RV7.out.few; have := RV7.out.len; omega)
            have hkc : k < cs.length := by rw [← RV7.out.len]; exact hlt
            obtain ⟨p0, cap0, e1, hx0⟩ := RVk.out.seen
            injection e1 with e1 e2 e3
            subst e1
            obtain ⟨bc, oc, u, rfl, hrg, hus⟩ := hx0 k _ (List.getElem?_eq_getElem hkc)
            clear hus
            obtain ⟨d, hd⟩ : ∃ d, d = cs[k] := ⟨_, rfl⟩
            rw [← hd] at hrg
            have HD : Hid (d ∈ cs) := Lib.hid (by rw [hd]; exact List.getElem_mem hkc)
            have HTK : Hid (hputs KS (cs.take (k + 1)) = rput (hputs KS (cs.take k)) d.1) := Lib.hid (by
              rw [List.take_add_one, List.getElem?_eq_getElem hkc, ← hd]
              exact hputs_snoc _ _ _)
            have hld0 := hld_range (w := wr) (RV7.out.ok d HD.out).1 (rng_pre hrg)
            have HP := Lib.hid (put_own wr B0 (.slice pw lw cw) (hputs KS (cs.take k)) (hputs_h32 (fun c hc => RV7.out.ok c (List.mem_of_mem_take hc)) HKH.out.1) d.1 (RV7.out.ok d HD.out).1
              (by have h1 := hputs_len (cs.take k) KS; have h2 := HKH.out.2; have h3 := RV7.out.few; rw [List.length_take] at h1; omega) (Nat.le_trans HB0.out BW.out.size) OW.out)
            have HKM := Lib.hid hlt
            clear hx0 hd hrg hkc hk hlt e2 e3
            go_wp2_with fail
            refine HP.out.mono ?_
            rintro e wx ⟨vx, rfl, ox, bx⟩
            rw [← HTK.out] at ox
            obtain ⟨px, lx, cx, rfl, hlx⟩ := own_sh ox
            have OX := Lib.hid ox
            have BX := Lib.hid (BW.out.trans (bx.mono BW.out.size))
            have HLX := Lib.hid hlx
            clear ox bx hlx hld0 hr0
            go_wp2_with fail
            refine ⟨⟨k + 1, px, lx, cx, rfl, by rw [j1], HKM.out, HLX, OX, BX⟩, ?_⟩
            rw [j1]; simp only [intOf]; have := HKM.out; omega
          · obtain rfl : k = m := by omega
            have HTM : Hid (cs.take k = cs) := Lib.hid (List.take_of_length_le (by rw [RV7.out.len]; exact Nat.le_refl _))
            rw [HTM.out] at OW HLW
            have KB7 := Lib.hid (K7.out.kb BW.out)
            have OBw : Hid (HOwn wr w6.heap.size (.slice pb lb cb) (hputs KS cs)) := Lib.hid (by rw [← HKB.out]; exact own_below OB.out BW.out)
            have HPL : Hid ((hputs KS cs).length ≤ 1100 ∧ H32 (hputs KS cs)) := Lib.hid ⟨by have h1 := hputs_len cs KS; have h2 := HKH.out.2; have h3 := RV7.out.few; omega, hputs_h32 RV7.out.ok HKH.out.1⟩
            clear hlt hk
            go_wp2_with fail
            clear hr0
            refine (same_any wr _ _ _ _ _ HPL.out.2 OBw.out OW.out (Nat.le_trans HPL.out.1 (by decide))).mono ?_
            rintro e w8 ⟨rfl, q, rfl⟩
            have K9 := Lib.hid (KB7.out.kb (blw_qt _ q wr))
            have OB9 : Hid (HOwn (wr.drewN q) w6.heap.size (.slice pb lb cb) ((gr X').map (·.1))) := Lib.hid (by rw [HKB.out]; exact own_below OBw.out (blw_qt _ q wr))
            clear OBw OW BW KB7 K7 RV7 RVk
            generalize wr.drewN q = w9 at *
            generalize w6.heap.size = B6 at *
            go_wp2_with fail
            clear HTM HPL HKH HKB HG7
            go_loopw [11] (fun vi wq => ∃ k : Nat, vi = .int .i64 k ∧ k ≤ lb ∧ Hid (Below w9.heap.size w9 wq)) (fun vi _ => lb - (intOf vi).toNat)
            case atStart => exact ⟨0, rfl, Nat.zero_le _, Lib.hid (Below.refl _ _)⟩
            case round =>
              obtain ⟨k3, rfl, hk3, B3⟩ := hrel
              by_cases hlt : k3 < lb
              · obtain ⟨j1, j2, j3⟩ := next_fit hlt (by have := keys_len HW6.out; rw [← HLB.out] at this; omega)
                have hkk : k3 < ((gr X').map (·.1)).length := by rw [← HLB.out]; exact hlt
                obtain ⟨b9, o9, c9, e1, hrg⟩ := (HSeen.own OB9.out).at (keys_h32 HW6.out) hkk
                injection e1 with e1 e2 e3
                subst e1
                obtain ⟨h, hh⟩ : ∃ h, h = ((gr X').map (·.1))[k3] := ⟨_, rfl⟩
                rw [← hh] at hrg
                have hmem : h ∈ (gr X').map (·.1) := by rw [hh]; exact List.getElem_mem hkk
                have HH32 : Hid (h.length = 32) := Lib.hid (keys_h32 HW6.out _ hmem)
                have HRG := Lib.hid hrg
                obtain ⟨ps, hps⟩ := Option.isSome_iff_exists.1 (mem_keys.1 hmem)
                have HPS := Lib.hid hps
                have hld3 := hld_range HH32.out (rng_kb hrg B3.out)
                have K3 := Lib.hid (K9.out.kb B3.out)
                have HPAR := Lib.hid (parents_to wr g bm X' h HH32.out K3.out.ga (HW6.out.parm 1000000 (by decide)))
                rw [hps] at HPAR
                have HK3 := Lib.hid hlt
                have HJK := Lib.hid j1
                clear hh hmem hkk hrg hps hk3 hlt e2 e3
                go_wp2_with fail
                refine HPAR.out.mono ?_
                rintro e wa ⟨vp, rfl, op, ba⟩
                simp only [Option.isSome_some, Option.getD_some] at op ⊢
                obtain ⟨pp, lp, cp, rfl, hlp⟩ := own_sh op
                have BWA := Lib.hid (B3.out.trans (ba.mono B3.out.size))
                have OP := Lib.hid op
                have HLP := Lib.hid hlp
                clear op ba hlp hld3 B3 K3
                go_wp2_with fail
                have HPM : Hid ((h, ps) ∈ gr X') := Lib.hid (aget_mem HPS.out)
                have HP32 : Hid (H32 ps) := Lib.hid (HW6.out.h32 _ HPM.out).2
                have HPL : Hid (lp ≤ 4) := Lib.hid (by rw [HLP.out]; exact (HW6.out.par _ HPM.out).1)
                have HCP : Hid (lp ≤ cp) := Lib.hid (by
                  rcases HSeen.own OP.out with ⟨h1, _⟩ | ⟨a, cap, h1, h2, _⟩
                  · injection h1 with _ h1 h3; omega
                  · injection h1 with _ h1 h3; omega)
                go_loopw [14] (fun vi wq => ∃ j : Nat, vi = .int .i64 j ∧ j ≤ lp ∧ Hid (Below wa.heap.size wa wq)) (fun vi _ => lp - (intOf vi).toNat)
                case atStart => exact ⟨0, rfl, Nat.zero_le _, Lib.hid (Below.refl _ _)⟩
                case round =>
                  obtain ⟨j, rfl, hj, BJ⟩ := hrel
                  by_cases hlt : j < lp
                  · obtain ⟨j1, j2, j3⟩ := next_fit hlt (by have := HPL.out; omega)
                    have hjl : j < ps.length := by rw [← HLP.out]; exact hlt
                    obtain ⟨bp, op, c8, e1, hrx⟩ := (HSeen.own OP.out).at HP32.out hjl
                    injection e1 with e1 e2 e3
                    subst e1
                    obtain ⟨x1, hx1⟩ : ∃ x1, x1 = ps[j] := ⟨_, rfl⟩
                    rw [← hx1] at hrx
                    have hxm : x1 ∈ ps := by rw [hx1]; exact List.getElem_mem hjl
                    have HX32 : Hid (x1.length = 32) := Lib.hid (HP32.out _ hxm)
                    have HRX := Lib.hid hrx
                    have HPH : Hid ((aget x1 (gr X')).isSome = true) := Lib.hid (par_has HW6.out HPS.out hxm)
                    have HNA : Hid (h ∉ ancs (gr X') [x1]) := Lib.hid (not_anc HW6.out HPS.out hxm)
                    have HJ := Lib.hid hlt
                    have hwj : IntKind.i64.wrap ((j : Int) + 1) = (j : Int) + 1 := IntWalk.i64_in _ (by have := HPL.out; omega)
                    have hb0 : (0 : Int) ≤ (j : Int) + 1 := by omega
                    have hb1 : (j : Int) + 1 ≤ cp := by have := HCP.out; omega
                    have hb3 : j ≤ j + 1 := by omega
                    have hb4 : j + 1 - j = 1 := by omega
                    have hb2 : ¬ cp = j := by have := HCP.out; omega
                    clear hx1 hrx hxm hjl hj e2 e3 hlt
                    go_wp2_with fail
                    have BW : Hid (Below wa.heap.size wa wr.drew) := Lib.hid (BJ.out.trans (blw_qt _ 1 wr))
                    try simp only [List.append]
                    refine wp_region_noPanic ?_
                    refine wp_region_held_drew (S := (fun V => (hld ⟨bp, op + j * 32, none⟩).run Tryd.prog V = .ok (.agg (hv x1)) V ∧ (hld ⟨b9, o9 + k3 * 32, none⟩).run Tryd.prog V = .ok (.agg (hv h)) V)) (by kernel_rfl) ⟨hld_range HX32.out (rng_kb HRX.out BW.out), hld_range HH32.out (rng_kb HRG.out (BWA.out.trans (BW.out.mono BWA.out.size)))⟩ (fun hHeld => ?_)
                    generalize wr.drew = cw at *
                    refine wpAnyH_take (i := 0) (v := ?_) (by simp only [List.getElem?_toArray, List.getElem?_cons_zero]; rfl) (by kernel_rfl) (by kernel_rfl) (by kernel_rfl) (fun _ _ _ h => h) (Or.inl ⟨by rfl, ?_⟩) (by assumption) ?_
                    rotate_left
                    · intro w hSw
                      try dsimp only at hSw
                      go_simp
                      try with_reducible rfl
                    try simp only [Act.put, List.setIfInBounds_toArray, List.set_cons_zero, List.set_cons_succ]
                    refine wpAnyH_take (i := 1) (v := ?_) (by simp only [List.getElem?_toArray, List.getElem?_cons_succ, List.getElem?_cons_zero]; rfl) (by kernel_rfl) (by kernel_rfl) (by kernel_rfl) (fun _ _ _ h => h) (Or.inl ⟨by rfl, ?_⟩) (by assumption) ?_
                    rotate_left
                    · intro w hSw
                      try dsimp only at hSw
                      go_simp
                      try with_reducible rfl
                    try simp only [Act.put, List.setIfInBounds_toArray, List.set_cons_zero, List.set_cons_succ]
                    refine wpAnyH_take (i := 2) (v := ?_) (by simp only [List.getElem?_toArray, List.getElem?_cons_succ, List.getElem?_cons_zero]; rfl) (by kernel_rfl) (by kernel_rfl) (by kernel_rfl) (fun _ _ _ h => h) (Or.inl ⟨by rfl, ?_⟩) (by assumption) ?_
                    rotate_left
                    · intro w hSw
                      try dsimp only at hSw
                      go_simp
                      try with_reducible rfl
                    try simp only [Act.put, List.setIfInBounds_toArray, List.set_cons_zero, List.set_cons_succ]
                    refine wpAnyH_take (i := 3) (v := ?_) (by simp only [List.getElem?_toArray, List.getElem?_cons_succ, List.getElem?_cons_zero]; rfl) (by kernel_rfl) (by kernel_rfl) (by kernel_rfl) (fun _ _ _ h => h) (Or.inl ⟨by rfl, ?_⟩) (by assumption) ?_
                    rotate_left
                    · intro w hSw
                      try dsimp only at hSw
                      go_simp
                      try with_reducible rfl
                    try simp only [Act.put, List.setIfInBounds_toArray, List.set_cons_zero, List.set_cons_succ]
                    refine wpAnyH_take (i := 4) (v := ?_) (by simp only [List.getElem?_toArray, List.getElem?_cons_succ, List.getElem?_cons_zero]; rfl) (by kernel_rfl) (by kernel_rfl) (by kernel_rfl) (fun _ _ _ h => h) (Or.inl ⟨by rfl, ?_⟩) (by assumption) ?_
                    rotate_left
                    · intro w hSw
                      try dsimp only at hSw
                      go_simp
                      try with_reducible rfl
                    try simp only [Act.put, List.setIfInBounds_toArray, List.set_cons_zero, List.set_cons_succ]
                    refine wpAnyH_ready (rs := [5]) (by kernel_rfl) (by simp) ?_
                    refine AllReadyH.cons (by simp only [List.getElem?_toArray, List.getElem?_cons_succ, List.getElem?_cons_zero]; rfl) (fun K hK => ?_) AllReadyH.nil
                    go_simp
                    refine (has_to cw g bm X' x1 HX32.out (K9.out.kb (BWA.out.trans (BW.out.mono BWA.out.size))).ga).mono ?_
                    rintro e cx ⟨rfl, bb⟩
                    rw [HPH.out]
                    have BX := Lib.hid (BW.out.trans (bb.mono BW.out.size))
                    clear bb BW
                    have BW := BX
                    clear BX
                    go_wp2_with fail
                    refine hK.out _ _ ⟨hld_range HX32.out (rng_kb HRX.out BW.out), hld_range HH32.out (rng_kb HRG.out (BWA.out.trans (BW.out.mono BWA.out.size)))⟩ (fun hHeld => ?_)
                    clear hK K
                    try simp only [Act.put, List.setIfInBounds_toArray, List.set_cons_zero, List.set_cons_succ]
                    refine wpAnyH_take (i := 6) (v := ?_) (by simp only [List.getElem?_toArray, List.getElem?_cons_succ, List.getElem?_cons_zero]; rfl) (by kernel_rfl) (by kernel_rfl) (by kernel_rfl) (fun _ _ _ h => h) (Or.inl ⟨by rfl, ?_⟩) (by assumption) ?_
                    rotate_left
                    · intro w hSw
                      try dsimp only at hSw
                      go_simp
                      try with_reducible rfl
                    try simp only [Act.put, List.setIfInBounds_toArray, List.set_cons_zero, List.set_cons_succ]
                    refine wpAnyH_take (i := 7) (v := ?_) (by simp only [List.getElem?_toArray, List.getElem?_cons_succ, List.getElem?_cons_zero]; rfl) (by kernel_rfl) (by kernel_rfl) (by kernel_rfl) (fun _ _ _ h => h) (Or.inl ⟨by rfl, ?_⟩) (by assumption) ?_
                    rotate_left
                    · intro w hSw
                      try dsimp only at hSw
                      go_simp
                      try with_reducible rfl
                    try simp only [Act.put, List.setIfInBounds_toArray, List.set_cons_zero, List.set_cons_succ]
                    refine wpAnyH_take (i := 8) (v := ?_) (by simp only [List.getElem?_toArray, List.getElem?_cons_succ, List.getElem?_cons_zero]; rfl) (by kernel_rfl) (by kernel_rfl) (by kernel_rfl) (fun _ _ _ h => h) (Or.inl ⟨by rfl, ?_⟩) (by assumption) ?_
                    rotate_left
                    · intro w hSw
                      try dsimp only at hSw
                      go_simp
                      try with_reducible rfl
                    try simp only [Act.put, List.setIfInBounds_toArray, List.set_cons_zero, List.set_cons_succ]
                    refine wpAnyH_take (i := 9) (v := ?_) (by simp only [List.getElem?_toArray, List.getElem?_cons_succ, List.getElem?_cons_zero]; rfl) (by kernel_rfl) (by kernel_rfl) (by kernel_rfl) (fun _ _ _ h => h) (Or.inl ⟨by rfl, ?_⟩) (by assumption) ?_
                    rotate_left
                    · intro w hSw
                      try dsimp only at hSw
                      go_simp
                      try with_reducible rfl
                    try simp only [Act.put, List.setIfInBounds_toArray, List.set_cons_zero, List.set_cons_succ]
                    refine wpAnyH_take (i := 10) (v := ?_) (by simp only [List.getElem?_toArray, List.getElem?_cons_succ, List.getElem?_cons_zero]; rfl) (by kernel_rfl) (by kernel_rfl) (by kernel_rfl) (fun _ _ _ h => h) (Or.inl ⟨by rfl, ?_⟩) (by assumption) ?_
                    rotate_left
                    · intro w hSw
                      try dsimp only at hSw
                      go_simp
                      try with_reducible rfl
                    try simp only [Act.put, List.setIfInBounds_toArray, List.set_cons_zero, List.set_cons_succ]
                    refine wpAnyH_take (i := 11) (v := ?_) (by simp only [List.getElem?_toArray, List.getElem?_cons_succ, List.getElem?_cons_zero]; rfl) (by kernel_rfl) (by kernel_rfl) (by kernel_rfl) (fun _ _ _ h => h) (Or.inl ⟨by rfl, ?_⟩) (by assumption) ?_
                    rotate_left
                    · intro w hSw
                      try dsimp only at hSw
                      go_simp
                      try with_reducible rfl
                    try simp only [Act.put, List.setIfInBounds_toArray, List.set_cons_zero, List.set_cons_succ]
                    refine wpAnyH_take (i := 12) (v := ?_) (by simp only [List.getElem?_toArray, List.getElem?_cons_succ, List.getElem?_cons_zero]; rfl) (by kernel_rfl) (by kernel_rfl) (by kernel_rfl) (fun _ _ _ h => h) (Or.inl ⟨by rfl, ?_⟩) (by assumption) ?_
                    rotate_left
                    · intro w hSw
                      try dsimp only at hSw
                      go_simp
                      try with_reducible rfl
                    try simp only [Act.put, List.setIfInBounds_toArray, List.set_cons_zero, List.set_cons_succ]
                    refine wpAnyH_take (i := 13) (v := ?_) (by simp only [List.getElem?_toArray, List.getElem?_cons_succ, List.getElem?_cons_zero]; rfl) (by kernel_rfl) (by kernel_rfl) (by kernel_rfl) (fun _ _ _ h => h) (Or.inl ⟨by rfl, ?_⟩) (by assumption) ?_
                    rotate_left
                    · intro w hSw
                      try dsimp only at hSw
                      go_simp
                      try with_reducible rfl
                    try simp only [Act.put, List.setIfInBounds_toArray, List.set_cons_zero, List.set_cons_succ]
                    refine wpAnyH_take (i := 15) (v := ?_) (by simp only [List.getElem?_toArray, List.getElem?_cons_succ, List.getElem?_cons_zero]; rfl) (by kernel_rfl) (by kernel_rfl) (by kernel_rfl) (fun _ _ _ h => h) (Or.inl ⟨by rfl, ?_⟩) (by assumption) ?_
                    rotate_left
                    · intro w hSw
                      try dsimp only at hSw
                      go_simp
                      try with_reducible rfl
                    try simp only [Act.put, List.setIfInBounds_toArray, List.set_cons_zero, List.set_cons_succ]
                    refine wpAnyH_take (i := 16) (v := ?_) (by simp only [List.getElem?_toArray, List.getElem?_cons_succ, List.getElem?_cons_zero]; rfl) (by kernel_rfl) (by kernel_rfl) (by kernel_rfl) (fun _ _ _ h => h) (Or.inl ⟨by rfl, ?_⟩) (by assumption) ?_
                    rotate_left
                    · intro w hSw
                      try dsimp only at hSw
                      go_simp
                      try with_reducible rfl
                    try simp only [Act.put, List.setIfInBounds_toArray, List.set_cons_zero, List.set_cons_succ]
                    refine wpAnyH_take (i := 17) (v := ?_) (by simp only [List.getElem?_toArray, List.getElem?_cons_succ, List.getElem?_cons_zero]; rfl) (by kernel_rfl) (by kernel_rfl) (by kernel_rfl) (fun _ _ _ h => h) (Or.inl ⟨by rfl, ?_⟩) (by assumption) ?_
                    rotate_left
                    · intro w hSw
                      try dsimp only at hSw
                      go_simp
                      try with_reducible rfl
                    try simp only [Act.put, List.setIfInBounds_toArray, List.set_cons_zero, List.set_cons_succ]
                    refine wpAnyH_take (i := 18) (v := ?_) (by simp only [List.getElem?_toArray, List.getElem?_cons_succ, List.getElem?_cons_zero]; rfl) (by kernel_rfl) (by kernel_rfl) (by kernel_rfl) (fun _ _ _ h => h) (Or.inl ⟨by rfl, ?_⟩) (by assumption) ?_
                    rotate_left
                    · intro w hSw
                      try dsimp only at hSw
                      go_simp
                      try with_reducible rfl
                    try simp only [Act.put, List.setIfInBounds_toArray, List.set_cons_zero, List.set_cons_succ]
                    refine wpAnyH_ready (rs := [14]) (by kernel_rfl) (by simp) ?_
                    refine AllReadyH.cons (by simp only [List.getElem?_toArray, List.getElem?_cons_succ, List.getElem?_cons_zero]; rfl) (fun K hK => ?_) AllReadyH.nil
                    go_simp
                    have HS1 : HSeen cx (.slice (some ⟨bp, op + j * 32, none⟩) 1 (cp - j)) [x1] := .inr ⟨⟨bp, op + j * 32, none⟩, cp - j, rfl, by have := HCP.out; have := HJ.out; simp; omega, fun i u hu => by
                      have h1 := rng_kb HRX.out BW.out i u (by simpa [fl] using hu)
                      rw [Addr.add_lit]; exact h1⟩
                    refine (ancestors_to cx g bm X' (.slice (some ⟨bp, op + j * 32, none⟩) 1 (cp - j)) [x1] (K9.out.kb (BWA.out.trans (BW.out.mono BWA.out.size))).ga HS1 (H32.one HX32.out) (by simp) (Nat.le_trans HW6.out.xlen (by decide)) HW6.out.clo (HW6.out.parm 1000 (by decide))).mono ?_
                    clear HS1
                    rintro e cy ⟨vy, rfl, oy, bb⟩
                    have BX := Lib.hid (BW.out.trans (bb.mono BW.out.size))
                    obtain ⟨py, ly, cyy, rfl, hly⟩ := own_sh oy
                    have OY := Lib.hid (HSeen.own oy)
                    have HA32 : Hid (H32 (ancs (gr X') [x1]) ∧ (ancs (gr X') [x1]).length ≤ 1000000) := Lib.hid ⟨fun y hy => keys_h32 HW6.out y (List.mem_filter.1 hy).1, Nat.le_trans (ancs_len _ _) (Nat.le_trans HW6.out.few (by decide))⟩
                    clear bb BW oy hly
                    have BW := BX
                    clear BX
                    go_wp2_with fail
                    refine hK.out _ _ ⟨hld_range HX32.out (rng_kb HRX.out BW.out), hld_range HH32.out (rng_kb HRG.out (BWA.out.trans (BW.out.mono BWA.out.size)))⟩ (fun hHeld => ?_)
                    clear hK K
                    try simp only [Act.put, List.setIfInBounds_toArray, List.set_cons_zero, List.set_cons_succ]
                    refine wpAnyH_ready (rs := [19]) (by kernel_rfl) (by simp) ?_
                    refine AllReadyH.cons (by simp only [List.getElem?_toArray, List.getElem?_cons_succ, List.getElem?_cons_zero]; rfl) (fun K hK => ?_) AllReadyH.nil
                    go_simp
                    refine (in_any cy (.slice py ly cyy) (ancs (gr X') [x1]) h HH32.out OY.out HA32.out.1 HA32.out.2).mono ?_
                    rintro e cz ⟨rfl, bb⟩
                    rw [decide_eq_false HNA.out]
                    have BX := Lib.hid (BW.out.trans (bb.mono BW.out.size))
                    clear bb BW
                    have BW := BX
                    clear BX
                    go_wp2_with fail
                    refine hK.out _ _ ⟨hld_range HX32.out (rng_kb HRX.out BW.out), hld_range HH32.out (rng_kb HRG.out (BWA.out.trans (BW.out.mono BWA.out.size)))⟩ (fun hHeld => ?_)
                    clear hK K
                    try simp only [Act.put, List.setIfInBounds_toArray, List.set_cons_zero, List.set_cons_succ]
                    refine wpAnyH_take (i := 20) (v := ?_) (by simp only [List.getElem?_toArray, List.getElem?_cons_succ, List.getElem?_cons_zero]; rfl) (by kernel_rfl) (by kernel_rfl) (by kernel_rfl) (fun _ _ _ h => h) (Or.inl ⟨by rfl, ?_⟩) (by assumption) ?_
                    rotate_left
                    · intro w hSw
                      try dsimp only at hSw
                      go_simp
                      try with_reducible rfl
                    try simp only [Act.put, List.setIfInBounds_toArray, List.set_cons_zero, List.set_cons_succ]
                    refine wpAnyH_done (by kernel_rfl) ?_ _
                    refine NoPanic.normal ?_
                    go_wp2_with fail
                    refine ⟨⟨j + 1, congrArg _ (by omega), HJ.out, BW⟩, ?_⟩
                    simp only [intOf]; have := HJ.out; omega
                  · obtain rfl : j = lp := by omega
                    go_wp2_with fail
                    refine ⟨⟨k3 + 1, by rw [HJK.out], HK3.out, Lib.hid (BWA.out.trans (BJ.out.mono BWA.out.size))⟩, ?_⟩
                    rw [HJK.out]; simp only [intOf]; have := HK3.out; omega
              · obtain rfl : k3 = lb := by omega
                go_wp2_with fail
                refine ⟨⟨i + 1, X', congrArg _ (by omega), HIN.out, HI8.out, Lib.hid (K9.out.kb B3.out), HW6⟩, ?_⟩
                simp only [intOf]; have := HI8.out; omega
      · obtain rfl := H61.out hs1
        clear hs1
        go_wp2_with fail
        refine (same_any w7 _ _ _ _ _ (keys_h32 HW.out) OA7.out OB.out (Nat.le_trans (keys_len HW.out) (by decide))).mono ?_
        rintro e w8 ⟨rfl, q, rfl⟩
        have K8 := Lib.hid (K7.out.kb (blw_qt _ q w7))
        go_wp2_with fail
        refine ⟨⟨i + 1, X', congrArg _ (by omega), HIN.out, HI8.out, K8, HW⟩, ?_⟩
        simp only [intOf]; have := HI8.out; omega
    · rcases (by omega : ¬ i < n ∨ (i < n ∧ ¬ i < 8)) with hq1 | ⟨hq1, hq2⟩
      · have hjl : ¬ (i : Int) < n := by omega
        clear hlt hq1 hi
        go_wp2_with fail
        go_ret
        exact ⟨rfl, K.out.bel⟩
      · have hjl : (i : Int) < n := by omega
        have hjl6 : ¬ (i : Int) < 8 := by omega
        clear hlt hq1 hq2 hi
        go_wp2_with fail
        go_ret
        exact ⟨rfl, K.out.bel⟩
end Go.Proofs.YtakbdnkodnlkdaaDoor
