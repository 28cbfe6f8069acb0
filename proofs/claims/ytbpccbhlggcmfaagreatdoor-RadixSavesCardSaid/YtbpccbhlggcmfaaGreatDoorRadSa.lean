/- RadixSaves returns true and makes new memory alone. Condition: errors.errorType holds what its text lays. -/
import Derived.Test.YtbpccbhlggcmfaaGreatDoorRadSx
namespace Go.Proofs.YtbpccbhlggcmfaaGreatDoor
open Go.RowKit
open Go.Maps
attribute [local go_sem ↓] hld_open heq_open hne_open pld_open

def Zr.rt (z : Zr) : Int := ((z.T.rec' z.ρ : Nat) : Int)
/-- How many records there may still be. -/
structure SvOk (s : St) (nm : Key) (R : List Rc) (T : Nd) (ρ : Nat → Nat) (n m : Nat) : Prop where
  ok : Ok9 s nm R m
  nun : T.nun ρ = 0
  left : 780 * (6 - n) ≤ m
  top : m ≤ 4680
  sum : R.length + m ≤ 4680
theorem SvOk.next {s s' : St} {nm : Key} {R R' : List Rc} {T T' : Nd} {ρ σ : Nat → Nat} {n m u : Nat} (h : SvOk s nm R T ρ n m) (hn : n < 6) (hu : u ≤ 780) (ho : Ok9 s' nm R' (m - u)) (h0 : T'.nun σ = 0) (hR : R'.length = R.length + u) : SvOk s' nm R' T' σ (n + 1) (m - u) := by
  obtain ⟨_, _, h1, h2, h3⟩ := h
  exact ⟨ho, h0, by omega, by omega, by omega⟩
theorem prow_cell {w W : World} {p : Option Addr} {x : List Pr} (h : PrSeen w p x) (hb : Below w.heap.size w W) {j : Nat} {y : Pr} (hy : x[j]? = some y) : ∃ b o, p = some ⟨b, o, none⟩ ∧ W.rangeAt b (o + j * 35) y.row := by
  obtain ⟨b, o, e, _⟩ := h j y hy
  subst e
  exact ⟨b, o, rfl, prseen_at h hb (Nat.le_refl _) hy⟩
theorem meas12 {j : Nat} (h : j < 12) : 12 - ((j : Int) + 1).toNat < 12 - (j : Int).toNat := by omega
theorem use_fits {n m u jj xl : Nat} (hn : n < 6) (hj : jj = min xl 12) (hu : u ≤ 65 * jj) (hm : 780 * (6 - n) ≤ m) : u ≤ m ∧ u ≤ 780 := by omega
theorem cnt_diff {R R' u jj : Nat} (h : R' = R + u) (hu : u ≤ 65 * jj) (hR : R' ≤ 4680) (hj : jj ≤ 12) : wrap64 ((R' : Int) - R) = u ∧ IntKind.i64.wrap ((R' : Int) - R) = u ∧ wrap64 (65 * (jj : Int)) = ((65 * jj : Nat) : Int) ∧ IntKind.i64.wrap (65 * (jj : Int)) = ((65 * jj : Nat) : Int) ∧ ¬ (((65 * jj : Nat) : Int) < u) ∧ ¬ 65 * jj < u ∧ ¬ 65 * (jj : Int) < u := by
  refine ⟨by rw [IntWalk.wrap64_in _ (by omega)]; omega, by rw [IntWalk.i64_in _ (by omega)]; omega, by rw [IntWalk.wrap64_in _ (by omega)]; omega, by rw [IntWalk.i64_in _ (by omega)]; omega, by omega, by omega, by omega⟩
theorem min_int (xl : Nat) : min (xl : Int) 12 = ((min xl 12 : Nat) : Int) := by omega
theorem row_fits {n : Nat} (h : n < 6) : n + 1 ≤ maxLen ∧ (n + 1) * 8 ≤ 140737488355328 := by
  unfold maxLen
  omega
theorem kx_fits {nk n : Nat} (h : nk ≤ 12 * (n + 1)) (hn : n < 6) : nk ≤ maxLen ∧ nk * 32 ≤ 140737488355328 ∧ nk * 8 ≤ 140737488355328 := by
  unfold maxLen
  omega
theorem fl_cell {E : List (List UInt8)} {u : Value} (h : u ∈ fl E) : u.oneCell' = true := by
  rw [← fl_flat] at h
  obtain ⟨v, hv, hu⟩ := List.mem_flatMap.1 h
  obtain ⟨x, _, rfl⟩ := List.mem_map.1 hv
  have h1 : u ∈ us (nmb x) := by rw [← hv_list]; exact hu
  obtain ⟨y, _, rfl⟩ := List.mem_map.1 h1
  rfl
theorem nvl_cell {l : List Int} {u : Value} (h : u ∈ nvl l) : u.oneCell' = true := by
  obtain ⟨x, _, rfl⟩ := List.mem_map.1 h
  rfl
theorem k_fits {n : Nat} (h : n < 6) : 12 * (n + 1) ≤ 72 := by omega
theorem meas6 {n : Nat} (h : n < 6) : 6 - ((n : Int) + 1).toNat < 6 - (n : Int).toNat := by omega
theorem meas_n {i n : Nat} (h : i < n) : n - ((i : Int) + 1).toNat < n - (i : Int).toNat := by omega
theorem parity (n : Nat) : (n : Int).tmod 2 = 1 ∨ (n : Int).tmod 2 = 0 := by
  rw [Int.tmod_eq_emod_of_nonneg (by omega)]
  omega
theorem row_at {W : World} {B e n m c i : Nat} {p : Option Addr} {xs : List Value} {v : Value} (h : W.ownsRow B e 1 (.slice p n c) m xs) (hm : m = n) (hi : i < n) (hv : xs[i]? = some v) : ∃ g, p = some ⟨g, 0, none⟩ ∧ W.cell? ⟨g, i, none⟩ = some v := by
  rcases h.2 with ⟨h1, h2⟩ | ⟨g, cap, cur, h1, _⟩
  · omega
  · injection h1 with e1 e2 e3
    subst e1
    have := h.cells (g := g) rfl i v hv
    rw [Addr.add_lit, Nat.zero_add] at this
    exact ⟨g, rfl, this⟩
theorem lcell_sa {w W : World} {a : Addr} {u : Value} (h : w.cell? a = some u) (hb : Below w.heap.size w W) : W.cell? a = some u := by
  rw [World.cell?_of_block (w := w) (hb.block _ (World.block_lt_of_cell? w _ h))]; exact h
set_option maxRecDepth 20000 in
set_option maxHeartbeats 16000000 in
theorem radixSaves_walk (w : World) (hg : Glob w) (p0 : Option Addr) (c0 : Nat) (F : List (List Pr)) (hF : PPSeen w p0 F) (v1 : Value) (l1 : List Int) (hl1 : ISeen w v1 l1) :
    Calls Tryz.prog 4 #[.slice p0 F.length c0, v1] w fun e w' => e = .returned (.bool true) ∧ Below w.heap.size w w' := by
  have HG := Lib.hid hg
  have HF := Lib.hid hF
  have HL1 := Lib.hid hl1
  clear hg hF hl1
  go_enter Tryz.func4, Tryz.ntmps4
  go_wp2_with fail
  refine (new_to9 w).mono ?_
  rintro e w1 ⟨rfl, b1, t1⟩
  have B1 := Lib.hid b1
  have T1 := Lib.hid t1
  clear b1 t1
  go_wp2_with fail
  refine (new_to w1 16777216).mono ?_
  rintro e w2 ⟨d, S1, rfl, h2, b2, g2⟩
  have H2 := Lib.hid h2
  have B2 := Lib.hid b2
  have G2 := Lib.hid g2
  clear h2 b2 g2
  go_wp2_with fail
  refine (open_ok w2 _ d S1 (St.new 16777216) [105] 0 H2.out (by decide) (by decide) (by decide) Okb.nil rfl).mono ?_
  rintro e w3 ⟨l, S3, rfl, h3, o3, s3⟩
  rw [open_new] at h3
  obtain ⟨S4, tl4⟩ := Tl.new T1.out B1.out B2.out h3 o3 G2.out s3
  have L4 := Lib.hid tl4
  have OK4 : Hid (Ok9 (St.new 16777216) [105] [] 4680) := Lib.hid (Ok9.new _ _ _ (by decide) (by decide) (by decide))
  obtain ⟨s4, hs4⟩ : ∃ s, s = St.new 16777216 := ⟨_, rfl⟩
  rw [← hs4] at L4 OK4
  clear h3 o3 s3 tl4 H2 B2 G2 T1 B1 hs4
  obtain ⟨nm, hnm⟩ : ∃ nm : Key, nm = [105] := ⟨_, rfl⟩
  rw [← hnm] at L4 OK4
  clear hnm
  obtain ⟨Bd, hBd⟩ : ∃ b, b = w1.heap.size := ⟨_, rfl⟩
  rw [← hBd] at L4
  clear hBd
  go_wp2_with fail
  refine (known9_to w3 (HG.out.kb L4.out.cl.bel)).mono ?_
  rintro e w5 ⟨rfl, b5⟩
  have L5 := Lib.hid (L4.out.below b5)
  clear b5 L4
  have b6 := (Below.refl w5.heap.size w5).alloc (Nat.le_refl _) (.cells #[.slice none 0 0, .slice none 0 0] 52)
  have I6 : Hid (SvI w (w5.alloc (.cells #[.slice none 0 0, .slice none 0 0] 52)) Bd d l S4 s4 nm [] w.heap.size .none (fun _ => 0) [] w5.heap.size (.slice none 0 0) (.slice none 0 0) [] [] (.slice none 0 0) [] (.slice none 0 0) []) := Lib.hid
    ⟨⟨L5.out.below b6, ⟨heap_alloc_last w5 _, World.ownsRow_nil _ _ _ _, World.ownsRow_nil _ _ _ _, H32.nil, L5.out.cl.bel.size⟩⟩, World.ownsRow_nil _ _ _ _, World.ownsRow_nil _ _ _ _, (fun _ h => absurd h List.not_mem_nil), (fun j _ => ⟨by simp [Value.ownBlock], fun _ h => absurd h List.not_mem_nil⟩), (fun _ _ _ h => absurd h List.not_mem_nil)⟩
  have OK6 : Hid (SvOk s4 nm [] .none (fun _ => 0) 0 4680) := Lib.hid ⟨OK4.out, rfl, Nat.le_refl _, Nat.le_refl _, Nat.le_refl _⟩
  clear b6 L5 OK4
  go_upto_block 0 with fail
  generalize w5.alloc (.cells #[.slice none 0 0, .slice none 0 0] 52) = w6 at *
  obtain ⟨kb, hkb⟩ : ∃ b, b = w5.heap.size := ⟨_, rfl⟩
  rw [← hkb] at I6 ⊢
  clear hkb
  go_cut [5, 10, 11] from 48 to 183 (fun vt vr vw wr => ∃ (n tb : Nat) (T : Nd) (ρ : Nat → Nat) (k : En) (S : Nat → Prop) (s : St) (R : List Rc) (vh vn : Value) (Z : List Zr) (pr : Option Addr) (cr : Nat) (pw : Option Addr) (cw m : Nat), n ≤ 6 ∧ vt = .pointer (some ⟨tb, 0, none⟩) ∧ vr = .slice pr n cr ∧ vw = .slice pw n cw ∧ Hid (SvI w wr Bd d l S s nm R tb T ρ k kb vh vn k Z (.slice pr n cr) (Z.map Zr.rt) (.slice pw n cw) (Z.map Zr.kb)) ∧ Hid (Z.length = n) ∧ Hid (∀ z ∈ Z, z.k.length ≤ 72) ∧ Hid (SvOk s nm R T ρ n m))
  case first =>
    go_wp2_with fail
    go_loopw [5, 10, 11, 12] (fun vt vr vw vi wr => ∃ (n tb : Nat) (T : Nd) (ρ : Nat → Nat) (k : En) (S : Nat → Prop) (s : St) (R : List Rc) (vh vn : Value) (Z : List Zr) (pr : Option Addr) (cr : Nat) (pw : Option Addr) (cw m : Nat), n ≤ 6 ∧ vt = .pointer (some ⟨tb, 0, none⟩) ∧ vr = .slice pr n cr ∧ vw = .slice pw n cw ∧ vi = .int .i64 n ∧ Hid (SvI w wr Bd d l S s nm R tb T ρ k kb vh vn k Z (.slice pr n cr) (Z.map Zr.rt) (.slice pw n cw) (Z.map Zr.kb)) ∧ Hid (Z.length = n) ∧ Hid (∀ z ∈ Z, z.k.length ≤ 72) ∧ Hid (k.length ≤ 12 * n) ∧ Hid (SvOk s nm R T ρ n m)) (fun _ _ _ vi _ => 6 - (intOf vi).toNat)
    case atStart => exact ⟨0, _, _, _, [], S4, s4, [], _, _, [], _, _, _, _, 4680, by omega, rfl, rfl, rfl, rfl, I6, Lib.hid rfl, Lib.hid (fun _ h => absurd h List.not_mem_nil), Lib.hid (Nat.le_refl _), OK6⟩
    case round =>
      clear I6 OK6
      obtain ⟨n, tb, T, ρ, k, S, s, R, vh, vn, Z, pr, cr, pw, cw, m, hn, rfl, rfl, rfl, rfl, HI, HZ, HZK, HK, HOK⟩ := hrel
      by_cases hgo : n < F.length ∧ n < 6
      case neg =>
        by_cases h1 : n < F.length
        · have hk' : (n : Int) < F.length := by omega
          have hk'' : ¬ (n : Int) < 6 := by omega
          clear hgo h1
          go_wp2_with fail
          go_meet
          case rel => exact ⟨n, tb, T, ρ, k, S, s, R, vh, vn, Z, pr, cr, pw, cw, m, hn, rfl, rfl, rfl, HI, HZ, HZK, HOK⟩
        · have hk' : ¬ (n : Int) < F.length := by omega
          clear hgo h1
          go_wp2_with fail
          go_meet
          case rel => exact ⟨n, tb, T, ρ, k, S, s, R, vh, vn, Z, pr, cr, pw, cw, m, hn, rfl, rfl, rfl, HI, HZ, HZK, HOK⟩
      case pos =>
        obtain ⟨hnF, hn6⟩ := hgo
        obtain ⟨a, q, c, hp0, hcx, hps, h32⟩ := HF.out n F[n] (List.getElem?_eq_getElem hnF)
        subst hp0
        have HNF := Lib.hid hnF
        have hd1 : (n : Int) < F.length := by omega
        have hd2 : (n : Int) < 6 := by omega
        have hd0 : 0 ≤ (n : Int) := by omega
        have HCX := Lib.hid (fun W (hW : Below w.heap.size w W) => (show W.cell? (a.add n) = some (.slice q F[n].length c) by rw [World.cell?_of_block (w := w) (hW.block _ (World.block_lt_of_cell? w _ hcx))]; exact hcx))
        have HPS := Lib.hid hps
        have H32 := Lib.hid h32
        clear hcx hps h32
        generalize F[n] = x at *
        go_upto_block 2 with fail
        obtain ⟨jj, hjj⟩ : ∃ jj, jj = min x.length 12 := ⟨_, rfl⟩
        have HJJ := Lib.hid hjj
        clear hjj
        go_cut [13] from 58 to 101 (fun _ wx => ∃ (T' : Nd) (ρ' : Nat → Nat) (k' : En) (vh' vn' : Value), Hid (SvI w wx Bd d l S s nm R tb T' ρ' k' kb vh' vn' k' Z (.slice pr n cr) (Z.map Zr.rt) (.slice pw n cw) (Z.map Zr.kb)) ∧ Hid (T'.nun ρ' ≤ 65 * jj) ∧ Hid (k'.length ≤ 12 * (n + 1)))
        case first =>
          go_wp2_with fail
          go_loopw [13] (fun vj wx => ∃ (j : Nat) (T' : Nd) (ρ' : Nat → Nat) (k' : En) (vh' vn' : Value), j ≤ x.length ∧ j ≤ 12 ∧ vj = .int .i64 j ∧ Hid (SvI w wx Bd d l S s nm R tb T' ρ' k' kb vh' vn' k' Z (.slice pr n cr) (Z.map Zr.rt) (.slice pw n cw) (Z.map Zr.kb)) ∧ Hid (T'.nun ρ' ≤ 65 * j) ∧ Hid (k'.length ≤ 12 * n + j)) (fun vj _ => 12 - (intOf vj).toNat)
          case atStart => exact ⟨0, T, ρ, k, vh, vn, by omega, by omega, rfl, HI, Lib.hid (by rw [HOK.out.nun]; exact Nat.zero_le _), HK⟩
          case round =>
            clear HI HK
            obtain ⟨j, T', ρ', k', vh', vn', hj, hj12, rfl, HI, HNU, HK⟩ := hrel
            have hcell := HCX.out wr HI.out.sst.tl.cl.bel
            by_cases hgo : j < x.length ∧ j < 12
            case neg =>
              have HFIN : Hid (∃ (T' : Nd) (ρ' : Nat → Nat) (k' : En) (vh' vn' : Value), Hid (SvI w wr Bd d l S s nm R tb T' ρ' k' kb vh' vn' k' Z (.slice pr n cr) (Z.map Zr.rt) (.slice pw n cw) (Z.map Zr.kb)) ∧ Hid (T'.nun ρ' ≤ 65 * jj) ∧ Hid (k'.length ≤ 12 * (n + 1))) := Lib.hid ⟨T', ρ', k', vh', vn', HI, Lib.hid (Nat.le_trans HNU.out (Nat.mul_le_mul_left 65 (by rw [HJJ.out]; omega))), Lib.hid (Nat.le_trans HK.out (by omega))⟩
              by_cases h1 : j < x.length
              · have hk' : (j : Int) < x.length := by omega
                have hk'' : ¬ (j : Int) < 12 := by omega
                clear hgo h1
                go_wp2_with fail
                go_meet
                case rel => exact HFIN.out
              · have hk' : ¬ (j : Int) < x.length := by omega
                clear hgo h1
                go_wp2_with fail
                go_meet
                case rel => exact HFIN.out
            case pos =>
              obtain ⟨hjx, hj12'⟩ := hgo
              have hk1 : (j : Int) < x.length := by omega
              have hk2 : (j : Int) < 12 := by omega
              have hk0 : 0 ≤ (j : Int) := by omega
              obtain ⟨b, o, hq, _⟩ := prow_cell HPS.out (Below.refl _ w) (List.getElem?_eq_getElem hjx)
              subst hq
              have HRA := Lib.hid (fun W (hW : Below w.heap.size w W) => (let ⟨b', o', e, hr⟩ := prow_cell HPS.out hW (List.getElem?_eq_getElem hjx); (by injection e with e; injection e with e1 e2; subst e1 e2; exact hr) : W.rangeAt b (o + j * 35) x[j].row))
              have HY32 := Lib.hid (H32.out x[j] (List.getElem_mem hjx))
              generalize x[j] = y at *
              have hv1 : wr.cell? ⟨b, o + j * 35 + 1, none⟩ = some (.int .i64 y.v) := HRA.out wr HI.out.sst.tl.cl.bel 1 _ rfl
              obtain ⟨r, hr⟩ : ∃ r, r = y.v % 1000 := ⟨_, rfl⟩
              have hrr : 0 ≤ r ∧ r < 1000 := by omega
              have HPK := Lib.hid (fun W => pick_to W y.v 1000 r (by decide) (by decide) hr.symm)
              have HMM : Hid (0 ≤ r ∧ r ≤ 1000000) := Lib.hid (by omega)
              have HHY := Lib.hid (fun W => hashp_to W y HY32.out)
              have HQ32 : Hid (y.hash.length = 32) := Lib.hid (Pr.hash_length HY32.out)
              have HKB : Hid (k'.length ≤ 1000000) := Lib.hid (Nat.le_trans HK.out (by omega))
              obtain ⟨q', hq'⟩ : ∃ q', q' = y.hash := ⟨_, rfl⟩
              rw [← hq'] at HHY HQ32
              clear hq' hr hrr
              go_upto_region 16 with (go_at_call 19; refine (HPK.out _).mono ?_; rintro e w' ⟨rfl, rfl⟩)
              have ld1 := pld_range HY32.out (HRA.out wr HI.out.sst.tl.cl.bel)
              go_upto_region 17 with (first
                | (go_at_call 20; refine (HHY.out _).mono ?_; rintro e w7' ⟨rfl, b7⟩; have I7 := Lib.hid (HI.out.below b7); clear b7)
                | (go_at_call 11; refine (tput_to w7' tb T' ρ' q' r HQ32.out HMM.out I7.out.sst.tl.ct.tt (I7.out.sst.tl.ct.big HKB.out)).mono ?_; rintro e w8' ⟨rfl, p8⟩; obtain ⟨T8, σ8, c8, ps8⟩ := I7.out.put HQ32.out p8; have I8 := Lib.hid c8; have HN8 : Hid (T8.nun σ8 ≤ T'.nun ρ' + 65) := Lib.hid ps8.nun; clear p8 c8 ps8))
              clear ld1 hcell hv1
              have hcell := HCX.out w8' I8.out.sst.tl.cl.bel
              have ld2 := pld_range HY32.out (HRA.out w8' I8.out.sst.tl.cl.bel)
              go_wp2_with (first
                | (go_at_call 20; refine (HHY.out _).mono ?_; rintro e w9' ⟨rfl, b9⟩; have I9 := Lib.hid (I8.out.below b9); clear b9)
                | (go_at_call 21; refine (kput_to w9' w.heap.size kb k' q' r vh' vn' I9.out.sst.kx HQ32.out I9.out.sst.tl.cl.bel.size HKB.out).mono ?_; rintro e w10' ⟨rfl, h10⟩; obtain ⟨vh10, vn10, c10⟩ := I9.out.kput h10; have I10 := Lib.hid c10; clear h10 c10))
              have HNX : Hid (T8.nun σ8 ≤ 65 * (j + 1) ∧ (kput k' q' r).length ≤ 12 * n + (j + 1)) := Lib.hid ⟨Nat.le_trans HN8.out (Nat.add_le_add_right HNU.out 65), Nat.le_trans (kput_length k' q' r) (Nat.succ_le_succ HK.out)⟩
              exact ⟨⟨j + 1, T8, σ8, kput k' q' r, vh10, vn10, hjx, hj12', by go_num, I10, Lib.hid HNX.out.1, Lib.hid HNX.out.2⟩, meas12 hj12'⟩
        case rest =>
          clear HI HK
          obtain ⟨T', ρ', k', vh', vn', HI, HNU, HK⟩ := hcut
          obtain ⟨u, hu⟩ : ∃ u, u = (T'.usn ρ').length := ⟨_, rfl⟩
          have HU : Hid (u ≤ 65 * jj) := Lib.hid (by rw [hu]; exact Nat.le_trans (usn_nun T') HNU.out)
          have HUM := Lib.hid (use_fits hn6 HJJ.out HU.out HOK.out.left)
          have HUU := Lib.hid hu
          have hsv := save_sst m HI.out.sst HOK.out.ok (by rw [← hu]; exact HUM.out.1) (Nat.le_trans HOK.out.top (by decide))
          unfold SvPost at hsv
          rw [← hu] at hsv
          have HSV := Lib.hid hsv
          have HCN := Lib.hid (count_dl wc _ d l S s nm R HI.out.sst.tl.cl.dl)
          clear hsv hu
          go_upto_region 19 with (go_at_call 14; refine HCN.out.mono ?_; rintro e w' ⟨rfl, rfl⟩)
          go_upto_region 20 with (go_at_call 10; refine HSV.out.mono ?_; rintro e w7' ⟨S7, s7, R7, σ7, rfl, ⟨sst7, o7⟩, ok7, sp7, _⟩; have I7 := Lib.hid (HI.out.saved sst7 o7 sp7); have OK7 := Lib.hid ok7; have SP7 := Lib.hid sp7; clear sst7 o7 ok7 sp7)
          obtain ⟨rr, hrr⟩ : ∃ rr : Int, rr = ((T'.rec' σ7 : Nat) : Int) := ⟨_, rfl⟩
          rw [← hrr]
          have HRR := Lib.hid hrr
          have HR7 : Hid (R7.length = R.length + u) := Lib.hid (by
            obtain ⟨X, h1, h2⟩ := SP7.out.grow
            have h3 : R7 = R ++ X := h1
            rw [h3, List.length_append, h2])
          have HOKS : Hid (SvOk s7 nm R7 T' σ7 (n + 1) (m - u)) := Lib.hid (HOK.out.next hn6 HUM.out.2 OK7.out (saved_nun SP7.out.sv SP7.out.top) HR7.out)
          have HRS : Hid (R7.length ≤ 4680) := Lib.hid (Nat.le_trans (Nat.le_add_right _ _) HOKS.out.sum)
          have hdf := cnt_diff HR7.out HU.out HRS.out (by rw [HJJ.out]; exact Nat.min_le_right _ _)
          obtain ⟨hdf1, hdf2, hdf3, hdf4, hdf5, hdf6, hdf7⟩ := hdf
          have hmi := min_int x.length
          rw [← HJJ.out] at hmi
          have HC7 := Lib.hid (fun W (hW : w7' = W) => count_dl W _ d l S7 s7 nm R7 (hW ▸ I7.out.sst.tl.cl.dl))
          have HC7b := Lib.hid (count_dl w7'.drew _ d l S7 s7 nm R7 (I7.out.sst.tl.cl.dl.kb (below_drn (m := 1) (Below.refl _ w7'))))
          have hc7 : w7'.drew.cell? (a.add n) = some (.slice q x.length c) := HCX.out w7'.drew (below_drn (m := 1) I7.out.sst.tl.cl.bel)
          obtain ⟨cR, hcR⟩ : ∃ cR : Int, cR = (R.length : Int) := ⟨_, rfl⟩
          obtain ⟨cS, hcS⟩ : ∃ cS : Int, cS = (R7.length : Int) := ⟨_, rfl⟩
          rw [← hcR, ← hcS] at hdf1 hdf2
          rw [← hcS] at HC7 HC7b
          rw [← hcR]
          have HCS := Lib.hid hcS
          clear hrr HSV HCN hcR hcS
          try simp only [List.append]
          refine wp_region_noPanic ?_
          refine wp_region_held_drew (S := (fun W => W.cell? (a.add n) = some (.slice q x.length c))) (by kernel_rfl) hc7 (fun hHeld => ?_)
          refine wpAnyH_take (i := 0) (v := ?_) (by simp only [List.getElem?_toArray, List.getElem?_cons_zero]; rfl) (by kernel_rfl) (by kernel_rfl) (by kernel_rfl) (fun _ _ _ h => h) (Or.inl ⟨by rfl, ?_⟩) (by assumption) ?_
          rotate_left
          · intro w hSw
            try dsimp only at hSw
            go_simp
            try with_reducible rfl
          try simp only [Act.put, List.setIfInBounds_toArray, List.set_cons_zero, List.set_cons_succ]
          refine wpAnyH_take (i := 1) (v := ?_) (by simp only [List.getElem?_toArray, List.getElem?_cons_succ, List.getElem?_cons_zero]; rfl) (by kernel_rfl) (by kernel_rfl) (by kernel_rfl) (fun _ _ _ h => h) (Or.inl ⟨by rfl, ?_⟩) (by assumption) ?_
          rotate_left
          · intro w hSw
            try dsimp only at hSw
            go_simp
            try with_reducible rfl
          try simp only [Act.put, List.setIfInBounds_toArray, List.set_cons_zero, List.set_cons_succ]
          refine wpAnyH_take (i := 2) (v := ?_) (by simp only [List.getElem?_toArray, List.getElem?_cons_succ, List.getElem?_cons_zero]; rfl) (by kernel_rfl) (by kernel_rfl) (by kernel_rfl) (fun _ _ _ h => h) (Or.inl ⟨by rfl, ?_⟩) (by assumption) ?_
          rotate_left
          · intro w hSw
            try dsimp only at hSw
            go_simp
            try with_reducible rfl
          try simp only [Act.put, List.setIfInBounds_toArray, List.set_cons_zero, List.set_cons_succ]
          refine wpAnyH_take (i := 3) (v := ?_) (by simp only [List.getElem?_toArray, List.getElem?_cons_succ, List.getElem?_cons_zero]; rfl) (by kernel_rfl) (by kernel_rfl) (by kernel_rfl) (fun _ _ _ h => h) (Or.inl ⟨by rfl, ?_⟩) (by assumption) ?_
          rotate_left
          · intro w hSw
            try dsimp only at hSw
            go_simp
            try with_reducible rfl
          try simp only [Act.put, List.setIfInBounds_toArray, List.set_cons_zero, List.set_cons_succ]
          refine wpAnyH_take (i := 5) (v := ?_) (by simp only [List.getElem?_toArray, List.getElem?_cons_succ, List.getElem?_cons_zero]; rfl) (by kernel_rfl) (by kernel_rfl) (by kernel_rfl) (fun _ _ _ h => h) (Or.inl ⟨by rfl, ?_⟩) (by assumption) ?_
          rotate_left
          · intro w hSw
            try dsimp only at hSw
            go_simp
            try with_reducible rfl
          try simp only [Act.put, List.setIfInBounds_toArray, List.set_cons_zero, List.set_cons_succ]
          refine wpAnyH_take (i := 7) (v := ?_) (by simp only [List.getElem?_toArray, List.getElem?_cons_succ, List.getElem?_cons_zero]; rfl) (by kernel_rfl) (by kernel_rfl) (by kernel_rfl) (fun _ _ _ h => h) (Or.inl ⟨by rfl, ?_⟩) (by assumption) ?_
          rotate_left
          · intro w hSw
            try dsimp only at hSw
            go_simp
            try with_reducible rfl
          try simp only [Act.put, List.setIfInBounds_toArray, List.set_cons_zero, List.set_cons_succ]
          refine wpAnyH_take (i := 8) (v := ?_) (by simp only [List.getElem?_toArray, List.getElem?_cons_succ, List.getElem?_cons_zero]; rfl) (by kernel_rfl) (by kernel_rfl) (by kernel_rfl) (fun _ _ _ h => h) (Or.inl ⟨by rfl, ?_⟩) (by assumption) ?_
          rotate_left
          · intro w hSw
            try dsimp only at hSw
            go_simp
            try with_reducible rfl
          try simp only [Act.put, List.setIfInBounds_toArray, List.set_cons_zero, List.set_cons_succ]
          refine wpAnyH_take (i := 9) (v := ?_) (by simp only [List.getElem?_toArray, List.getElem?_cons_succ, List.getElem?_cons_zero]; rfl) (by kernel_rfl) (by kernel_rfl) (by kernel_rfl) (fun _ _ _ h => h) (Or.inl ⟨by rfl, ?_⟩) (by assumption) ?_
          rotate_left
          · intro w hSw
            try dsimp only at hSw
            go_simp
            try with_reducible rfl
          try simp only [Act.put, List.setIfInBounds_toArray, List.set_cons_zero, List.set_cons_succ]
          refine wpAnyH_take (i := 10) (v := ?_) (by simp only [List.getElem?_toArray, List.getElem?_cons_succ, List.getElem?_cons_zero]; rfl) (by kernel_rfl) (by kernel_rfl) (by kernel_rfl) (fun _ _ _ h => h) (Or.inl ⟨by rfl, ?_⟩) (by assumption) ?_
          rotate_left
          · intro w hSw
            try dsimp only at hSw
            go_simp
            try with_reducible rfl
          try simp only [Act.put, List.setIfInBounds_toArray, List.set_cons_zero, List.set_cons_succ]
          refine wpAnyH_take (i := 11) (v := ?_) (by simp only [List.getElem?_toArray, List.getElem?_cons_succ, List.getElem?_cons_zero]; rfl) (by kernel_rfl) (by kernel_rfl) (by kernel_rfl) (fun _ _ _ h => h) (Or.inl ⟨by rfl, ?_⟩) (by assumption) ?_
          rotate_left
          · intro w hSw
            try dsimp only at hSw
            go_simp
            try with_reducible rfl
          try simp only [Act.put, List.setIfInBounds_toArray, List.set_cons_zero, List.set_cons_succ]
          refine wpAnyH_take (i := 12) (v := (.int .i64 jj)) (by simp only [List.getElem?_toArray, List.getElem?_cons_succ, List.getElem?_cons_zero]; rfl) (by kernel_rfl) (by kernel_rfl) (by kernel_rfl) (fun _ _ _ h => h) (Or.inl ⟨by rfl, ?_⟩) (by assumption) ?_
          · intro w hSw
            try dsimp only at hSw
            go_simp
          try simp only [Act.put, List.setIfInBounds_toArray, List.set_cons_zero, List.set_cons_succ]
          refine wpAnyH_take (i := 13) (v := ?_) (by simp only [List.getElem?_toArray, List.getElem?_cons_succ, List.getElem?_cons_zero]; rfl) (by kernel_rfl) (by kernel_rfl) (by kernel_rfl) (fun _ _ _ h => h) (Or.inl ⟨by rfl, ?_⟩) (by assumption) ?_
          rotate_left
          · intro w hSw
            try dsimp only at hSw
            go_simp
            try with_reducible rfl
          try simp only [Act.put, List.setIfInBounds_toArray, List.set_cons_zero, List.set_cons_succ]
          refine wpAnyH_ready (rs := [4]) (by kernel_rfl) (by simp) ?_
          refine AllReadyH.cons (by simp only [List.getElem?_toArray, List.getElem?_cons_succ, List.getElem?_cons_zero]; rfl) (fun K hK => ?_) AllReadyH.nil
          go_simp
          refine HC7b.out.mono ?_
          rintro e w' ⟨rfl, rfl⟩
          go_wp2_with fail
          refine hK.out _ _ hc7 (fun hHeld => ?_)
          clear hK K
          try simp only [Act.put, List.setIfInBounds_toArray, List.set_cons_zero, List.set_cons_succ]
          refine wpAnyH_take (i := 6) (v := ?_) (by simp only [List.getElem?_toArray, List.getElem?_cons_succ, List.getElem?_cons_zero]; rfl) (by kernel_rfl) (by kernel_rfl) (by kernel_rfl) (fun _ _ _ h => h) (Or.inl ⟨by rfl, ?_⟩) (by assumption) ?_
          rotate_left
          · intro w hSw
            try dsimp only at hSw
            go_simp
            try with_reducible rfl
          try simp only [Act.put, List.setIfInBounds_toArray, List.set_cons_zero, List.set_cons_succ]
          refine wpAnyH_take (i := 14) (v := ?_) (by simp only [List.getElem?_toArray, List.getElem?_cons_succ, List.getElem?_cons_zero]; rfl) (by kernel_rfl) (by kernel_rfl) (by kernel_rfl) (fun _ _ _ h => h) (Or.inl ⟨by rfl, ?_⟩) (by assumption) ?_
          rotate_left
          · intro w hSw
            try dsimp only at hSw
            go_simp
            try with_reducible rfl
          try simp only [Act.put, List.setIfInBounds_toArray, List.set_cons_zero, List.set_cons_succ]
          refine wpAnyH_take (i := 15) (v := ?_) (by simp only [List.getElem?_toArray, List.getElem?_cons_succ, List.getElem?_cons_zero]; rfl) (by kernel_rfl) (by kernel_rfl) (by kernel_rfl) (fun _ _ _ h => h) (Or.inl ⟨by rfl, ?_⟩) (by assumption) ?_
          rotate_left
          · intro w hSw
            try dsimp only at hSw
            go_simp
            try with_reducible rfl
          try simp only [Act.put, List.setIfInBounds_toArray, List.set_cons_zero, List.set_cons_succ]
          refine wpAnyH_done (by kernel_rfl) ?_ _
          refine NoPanic.normal ?_
          have I8 := Lib.hid (I7.out.below (below_drn (m := 1) (Below.refl _ w7')))
          have HUZ : Hid (T'.usn σ7 = []) := Lib.hid (saved_usn SP7.out.top)
          have HTOP := Lib.hid SP7.out.top
          rw [show w7'.drewN 1 = w7'.drew from rfl] at I8
          generalize w7'.drew = w8' at *
          have hsv := save_sst (m - u) I8.out.sst HOKS.out.ok (by rw [HUZ.out]; exact Nat.zero_le _) (Nat.le_trans HOKS.out.top (by decide))
          have HSV := Lib.hid hsv
          clear hsv hc7 hmi HC7 SP7 OK7 I7 HI
          go_upto_region 22 with fail
          clear hdf1 hdf2 hdf3 hdf4 hdf5 hdf6 hdf7
          go_upto_region 23 with (go_at_call 14; refine HC7b.out.mono ?_; rintro e w' ⟨rfl, rfl⟩)
          go_wp2_with fail
          refine HSV.out.mono ?_
          rintro e w9' ⟨S9, s9, R9, σ9, rfl, ⟨sst9, o9⟩, ok9, sp9, hz9⟩
          rw [HUZ.out] at hz9 sp9 ok9
          obtain ⟨rfl, rfl⟩ : σ9 = σ7 ∧ R9 = R7 := by simpa [savs] using hz9
          have I9 := Lib.hid (I8.out.saved sst9 o9 sp9)
          have OK9 := Lib.hid ok9
          clear sst9 o9 ok9 sp9 hz9
          rw [← HRR.out]
          have HOK9 : Hid (SvOk s9 nm R9 T' σ9 (n + 1) (m - u)) := Lib.hid ⟨OK9.out, HOKS.out.nun, HOKS.out.left, HOKS.out.top, HOKS.out.sum⟩
          have hcn := count_dl w9' _ d l S9 s9 nm R9 I9.out.sst.tl.cl.dl
          rw [← HCS.out] at hcn
          have HC9 := Lib.hid hcn
          have HZL : Hid ((Z.map Zr.rt).length = n) := Lib.hid (by rw [List.length_map]; exact HZ.out)
          have HZB : Hid ((Z.map Zr.kb).length = n) := Lib.hid (by rw [List.length_map]; exact HZ.out)
          have OWN : Hid (w9'.ownsRow w.heap.size 3 1 (.slice pr n cr) n (nvl (Z.map Zr.rt))) := Lib.hid (by have := I9.out.rrow; unfold NOwn at this; rwa [HZL.out] at this)
          have HFT : Hid (n + 1 ≤ maxLen ∧ (n + 1) * 8 ≤ 140737488355328) := Lib.hid (row_fits hn6)
          have HBS : Hid (w.heap.size ≤ w9'.heap.size) := Lib.hid I9.out.sst.tl.cl.bel.size
          obtain ⟨j0, hj0, hy0, hy1, hy2⟩ := info_parts ninfo9
          clear HSV HC7b I8 HOKS hcn OK9
          go_upto_region 27 with (first
            | (go_at_call 14; refine HC9.out.mono ?_; rintro e w' ⟨rfl, rfl⟩)
            | (at_builtin; refine wpList_append_lies _ (by rfl) (.tmp 147) (.tmp 149) _ (by rfl) w.heap.size 3 j0 _ 1 8 Tryz.underlying49 hj0 hy0 hy1 hy2 rfl (by decide) (.slice pr n cr) n _ (by rfl) (OWN.out.alloc _) ⟨w9'.heap.size, 0, none⟩ 1 1 [.int .i64 rr] (by rfl) (by rfl) (World.news_of_block (cs := #[.int .i64 rr]) (t := 3) (fr := (0, 0)) (heap_alloc_new w9' _)) (by simp [Value.oneCell']) (by decide) HFT.out.1 HFT.out.2 (Nat.le_trans HBS.out (by simp)) (w9'.heap.size + 1) (by simp) ?_; intro gr capr w10' own10 grow10 at10 lt10; have O10 := Lib.hid own10; have G10 : Hid (Only (fun j => (Value.slice pr n cr).ownBlock = some j) w9' w10') := Lib.hid (((Only.refl _ w9').alloc _).grown grow10 (fun k _ e => e)); have AT10 := Lib.hid at10; clear own10 grow10 at10 lt10))
          have I10 : Hid (SvI w w10' Bd d l S9 s9 nm R9 tb T' σ9 k' kb vh' vn' k' Z (.slice (some ⟨gr, 0, none⟩) (n + 1) capr) (Z.map Zr.rt ++ [rr]) (.slice pw n cw) (Z.map Zr.kb)) := Lib.hid (I9.out.root G10.out (by
            have h1 := O10.out
            unfold NOwn
            rw [List.length_append, HZL.out, nvl, List.map_append]
            exact h1) (fun j hj => by
              have hj' : gr = j := by simpa [Value.ownBlock] using hj
              subst hj'
              exact AT10.out.imp id (fun e => by rw [e]; exact Nat.le_succ _)))
          have HW9 : Hid (Was T' σ9 R9 k') := Lib.hid (I10.out.sst.tl.was HTOP.out)
          clear HC9 OWN HBS O10 G10 AT10 I9
          obtain ⟨nk, hnk⟩ : ∃ nk, nk = k'.length := ⟨_, rfl⟩
          obtain ⟨ph, ch, hvh⟩ := own_shape I10.out.sst.kx.hs
          obtain ⟨pn, cn, hvn⟩ := nown_shape I10.out.sst.kx.ns
          rw [keys_length, ← hnk] at hvh
          rw [nums_length, ← hnk] at hvn
          subst hvh hvn
          have KH : Hid (w10'.ownsRow w.heap.size 36 32 (.slice ph nk ch) nk (fl (keys k'))) := Lib.hid (by have := I10.out.sst.kx.hs; unfold HOwn at this; rwa [keys_length, ← hnk] at this)
          have KN : Hid (w10'.ownsRow w.heap.size 3 1 (.slice pn nk cn) nk (nvl (nums k'))) := Lib.hid (by have := I10.out.sst.kx.ns; unfold NOwn at this; rwa [nums_length, ← hnk] at this)
          have HKX := Lib.hid (fun W (hW : Below w10'.heap.size w10' W) => And.intro (I10.out.sst.kx.below hW).c0 (I10.out.sst.kx.below hW).c1)
          have HNK : Hid (nk ≤ maxLen ∧ nk * 32 ≤ 140737488355328 ∧ nk * 8 ≤ 140737488355328) := Lib.hid (kx_fits (by rw [hnk]; exact HK.out) hn6)
          have HNKE := Lib.hid hnk
          obtain ⟨i1, hi1, hx0, hx1, hx2⟩ := info_parts hzinfo
          obtain ⟨i2, hi2, hu0, hu1, hu2⟩ := info_parts kpinfo
          have BW : Hid (Below w10'.heap.size w10' w10'.drew) := Lib.hid (below_drn (m := 1) (Below.refl _ w10'))
          clear hnk
          go_cut [11] from 151 to 167 (fun vw wx => ∃ (gw capw : Nat) (Z' : List Zr), vw = .slice (some ⟨gw, 0, none⟩) (n + 1) capw ∧ Hid (SvI w wx Bd d l S9 s9 nm R9 tb T' σ9 k' kb (.slice ph nk ch) (.slice pn nk cn) k' Z' (.slice (some ⟨gr, 0, none⟩) (n + 1) capr) (Z'.map Zr.rt) (.slice (some ⟨gw, 0, none⟩) (n + 1) capw) (Z'.map Zr.kb)) ∧ Hid (Z'.length = n + 1) ∧ Hid (∀ z ∈ Z', z.k.length ≤ 72))
          case first =>
            try simp only [List.append]
            refine wp_region_noPanic ?_
            refine wp_region_held_drew (S := (fun W => W.cell? ⟨kb, 0, none⟩ = some (.slice ph nk ch) ∧ W.cell? ⟨kb, 1, none⟩ = some (.slice pn nk cn))) (by kernel_rfl) (HKX.out _ BW.out) (fun hHeld => ?_)
            refine wpAnyH_take (i := 0) (v := ?_) (by simp only [List.getElem?_toArray, List.getElem?_cons_zero]; rfl) (by kernel_rfl) (by kernel_rfl) (by kernel_rfl) (fun _ _ _ h => h) (Or.inl ⟨by rfl, ?_⟩) (by assumption) ?_
            rotate_left
            · intro w hSw
              try dsimp only at hSw
              go_simp
              try with_reducible rfl
            try simp only [Act.put, List.setIfInBounds_toArray, List.set_cons_zero, List.set_cons_succ]
            refine wpAnyH_take (i := 2) (v := ?_) (by simp only [List.getElem?_toArray, List.getElem?_cons_succ, List.getElem?_cons_zero]; rfl) (by kernel_rfl) (by kernel_rfl) (by kernel_rfl) (fun _ _ _ h => h) (Or.inl ⟨by rfl, ?_⟩) (by assumption) ?_
            rotate_left
            · intro w hSw
              try dsimp only at hSw
              go_simp
              try with_reducible rfl
            try simp only [Act.put, List.setIfInBounds_toArray, List.set_cons_zero, List.set_cons_succ]
            refine wpAnyH_take (i := 3) (v := ?_) (by simp only [List.getElem?_toArray, List.getElem?_cons_succ, List.getElem?_cons_zero]; rfl) (by kernel_rfl) (by kernel_rfl) (by kernel_rfl) (fun _ _ _ h => h) (Or.inl ⟨by rfl, ?_⟩) (by assumption) ?_
            rotate_left
            · intro w hSw
              try dsimp only at hSw
              go_simp
              try with_reducible rfl
            try simp only [Act.put, List.setIfInBounds_toArray, List.set_cons_zero, List.set_cons_succ]
            refine wpAnyH_take (i := 4) (v := ?_) (by simp only [List.getElem?_toArray, List.getElem?_cons_succ, List.getElem?_cons_zero]; rfl) (by kernel_rfl) (by kernel_rfl) (by kernel_rfl) (fun _ _ _ h => h) (Or.inl ⟨by rfl, ?_⟩) (by assumption) ?_
            rotate_left
            · intro w hSw
              try dsimp only at hSw
              go_simp
              try with_reducible rfl
            try simp only [Act.put, List.setIfInBounds_toArray, List.set_cons_zero, List.set_cons_succ]
            refine wpAnyH_take (i := 5) (v := ?_) (by simp only [List.getElem?_toArray, List.getElem?_cons_succ, List.getElem?_cons_zero]; rfl) (by kernel_rfl) (by kernel_rfl) (by kernel_rfl) (fun _ _ _ h => h) (Or.inl ⟨by rfl, ?_⟩) (by assumption) ?_
            rotate_left
            · intro w hSw
              try dsimp only at hSw
              go_simp
              try with_reducible rfl
            try simp only [Act.put, List.setIfInBounds_toArray, List.set_cons_zero, List.set_cons_succ]
            refine wpAnyH_take (i := 8) (v := ?_) (by simp only [List.getElem?_toArray, List.getElem?_cons_succ, List.getElem?_cons_zero]; rfl) (by kernel_rfl) (by kernel_rfl) (by kernel_rfl) (fun _ _ _ h => h) (Or.inl ⟨by rfl, ?_⟩) (by assumption) ?_
            rotate_left
            · intro w hSw
              try dsimp only at hSw
              go_simp
              try with_reducible rfl
            try simp only [Act.put, List.setIfInBounds_toArray, List.set_cons_zero, List.set_cons_succ]
            refine wpAnyH_take (i := 9) (v := ?_) (by simp only [List.getElem?_toArray, List.getElem?_cons_succ, List.getElem?_cons_zero]; rfl) (by kernel_rfl) (by kernel_rfl) (by kernel_rfl) (fun _ _ _ h => h) (Or.inl ⟨by rfl, ?_⟩) (by assumption) ?_
            rotate_left
            · intro w hSw
              try dsimp only at hSw
              go_simp
              try with_reducible rfl
            try simp only [Act.put, List.setIfInBounds_toArray, List.set_cons_zero, List.set_cons_succ]
            refine wpAnyH_take (i := 10) (v := ?_) (by simp only [List.getElem?_toArray, List.getElem?_cons_succ, List.getElem?_cons_zero]; rfl) (by kernel_rfl) (by kernel_rfl) (by kernel_rfl) (fun _ _ _ h => h) (Or.inl ⟨by rfl, ?_⟩) (by assumption) ?_
            rotate_left
            · intro w hSw
              try dsimp only at hSw
              go_simp
              try with_reducible rfl
            try simp only [Act.put, List.setIfInBounds_toArray, List.set_cons_zero, List.set_cons_succ]
            refine wpAnyH_take (i := 11) (v := ?_) (by simp only [List.getElem?_toArray, List.getElem?_cons_succ, List.getElem?_cons_zero]; rfl) (by kernel_rfl) (by kernel_rfl) (by kernel_rfl) (fun _ _ _ h => h) (Or.inl ⟨by rfl, ?_⟩) (by assumption) ?_
            rotate_left
            · intro w hSw
              try dsimp only at hSw
              go_simp
              try with_reducible rfl
            try simp only [Act.put, List.setIfInBounds_toArray, List.set_cons_zero, List.set_cons_succ]
            refine wpAnyH_ready (rs := [1, 7]) (by kernel_rfl) (by simp) ?_
            refine (AllReadyH.cons (by simp only [List.getElem?_toArray, List.getElem?_cons_succ, List.getElem?_cons_zero]; rfl) (fun K hK => ?_) (AllReadyH.cons (by simp only [List.getElem?_toArray, List.getElem?_cons_succ, List.getElem?_cons_zero]; rfl) (fun K hK => ?_) AllReadyH.nil))
            · refine step_empty9 (B := w10'.heap.size) BW.out.size (by rfl) (by rfl) Tryz.underlying46 hi1 ?_
              intro z1 Wc bN e1
              have E1 := Lib.hid e1
              try (have E7 := Lib.hid (E7.out.kb bN))
              have BW := Lib.hid (BW.out.trans (bN.mono BW.out.size))
              clear bN e1
              refine hK.out _ _ (HKX.out _ BW.out) (fun hHeld => ?_)
              clear hK K
              try simp only [Act.put, List.setIfInBounds_toArray, List.set_cons_zero, List.set_cons_succ]
              refine wpAnyH_ready (rs := [6, 7]) (by kernel_rfl) (by simp) ?_
              refine (AllReadyH.cons (by simp only [List.getElem?_toArray, List.getElem?_cons_succ, List.getElem?_cons_zero]; rfl) (fun K hK => ?_) (AllReadyH.cons (by simp only [List.getElem?_toArray, List.getElem?_cons_succ, List.getElem?_cons_zero]; rfl) (fun K hK => ?_) AllReadyH.nil))
              · refine step_copy9 (B := w10'.heap.size) BW.out.size (by rfl) (.tmp 152) (.tmp 156) (by rfl) Tryz.underlying46 hi1 hx0 hx1 hx2 rfl (by decide) E1.out (by rfl) (by rfl) (own_kb KH.out BW.out) (fun u hu => fl_cell hu) HNK.out.1 HNK.out.2.1 ?_
                intro g6 cap6 Wc own6 o6
                have O6 := Lib.hid own6
                try (have E7 := Lib.hid (E1.out.other E7.out (by decide) o6))
                have BW := Lib.hid (E1.out.below BW.out BW.out.size o6)
                clear own6 o6
                refine hK.out _ _ (HKX.out _ BW.out) (fun hHeld => ?_)
                clear hK K
                try simp only [Act.put, List.setIfInBounds_toArray, List.set_cons_zero, List.set_cons_succ]
                refine wpAnyH_ready (rs := [7]) (by kernel_rfl) (by simp) ?_
                refine (AllReadyH.cons (by simp only [List.getElem?_toArray, List.getElem?_cons_succ, List.getElem?_cons_zero]; rfl) (fun K hK => ?_) AllReadyH.nil)
                refine step_empty9 (B := w10'.heap.size) BW.out.size (by rfl) (by rfl) Tryz.underlying49 hj0 ?_
                intro z7 Wc bN e1
                have E7 := Lib.hid e1
                try (have E1 := Lib.hid (E1.out.kb bN))
                try (have O6 := Lib.hid (own_kb O6.out bN))
                have BW := Lib.hid (BW.out.trans (bN.mono BW.out.size))
                clear bN e1
                refine hK.out _ _ (HKX.out _ BW.out) (fun hHeld => ?_)
                clear hK K
                try simp only [Act.put, List.setIfInBounds_toArray, List.set_cons_zero, List.set_cons_succ]
                refine wpAnyH_ready (rs := [12]) (by kernel_rfl) (by simp) ?_
                refine (AllReadyH.cons (by simp only [List.getElem?_toArray, List.getElem?_cons_succ, List.getElem?_cons_zero]; rfl) (fun K hK => ?_) AllReadyH.nil)
                refine step_copy9 (B := w10'.heap.size) BW.out.size (by rfl) (.tmp 158) (.tmp 162) (by rfl) Tryz.underlying49 hj0 hy0 hy1 hy2 rfl (by decide) E7.out (by rfl) (by rfl) (own_kb KN.out BW.out) (fun u hu => nvl_cell hu) HNK.out.1 HNK.out.2.2 ?_
                intro g12 cap12 Wc own12 o12
                have O12 := Lib.hid own12
                have O6 := Lib.hid (E7.out.row O6.out (by decide) o12)
                have BW := Lib.hid (E7.out.below BW.out BW.out.size o12)
                clear own12 o12
                refine hK.out _ _ (HKX.out _ BW.out) (fun hHeld => ?_)
                clear hK K
                try simp only [Act.put, List.setIfInBounds_toArray, List.set_cons_zero, List.set_cons_succ]
                refine wpAnyH_take (i := 13) (v := ?_) (by simp only [List.getElem?_toArray, List.getElem?_cons_succ, List.getElem?_cons_zero]; rfl) (by kernel_rfl) (by kernel_rfl) (by kernel_rfl) (fun _ _ _ h => h) (Or.inl ⟨by rfl, ?_⟩) (by assumption) ?_
                rotate_left
                · intro w hSw
                  try dsimp only at hSw
                  go_simp
                  try with_reducible rfl
                try simp only [Act.put, List.setIfInBounds_toArray, List.set_cons_zero, List.set_cons_succ]
                refine wpAnyH_ready (rs := [14]) (by kernel_rfl) (by simp) ?_
                refine (AllReadyH.cons (by simp only [List.getElem?_toArray, List.getElem?_cons_succ, List.getElem?_cons_zero]; rfl) (fun K hK => ?_) AllReadyH.nil)
                refine step_box9 (cs := #[.slice (some ⟨g6, 0, none⟩) nk cap6, .slice (some ⟨g12, 0, none⟩) nk cap12]) (by rfl) (by rfl) (by rfl) ?_
                intro zk Wc bN hkc hkg
                have HKB := Lib.hid (And.intro hkc (Nat.le_trans BW.out.size hkg))
                have O6 := Lib.hid (own_kb O6.out bN)
                have O12 := Lib.hid (own_kb O12.out bN)
                have BW := Lib.hid (BW.out.trans (bN.mono BW.out.size))
                clear bN hkc hkg
                refine hK.out _ _ (HKX.out _ BW.out) (fun hHeld => ?_)
                clear hK K
                try simp only [Act.put, List.setIfInBounds_toArray, List.set_cons_zero, List.set_cons_succ]
                refine wpAnyH_ready (rs := [15]) (by kernel_rfl) (by simp) ?_
                refine (AllReadyH.cons (by simp only [List.getElem?_toArray, List.getElem?_cons_succ, List.getElem?_cons_zero]; rfl) (fun K hK => ?_) AllReadyH.nil)
                refine step_ptr9 (b := zk) (by rfl) (by rfl) (by simp [Act.eval]) ?_
                intro zp Wc bN hpc hpl
                have HPC := Lib.hid (And.intro hpc hpl)
                have HKB := Lib.hid (And.intro ((bN.block zk (Array.getElem?_eq_some_iff.1 HKB.out.1).1).trans HKB.out.1) HKB.out.2)
                have O6 := Lib.hid (own_kb O6.out bN)
                have O12 := Lib.hid (own_kb O12.out bN)
                have BW := Lib.hid (BW.out.trans (bN.mono BW.out.size))
                clear bN hpc hpl
                refine hK.out _ _ (HKX.out _ BW.out) (fun hHeld => ?_)
                clear hK K
                try simp only [Act.put, List.setIfInBounds_toArray, List.set_cons_zero, List.set_cons_succ]
                refine wpAnyH_ready (rs := [16]) (by kernel_rfl) (by simp) ?_
                refine (AllReadyH.cons (by simp only [List.getElem?_toArray, List.getElem?_cons_succ, List.getElem?_cons_zero]; rfl) (fun K hK => ?_) AllReadyH.nil)
                have WRO : Hid (Wc.ownsRow w.heap.size 50 1 (.slice pw n cw) n ((Z.map Zr.kb).map fun b => Value.pointer (some ⟨b, 0, none⟩))) := Lib.hid (by have := (I10.out.below BW.out).wrow; rwa [HZB.out] at this)
                have HBS : Hid (w.heap.size ≤ Wc.heap.size) := Lib.hid (Nat.le_trans I10.out.sst.tl.cl.bel.size BW.out.size)
                have KXN : Hid (KX Wc w10'.heap.size zk (.slice (some ⟨g6, 0, none⟩) nk cap6) (.slice (some ⟨g12, 0, none⟩) nk cap12) (keys k') (nums k')) := Lib.hid ⟨HKB.out.1, (by unfold HOwn; rw [keys_length, ← HNKE.out]; exact O6.out), (by unfold NOwn; rw [nums_length, ← HNKE.out]; exact O12.out), I10.out.sst.kx.h32, HKB.out.2⟩
                refine step_append_lies _ (by rfl) (.tmp 151) (.tmp 166) _ (by rfl) w.heap.size 50 i2 _ 1 8 Tryz.underlying53 hi2 hu0 hu1 hu2 rfl (by decide) (.slice pw n cw) n _ (by rfl) WRO.out ⟨zp, 0, none⟩ 1 1 [.pointer (some ⟨zk, 0, none⟩)] (by rfl) (by rfl) (World.news_of_block (cs := #[.pointer (some ⟨zk, 0, none⟩)]) (t := 50) (fr := (0, 0)) HPC.out.1) (by simp [Value.oneCell']) (by decide) HFT.out.1 HFT.out.2 HBS.out Wc.heap.size rfl ?_
                intro gw capw Wd own16 grow16 _ _
                have G16 : Hid (Only (fun j => (Value.slice pw n cw).ownBlock = some j) Wc Wd) := Lib.hid ((Only.refl _ Wc).grown grow16 (fun k _ e => e))
                have I11 := Lib.hid (I10.out.copy (z := ⟨T', σ9, k', zk, .slice (some ⟨g6, 0, none⟩) nk cap6, .slice (some ⟨g12, 0, none⟩) nk cap12⟩) (wv' := .slice (some ⟨gw, 0, none⟩) (n + 1) capw) BW.out KXN.out HW9.out G16.out (by
                  rw [List.length_append, HZB.out, List.map_append]
                  exact own16))
                clear own16 grow16
                refine hK.out _ _ ⟨I11.out.sst.kx.c0, I11.out.sst.kx.c1⟩ (fun hHeld => ?_)
                clear hK K
                try simp only [Act.put, List.setIfInBounds_toArray, List.set_cons_zero, List.set_cons_succ]
                refine wpAnyH_take (i := 17) (v := ?_) (by simp only [List.getElem?_toArray, List.getElem?_cons_succ, List.getElem?_cons_zero]; rfl) (by kernel_rfl) (by kernel_rfl) (by kernel_rfl) (fun _ _ _ h => h) (Or.inl ⟨by rfl, ?_⟩) (by assumption) ?_
                rotate_left
                · intro w hSw
                  try dsimp only at hSw
                  go_simp
                  try with_reducible rfl
                try simp only [Act.put, List.setIfInBounds_toArray, List.set_cons_zero, List.set_cons_succ]
                refine wpAnyH_done (by kernel_rfl) ?_ _
                refine NoPanic.normal ?_
                have HFIN : Hid (∃ (gw' capw' : Nat) (Z' : List Zr), Value.slice (some ⟨gw, 0, none⟩) (n + 1) capw = .slice (some ⟨gw', 0, none⟩) (n + 1) capw' ∧ Hid (SvI w Wd Bd d l S9 s9 nm R9 tb T' σ9 k' kb (.slice ph nk ch) (.slice pn nk cn) k' Z' (.slice (some ⟨gr, 0, none⟩) (n + 1) capr) (Z'.map Zr.rt) (.slice (some ⟨gw', 0, none⟩) (n + 1) capw') (Z'.map Zr.kb)) ∧ Hid (Z'.length = n + 1) ∧ Hid (∀ z ∈ Z', z.k.length ≤ 72)) := Lib.hid ⟨gw, capw, Z ++ [⟨T', σ9, k', zk, .slice (some ⟨g6, 0, none⟩) nk cap6, .slice (some ⟨g12, 0, none⟩) nk cap12⟩], rfl, Lib.hid (by
                  have h1 := I11.out
                  rw [HRR.out] at h1
                  rw [List.map_append, List.map_append]
                  exact h1), Lib.hid (by rw [List.length_append, HZ.out]; rfl), Lib.hid (fun z hz => by
                    rcases List.mem_append.1 hz with hz | hz
                    · exact HZK.out z hz
                    · rw [List.mem_singleton.1 hz]
                      exact Nat.le_trans HK.out (k_fits hn6))⟩
                clear I11 G16 KXN WRO HBS HPC HKB O12 O6 BW E1 E7
                go_wp2_with fail
                go_meet
                case rel => exact HFIN.out
              · refine step_empty9 (B := w10'.heap.size) BW.out.size (by rfl) (by rfl) Tryz.underlying49 hj0 ?_
                intro z7 Wc bN e1
                have E7 := Lib.hid e1
                try (have E1 := Lib.hid (E1.out.kb bN))
                try (have O6 := Lib.hid (own_kb O6.out bN))
                have BW := Lib.hid (BW.out.trans (bN.mono BW.out.size))
                clear bN e1
                refine hK.out _ _ (HKX.out _ BW.out) (fun hHeld => ?_)
                clear hK K
                try simp only [Act.put, List.setIfInBounds_toArray, List.set_cons_zero, List.set_cons_succ]
                refine wpAnyH_ready (rs := [6]) (by kernel_rfl) (by simp) ?_
                refine (AllReadyH.cons (by simp only [List.getElem?_toArray, List.getElem?_cons_succ, List.getElem?_cons_zero]; rfl) (fun K hK => ?_) AllReadyH.nil)
                refine step_copy9 (B := w10'.heap.size) BW.out.size (by rfl) (.tmp 152) (.tmp 156) (by rfl) Tryz.underlying46 hi1 hx0 hx1 hx2 rfl (by decide) E1.out (by rfl) (by rfl) (own_kb KH.out BW.out) (fun u hu => fl_cell hu) HNK.out.1 HNK.out.2.1 ?_
                intro g6 cap6 Wc own6 o6
                have O6 := Lib.hid own6
                try (have E7 := Lib.hid (E1.out.other E7.out (by decide) o6))
                have BW := Lib.hid (E1.out.below BW.out BW.out.size o6)
                clear own6 o6
                refine hK.out _ _ (HKX.out _ BW.out) (fun hHeld => ?_)
                clear hK K
                try simp only [Act.put, List.setIfInBounds_toArray, List.set_cons_zero, List.set_cons_succ]
                refine wpAnyH_ready (rs := [12]) (by kernel_rfl) (by simp) ?_
                refine (AllReadyH.cons (by simp only [List.getElem?_toArray, List.getElem?_cons_succ, List.getElem?_cons_zero]; rfl) (fun K hK => ?_) AllReadyH.nil)
                refine step_copy9 (B := w10'.heap.size) BW.out.size (by rfl) (.tmp 158) (.tmp 162) (by rfl) Tryz.underlying49 hj0 hy0 hy1 hy2 rfl (by decide) E7.out (by rfl) (by rfl) (own_kb KN.out BW.out) (fun u hu => nvl_cell hu) HNK.out.1 HNK.out.2.2 ?_
                intro g12 cap12 Wc own12 o12
                have O12 := Lib.hid own12
                have O6 := Lib.hid (E7.out.row O6.out (by decide) o12)
                have BW := Lib.hid (E7.out.below BW.out BW.out.size o12)
                clear own12 o12
                refine hK.out _ _ (HKX.out _ BW.out) (fun hHeld => ?_)
                clear hK K
                try simp only [Act.put, List.setIfInBounds_toArray, List.set_cons_zero, List.set_cons_succ]
                refine wpAnyH_take (i := 13) (v := ?_) (by simp only [List.getElem?_toArray, List.getElem?_cons_succ, List.getElem?_cons_zero]; rfl) (by kernel_rfl) (by kernel_rfl) (by kernel_rfl) (fun _ _ _ h => h) (Or.inl ⟨by rfl, ?_⟩) (by assumption) ?_
                rotate_left
                · intro w hSw
                  try dsimp only at hSw
                  go_simp
                  try with_reducible rfl
                try simp only [Act.put, List.setIfInBounds_toArray, List.set_cons_zero, List.set_cons_succ]
                refine wpAnyH_ready (rs := [14]) (by kernel_rfl) (by simp) ?_
                refine (AllReadyH.cons (by simp only [List.getElem?_toArray, List.getElem?_cons_succ, List.getElem?_cons_zero]; rfl) (fun K hK => ?_) AllReadyH.nil)
                refine step_box9 (cs := #[.slice (some ⟨g6, 0, none⟩) nk cap6, .slice (some ⟨g12, 0, none⟩) nk cap12]) (by rfl) (by rfl) (by rfl) ?_
                intro zk Wc bN hkc hkg
                have HKB := Lib.hid (And.intro hkc (Nat.le_trans BW.out.size hkg))
                have O6 := Lib.hid (own_kb O6.out bN)
                have O12 := Lib.hid (own_kb O12.out bN)
                have BW := Lib.hid (BW.out.trans (bN.mono BW.out.size))
                clear bN hkc hkg
                refine hK.out _ _ (HKX.out _ BW.out) (fun hHeld => ?_)
                clear hK K
                try simp only [Act.put, List.setIfInBounds_toArray, List.set_cons_zero, List.set_cons_succ]
                refine wpAnyH_ready (rs := [15]) (by kernel_rfl) (by simp) ?_
                refine (AllReadyH.cons (by simp only [List.getElem?_toArray, List.getElem?_cons_succ, List.getElem?_cons_zero]; rfl) (fun K hK => ?_) AllReadyH.nil)
                refine step_ptr9 (b := zk) (by rfl) (by rfl) (by simp [Act.eval]) ?_
                intro zp Wc bN hpc hpl
                have HPC := Lib.hid (And.intro hpc hpl)
                have HKB := Lib.hid (And.intro ((bN.block zk (Array.getElem?_eq_some_iff.1 HKB.out.1).1).trans HKB.out.1) HKB.out.2)
                have O6 := Lib.hid (own_kb O6.out bN)
                have O12 := Lib.hid (own_kb O12.out bN)
                have BW := Lib.hid (BW.out.trans (bN.mono BW.out.size))
                clear bN hpc hpl
                refine hK.out _ _ (HKX.out _ BW.out) (fun hHeld => ?_)
                clear hK K
                try simp only [Act.put, List.setIfInBounds_toArray, List.set_cons_zero, List.set_cons_succ]
                refine wpAnyH_ready (rs := [16]) (by kernel_rfl) (by simp) ?_
                refine (AllReadyH.cons (by simp only [List.getElem?_toArray, List.getElem?_cons_succ, List.getElem?_cons_zero]; rfl) (fun K hK => ?_) AllReadyH.nil)
                have WRO : Hid (Wc.ownsRow w.heap.size 50 1 (.slice pw n cw) n ((Z.map Zr.kb).map fun b => Value.pointer (some ⟨b, 0, none⟩))) := Lib.hid (by have := (I10.out.below BW.out).wrow; rwa [HZB.out] at this)
                have HBS : Hid (w.heap.size ≤ Wc.heap.size) := Lib.hid (Nat.le_trans I10.out.sst.tl.cl.bel.size BW.out.size)
                have KXN : Hid (KX Wc w10'.heap.size zk (.slice (some ⟨g6, 0, none⟩) nk cap6) (.slice (some ⟨g12, 0, none⟩) nk cap12) (keys k') (nums k')) := Lib.hid ⟨HKB.out.1, (by unfold HOwn; rw [keys_length, ← HNKE.out]; exact O6.out), (by unfold NOwn; rw [nums_length, ← HNKE.out]; exact O12.out), I10.out.sst.kx.h32, HKB.out.2⟩
                refine step_append_lies _ (by rfl) (.tmp 151) (.tmp 166) _ (by rfl) w.heap.size 50 i2 _ 1 8 Tryz.underlying53 hi2 hu0 hu1 hu2 rfl (by decide) (.slice pw n cw) n _ (by rfl) WRO.out ⟨zp, 0, none⟩ 1 1 [.pointer (some ⟨zk, 0, none⟩)] (by rfl) (by rfl) (World.news_of_block (cs := #[.pointer (some ⟨zk, 0, none⟩)]) (t := 50) (fr := (0, 0)) HPC.out.1) (by simp [Value.oneCell']) (by decide) HFT.out.1 HFT.out.2 HBS.out Wc.heap.size rfl ?_
                intro gw capw Wd own16 grow16 _ _
                have G16 : Hid (Only (fun j => (Value.slice pw n cw).ownBlock = some j) Wc Wd) := Lib.hid ((Only.refl _ Wc).grown grow16 (fun k _ e => e))
                have I11 := Lib.hid (I10.out.copy (z := ⟨T', σ9, k', zk, .slice (some ⟨g6, 0, none⟩) nk cap6, .slice (some ⟨g12, 0, none⟩) nk cap12⟩) (wv' := .slice (some ⟨gw, 0, none⟩) (n + 1) capw) BW.out KXN.out HW9.out G16.out (by
                  rw [List.length_append, HZB.out, List.map_append]
                  exact own16))
                clear own16 grow16
                refine hK.out _ _ ⟨I11.out.sst.kx.c0, I11.out.sst.kx.c1⟩ (fun hHeld => ?_)
                clear hK K
                try simp only [Act.put, List.setIfInBounds_toArray, List.set_cons_zero, List.set_cons_succ]
                refine wpAnyH_take (i := 17) (v := ?_) (by simp only [List.getElem?_toArray, List.getElem?_cons_succ, List.getElem?_cons_zero]; rfl) (by kernel_rfl) (by kernel_rfl) (by kernel_rfl) (fun _ _ _ h => h) (Or.inl ⟨by rfl, ?_⟩) (by assumption) ?_
                rotate_left
                · intro w hSw
                  try dsimp only at hSw
                  go_simp
                  try with_reducible rfl
                try simp only [Act.put, List.setIfInBounds_toArray, List.set_cons_zero, List.set_cons_succ]
                refine wpAnyH_done (by kernel_rfl) ?_ _
                refine NoPanic.normal ?_
                have HFIN : Hid (∃ (gw' capw' : Nat) (Z' : List Zr), Value.slice (some ⟨gw, 0, none⟩) (n + 1) capw = .slice (some ⟨gw', 0, none⟩) (n + 1) capw' ∧ Hid (SvI w Wd Bd d l S9 s9 nm R9 tb T' σ9 k' kb (.slice ph nk ch) (.slice pn nk cn) k' Z' (.slice (some ⟨gr, 0, none⟩) (n + 1) capr) (Z'.map Zr.rt) (.slice (some ⟨gw', 0, none⟩) (n + 1) capw') (Z'.map Zr.kb)) ∧ Hid (Z'.length = n + 1) ∧ Hid (∀ z ∈ Z', z.k.length ≤ 72)) := Lib.hid ⟨gw, capw, Z ++ [⟨T', σ9, k', zk, .slice (some ⟨g6, 0, none⟩) nk cap6, .slice (some ⟨g12, 0, none⟩) nk cap12⟩], rfl, Lib.hid (by
                  have h1 := I11.out
                  rw [HRR.out] at h1
                  rw [List.map_append, List.map_append]
                  exact h1), Lib.hid (by rw [List.length_append, HZ.out]; rfl), Lib.hid (fun z hz => by
                    rcases List.mem_append.1 hz with hz | hz
                    · exact HZK.out z hz
                    · rw [List.mem_singleton.1 hz]
                      exact Nat.le_trans HK.out (k_fits hn6))⟩
                clear I11 G16 KXN WRO HBS HPC HKB O12 O6 BW E1 E7
                go_wp2_with fail
                go_meet
                case rel => exact HFIN.out
            · refine step_empty9 (B := w10'.heap.size) BW.out.size (by rfl) (by rfl) Tryz.underlying49 hj0 ?_
              intro z7 Wc bN e1
              have E7 := Lib.hid e1
              try (have E1 := Lib.hid (E1.out.kb bN))
              try (have O6 := Lib.hid (own_kb O6.out bN))
              have BW := Lib.hid (BW.out.trans (bN.mono BW.out.size))
              clear bN e1
              refine hK.out _ _ (HKX.out _ BW.out) (fun hHeld => ?_)
              clear hK K
              try simp only [Act.put, List.setIfInBounds_toArray, List.set_cons_zero, List.set_cons_succ]
              refine wpAnyH_ready (rs := [1]) (by kernel_rfl) (by simp) ?_
              refine (AllReadyH.cons (by simp only [List.getElem?_toArray, List.getElem?_cons_succ, List.getElem?_cons_zero]; rfl) (fun K hK => ?_) AllReadyH.nil)
              refine step_empty9 (B := w10'.heap.size) BW.out.size (by rfl) (by rfl) Tryz.underlying46 hi1 ?_
              intro z1 Wc bN e1
              have E1 := Lib.hid e1
              try (have E7 := Lib.hid (E7.out.kb bN))
              have BW := Lib.hid (BW.out.trans (bN.mono BW.out.size))
              clear bN e1
              refine hK.out _ _ (HKX.out _ BW.out) (fun hHeld => ?_)
              clear hK K
              try simp only [Act.put, List.setIfInBounds_toArray, List.set_cons_zero, List.set_cons_succ]
              refine wpAnyH_ready (rs := [6]) (by kernel_rfl) (by simp) ?_
              refine (AllReadyH.cons (by simp only [List.getElem?_toArray, List.getElem?_cons_succ, List.getElem?_cons_zero]; rfl) (fun K hK => ?_) AllReadyH.nil)
              refine step_copy9 (B := w10'.heap.size) BW.out.size (by rfl) (.tmp 152) (.tmp 156) (by rfl) Tryz.underlying46 hi1 hx0 hx1 hx2 rfl (by decide) E1.out (by rfl) (by rfl) (own_kb KH.out BW.out) (fun u hu => fl_cell hu) HNK.out.1 HNK.out.2.1 ?_
              intro g6 cap6 Wc own6 o6
              have O6 := Lib.hid own6
              try (have E7 := Lib.hid (E1.out.other E7.out (by decide) o6))
              have BW := Lib.hid (E1.out.below BW.out BW.out.size o6)
              clear own6 o6
              refine hK.out _ _ (HKX.out _ BW.out) (fun hHeld => ?_)
              clear hK K
              try simp only [Act.put, List.setIfInBounds_toArray, List.set_cons_zero, List.set_cons_succ]
              refine wpAnyH_ready (rs := [12]) (by kernel_rfl) (by simp) ?_
              refine (AllReadyH.cons (by simp only [List.getElem?_toArray, List.getElem?_cons_succ, List.getElem?_cons_zero]; rfl) (fun K hK => ?_) AllReadyH.nil)
              refine step_copy9 (B := w10'.heap.size) BW.out.size (by rfl) (.tmp 158) (.tmp 162) (by rfl) Tryz.underlying49 hj0 hy0 hy1 hy2 rfl (by decide) E7.out (by rfl) (by rfl) (own_kb KN.out BW.out) (fun u hu => nvl_cell hu) HNK.out.1 HNK.out.2.2 ?_
              intro g12 cap12 Wc own12 o12
              have O12 := Lib.hid own12
              have O6 := Lib.hid (E7.out.row O6.out (by decide) o12)
              have BW := Lib.hid (E7.out.below BW.out BW.out.size o12)
              clear own12 o12
              refine hK.out _ _ (HKX.out _ BW.out) (fun hHeld => ?_)
              clear hK K
              try simp only [Act.put, List.setIfInBounds_toArray, List.set_cons_zero, List.set_cons_succ]
              refine wpAnyH_take (i := 13) (v := ?_) (by simp only [List.getElem?_toArray, List.getElem?_cons_succ, List.getElem?_cons_zero]; rfl) (by kernel_rfl) (by kernel_rfl) (by kernel_rfl) (fun _ _ _ h => h) (Or.inl ⟨by rfl, ?_⟩) (by assumption) ?_
              rotate_left
              · intro w hSw
                try dsimp only at hSw
                go_simp
                try with_reducible rfl
              try simp only [Act.put, List.setIfInBounds_toArray, List.set_cons_zero, List.set_cons_succ]
              refine wpAnyH_ready (rs := [14]) (by kernel_rfl) (by simp) ?_
              refine (AllReadyH.cons (by simp only [List.getElem?_toArray, List.getElem?_cons_succ, List.getElem?_cons_zero]; rfl) (fun K hK => ?_) AllReadyH.nil)
              refine step_box9 (cs := #[.slice (some ⟨g6, 0, none⟩) nk cap6, .slice (some ⟨g12, 0, none⟩) nk cap12]) (by rfl) (by rfl) (by rfl) ?_
              intro zk Wc bN hkc hkg
              have HKB := Lib.hid (And.intro hkc (Nat.le_trans BW.out.size hkg))
              have O6 := Lib.hid (own_kb O6.out bN)
              have O12 := Lib.hid (own_kb O12.out bN)
              have BW := Lib.hid (BW.out.trans (bN.mono BW.out.size))
              clear bN hkc hkg
              refine hK.out _ _ (HKX.out _ BW.out) (fun hHeld => ?_)
              clear hK K
              try simp only [Act.put, List.setIfInBounds_toArray, List.set_cons_zero, List.set_cons_succ]
              refine wpAnyH_ready (rs := [15]) (by kernel_rfl) (by simp) ?_
              refine (AllReadyH.cons (by simp only [List.getElem?_toArray, List.getElem?_cons_succ, List.getElem?_cons_zero]; rfl) (fun K hK => ?_) AllReadyH.nil)
              refine step_ptr9 (b := zk) (by rfl) (by rfl) (by simp [Act.eval]) ?_
              intro zp Wc bN hpc hpl
              have HPC := Lib.hid (And.intro hpc hpl)
              have HKB := Lib.hid (And.intro ((bN.block zk (Array.getElem?_eq_some_iff.1 HKB.out.1).1).trans HKB.out.1) HKB.out.2)
              have O6 := Lib.hid (own_kb O6.out bN)
              have O12 := Lib.hid (own_kb O12.out bN)
              have BW := Lib.hid (BW.out.trans (bN.mono BW.out.size))
              clear bN hpc hpl
              refine hK.out _ _ (HKX.out _ BW.out) (fun hHeld => ?_)
              clear hK K
              try simp only [Act.put, List.setIfInBounds_toArray, List.set_cons_zero, List.set_cons_succ]
              refine wpAnyH_ready (rs := [16]) (by kernel_rfl) (by simp) ?_
              refine (AllReadyH.cons (by simp only [List.getElem?_toArray, List.getElem?_cons_succ, List.getElem?_cons_zero]; rfl) (fun K hK => ?_) AllReadyH.nil)
              have WRO : Hid (Wc.ownsRow w.heap.size 50 1 (.slice pw n cw) n ((Z.map Zr.kb).map fun b => Value.pointer (some ⟨b, 0, none⟩))) := Lib.hid (by have := (I10.out.below BW.out).wrow; rwa [HZB.out] at this)
              have HBS : Hid (w.heap.size ≤ Wc.heap.size) := Lib.hid (Nat.le_trans I10.out.sst.tl.cl.bel.size BW.out.size)
              have KXN : Hid (KX Wc w10'.heap.size zk (.slice (some ⟨g6, 0, none⟩) nk cap6) (.slice (some ⟨g12, 0, none⟩) nk cap12) (keys k') (nums k')) := Lib.hid ⟨HKB.out.1, (by unfold HOwn; rw [keys_length, ← HNKE.out]; exact O6.out), (by unfold NOwn; rw [nums_length, ← HNKE.out]; exact O12.out), I10.out.sst.kx.h32, HKB.out.2⟩
              refine step_append_lies _ (by rfl) (.tmp 151) (.tmp 166) _ (by rfl) w.heap.size 50 i2 _ 1 8 Tryz.underlying53 hi2 hu0 hu1 hu2 rfl (by decide) (.slice pw n cw) n _ (by rfl) WRO.out ⟨zp, 0, none⟩ 1 1 [.pointer (some ⟨zk, 0, none⟩)] (by rfl) (by rfl) (World.news_of_block (cs := #[.pointer (some ⟨zk, 0, none⟩)]) (t := 50) (fr := (0, 0)) HPC.out.1) (by simp [Value.oneCell']) (by decide) HFT.out.1 HFT.out.2 HBS.out Wc.heap.size rfl ?_
              intro gw capw Wd own16 grow16 _ _
              have G16 : Hid (Only (fun j => (Value.slice pw n cw).ownBlock = some j) Wc Wd) := Lib.hid ((Only.refl _ Wc).grown grow16 (fun k _ e => e))
              have I11 := Lib.hid (I10.out.copy (z := ⟨T', σ9, k', zk, .slice (some ⟨g6, 0, none⟩) nk cap6, .slice (some ⟨g12, 0, none⟩) nk cap12⟩) (wv' := .slice (some ⟨gw, 0, none⟩) (n + 1) capw) BW.out KXN.out HW9.out G16.out (by
                rw [List.length_append, HZB.out, List.map_append]
                exact own16))
              clear own16 grow16
              refine hK.out _ _ ⟨I11.out.sst.kx.c0, I11.out.sst.kx.c1⟩ (fun hHeld => ?_)
              clear hK K
              try simp only [Act.put, List.setIfInBounds_toArray, List.set_cons_zero, List.set_cons_succ]
              refine wpAnyH_take (i := 17) (v := ?_) (by simp only [List.getElem?_toArray, List.getElem?_cons_succ, List.getElem?_cons_zero]; rfl) (by kernel_rfl) (by kernel_rfl) (by kernel_rfl) (fun _ _ _ h => h) (Or.inl ⟨by rfl, ?_⟩) (by assumption) ?_
              rotate_left
              · intro w hSw
                try dsimp only at hSw
                go_simp
                try with_reducible rfl
              try simp only [Act.put, List.setIfInBounds_toArray, List.set_cons_zero, List.set_cons_succ]
              refine wpAnyH_done (by kernel_rfl) ?_ _
              refine NoPanic.normal ?_
              have HFIN : Hid (∃ (gw' capw' : Nat) (Z' : List Zr), Value.slice (some ⟨gw, 0, none⟩) (n + 1) capw = .slice (some ⟨gw', 0, none⟩) (n + 1) capw' ∧ Hid (SvI w Wd Bd d l S9 s9 nm R9 tb T' σ9 k' kb (.slice ph nk ch) (.slice pn nk cn) k' Z' (.slice (some ⟨gr, 0, none⟩) (n + 1) capr) (Z'.map Zr.rt) (.slice (some ⟨gw', 0, none⟩) (n + 1) capw') (Z'.map Zr.kb)) ∧ Hid (Z'.length = n + 1) ∧ Hid (∀ z ∈ Z', z.k.length ≤ 72)) := Lib.hid ⟨gw, capw, Z ++ [⟨T', σ9, k', zk, .slice (some ⟨g6, 0, none⟩) nk cap6, .slice (some ⟨g12, 0, none⟩) nk cap12⟩], rfl, Lib.hid (by
                have h1 := I11.out
                rw [HRR.out] at h1
                rw [List.map_append, List.map_append]
                exact h1), Lib.hid (by rw [List.length_append, HZ.out]; rfl), Lib.hid (fun z hz => by
                  rcases List.mem_append.1 hz with hz | hz
                  · exact HZK.out z hz
                  · rw [List.mem_singleton.1 hz]
                    exact Nat.le_trans HK.out (k_fits hn6))⟩
              clear I11 G16 KXN WRO HBS HPC HKB O12 O6 BW E1 E7
              go_wp2_with fail
              go_meet
              case rel => exact HFIN.out
          case rest =>
            clear BW HKX KH KN I10
            obtain ⟨gw, capw, Z', rfl, HI, HZ', HZK'⟩ := hcut
            have HOK' := HOK9
            have HRB : Hid (R9.length < 1000000000) := Lib.hid (Nat.lt_of_le_of_lt HRS.out (by decide))
            have hld := load_was wc Bd d l S9 s9 nm R9 T' σ9 k' HI.out.sst.tl.cl.dl HRB.out HW9.out (Nat.le_trans HK.out (Nat.le_trans (k_fits hn6) (by decide)))
            rw [show ((T'.rec' σ9 : Nat) : Int) = rr from HRR.out.symm] at hld
            have HLD := Lib.hid hld
            have HKN : Hid (k'.length ≤ 12 * (n + 1)) := HK
            have HN6 : Hid (n + 1 ≤ 6) := Lib.hid hn6
            clear hld
            rcases parity n with hpar | hpar
            · go_wp2_with fail
              refine HLD.out.mono ?_
              rintro e wl ⟨ub, U, σu, rfl, ctu, wasu, _, bu⟩
              have I13 := Lib.hid (HI.out.load bu ctu wasu)
              have HOKU : Hid (SvOk s9 nm R9 U σu (n + 1) (m - u)) := Lib.hid ⟨HOK9.out.ok, saved_nun wasu.sv wasu.top, HOK9.out.left, HOK9.out.top, HOK9.out.sum⟩
              clear ctu wasu bu HLD HI
              go_wp2_with fail
              exact ⟨⟨n + 1, ub, U, σu, k', S9, s9, R9, _, _, Z', _, _, _, _, m - u, HN6.out, rfl, rfl, rfl, by go_num, I13, HZ', HZK', HKN, HOKU⟩, meas6 hn6⟩
            · go_wp2_with fail
              exact ⟨⟨n + 1, tb, T', σ9, k', S9, s9, R9, _, _, Z', _, _, _, _, m - u, HN6.out, rfl, rfl, rfl, by go_num, HI, HZ', HZK', HKN, HOK9⟩, meas6 hn6⟩
  case rest =>
    clear I6 OK6 HF
    obtain ⟨n, tb, T, ρ, k, S, s, R, vh, vn, Z, pr, cr, pw, cw, m, hn, rfl, rfl, rfl, HI, HZ, HZK, HOK⟩ := hcut
    have HRB : Hid (R.length < 1000000000) := Lib.hid (Nat.lt_of_le_of_lt (Nat.le_trans (Nat.le_add_right _ _) HOK.out.sum) (by decide))
    go_wp2_with fail
    go_loopw [22] (fun vi wx => ∃ (i : Nat), i ≤ n ∧ vi = .int .i64 i ∧ Hid (Below wc.heap.size wc wx)) (fun vi _ => n - (intOf vi).toNat)
    case atStart => exact ⟨0, Nat.zero_le _, rfl, Lib.hid (Below.refl _ _)⟩
    case round =>
      obtain ⟨i, hi, rfl, BW⟩ := hrel
      have HIR := Lib.hid (HI.out.below BW.out)
      by_cases hlt : i < n
      · have hk1 : (i : Int) < n := by omega
        have hk0 : 0 ≤ (i : Int) := by omega
        have HZL : Hid ((Z.map Zr.rt).length = n) := Lib.hid (by rw [List.length_map]; exact HZ.out)
        have HZB : Hid ((Z.map Zr.kb).length = n) := Lib.hid (by rw [List.length_map]; exact HZ.out)
        have hiz : i < Z.length := by rw [HZ.out]; exact hlt
        obtain ⟨g, hp, hcr⟩ := row_at (v := .int .i64 Z[i].rt) HIR.out.rrow HZL.out hlt (by rw [nvl, List.getElem?_map, List.getElem?_map, List.getElem?_eq_getElem hiz]; rfl)
        obtain ⟨gw, hpw, hcw⟩ := row_at (v := .pointer (some ⟨Z[i].kb, 0, none⟩)) HIR.out.wrow HZB.out hlt (by rw [List.getElem?_map, List.getElem?_map, List.getElem?_eq_getElem hiz]; rfl)
        have HZI := Lib.hid (fun W (hW : Below wc.heap.size wc W) => (HI.out.below hW).zs Z[i] (List.getElem_mem hiz))
        have HZ72 := Lib.hid (HZK.out Z[i] (List.getElem_mem hiz))
        subst hp hpw
        generalize Z[i] = z at *
        have hld := load_was wr Bd d l S s nm R z.T z.ρ z.k HIR.out.sst.tl.cl.dl HRB.out (HZI.out wr BW.out).2 (Nat.le_trans HZ72.out (by decide))
        rw [show ((z.T.rec' z.ρ : Nat) : Int) = z.rt from rfl] at hld
        have HLD := Lib.hid hld
        obtain ⟨rt, hrt⟩ : ∃ rt, rt = z.rt := ⟨_, rfl⟩
        rw [← hrt] at hcr HLD
        obtain ⟨zb, hzb⟩ : ∃ zb, zb = z.kb := ⟨_, rfl⟩
        rw [← hzb] at hcw
        have HZB' := Lib.hid hzb
        have HCW := Lib.hid (fun W (hW : Below wr.heap.size wr W) => lcell_sa hcw hW)
        clear hld hrt hzb hcw
        go_wp2_with fail
        refine HLD.out.mono ?_
        rintro e wl ⟨ub, U, σu, rfl, ctu, _, _, bu⟩
        have BL := Lib.hid (BW.out.trans (bu.mono BW.out.size))
        have hcw := HCW.out wl bu
        have HIS := Lib.hid (is_to wl (HG.out.kb (HI.out.below BL.out).sst.tl.cl.bel) wr.heap.size ub U σu z.k w.heap.size z.kb z.vh z.vn v1 l1 ⟨ctu, (HZI.out wl BL.out).1⟩ (iseen_kb HL1.out (HI.out.below BL.out).sst.tl.cl.bel) (Nat.le_trans HZ72.out (by decide)))
        rw [← HZB'.out] at HIS
        clear ctu bu HLD
        go_wp2_with fail
        refine HIS.out.mono ?_
        rintro e wm ⟨rfl, bm⟩
        have BM := Lib.hid (BL.out.trans (bm.mono BL.out.size))
        clear bm
        go_wp2_with fail
        exact ⟨⟨i + 1, hlt, by go_num, BM⟩, meas_n hlt⟩
      · obtain rfl : i = n := by omega
        clear hlt hi
        go_wp2_with fail
        go_ret
        exact ⟨rfl, HIR.out.sst.tl.cl.bel⟩
end Go.Proofs.YtbpccbhlggcmfaaGreatDoor
