/- What the statements' own comparison asks, as plain mathematics. No condition. · The statements' own comparison answers true. Conditions: no more than a thousand hashes; errors.errorType holds what its text lays. -/
import Derived.Test.YtbpccbhlggcmfaaGreatDoorRadKq
import Derived.Test.YtbpccbhlggcmfaaGreatDoorRadPs
import Derived.Deep.CutBlock
import Derived.Deep.CutRange
namespace Go.Proofs.YtbpccbhlggcmfaaGreatDoor
open Go.RowKit

theorem kget_nth : ∀ (k : En) (i : Nat) (h : List UInt8) (x : Int), (keys k).Nodup → (keys k)[i]? = some h → (nums k)[i]? = some x → kget h k = some x
  | [], i, _, _, _, hi, _ => by simp [keys] at hi
  | y :: k, 0, h, x, _, hi, hx => by
    have e : y.1 = h := by simpa [keys] using hi
    have e2 : y.2 = x := by simpa [nums] using hx
    unfold kget; rw [if_pos e, e2]
  | y :: k, i + 1, h, x, hn, hi, hx => by
    have hi' : (keys k)[i]? = some h := by simpa [keys] using hi
    have hn' := List.nodup_cons.1 (show (y.1 :: keys k).Nodup from hn)
    have e : y.1 ≠ h := fun e => hn'.1 (e ▸ List.mem_of_getElem? hi')
    unfold kget; rw [if_neg e]
    exact kget_nth k i h x hn'.2 hi' (by simpa [nums] using hx)
/-- The first m of an owned row of hashes. -/
theorem hown_take {w : World} {B cap m : Nat} {p : Option Addr} {E : List (List UInt8)} (hE : H32 E) (h : HOwn w B (.slice p E.length cap) E) (hm : m ≤ E.length) : HOwn w B (.slice p m cap) (E.take m) := by
  by_cases h0 : E.length = 0
  · obtain rfl : E = [] := List.eq_nil_of_length_eq_zero h0
    obtain rfl : m = 0 := by simpa using hm
    exact h
  · obtain ⟨g, cap', R, e, hb, hg, hc, hmx, hR⟩ := HOwn.row h (by omega)
    injection e with e1 e2 e3
    subst e1 e3
    have hl : (E.take m).length = m := by rw [List.length_take]; omega
    refine hown_mk (R := fl (E.drop m) ++ R) (hE.take m) hl.symm hb ?_ (by omega) hmx ?_
    · rw [← List.append_assoc, ← fl_app, List.take_append_drop]; exact hg
    · rw [List.length_append, fl_length (hE.drop m), List.length_drop, hR, hl, ← Nat.add_mul]
      congr 1
      omega
theorem cut_str (l : List UInt8) (n : Nat) : (⟨l.toArray⟩ : ByteArray).extract 0 n = ⟨(l.take n).toArray⟩ := by
  apply ByteArray.ext
  rw [ByteArray.data_extract]
  simp
/-- What is asked is a beginning of a hash's text, or nothing begins so. -/
def Ask (k : En) (p : List UInt8) : Prop := p.length ≤ 64 ∧ (p = [] ∨ pre p = true ∨ selL k p = [])
theorem ask_text (k : En) {h : List UInt8} (hh : h.length = 32) {q : Nat} (hq : q ≤ 64) : Ask k ((tx h).take q) := by
  have hl : ((tx h).take q).length = q := by rw [List.length_take, tx_length, hh]; omega
  refine ⟨by omega, ?_⟩
  by_cases h0 : q = 0
  · exact .inl (by rw [h0]; rfl)
  · refine .inr (.inl ?_)
    unfold pre
    have hd : digs ((tx h).take q) = true := by
      have := tx_digs h
      unfold digs at this ⊢
      rw [List.all_eq_true] at this ⊢
      exact fun x hx => this x (List.mem_of_mem_take hx)
    rw [hl, hd, decide_eq_true (by omega), decide_eq_true hq]; rfl
theorem xyz_no (x : List UInt8) : ([120, 121, 122] : List UInt8).isPrefixOf (tx x) = false := by
  cases hb : ([120, 121, 122] : List UInt8).isPrefixOf (tx x) with
  | false => rfl
  | true =>
    rw [List.isPrefixOf_iff_prefix] at hb
    obtain ⟨r, hr⟩ := hb
    have hd := tx_digs x
    rw [← hr] at hd
    unfold digs at hd
    simp only [List.cons_append, List.all_cons, Bool.and_eq_true, decide_eq_true_eq] at hd
    exact absurd hd.1 (by decide)
theorem ask_xyz (k : En) : Ask k [120, 121, 122] := by
  refine ⟨by decide, .inr (.inr ?_)⟩
  unfold selL
  rw [List.filter_eq_nil_iff]
  intro x _ h
  rw [xyz_no] at h
  cases h
theorem Ask.all {k : En} {p : List UInt8} (h : Ask k p) (M : Int) : allL k p M = (selL k p).take M.toNat := by
  unfold allL
  rcases h.2 with e | e | e
  · rw [if_pos (.inl e)]
  · rw [if_pos (.inr e)]
  · rw [e, List.take_nil]; split <;> rfl
/-- The error that is wanted. -/
def wantL (k : En) (p : List UInt8) : Int := if pre p = false then 1 else if (selL k p).length = 0 then 11 else if 1 < (selL k p).length then 14 else 0
theorem want_is (k : En) (p : List UInt8) : (preL k p).2 = wantL k p := by
  unfold preL wantL
  split
  · rfl
  · generalize selL k p = L
    match L with
    | [] => rfl
    | [h] => rfl
    | a :: b :: l =>
      rw [if_neg (by simp), if_pos (by simp)]; rfl
theorem want_zero {k : En} {p : List UInt8} (h : wantL k p = 0) : ∃ x, selL k p = [x] ∧ preL k p = (x, 0) ∧ pre p = true := by
  unfold wantL at h
  by_cases hp : pre p = false
  · rw [if_pos hp] at h; cases h
  · rw [if_neg hp] at h
    unfold preL
    rw [if_neg hp]
    have hp' : pre p = true := by simpa using hp
    generalize selL k p = L at *
    match L with
    | [] => simp at h
    | [x] => exact ⟨x, rfl, rfl, hp'⟩
    | a :: b :: l => rw [if_neg (by simp), if_pos (by simp)] at h; cases h
theorem want_nz {k : En} {p : List UInt8} (h : wantL k p ≠ 0) : preL k p = (hz, wantL k p) := by
  rw [← want_is]
  unfold wantL at h
  unfold preL
  by_cases hp : pre p = false
  · rw [if_pos hp]
  · rw [if_neg hp] at h ⊢
    generalize selL k p = L at *
    match L with
    | [] => rfl
    | [x] => simp at h
    | a :: b :: l => rfl
theorem sel_h32 {k : En} (h : H32 (keys k)) (p : List UInt8) : H32 (selL k p) := fun x hx => h x ((rsort_mem _ _).1 (List.mem_filter.1 hx).1)
theorem sel_nil (k : En) : selL k [] = rsort (keys k) := List.filter_eq_self.2 fun _ _ => rfl
theorem sel_length (k : En) (p : List UInt8) : (selL k p).length ≤ k.length := by
  have h1 := List.length_filter_le (fun x => p.isPrefixOf (tx x)) (rsort (keys k))
  have h2 := rsort_length (keys k)
  rw [keys_length] at h2
  exact Nat.le_trans h1 h2
/-- The hashes that begin so among the first j. -/
def selT (k : En) (p : List UInt8) (j : Nat) : List (List UInt8) := ((rsort (keys k)).take j).filter fun x => p.isPrefixOf (tx x)
theorem selT_zero (k : En) (p : List UInt8) : selT k p 0 = [] := rfl
theorem selT_succ (k : En) (p : List UInt8) {j : Nat} (h : j < (rsort (keys k)).length) : selT k p (j + 1) = selT k p j ++ if p.isPrefixOf (tx (rsort (keys k))[j]) = true then [(rsort (keys k))[j]] else [] := by
  unfold selT
  rw [List.take_succ_eq_append_getElem h, List.filter_append]
  congr 1
  by_cases e : p.isPrefixOf (tx (rsort (keys k))[j]) = true
  · rw [if_pos e]; simp [e]
  · rw [if_neg e]; simp [e]
theorem selT_all (k : En) (p : List UInt8) : selT k p (rsort (keys k)).length = selL k p := by
  unfold selT; rw [List.take_length]; rfl
theorem selT_length (k : En) (p : List UInt8) (j : Nat) : (selT k p j).length ≤ k.length := by
  have h1 := List.length_filter_le (fun x => p.isPrefixOf (tx x)) ((rsort (keys k)).take j)
  have h2 := rsort_length (keys k)
  rw [keys_length] at h2
  have h3 := List.length_take_le j (rsort (keys k))
  have h4 : ((rsort (keys k)).take j).length ≤ (rsort (keys k)).length := by rw [List.length_take]; omega
  unfold selT
  omega
theorem selT_h32 {k : En} (h : H32 (keys k)) (p : List UInt8) (j : Nat) : H32 (selT k p j) := fun x hx => h x ((rsort_mem _ _).1 (List.mem_of_mem_take (List.mem_filter.1 hx).1))
end Go.Proofs.YtbpccbhlggcmfaaGreatDoor
namespace Go.Proofs.YtbpccbhlggcmfaaGreatDoor
open Go.RowKit
attribute [local go_sem ↓] hld_open heq_open hne_open

/-- What the comparison sees: the tree and what was put. -/
structure IsS (W : World) (B tb : Nat) (T : Nd) (ρ : Nat → Nat) (k : En) (B2 kb : Nat) (vh vn : Value) : Prop where
  ct : CT W B tb T ρ k
  kx : KX W B2 kb vh vn (keys k) (nums k)
theorem IsS.kb {W W' : World} {B tb : Nat} {T : Nd} {ρ : Nat → Nat} {k : En} {B2 kb : Nat} {vh vn : Value} (h : IsS W B tb T ρ k B2 kb vh vn) (hb : Below W.heap.size W W') : IsS W' B tb T ρ k B2 kb vh vn := ⟨h.ct.kb hb, h.kx.below hb⟩
theorem iseen_kb {w w' : World} {v : Value} {l : List Int} (h : ISeen w v l) (hb : Below w.heap.size w w') : ISeen w' v l := by
  rcases h with h | ⟨a, cap, rfl, hc, hu⟩
  · exact .inl h
  · refine .inr ⟨a, cap, rfl, hc, fun j x hj => ?_⟩
    have h1 := hu j x hj
    have h2 := World.block_lt_of_cell? w _ h1
    rw [World.cell?_of_block (w := w) (hb.block _ h2)]
    exact h1
set_option maxRecDepth 20000 in
set_option maxHeartbeats 16000000 in
theorem is_to (w : World) (hg : Glob w) (B tb : Nat) (T : Nd) (ρ : Nat → Nat) (k : En) (B2 kb : Nat) (vh0 vn0 v0 : Value) (l : List Int) (hs : IsS w B tb T ρ k B2 kb vh0 vn0) (hv0 : ISeen w v0 l) (hk : k.length ≤ 1000) :
    Calls Tryz.prog 22 #[.pointer (some ⟨kb, 0, none⟩), .pointer (some ⟨tb, 0, none⟩), v0] w fun e w' => e = .returned (.bool true) ∧ Below w.heap.size w w' := by
  have hlk := keys_length k
  have hln := nums_length k
  obtain ⟨p, cap, rfl⟩ := own_shape hs.kx.hs
  obtain ⟨q, cq, rfl⟩ := nown_shape hs.kx.ns
  obtain ⟨pl0, cl, rfl⟩ : ∃ p c, v0 = .slice p l.length c := by
    rcases hv0 with ⟨rfl, rfl⟩ | ⟨a, c, rfl, _⟩
    · exact ⟨_, _, rfl⟩
    · exact ⟨_, _, rfl⟩
  rw [hlk] at hs
  rw [hln] at hs
  have HG := Lib.hid hg
  have HS := Lib.hid hs
  have HV := Lib.hid hv0
  have HLK := Lib.hid hlk
  have HLN := Lib.hid hln
  have HND := Lib.hid hs.ct.tk.nd
  have c0 := hs.kx.c0
  have HQC := Lib.hid (fun n => count_ct (w.drewN n) B tb T ρ k (hs.ct.kb (below_drn (Below.refl _ _))))
  clear hg hs hv0 hlk hln
  go_enter Tryz.func22, Tryz.ntmps22
  go_wp2_with fail
  go_quiet ((go_at_call 17; exact Calls.quiet_of_same ((HQC.out _).mono fun _ _ h => ⟨h.1, h.2.symm⟩)))
  have HSq := Lib.hid (HS.out.kb (below_drn (m := nq) (Below.refl w.heap.size w)))
  have BW0 := Lib.hid (below_drn (m := nq) (Below.refl w.heap.size w))
  clear c0 HQC
  generalize w.drewN nq = w0 at *
  go_wp2_with fail
  go_loopw [7] (fun v wr => ∃ (i : Nat), i ≤ k.length ∧ v = .int .i64 i ∧ Hid (Below w.heap.size w wr)) (fun v _ => k.length - (intOf v).toNat)
  case atStart => exact ⟨0, by omega, rfl, BW0⟩
  case round =>
    obtain ⟨i, hi, rfl, BW⟩ := hrel
    have HSr := Lib.hid (HS.out.kb BW.out)
    have c0 := HSr.out.kx.c0
    have c1 := HSr.out.kx.c1
    by_cases hlt : i < k.length
    · have hdc : decide ((i : Int) < k.length) = true := decide_eq_true (by omega)
      have hlk' : i < (keys k).length := by rw [HLK.out]; exact hlt
      have hln' : i < (nums k).length := by rw [HLN.out]; exact hlt
      obtain ⟨g, cap', R, hsl, hbg, hgr, hc1, hm1, hR1⟩ := HOwn.row HSr.out.kx.hs (by omega)
      have hp : p = some ⟨g, 0, none⟩ := by injection hsl
      subst hp
      obtain ⟨gn, cq', Rn, hsn, hbn, hgn, hcn, hmn, hRn⟩ := nown_row HSr.out.kx.ns (by omega)
      have hq : q = some ⟨gn, 0, none⟩ := by injection hsn
      subst hq
      have l1 := hld_at HSr.out.kx.h32 hlk' hgr 0
      rw [show wr.drewN 0 = wr from rfl] at l1
      have HGT := Lib.hid (get_ct wr B tb T ρ k (keys k)[i] (HSr.out.kx.h32.at hlk') HSr.out.ct)
      rw [kget_nth k i (keys k)[i] (nums k)[i] HND.out (List.getElem?_eq_getElem hlk') (List.getElem?_eq_getElem hln')] at HGT
      have hni : (nvl (nums k) ++ Rn)[i]? = some (.int .i64 (nums k)[i]) := by
        rw [List.getElem?_append_left (by rw [nvl, List.length_map]; exact hln'), nvl, List.getElem?_map, List.getElem?_eq_getElem hln']; rfl
      generalize (nums k)[i] = x at *
      generalize (keys k)[i] = hx at *
      simp only [gnum, Option.getD_some, Option.isSome_some] at HGT
      have HNI : Hid (∀ W, Below wr.heap.size wr W → W.cell? ⟨gn, i, none⟩ = some (.int .i64 x)) := Lib.hid fun W hb => by
        rw [cell_of_row W gn i _ _ _ ((hb.block gn (Array.getElem?_eq_some_iff.1 hgn).1).trans hgn), List.getElem?_toArray]; exact hni
      clear hsl hgr hR1 hm1 hc1 hbg hsn hgn hRn hmn hcn hbn hni
      go_wp2_with (go_at_call 12; refine HGT.out.mono ?_; rintro e w1 ⟨rfl, b1⟩; have B1 := Lib.hid b1; have n1 := HNI.out w1 b1; have d1 := (HSr.out.kb b1).kx.c1; clear b1)
      go_round
      case rel => exact ⟨i + 1, by omega, by go_num, Lib.hid (BW.out.trans (B1.out.mono BW.out.size))⟩
      case measure => simp [intOf]; omega
    · have hdc : decide ((i : Int) < k.length) = false := decide_eq_false (by omega)
      have HSO := Lib.hid (rsort_any wr (keys k) HSr.out.kx.h32 _ B2 (by have := HSr.out.kx.hs; exact this) (by rw [HLK.out]; omega))
      have HRL : Hid ((rsort (keys k)).length ≤ k.length) := Lib.hid (by rw [← HLK.out]; exact rsort_length _)
      go_wp2_with fail
      refine HSO.out.mono ?_
      rintro e w1 ⟨v1, rfl, o1, b1⟩
      have O1 := Lib.hid o1
      have B1 := Lib.hid (BW.out.trans (b1.mono BW.out.size))
      have HS1 := Lib.hid (HSr.out.kb b1)
      have HAL := Lib.hid (all_ct w1 B tb T ρ k ⟨#[]⟩ 1000 (by decide) HS1.out.ct)
      rw [show allL k (⟨#[]⟩ : ByteArray).data.toList 1000 = rsort (keys k) from by
        show allL k [] 1000 = _
        unfold allL
        rw [if_pos (.inl rfl), sel_nil, List.take_of_length_le (by have := HRL.out; show _ ≤ 1000; omega)]] at HAL
      obtain ⟨p1, cap1, rfl⟩ := own_shape O1.out
      clear o1 b1 HSO c0 c1 hdc
      go_wp2_with fail
      refine HAL.out.mono ?_
      rintro e w2 ⟨v2, rfl, o2, b2⟩
      have O2 := Lib.hid o2
      have B2' := Lib.hid (B1.out.trans (b2.mono B1.out.size))
      have O1' := Lib.hid (hown_kb O1.out b2)
      obtain ⟨p2, cap2, rfl⟩ := own_shape O2.out
      have HSM := Lib.hid (same_any w2 _ _ _ _ (rsort (keys k)) (rsort_h32 HSr.out.kx.h32) O2.out O1'.out (by have := HRL.out; omega))
      have HS2 := Lib.hid (HS1.out.kb b2)
      clear o2 b2 HAL HS1 O1
      go_wp2_with fail
      refine HSM.out.mono ?_
      rintro e w3 ⟨rfl, q3, rfl⟩
      have B3 := Lib.hid (below_drn (m := q3) B2'.out)
      have HS3 := Lib.hid (HS2.out.kb (below_drn (m := q3) (Below.refl _ _)))
      have O3 := Lib.hid (hown_kb O1'.out (below_drn (m := q3) (Below.refl _ _)))
      clear HSM HS2 O1' O2 B2' B1 HSr BW HSq BW0
      generalize w2.drewN q3 = w3 at *
      obtain ⟨N, hN⟩ : ∃ N, N = (rsort (keys k)).length := ⟨_, rfl⟩
      rw [← hN] at HRL O3 ⊢
      have HN := Lib.hid hN
      clear hN
      go_wp2_with fail
      go_loopw [11] (fun v wr => ∃ (i : Nat), i ≤ l.length ∧ i ≤ 8 ∧ v = .int .i64 i ∧ Hid (Below w3.heap.size w3 wr)) (fun v _ => 8 - (intOf v).toNat)
      case atStart => exact ⟨0, by omega, by omega, rfl, Lib.hid (Below.refl _ _)⟩
      case round =>
        obtain ⟨i, hi, hi8, rfl, BW⟩ := hrel
        have HSr := Lib.hid (HS3.out.kb BW.out)
        have HVr := Lib.hid (iseen_kb HV.out (B3.out.trans (BW.out.mono B3.out.size)))
        by_cases hgo : i < l.length ∧ i < 8
        case neg =>
          have hdc : decide ((i : Int) < l.length) = false ∨ decide ((i : Int) < l.length) = true ∧ decide ((i : Int) < 8) = false := by
            by_cases h1 : i < l.length
            · exact .inr ⟨decide_eq_true (by omega), decide_eq_false (by omega)⟩
            · exact .inl (decide_eq_false (by omega))
          have BE := Lib.hid (B3.out.trans (BW.out.mono B3.out.size))
          clear HSr HVr
          rcases hdc with h1 | ⟨h1, h2⟩
          · go_wp2_with fail
            all_goals
              go_ret
              exact ⟨rfl, BE.out⟩
          · go_wp2_with fail
            all_goals
              go_ret
              exact ⟨rfl, BE.out⟩
        case pos =>
          obtain ⟨hil, hi8'⟩ := hgo
          obtain ⟨a, ha, hcl⟩ : ∃ a, pl0 = some a ∧ ∀ j x, l[j]? = some x → wr.cell? (a.add j) = some (.int .i64 x) := by
            rcases HVr.out with ⟨h1, h2⟩ | ⟨a, c, h1, _, h3⟩
            · rw [h2] at hil; simp at hil
            · injection h1 with h1; exact ⟨a, h1, h3⟩
          subst ha
          have hx0 := hcl i l[i] (List.getElem?_eq_getElem hil)
          have HLI := Lib.hid (List.getElem?_eq_getElem hil)
          generalize l[i] = x at *
          have HX0 := Lib.hid hx0
          have HXC : Hid (∀ W, Below w3.heap.size w3 W → W.cell? (a.add i) = some (.int .i64 x)) := Lib.hid fun W hb => by
            have h1 := HV.out
            rcases h1 with ⟨h1, h2⟩ | ⟨a', c, h1, _, h3⟩
            · rw [h2] at hil; simp at hil
            · injection h1 with h1 _ _
              injection h1 with h1
              have h4 := h3 i x (HLI.out)
              rw [← h1] at h4
              rw [World.cell?_of_block (w := w) ((B3.out.trans (hb.mono B3.out.size)).block _ (World.block_lt_of_cell? w _ h4))]
              exact h4
          have hdl : decide ((i : Int) < l.length) = true := decide_eq_true (by omega)
          have hd8 : decide ((i : Int) < 8) = true := decide_eq_true (by omega)
          clear hcl
          go_upto_region 15 with fail
          obtain ⟨qq, hqq⟩ : ∃ qq, qq = IntKind.i64.wrap (x.tdiv 60) % 65 := ⟨_, rfl⟩
          have hqr : 0 ≤ qq ∧ qq < 65 := by omega
          have HQ := Lib.hid (fun W => pick_to W (IntKind.i64.wrap (x.tdiv 60)) 65 qq (by decide) (by decide) hqq.symm)
          obtain ⟨n, hn⟩ : ∃ n : Nat, qq = n := ⟨qq.toNat, by omega⟩
          subst hn
          clear hqq
          have s0 : wr.drew.cell? (a.add i) = some (.int .i64 x) := hx0
          have hn64 : ((n : Nat) : Int) ≤ 64 := by omega
          try simp only [List.append]
          refine wp_region_noPanic ?_
          refine wp_region_held_drew (S := (fun W => W.cell? (a.add i) = some (.int .i64 x))) (by kernel_rfl) s0 (fun hHeld => ?_)
          refine wpAnyH_take (i := 0) (v := ?_) (by simp only [List.getElem?_toArray, List.getElem?_cons_zero]; rfl) (by kernel_rfl) (by kernel_rfl) (by kernel_rfl) (fun _ _ _ h => h) (Or.inl ⟨by rfl, ?_⟩) (by assumption) ?_
          rotate_left
          · intro w hSw
            try dsimp only at hSw
            go_simp
            try with_reducible rfl
          try simp only [Act.put, List.setIfInBounds_toArray, List.set_cons_zero, List.set_cons_succ]
          refine wpAnyH_take (i := 1) (v := ?_) (by simp only [List.getElem?_toArray, List.getElem?_cons_succ, List.getElem?_cons_zero]; rfl) (by kernel_rfl) (by kernel_rfl) (by kernel_rfl) (fun _ _ _ h => h) (Or.inl ⟨by rfl, ?_⟩) (by assumption) ?_
          rotate_left
          · intro w hSw
            try dsimp only at hSw
            go_simp
            try with_reducible rfl
          try simp only [Act.put, List.setIfInBounds_toArray, List.set_cons_zero, List.set_cons_succ]
          refine wpAnyH_take (i := 2) (v := ?_) (by simp only [List.getElem?_toArray, List.getElem?_cons_succ, List.getElem?_cons_zero]; rfl) (by kernel_rfl) (by kernel_rfl) (by kernel_rfl) (fun _ _ _ h => h) (Or.inl ⟨by rfl, ?_⟩) (by assumption) ?_
          rotate_left
          · intro w hSw
            try dsimp only at hSw
            go_simp
            try with_reducible rfl
          try simp only [Act.put, List.setIfInBounds_toArray, List.set_cons_zero, List.set_cons_succ]
          refine wpAnyH_take (i := 3) (v := ?_) (by simp only [List.getElem?_toArray, List.getElem?_cons_succ, List.getElem?_cons_zero]; rfl) (by kernel_rfl) (by kernel_rfl) (by kernel_rfl) (fun _ _ _ h => h) (Or.inl ⟨by rfl, ?_⟩) (by assumption) ?_
          rotate_left
          · intro w hSw
            try dsimp only at hSw
            go_simp
            try with_reducible rfl
          try simp only [Act.put, List.setIfInBounds_toArray, List.set_cons_zero, List.set_cons_succ]
          refine wpAnyH_take (i := 6) (v := ?_) (by simp only [List.getElem?_toArray, List.getElem?_cons_succ, List.getElem?_cons_zero]; rfl) (by kernel_rfl) (by kernel_rfl) (by kernel_rfl) (fun _ _ _ h => h) (Or.inl ⟨by rfl, ?_⟩) (by assumption) ?_
          rotate_left
          · intro w hSw
            try dsimp only at hSw
            go_simp
            try with_reducible rfl
          try simp only [Act.put, List.setIfInBounds_toArray, List.set_cons_zero, List.set_cons_succ]
          refine wpAnyH_take (i := 7) (v := ?_) (by simp only [List.getElem?_toArray, List.getElem?_cons_succ, List.getElem?_cons_zero]; rfl) (by kernel_rfl) (by kernel_rfl) (by kernel_rfl) (fun _ _ _ h => h) (Or.inl ⟨by rfl, ?_⟩) (by assumption) ?_
          rotate_left
          · intro w hSw
            try dsimp only at hSw
            go_simp
            try with_reducible rfl
          try simp only [Act.put, List.setIfInBounds_toArray, List.set_cons_zero, List.set_cons_succ]
          refine wpAnyH_take (i := 8) (v := ?_) (by simp only [List.getElem?_toArray, List.getElem?_cons_succ, List.getElem?_cons_zero]; rfl) (by kernel_rfl) (by kernel_rfl) (by kernel_rfl) (fun _ _ _ h => h) (Or.inl ⟨by rfl, ?_⟩) (by assumption) ?_
          rotate_left
          · intro w hSw
            try dsimp only at hSw
            go_simp
            try with_reducible rfl
          try simp only [Act.put, List.setIfInBounds_toArray, List.set_cons_zero, List.set_cons_succ]
          refine wpAnyH_take (i := 9) (v := ?_) (by simp only [List.getElem?_toArray, List.getElem?_cons_succ, List.getElem?_cons_zero]; rfl) (by kernel_rfl) (by kernel_rfl) (by kernel_rfl) (fun _ _ _ h => h) (Or.inl ⟨by rfl, ?_⟩) (by assumption) ?_
          rotate_left
          · intro w hSw
            try dsimp only at hSw
            go_simp
            try with_reducible rfl
          try simp only [Act.put, List.setIfInBounds_toArray, List.set_cons_zero, List.set_cons_succ]
          refine wpAnyH_take (i := 10) (v := ?_) (by simp only [List.getElem?_toArray, List.getElem?_cons_succ, List.getElem?_cons_zero]; rfl) (by kernel_rfl) (by kernel_rfl) (by kernel_rfl) (fun _ _ _ h => h) (Or.inl ⟨by rfl, ?_⟩) (by assumption) ?_
          rotate_left
          · intro w hSw
            try dsimp only at hSw
            go_simp
            try with_reducible rfl
          try simp only [Act.put, List.setIfInBounds_toArray, List.set_cons_zero, List.set_cons_succ]
          have HHW := Lib.hid (hash_to wr.drew x)
          refine wpAnyH_ready (rs := [4]) (by kernel_rfl) (by simp) ?_
          refine AllReadyH.cons (by simp only [List.getElem?_toArray, List.getElem?_cons_succ, List.getElem?_cons_zero]; rfl) (fun K hK => ?_) AllReadyH.nil
          go_simp
          refine HHW.out.mono ?_
          rintro e w4 ⟨rfl, b4⟩
          have B4 : Hid (Below w3.heap.size w3 w4) := Lib.hid (BW.out.trans ((below_drn0 (m := 1) b4).mono BW.out.size))
          have s1 : w4.cell? (a.add i) = some (.int .i64 x) := by rw [World.cell?_of_block (w := wr) (b4.block _ (World.block_lt_of_cell? wr _ HX0.out))]; exact HX0.out
          have HTX := Lib.hid (rtext_to w4 (hh x) (hh_length x))
          clear b4
          go_wp2_with fail
          refine hK.out _ _ s1 (fun hHeld => ?_)
          clear hK K
          try simp only [Act.put, List.setIfInBounds_toArray, List.set_cons_zero, List.set_cons_succ]
          refine wpAnyH_ready (rs := [5]) (by kernel_rfl) (by simp) ?_
          refine AllReadyH.cons (by simp only [List.getElem?_toArray, List.getElem?_cons_succ, List.getElem?_cons_zero]; rfl) (fun K hK => ?_) AllReadyH.nil
          go_simp
          refine HTX.out.mono ?_
          rintro e w5 ⟨rfl, b5⟩
          have B5 : Hid (Below w3.heap.size w3 w5) := Lib.hid (B4.out.trans (b5.mono B4.out.size))
          have s2 : w5.cell? (a.add i) = some (.int .i64 x) := by rw [World.cell?_of_block (w := w4) (b5.block _ (World.block_lt_of_cell? w4 _ s1))]; exact s1
          clear b5
          go_wp2_with fail
          refine hK.out _ _ s2 (fun hHeld => ?_)
          clear hK K
          try simp only [Act.put, List.setIfInBounds_toArray, List.set_cons_zero, List.set_cons_succ]
          refine wpAnyH_ready (rs := [11]) (by kernel_rfl) (by simp) ?_
          refine AllReadyH.cons (by simp only [List.getElem?_toArray, List.getElem?_cons_succ, List.getElem?_cons_zero]; rfl) (fun K hK => ?_) AllReadyH.nil
          go_simp
          refine (HQ.out _).mono ?_
          rintro e w' ⟨rfl, rfl⟩
          go_wp2_with fail
          refine hK.out _ _ s2 (fun hHeld => ?_)
          clear hK K
          try simp only [Act.put, List.setIfInBounds_toArray, List.set_cons_zero, List.set_cons_succ]
          have hnl : n ≤ (tx (hh x)).length := by rw [tx_length, hh_length]; omega
          refine wpAnyH_take (i := 12) (v := ?_) (by simp only [List.getElem?_toArray, List.getElem?_cons_succ, List.getElem?_cons_zero]; rfl) (by kernel_rfl) (by kernel_rfl) (by kernel_rfl) (fun _ _ _ h => h) (Or.inl ⟨by rfl, ?_⟩) (by assumption) ?_
          rotate_left
          · intro w hSw
            try dsimp only at hSw
            go_simp
            try with_reducible rfl
          try simp only [Act.put, List.setIfInBounds_toArray, List.set_cons_zero, List.set_cons_succ]
          refine wpAnyH_take (i := 13) (v := ?_) (by simp only [List.getElem?_toArray, List.getElem?_cons_succ, List.getElem?_cons_zero]; rfl) (by kernel_rfl) (by kernel_rfl) (by kernel_rfl) (fun _ _ _ h => h) (Or.inl ⟨by rfl, ?_⟩) (by assumption) ?_
          rotate_left
          · intro w hSw
            try dsimp only at hSw
            go_simp
            try with_reducible rfl
          try simp only [Act.put, List.setIfInBounds_toArray, List.set_cons_zero, List.set_cons_succ]
          refine wpAnyH_done (by kernel_rfl) ?_ _
          refine NoPanic.normal ?_
          rw [cut_str]
          have HA : Hid (Ask k ((tx (hh x)).take n)) := Lib.hid (ask_text k (hh_length x) (by omega))
          have HAX : Hid (Ask k [120, 121, 122]) := Lib.hid (ask_xyz k)
          generalize (tx (hh x)).take n = P at *
          clear hnl HQ
          generalize IntKind.i64.wrap (x.tdiv 60) = y60 at *
          go_upto_if 103 with fail
          go_cut [12] from 12 to 12 (fun v wx => ∃ P : List UInt8, v = .string ⟨P.toArray⟩ ∧ Hid (Ask k P) ∧ Hid (Below w3.heap.size w3 wx))
          case first =>
            by_cases h17 : x.tmod 17 = 16
            · have hb : (x.tmod 17 == 16) = true := by simp [h17]
              go_wp2_with fail
              go_meet
              case rel => exact ⟨[120, 121, 122], rfl, HAX, B5⟩
            · have hb : (x.tmod 17 == 16) = false := by simp [h17]
              go_wp2_with fail
              go_meet
              case rel => exact ⟨P, rfl, HA, B5⟩
          case rest =>
            obtain ⟨P, rfl, HA, BC⟩ := hcut
            have HSc := Lib.hid (HS3.out.kb BC.out)
            have O3c := Lib.hid (hown_kb O3.out BC.out)
            have hxc : wc.cell? (a.add i) = some (.int .i64 x) := HXC.out wc BC.out
            have HXc := Lib.hid hxc
            clear hdl hd8 hx0 hxc
            obtain ⟨Z, hZ⟩ : ∃ Z, Z = rsort (keys k) := ⟨_, rfl⟩
            rw [← hZ] at O3c
            have HZ := Lib.hid hZ
            have HZL : Hid (Z.length = N) := Lib.hid (by rw [hZ, HN.out])
            have HZ32 : Hid (H32 Z) := Lib.hid (by rw [hZ]; exact rsort_h32 HSc.out.ct.tk.h32)
            clear hZ
            obtain ⟨i0, hi0, hz0, hz1, hz2⟩ := info_parts hzinfo
            go_wp2_with fail
            go_loopw [13, 14] (fun v jv wr => ∃ (j : Nat), j ≤ N ∧ jv = .int .i64 j ∧ Hid (Below w3.heap.size w3 wr) ∧ Hid (Below wc.heap.size wc wr) ∧ Hid (HOwn wr wc.heap.size v (selT k P j))) (fun _ jv _ => N - (intOf jv).toNat)
            case atStart => exact ⟨0, by omega, rfl, BC, Lib.hid (Below.refl _ _), Lib.hid (World.ownsRow_nil _ _ _ _)⟩
            case round =>
              obtain ⟨j, hj, rfl, BJ, BJc, OJ⟩ := hrel
              have hNk := HRL.out
              obtain ⟨pj, cj, rfl⟩ := own_shape OJ.out
              by_cases hjl : j < N
              · have hdc : decide ((j : Int) < N) = true := decide_eq_true (by omega)
                have hjz : j < Z.length := by rw [HZL.out]; exact hjl
                have O3r := Lib.hid (hown_kb O3c.out BJc.out)
                obtain ⟨g, cap', R, hsl, hbg, hgr, hc1, hm1, hR1⟩ := HOwn.row (E := Z) (by have := O3r.out; rw [← HZL.out] at this; exact this) (by omega)
                have hp : p1 = some ⟨g, 0, none⟩ := by injection hsl
                subst hp
                have l1 := hld_at (i := j) HZ32.out hjz hgr 0
                rw [show wr.drewN 0 = wr from rfl] at l1
                have HT := Lib.hid (selT_succ k P (j := j) (by rw [← HZ.out]; exact hjz))
                have HB := Lib.hid (rbegins_to wr Z[j] P (HZ32.out.at hjz))
                have HEQ : Hid ((rsort (keys k))[j]'(by rw [← HZ.out]; exact hjz) = Z[j]) := Lib.hid (by simp only [HZ.out])
                rw [HEQ.out] at HT
                have HL32 := Lib.hid (HZ32.out.at hjz)
                have HGR := Lib.hid hgr
                have HPR : Hid (∀ W, Below wr.heap.size wr W → (hld ⟨g, j * 32, none⟩).run Tryz.prog W = .ok (.agg (hv Z[j])) W) := Lib.hid fun W hb => hld_at (w := W) HZ32.out hjz ((hb.block g (Array.getElem?_eq_some_iff.1 HGR.out).1).trans HGR.out) 0
                clear hsl hgr hR1 hm1 hc1 hbg
                generalize Z[j] = zj at *
                have hf1 : (selT k P j).length + 1 ≤ maxLen ∧ ((selT k P j).length + 1) * 32 ≤ 140737488355328 := by
                  have := selT_length k P j
                  unfold maxLen; omega
                have HF1 := Lib.hid hf1
                clear hf1
                by_cases hbeg : P.isPrefixOf (tx zj) = true
                · rw [if_pos hbeg] at HT
                  rw [hbeg] at HB
                  clear hbeg
                  go_wp2_with (first
                    | (go_at_call 47; refine HB.out.mono ?_; rintro e w6 ⟨rfl, b6⟩; have B6 := Lib.hid b6; have l6 := HPR.out w6 b6; have OJ6 := Lib.hid (hown_kb OJ.out b6); have HW6 : Hid (wc.heap.size ≤ w6.heap.size) := Lib.hid (Nat.le_trans BJc.out.size b6.size); clear b6)
                    | (refine build_hash (E := [zj]) (H32.one HL32.out) rfl (by simp) (by simp) ?hv ?_; (case hv => simp [Act.eval, hv]))
                    | (at_builtin; refine wpList_append_lies _ (by rfl) (.tmp 116) (.tmp 121) _ (by rfl) wc.heap.size 36 i0 _ 32 32 Tryz.underlying46 hi0 hz0 hz1 hz2 rfl (by omega) (.slice pj (selT k P j).length cj) (selT k P j).length _ (by rfl) (OJ6.out.alloc _) ⟨w6.heap.size, 0, none⟩ 1 1 (fl [zj]) (by rfl) (by rw [fl_one, usn_length, HL32.out]) (news_fl w6 [zj]) (fl_one' [zj]) (by decide) HF1.out.1 HF1.out.2 (Nat.le_trans HW6.out (by simp)) (w6.heap.size + 1) (by simp) ?_; intro gg cap7 w7 own7 grow7 _ _; have O7 : Hid (HOwn w7 wc.heap.size (.slice (some ⟨gg, 0, none⟩) ((selT k P j).length + 1) cap7) (selT k P (j + 1))) := Lib.hid (by rw [HT.out]; exact own_as own7 (Nat.le_refl _) (by simp) (by rw [fl_app])); have B7 : Hid (Below wc.heap.size wc w7) := Lib.hid (((BJc.out.trans (B6.out.mono BJc.out.size)).alloc HW6.out _).grown grow7 (Nat.le_trans HW6.out (by simp)) (fun k hk => (OJ6.out.lt k hk).1)); clear own7 grow7))
                  go_round
                  case rel => exact ⟨j + 1, by omega, by go_num, Lib.hid (BC.out.trans (B7.out.mono BC.out.size)), B7, O7⟩
                  case measure => simp [intOf]; omega
                · have hbeg' : P.isPrefixOf (tx zj) = false := by cases h9 : P.isPrefixOf (tx zj) <;> first | rfl | exact absurd h9 hbeg
                  rw [if_neg hbeg, List.append_nil] at HT
                  rw [hbeg'] at HB
                  clear hbeg hbeg'
                  go_wp2_with (go_at_call 47; refine HB.out.mono ?_; rintro e w6 ⟨rfl, b6⟩; have B6 := Lib.hid b6; have OJ6 := Lib.hid (hown_kb OJ.out b6); clear b6)
                  go_round
                  case rel => exact ⟨j + 1, by omega, by go_num, Lib.hid (BJ.out.trans (B6.out.mono BJ.out.size)), Lib.hid (BJc.out.trans (B6.out.mono BJc.out.size)), Lib.hid (by rw [HT.out]; exact OJ6.out)⟩
                  case measure => simp [intOf]; omega
              · obtain rfl : j = N := by omega
                have hdc : decide (((j : Nat) : Int) < j) = false := decide_eq_false (by omega)
                have HSEL : Hid (selT k P j = selL k P) := Lib.hid (by rw [HN.out]; exact selT_all k P)
                rw [HSEL.out] at OJ
                have HSELn := HSEL.out
                rw [HSELn]
                clear HSELn
                have hxr : wr.cell? (a.add i) = some (.int .i64 x) := HXC.out wr BJ.out
                have HSr := Lib.hid (HS3.out.kb BJ.out)
                obtain ⟨mm, hmm⟩ : ∃ mm, mm = wrap64 (x.tdiv 7) % 4 := ⟨_, rfl⟩
                have hmr : 0 ≤ mm ∧ mm < 4 := by omega
                have HQ7 := Lib.hid (fun W => pick_to W (wrap64 (x.tdiv 7)) 4 mm (by decide) (by decide) hmm.symm)
                obtain ⟨m4, hm4⟩ : ∃ m4 : Nat, mm = m4 := ⟨mm.toNat, by omega⟩
                subst hm4
                obtain ⟨L, hL⟩ : ∃ L, L = selL k P := ⟨_, rfl⟩
                have HLL := Lib.hid hL
                have HLN2 : Hid (L.length ≤ k.length) := Lib.hid (by rw [hL]; exact sel_length k P)
                have HL32 : Hid (H32 L) := Lib.hid (by rw [hL]; exact sel_h32 HSr.out.ct.tk.h32 P)
                have HAL := Lib.hid (all_ct wr.drew B tb T ρ k ⟨P.toArray⟩ m4 (by omega) (HSr.out.ct.kb ⟨rfl, rfl, rfl, Nat.le_refl _, fun _ _ => rfl⟩))
                rw [show allL k (⟨P.toArray⟩ : ByteArray).data.toList m4 = L.take m4 from by rw [hL, HA.out.all]; rfl] at HAL
                rw [← hL] at OJ ⊢
                clear hmm hL
                go_wp2_with (go_at_call 19; refine (HQ7.out _).mono ?_; rintro e w' ⟨rfl, rfl⟩)
                generalize wrap64 (x.tdiv 7) = y7 at *
                clear HQ7
                obtain ⟨Ln, hLn⟩ : ∃ Ln, Ln = L.length := ⟨_, rfl⟩
                have HLn := Lib.hid hLn
                have OJd : Hid (HOwn wr.drew wc.heap.size (.slice pj Ln cj) L) := Lib.hid (by rw [hLn]; exact OJ.out)
                rw [← hLn] at ⊢
                obtain ⟨m, hm⟩ : ∃ m, m = min m4 Ln := ⟨_, rfl⟩
                have hmi : (if Ln < m4 then (Ln : Int) else (m4 : Int)) = m := by rw [hm]; split <;> omega
                have hmle : m ≤ Ln := by rw [hm]; exact Nat.min_le_right _ _
                have HTK : Hid (L.take m = L.take m4) := Lib.hid (by
                  rw [hm, hLn]
                  by_cases h : m4 ≤ L.length
                  · rw [Nat.min_eq_left h]
                  · rw [Nat.min_eq_right (by omega), List.take_length, List.take_of_length_le (by omega)])
                have hcj : Ln ≤ cj := by
                  rcases OJd.out.2 with ⟨h1, h2⟩ | ⟨g', cap', cur, h1, _, _, h4, _⟩
                  · injection h1 with _ e2 e3; omega
                  · injection h1 with _ e2 e3; omega
                have hpj : pj = none → Ln = 0 ∧ cj = 0 := fun e => by
                  rcases OJd.out.2 with ⟨h1, h2⟩ | ⟨g', cap', cur, h1, _⟩
                  · injection h1 with _ e2 e3; exact ⟨e2, e3⟩
                  · injection h1 with e1; rw [e] at e1; cases e1
                have HCJ := Lib.hid hcj
                have HPJ := Lib.hid hpj
                have HML := Lib.hid hmle
                clear hLn hm hcj hpj hmle
                try simp only [List.append]
                refine wp_region_noPanic ?_
                refine wp_region_held_drew (S := (fun _ => True)) (by kernel_rfl) trivial (fun hHeld => ?_)
                refine wpAnyH_take (i := 0) (v := ?_) (by simp only [List.getElem?_toArray, List.getElem?_cons_zero]; rfl) (by kernel_rfl) (by kernel_rfl) (by kernel_rfl) (fun _ _ _ h => h) (Or.inl ⟨by rfl, ?_⟩) (by assumption) ?_
                rotate_left
                · intro w hSw
                  try dsimp only at hSw
                  go_simp
                  try with_reducible rfl
                try simp only [Act.put, List.setIfInBounds_toArray, List.set_cons_zero, List.set_cons_succ]
                refine wpAnyH_take (i := 1) (v := ?_) (by simp only [List.getElem?_toArray, List.getElem?_cons_succ, List.getElem?_cons_zero]; rfl) (by kernel_rfl) (by kernel_rfl) (by kernel_rfl) (fun _ _ _ h => h) (Or.inl ⟨by rfl, ?_⟩) (by assumption) ?_
                rotate_left
                · intro w hSw
                  try dsimp only at hSw
                  go_simp
                  try with_reducible rfl
                try simp only [Act.put, List.setIfInBounds_toArray, List.set_cons_zero, List.set_cons_succ]
                refine wpAnyH_take (i := 2) (v := ?_) (by simp only [List.getElem?_toArray, List.getElem?_cons_succ, List.getElem?_cons_zero]; rfl) (by kernel_rfl) (by kernel_rfl) (by kernel_rfl) (fun _ _ _ h => h) (Or.inl ⟨by rfl, ?_⟩) (by assumption) ?_
                rotate_left
                · intro w hSw
                  try dsimp only at hSw
                  go_simp
                  try with_reducible rfl
                try simp only [Act.put, List.setIfInBounds_toArray, List.set_cons_zero, List.set_cons_succ]
                refine wpAnyH_take (i := 4) (v := ?_) (by simp only [List.getElem?_toArray, List.getElem?_cons_succ, List.getElem?_cons_zero]; rfl) (by kernel_rfl) (by kernel_rfl) (by kernel_rfl) (fun _ _ _ h => h) (Or.inl ⟨by rfl, ?_⟩) (by assumption) ?_
                rotate_left
                · intro w hSw
                  try dsimp only at hSw
                  go_simp
                  try with_reducible rfl
                try simp only [Act.put, List.setIfInBounds_toArray, List.set_cons_zero, List.set_cons_succ]
                refine wpAnyH_take (i := 5) (v := ?_) (by simp only [List.getElem?_toArray, List.getElem?_cons_succ, List.getElem?_cons_zero]; rfl) (by kernel_rfl) (by kernel_rfl) (by kernel_rfl) (fun _ _ _ h => h) (Or.inl ⟨by rfl, ?_⟩) (by assumption) ?_
                rotate_left
                · intro w hSw
                  try dsimp only at hSw
                  go_simp
                  try with_reducible rfl
                try simp only [Act.put, List.setIfInBounds_toArray, List.set_cons_zero, List.set_cons_succ]
                refine wpAnyH_take (i := 6) (v := ?_) (by simp only [List.getElem?_toArray, List.getElem?_cons_succ, List.getElem?_cons_zero]; rfl) (by kernel_rfl) (by kernel_rfl) (by kernel_rfl) (fun _ _ _ h => h) (Or.inl ⟨by rfl, ?_⟩) (by assumption) ?_
                rotate_left
                · intro w hSw
                  try dsimp only at hSw
                  go_simp
                  try with_reducible rfl
                try simp only [Act.put, List.setIfInBounds_toArray, List.set_cons_zero, List.set_cons_succ]
                refine wpAnyH_take (i := 7) (v := ?_) (by simp only [List.getElem?_toArray, List.getElem?_cons_succ, List.getElem?_cons_zero]; rfl) (by kernel_rfl) (by kernel_rfl) (by kernel_rfl) (fun _ _ _ h => h) (Or.inl ⟨by rfl, ?_⟩) (by assumption) ?_
                rotate_left
                · intro w hSw
                  try dsimp only at hSw
                  go_simp
                  try with_reducible rfl
                try simp only [Act.put, List.setIfInBounds_toArray, List.set_cons_zero, List.set_cons_succ]
                refine wpAnyH_take (i := 8) (v := (.int .i64 m)) (by simp only [List.getElem?_toArray, List.getElem?_cons_succ, List.getElem?_cons_zero]; rfl) (by kernel_rfl) (by kernel_rfl) (by kernel_rfl) (fun _ _ _ h => h) (Or.inl ⟨by rfl, ?_⟩) (by assumption) ?_
                · intro w hSw
                  try dsimp only at hSw
                  go_simp
                try simp only [Act.put, List.setIfInBounds_toArray, List.set_cons_zero, List.set_cons_succ]
                clear hmi
                obtain ⟨n7, hn7⟩ : ∃ n7, n7 = (L.take m4).length := ⟨_, rfl⟩
                have HN7 := Lib.hid hn7
                clear hn7
                have hcj2 := HCJ.out
                have hml2 := HML.out
                have hpj2 := HPJ.out
                have hmc : ¬ cj < m := by omega
                refine wpAnyH_take (i := 9) (v := (.slice pj m cj)) (by simp only [List.getElem?_toArray, List.getElem?_cons_succ, List.getElem?_cons_zero]; rfl) (by kernel_rfl) (by kernel_rfl) (by kernel_rfl) (fun _ _ _ h => h) (Or.inl ⟨by rfl, ?_⟩) (by assumption) ?_
                · intro w hSw
                  try dsimp only at hSw
                  go_simp
                try simp only [Act.put, List.setIfInBounds_toArray, List.set_cons_zero, List.set_cons_succ]
                clear hcj2 hml2 hpj2 hmc
                refine wpAnyH_ready (rs := [3]) (by kernel_rfl) (by simp) ?_
                refine AllReadyH.cons (by simp only [List.getElem?_toArray, List.getElem?_cons_succ, List.getElem?_cons_zero]; rfl) (fun K hK => ?_) AllReadyH.nil
                go_simp
                refine HAL.out.mono ?_
                rintro e w7 ⟨v7, rfl, o7, b7⟩
                have O7 := Lib.hid o7
                have BJ7 : Hid (Below w3.heap.size w3 w7) := Lib.hid (BJ.out.trans ((below_drn0 (m := 1) b7).mono BJ.out.size))
                have OJ7 := Lib.hid (hown_kb OJd.out b7)
                obtain ⟨p7, c7, hv7⟩ := own_shape O7.out
                rw [← HN7.out] at hv7
                subst hv7
                clear o7 b7
                go_wp2_with fail
                refine hK.out _ _ trivial (fun hHeld => ?_)
                clear hK K
                try simp only [Act.put, List.setIfInBounds_toArray, List.set_cons_zero, List.set_cons_succ]
                have HSM := Lib.hid (same_any w7 _ _ _ (.slice pj m cj) (L.take m4) (HL32.out.take m4) O7.out (by
                  have h1 := hown_take HL32.out (by have := OJ7.out; rw [HLn.out] at this; exact this) (by rw [← HLn.out]; exact HML.out)
                  rw [HTK.out] at h1
                  exact h1) (Nat.le_trans (Nat.le_trans (List.length_take_le' m4 L) HLN2.out) (Nat.le_trans hk (by decide))))
                refine wpAnyH_ready (rs := [10]) (by kernel_rfl) (by simp) ?_
                refine AllReadyH.cons (by simp only [List.getElem?_toArray, List.getElem?_cons_succ, List.getElem?_cons_zero]; rfl) (fun K hK => ?_) AllReadyH.nil
                go_simp
                refine HSM.out.mono ?_
                rintro e w8 ⟨rfl, q8, rfl⟩
                go_wp2_with fail
                refine hK.out _ _ trivial (fun hHeld => ?_)
                clear hK K
                try simp only [Act.put, List.setIfInBounds_toArray, List.set_cons_zero, List.set_cons_succ]
                refine wpAnyH_take (i := 11) (v := ?_) (by simp only [List.getElem?_toArray, List.getElem?_cons_succ, List.getElem?_cons_zero]; rfl) (by kernel_rfl) (by kernel_rfl) (by kernel_rfl) (fun _ _ _ h => h) (Or.inl ⟨by rfl, ?_⟩) (by assumption) ?_
                rotate_left
                · intro w hSw
                  try dsimp only at hSw
                  go_simp
                  try with_reducible rfl
                try simp only [Act.put, List.setIfInBounds_toArray, List.set_cons_zero, List.set_cons_succ]
                refine wpAnyH_done (by kernel_rfl) ?_ _
                refine NoPanic.normal ?_
                have BJ8 := Lib.hid (below_drn (m := q8) BJ7.out)
                have OJ8 := Lib.hid (hown_kb OJ7.out (below_drn (m := q8) (Below.refl _ _)))
                clear HSM O7 OJ7 BJ7 HAL OJd
                generalize w7.drewN q8 = w8 at *
                have HS8 := Lib.hid (HS3.out.kb BJ8.out)
                have HPX0 := prefix_ct w8 B tb T ρ k ⟨P.toArray⟩ HS8.out.ct
                rw [show (⟨P.toArray⟩ : ByteArray).data.toList = P from rfl] at HPX0
                have hps : (⟨P.toArray⟩ : ByteArray).size ≤ 9223372036854775807 := by have := HA.out.1; show P.length ≤ _; omega
                have hrp := fun W => rpre_any W ⟨P.toArray⟩ hps
                rw [show (⟨P.toArray⟩ : ByteArray).data.toList = P from rfl] at hrp
                clear hps
                by_cases hw : wantL k P = 0
                · obtain ⟨z, hz1', hz2', hz3'⟩ := want_zero hw
                  rw [hz2', show errOf ((z, 0) : List UInt8 × Int).2 = .nilIface from rfl] at HPX0
                  have hLz : L = [z] := by rw [HLL.out]; exact hz1'
                  have hLn1 : Ln = 1 := by rw [HLn.out, hLz]; rfl
                  rw [hz3'] at hrp
                  have HPX := Lib.hid HPX0
                  have HRP := Lib.hid hrp
                  have HZ3 : Hid (z.length = 32) := Lib.hid (HL32.out z (by rw [hLz]; exact List.mem_singleton.2 rfl))
                  obtain ⟨g9, cap9, R9, hsl9, hbg9, hgr9, _, _, _⟩ := HOwn.row (E := [z]) (by have := OJ8.out; rw [hLz, hLn1] at this; exact this) (by simp)
                  have hp9 : pj = some ⟨g9, 0, none⟩ := by injection hsl9
                  subst hp9
                  have HGR9 := Lib.hid hgr9
                  clear hw hz1' hz2' hz3' HPX0 hrp hsl9 hbg9 hgr9 hLz HPJ
                  subst hLn1
                  go_wp2_with fail
                  refine HPX.out.mono ?_
                  rintro e w9 ⟨rfl, b9⟩
                  have BJ9 := Lib.hid (BJ8.out.trans (b9.mono BJ8.out.size))
                  have st := hst_cells z HZ3.out w9
                  have hzs : (hv z).size = 32 := by rw [hv_size, HZ3.out]
                  have B10 : Hid (Below w3.heap.size w3 (w9.alloc (.cells (hv z) 36))) := Lib.hid (BJ9.out.alloc BJ9.out.size _)
                  have HG10 := Lib.hid (((b9.block g9 (Array.getElem?_eq_some_iff.1 HGR9.out).1).trans HGR9.out))
                  have HG11 : Hid ((w9.alloc (.cells (hv z) 36)).heap[g9]? = some (.cells (fl [z] ++ R9).toArray 36 (0, 0))) := Lib.hid ((Below.heap_alloc _ _ _ (Array.getElem?_eq_some_iff.1 HG10.out).1).trans HG10.out)
                  have HV11 := Lib.hid (heap_alloc_last w9 (.cells (hv z) 36))
                  have HKI := Lib.hid (fun W (hW : Below w3.heap.size w3 W) => khand_any W 0 (HG.out.kb (B3.out.trans (hW.mono B3.out.size))))
                  rw [show errOf 0 = .nilIface from rfl] at HKI
                  clear b9
                  go_wp2_with (go_at_call 48; refine (HRP.out _).mono ?_; rintro e w' ⟨rfl, rfl⟩)
                  have hne9 := hne_hv (a := z) (b := z) HZ3.out HZ3.out
                  rw [decide_eq_true rfl] at hne9
                  have q1 := hld_row (w := (w9.alloc (.cells (hv z) 36)).drew) HZ3.out HV11.out
                  have q2 := hld_at (w := w9.alloc (.cells (hv z) 36)) (i := 0) (E := [z]) (H32.one HZ3.out) (by simp) HG11.out 1
                  rw [show (w9.alloc (.cells (hv z) 36)).drewN 1 = (w9.alloc (.cells (hv z) 36)).drew from rfl, show [z][0] = z from rfl, show 0 * 32 = 0 from rfl] at q2
                  generalize w9.alloc (.cells (hv z) 36) = w10 at *
                  clear st
                  try simp only [List.append]
                  refine wp_region_noPanic ?_
                  refine wp_region_held_drew (S := (fun W => (hld ⟨w9.heap.size, 0, none⟩).run Tryz.prog W = .ok (.agg (hv z)) W ∧ (hld ⟨g9, 0, none⟩).run Tryz.prog W = .ok (.agg (hv z)) W)) (by kernel_rfl) ⟨q1, q2⟩ (fun hHeld => ?_)
                  refine wpAnyH_take (i := 0) (v := ?_) (by simp only [List.getElem?_toArray, List.getElem?_cons_zero]; rfl) (by kernel_rfl) (by kernel_rfl) (by kernel_rfl) (fun _ _ _ h => h) (Or.inl ⟨by rfl, ?_⟩) (by assumption) ?_
                  rotate_left
                  · intro w hSw
                    try dsimp only at hSw
                    go_simp
                    try with_reducible rfl
                  try simp only [Act.put, List.setIfInBounds_toArray, List.set_cons_zero, List.set_cons_succ]
                  refine wpAnyH_take (i := 2) (v := ?_) (by simp only [List.getElem?_toArray, List.getElem?_cons_succ, List.getElem?_cons_zero]; rfl) (by kernel_rfl) (by kernel_rfl) (by kernel_rfl) (fun _ _ _ h => h) (Or.inl ⟨by rfl, ?_⟩) (by assumption) ?_
                  rotate_left
                  · intro w hSw
                    try dsimp only at hSw
                    go_simp
                    try with_reducible rfl
                  try simp only [Act.put, List.setIfInBounds_toArray, List.set_cons_zero, List.set_cons_succ]
                  refine wpAnyH_ready (rs := [1]) (by kernel_rfl) (by simp) ?_
                  refine AllReadyH.cons (by simp only [List.getElem?_toArray, List.getElem?_cons_succ, List.getElem?_cons_zero]; rfl) (fun K hK => ?_) AllReadyH.nil
                  go_simp
                  refine (HKI.out w10.drew ⟨B10.out.os, B10.out.tape, B10.out.output, B10.out.size, B10.out.block⟩).mono ?_
                  rintro e w11 ⟨rfl, b11⟩
                  have B11 : Hid (Below w3.heap.size w3 w11) := Lib.hid (B10.out.trans ((below_drn0 (m := 1) b11).mono B10.out.size))
                  have r1 := hld_row (w := w11) HZ3.out ((b11.block w9.heap.size (Array.getElem?_eq_some_iff.1 HV11.out).1).trans HV11.out)
                  have r2 := hld_at (w := w11) (i := 0) (E := [z]) (H32.one HZ3.out) (by simp) ((b11.block g9 (Array.getElem?_eq_some_iff.1 HG11.out).1).trans HG11.out) 0
                  rw [show w11.drewN 0 = w11 from rfl, show [z][0] = z from rfl, show 0 * 32 = 0 from rfl] at r2
                  clear b11
                  go_wp2_with fail
                  refine hK.out _ _ ⟨r1, r2⟩ (fun hHeld => ?_)
                  clear hK K
                  try simp only [Act.put, List.setIfInBounds_toArray, List.set_cons_zero, List.set_cons_succ]
                  refine wpAnyH_take (i := 3) (v := ?_) (by simp only [List.getElem?_toArray, List.getElem?_cons_succ, List.getElem?_cons_zero]; rfl) (by kernel_rfl) (by kernel_rfl) (by kernel_rfl) (fun _ _ _ h => h) (Or.inl ⟨by rfl, ?_⟩) (by assumption) ?_
                  rotate_left
                  · intro w hSw
                    try dsimp only at hSw
                    go_simp
                    try with_reducible rfl
                  try simp only [Act.put, List.setIfInBounds_toArray, List.set_cons_zero, List.set_cons_succ]
                  refine wpAnyH_take (i := 4) (v := ?_) (by simp only [List.getElem?_toArray, List.getElem?_cons_succ, List.getElem?_cons_zero]; rfl) (by kernel_rfl) (by kernel_rfl) (by kernel_rfl) (fun _ _ _ h => h) (Or.inl ⟨by rfl, ?_⟩) (by assumption) ?_
                  rotate_left
                  · intro w hSw
                    try dsimp only at hSw
                    go_simp
                    try with_reducible rfl
                  try simp only [Act.put, List.setIfInBounds_toArray, List.set_cons_zero, List.set_cons_succ]
                  refine wpAnyH_take (i := 5) (v := ?_) (by simp only [List.getElem?_toArray, List.getElem?_cons_succ, List.getElem?_cons_zero]; rfl) (by kernel_rfl) (by kernel_rfl) (by kernel_rfl) (fun _ _ _ h => h) (Or.inl ⟨by rfl, ?_⟩) (by assumption) ?_
                  rotate_left
                  · intro w hSw
                    try dsimp only at hSw
                    go_simp
                    try with_reducible rfl
                  try simp only [Act.put, List.setIfInBounds_toArray, List.set_cons_zero, List.set_cons_succ]
                  refine wpAnyH_take (i := 6) (v := ?_) (by simp only [List.getElem?_toArray, List.getElem?_cons_succ, List.getElem?_cons_zero]; rfl) (by kernel_rfl) (by kernel_rfl) (by kernel_rfl) (fun _ _ _ h => h) (Or.inl ⟨by rfl, ?_⟩) (by assumption) ?_
                  rotate_left
                  · intro w hSw
                    try dsimp only at hSw
                    go_simp
                    try with_reducible rfl
                  try simp only [Act.put, List.setIfInBounds_toArray, List.set_cons_zero, List.set_cons_succ]
                  refine wpAnyH_take (i := 7) (v := ?_) (by simp only [List.getElem?_toArray, List.getElem?_cons_succ, List.getElem?_cons_zero]; rfl) (by kernel_rfl) (by kernel_rfl) (by kernel_rfl) (fun _ _ _ h => h) (Or.inl ⟨by rfl, ?_⟩) (by assumption) ?_
                  rotate_left
                  · intro w hSw
                    try dsimp only at hSw
                    go_simp
                    try with_reducible rfl
                  try simp only [Act.put, List.setIfInBounds_toArray, List.set_cons_zero, List.set_cons_succ]
                  refine wpAnyH_take (i := 8) (v := ?_) (by simp only [List.getElem?_toArray, List.getElem?_cons_succ, List.getElem?_cons_zero]; rfl) (by kernel_rfl) (by kernel_rfl) (by kernel_rfl) (fun _ _ _ h => h) (Or.inl ⟨by rfl, ?_⟩) (by assumption) ?_
                  rotate_left
                  · intro w hSw
                    try dsimp only at hSw
                    go_simp
                    try with_reducible rfl
                  try simp only [Act.put, List.setIfInBounds_toArray, List.set_cons_zero, List.set_cons_succ]
                  refine wpAnyH_take (i := 9) (v := ?_) (by simp only [List.getElem?_toArray, List.getElem?_cons_succ, List.getElem?_cons_zero]; rfl) (by kernel_rfl) (by kernel_rfl) (by kernel_rfl) (fun _ _ _ h => h) (Or.inl ⟨by rfl, ?_⟩) (by assumption) ?_
                  rotate_left
                  · intro w hSw
                    try dsimp only at hSw
                    go_simp
                    try with_reducible rfl
                  try simp only [Act.put, List.setIfInBounds_toArray, List.set_cons_zero, List.set_cons_succ]
                  refine wpAnyH_take (i := 10) (v := ?_) (by simp only [List.getElem?_toArray, List.getElem?_cons_succ, List.getElem?_cons_zero]; rfl) (by kernel_rfl) (by kernel_rfl) (by kernel_rfl) (fun _ _ _ h => h) (Or.inl ⟨by rfl, ?_⟩) (by assumption) ?_
                  rotate_left
                  · intro w hSw
                    try dsimp only at hSw
                    go_simp
                    try with_reducible rfl
                  try simp only [Act.put, List.setIfInBounds_toArray, List.set_cons_zero, List.set_cons_succ]
                  refine wpAnyH_take (i := 11) (v := ?_) (by simp only [List.getElem?_toArray, List.getElem?_cons_succ, List.getElem?_cons_zero]; rfl) (by kernel_rfl) (by kernel_rfl) (by kernel_rfl) (fun _ _ _ h => h) (Or.inl ⟨by rfl, ?_⟩) (by assumption) ?_
                  rotate_left
                  · intro w hSw
                    try dsimp only at hSw
                    go_simp
                    try with_reducible rfl
                  try simp only [Act.put, List.setIfInBounds_toArray, List.set_cons_zero, List.set_cons_succ]
                  refine wpAnyH_take (i := 12) (v := ?_) (by simp only [List.getElem?_toArray, List.getElem?_cons_succ, List.getElem?_cons_zero]; rfl) (by kernel_rfl) (by kernel_rfl) (by kernel_rfl) (fun _ _ _ h => h) (Or.inl ⟨by rfl, ?_⟩) (by assumption) ?_
                  rotate_left
                  · intro w hSw
                    try dsimp only at hSw
                    go_simp
                    try with_reducible rfl
                  try simp only [Act.put, List.setIfInBounds_toArray, List.set_cons_zero, List.set_cons_succ]
                  refine wpAnyH_take (i := 13) (v := ?_) (by simp only [List.getElem?_toArray, List.getElem?_cons_succ, List.getElem?_cons_zero]; rfl) (by kernel_rfl) (by kernel_rfl) (by kernel_rfl) (fun _ _ _ h => h) (Or.inl ⟨by rfl, ?_⟩) (by assumption) ?_
                  rotate_left
                  · intro w hSw
                    try dsimp only at hSw
                    go_simp
                    try with_reducible rfl
                  try simp only [Act.put, List.setIfInBounds_toArray, List.set_cons_zero, List.set_cons_succ]
                  refine wpAnyH_take (i := 14) (v := ?_) (by simp only [List.getElem?_toArray, List.getElem?_cons_succ, List.getElem?_cons_zero]; rfl) (by kernel_rfl) (by kernel_rfl) (by kernel_rfl) (fun _ _ _ h => h) (Or.inl ⟨by rfl, ?_⟩) (by assumption) ?_
                  rotate_left
                  · intro w hSw
                    try dsimp only at hSw
                    go_simp
                    try with_reducible rfl
                  try simp only [Act.put, List.setIfInBounds_toArray, List.set_cons_zero, List.set_cons_succ]
                  refine wpAnyH_take (i := 15) (v := ?_) (by simp only [List.getElem?_toArray, List.getElem?_cons_succ, List.getElem?_cons_zero]; rfl) (by kernel_rfl) (by kernel_rfl) (by kernel_rfl) (fun _ _ _ h => h) (Or.inl ⟨by rfl, ?_⟩) (by assumption) ?_
                  rotate_left
                  · intro w hSw
                    try dsimp only at hSw
                    go_simp
                    try with_reducible rfl
                  try simp only [Act.put, List.setIfInBounds_toArray, List.set_cons_zero, List.set_cons_succ]
                  refine wpAnyH_take (i := 16) (v := ?_) (by simp only [List.getElem?_toArray, List.getElem?_cons_succ, List.getElem?_cons_zero]; rfl) (by kernel_rfl) (by kernel_rfl) (by kernel_rfl) (fun _ _ _ h => h) (Or.inl ⟨by rfl, ?_⟩) (by assumption) ?_
                  rotate_left
                  · intro w hSw
                    try dsimp only at hSw
                    go_simp
                    try with_reducible rfl
                  try simp only [Act.put, List.setIfInBounds_toArray, List.set_cons_zero, List.set_cons_succ]
                  refine wpAnyH_take (i := 17) (v := ?_) (by simp only [List.getElem?_toArray, List.getElem?_cons_succ, List.getElem?_cons_zero]; rfl) (by kernel_rfl) (by kernel_rfl) (by kernel_rfl) (fun _ _ _ h => h) (Or.inl ⟨by rfl, ?_⟩) (by assumption) ?_
                  rotate_left
                  · intro w hSw
                    try dsimp only at hSw
                    go_simp
                    try with_reducible rfl
                  try simp only [Act.put, List.setIfInBounds_toArray, List.set_cons_zero, List.set_cons_succ]
                  refine wpAnyH_take (i := 18) (v := ?_) (by simp only [List.getElem?_toArray, List.getElem?_cons_succ, List.getElem?_cons_zero]; rfl) (by kernel_rfl) (by kernel_rfl) (by kernel_rfl) (fun _ _ _ h => h) (Or.inl ⟨by rfl, ?_⟩) (by assumption) ?_
                  rotate_left
                  · intro w hSw
                    try dsimp only at hSw
                    go_simp
                    try with_reducible rfl
                  try simp only [Act.put, List.setIfInBounds_toArray, List.set_cons_zero, List.set_cons_succ]
                  refine wpAnyH_take (i := 19) (v := undef) (by simp only [List.getElem?_toArray, List.getElem?_cons_succ, List.getElem?_cons_zero]; rfl) (by kernel_rfl) (by kernel_rfl) (by kernel_rfl) (fun _ _ _ h => h) (Or.inr ⟨by rfl, rfl⟩) (by assumption) ?_
                  try simp only [Act.put, List.setIfInBounds_toArray, List.set_cons_zero, List.set_cons_succ]
                  refine wpAnyH_take (i := 20) (v := undef) (by simp only [List.getElem?_toArray, List.getElem?_cons_succ, List.getElem?_cons_zero]; rfl) (by kernel_rfl) (by kernel_rfl) (by kernel_rfl) (fun _ _ _ h => h) (Or.inr ⟨by rfl, rfl⟩) (by assumption) ?_
                  try simp only [Act.put, List.setIfInBounds_toArray, List.set_cons_zero, List.set_cons_succ]
                  refine wpAnyH_take (i := 21) (v := undef) (by simp only [List.getElem?_toArray, List.getElem?_cons_succ, List.getElem?_cons_zero]; rfl) (by kernel_rfl) (by kernel_rfl) (by kernel_rfl) (fun _ _ _ h => h) (Or.inr ⟨by rfl, rfl⟩) (by assumption) ?_
                  try simp only [Act.put, List.setIfInBounds_toArray, List.set_cons_zero, List.set_cons_succ]
                  refine wpAnyH_take (i := 22) (v := ?_) (by simp only [List.getElem?_toArray, List.getElem?_cons_succ, List.getElem?_cons_zero]; rfl) (by kernel_rfl) (by kernel_rfl) (by kernel_rfl) (fun _ _ _ h => h) (Or.inl ⟨by rfl, ?_⟩) (by assumption) ?_
                  rotate_left
                  · intro w hSw
                    try dsimp only at hSw
                    go_simp
                    try with_reducible rfl
                  try simp only [Act.put, List.setIfInBounds_toArray, List.set_cons_zero, List.set_cons_succ]
                  refine wpAnyH_take (i := 23) (v := ?_) (by simp only [List.getElem?_toArray, List.getElem?_cons_succ, List.getElem?_cons_zero]; rfl) (by kernel_rfl) (by kernel_rfl) (by kernel_rfl) (fun _ _ _ h => h) (Or.inl ⟨by rfl, ?_⟩) (by assumption) ?_
                  rotate_left
                  · intro w hSw
                    try dsimp only at hSw
                    go_simp
                    try with_reducible rfl
                  try simp only [Act.put, List.setIfInBounds_toArray, List.set_cons_zero, List.set_cons_succ]
                  refine wpAnyH_done (by kernel_rfl) ?_ _
                  refine NoPanic.normal ?_
                  clear q1 q2 r1 r2 hne9
                  go_wp2_with fail
                  go_round
                  case rel => exact ⟨i + 1, by omega, by omega, by go_num, B11⟩
                  case measure => simp [intOf]; omega
                · rw [want_nz hw] at HPX0
                  have hne := hne_hv (a := hz) (b := hz) rfl rfl
                  rw [decide_eq_true rfl] at hne
                  have HNE : Hid (∀ W, (hneS (hv hz) #[.int .u8 0, .int .u8 0, .int .u8 0, .int .u8 0, .int .u8 0, .int .u8 0, .int .u8 0, .int .u8 0, .int .u8 0, .int .u8 0, .int .u8 0, .int .u8 0, .int .u8 0, .int .u8 0, .int .u8 0, .int .u8 0, .int .u8 0, .int .u8 0, .int .u8 0, .int .u8 0, .int .u8 0, .int .u8 0, .int .u8 0, .int .u8 0, .int .u8 0, .int .u8 0, .int .u8 0, .int .u8 0, .int .u8 0, .int .u8 0, .int .u8 0, .int .u8 0]).run Tryz.prog W = .ok (.bool false) W) := Lib.hid fun W => hne W
                  obtain ⟨c, hc⟩ : ∃ c, c = wantL k P := ⟨_, rfl⟩
                  rw [← hc] at HPX0 hw
                  change Calls _ _ _ _ fun e w' => e = .returned (.tuple #[.agg (hv hz), errOf c]) ∧ _ at HPX0
                  have HPX := Lib.hid HPX0
                  have HRP := Lib.hid hrp
                  have HWN := Lib.hid hc
                  have HCN := Lib.hid hw
                  have HKI := Lib.hid (fun W (hW : Below w3.heap.size w3 W) => khand_any W c (HG.out.kb (B3.out.trans (hW.mono B3.out.size))))
                  have hcb : (c == 0) = false := by simpa using hw
                  have hec : errOf c = .iface 44 (.int .i64 c) := if_neg hw
                  rw [hec] at HKI HPX
                  clear HPX0 hrp hc hne hw hec
                  go_wp2_with fail
                  refine HPX.out.mono ?_
                  rintro e w9 ⟨rfl, b9⟩
                  have BJ9 := Lib.hid (BJ8.out.trans (b9.mono BJ8.out.size))
                  have st := hst_cells hz rfl w9
                  have B10 : Hid (Below w3.heap.size w3 (w9.alloc (.cells (hv hz) 36))) := Lib.hid (BJ9.out.alloc BJ9.out.size _)
                  have HV11 := Lib.hid (heap_alloc_last w9 (.cells (hv hz) 36))
                  clear b9
                  by_cases hpre : pre P = false
                  · have hc1 : c = 1 := by rw [HWN.out]; exact if_pos hpre
                    rw [hpre] at HRP
                    subst hc1
                    go_wp2_with (go_at_call 48; refine (HRP.out _).mono ?_; rintro e w' ⟨rfl, rfl⟩)
                    have q1 := hld_row (w := (w9.alloc (.cells (hv hz) 36)).drew) hz_len HV11.out
                    generalize w9.alloc (.cells (hv hz) 36) = w10 at *
                    clear st
                    have hne := HNE.out
                    try simp only [List.append]
                    refine wp_region_noPanic ?_
                    refine wp_region_held_drew (S := (fun W => (hld ⟨w9.heap.size, 0, none⟩).run Tryz.prog W = .ok (.agg (hv hz)) W)) (by kernel_rfl) q1 (fun hHeld => ?_)
                    refine wpAnyH_take (i := 0) (v := ?_) (by simp only [List.getElem?_toArray, List.getElem?_cons_zero]; rfl) (by kernel_rfl) (by kernel_rfl) (by kernel_rfl) (fun _ _ _ h => h) (Or.inl ⟨by rfl, ?_⟩) (by assumption) ?_
                    rotate_left
                    · intro w hSw
                      try dsimp only at hSw
                      go_simp
                      try with_reducible rfl
                    try simp only [Act.put, List.setIfInBounds_toArray, List.set_cons_zero, List.set_cons_succ]
                    refine wpAnyH_take (i := 2) (v := ?_) (by simp only [List.getElem?_toArray, List.getElem?_cons_succ, List.getElem?_cons_zero]; rfl) (by kernel_rfl) (by kernel_rfl) (by kernel_rfl) (fun _ _ _ h => h) (Or.inl ⟨by rfl, ?_⟩) (by assumption) ?_
                    rotate_left
                    · intro w hSw
                      try dsimp only at hSw
                      go_simp
                      try with_reducible rfl
                    try simp only [Act.put, List.setIfInBounds_toArray, List.set_cons_zero, List.set_cons_succ]
                    refine wpAnyH_ready (rs := [1]) (by kernel_rfl) (by simp) ?_
                    refine AllReadyH.cons (by simp only [List.getElem?_toArray, List.getElem?_cons_succ, List.getElem?_cons_zero]; rfl) (fun K hK => ?_) AllReadyH.nil
                    go_simp
                    refine (HKI.out w10.drew ⟨B10.out.os, B10.out.tape, B10.out.output, B10.out.size, B10.out.block⟩).mono ?_
                    rintro e w11 ⟨rfl, b11⟩
                    have B11 : Hid (Below w3.heap.size w3 w11) := Lib.hid (B10.out.trans ((below_drn0 (m := 1) b11).mono B10.out.size))
                    have r1 := hld_row (w := w11) hz_len ((b11.block w9.heap.size (Array.getElem?_eq_some_iff.1 HV11.out).1).trans HV11.out)
                    clear b11
                    go_wp2_with fail
                    refine hK.out _ _ r1 (fun hHeld => ?_)
                    clear hK K
                    try simp only [Act.put, List.setIfInBounds_toArray, List.set_cons_zero, List.set_cons_succ]
                    refine wpAnyH_take (i := 3) (v := ?_) (by simp only [List.getElem?_toArray, List.getElem?_cons_succ, List.getElem?_cons_zero]; rfl) (by kernel_rfl) (by kernel_rfl) (by kernel_rfl) (fun _ _ _ h => h) (Or.inl ⟨by rfl, ?_⟩) (by assumption) ?_
                    rotate_left
                    · intro w hSw
                      try dsimp only at hSw
                      go_simp
                      try with_reducible rfl
                    try simp only [Act.put, List.setIfInBounds_toArray, List.set_cons_zero, List.set_cons_succ]
                    refine wpAnyH_take (i := 4) (v := ?_) (by simp only [List.getElem?_toArray, List.getElem?_cons_succ, List.getElem?_cons_zero]; rfl) (by kernel_rfl) (by kernel_rfl) (by kernel_rfl) (fun _ _ _ h => h) (Or.inl ⟨by rfl, ?_⟩) (by assumption) ?_
                    rotate_left
                    · intro w hSw
                      try dsimp only at hSw
                      go_simp
                      try with_reducible rfl
                    try simp only [Act.put, List.setIfInBounds_toArray, List.set_cons_zero, List.set_cons_succ]
                    refine wpAnyH_take (i := 5) (v := ?_) (by simp only [List.getElem?_toArray, List.getElem?_cons_succ, List.getElem?_cons_zero]; rfl) (by kernel_rfl) (by kernel_rfl) (by kernel_rfl) (fun _ _ _ h => h) (Or.inl ⟨by rfl, ?_⟩) (by assumption) ?_
                    rotate_left
                    · intro w hSw
                      try dsimp only at hSw
                      go_simp
                      try with_reducible rfl
                    try simp only [Act.put, List.setIfInBounds_toArray, List.set_cons_zero, List.set_cons_succ]
                    refine wpAnyH_take (i := 6) (v := ?_) (by simp only [List.getElem?_toArray, List.getElem?_cons_succ, List.getElem?_cons_zero]; rfl) (by kernel_rfl) (by kernel_rfl) (by kernel_rfl) (fun _ _ _ h => h) (Or.inl ⟨by rfl, ?_⟩) (by assumption) ?_
                    rotate_left
                    · intro w hSw
                      try dsimp only at hSw
                      go_simp
                      try with_reducible rfl
                    try simp only [Act.put, List.setIfInBounds_toArray, List.set_cons_zero, List.set_cons_succ]
                    refine wpAnyH_take (i := 7) (v := ?_) (by simp only [List.getElem?_toArray, List.getElem?_cons_succ, List.getElem?_cons_zero]; rfl) (by kernel_rfl) (by kernel_rfl) (by kernel_rfl) (fun _ _ _ h => h) (Or.inl ⟨by rfl, ?_⟩) (by assumption) ?_
                    rotate_left
                    · intro w hSw
                      try dsimp only at hSw
                      go_simp
                      try with_reducible rfl
                    try simp only [Act.put, List.setIfInBounds_toArray, List.set_cons_zero, List.set_cons_succ]
                    refine wpAnyH_take (i := 8) (v := undef) (by simp only [List.getElem?_toArray, List.getElem?_cons_succ, List.getElem?_cons_zero]; rfl) (by kernel_rfl) (by kernel_rfl) (by kernel_rfl) (fun _ _ _ h => h) (Or.inr ⟨by rfl, rfl⟩) (by assumption) ?_
                    try simp only [Act.put, List.setIfInBounds_toArray, List.set_cons_zero, List.set_cons_succ]
                    refine wpAnyH_take (i := 9) (v := undef) (by simp only [List.getElem?_toArray, List.getElem?_cons_succ, List.getElem?_cons_zero]; rfl) (by kernel_rfl) (by kernel_rfl) (by kernel_rfl) (fun _ _ _ h => h) (Or.inr ⟨by rfl, rfl⟩) (by assumption) ?_
                    try simp only [Act.put, List.setIfInBounds_toArray, List.set_cons_zero, List.set_cons_succ]
                    refine wpAnyH_take (i := 10) (v := undef) (by simp only [List.getElem?_toArray, List.getElem?_cons_succ, List.getElem?_cons_zero]; rfl) (by kernel_rfl) (by kernel_rfl) (by kernel_rfl) (fun _ _ _ h => h) (Or.inr ⟨by rfl, rfl⟩) (by assumption) ?_
                    try simp only [Act.put, List.setIfInBounds_toArray, List.set_cons_zero, List.set_cons_succ]
                    refine wpAnyH_take (i := 11) (v := undef) (by simp only [List.getElem?_toArray, List.getElem?_cons_succ, List.getElem?_cons_zero]; rfl) (by kernel_rfl) (by kernel_rfl) (by kernel_rfl) (fun _ _ _ h => h) (Or.inr ⟨by rfl, rfl⟩) (by assumption) ?_
                    try simp only [Act.put, List.setIfInBounds_toArray, List.set_cons_zero, List.set_cons_succ]
                    refine wpAnyH_take (i := 12) (v := undef) (by simp only [List.getElem?_toArray, List.getElem?_cons_succ, List.getElem?_cons_zero]; rfl) (by kernel_rfl) (by kernel_rfl) (by kernel_rfl) (fun _ _ _ h => h) (Or.inr ⟨by rfl, rfl⟩) (by assumption) ?_
                    try simp only [Act.put, List.setIfInBounds_toArray, List.set_cons_zero, List.set_cons_succ]
                    refine wpAnyH_take (i := 13) (v := ?_) (by simp only [List.getElem?_toArray, List.getElem?_cons_succ, List.getElem?_cons_zero]; rfl) (by kernel_rfl) (by kernel_rfl) (by kernel_rfl) (fun _ _ _ h => h) (Or.inl ⟨by rfl, ?_⟩) (by assumption) ?_
                    rotate_left
                    · intro w hSw
                      try dsimp only at hSw
                      go_simp
                      try with_reducible rfl
                    try simp only [Act.put, List.setIfInBounds_toArray, List.set_cons_zero, List.set_cons_succ]
                    refine wpAnyH_take (i := 14) (v := ?_) (by simp only [List.getElem?_toArray, List.getElem?_cons_succ, List.getElem?_cons_zero]; rfl) (by kernel_rfl) (by kernel_rfl) (by kernel_rfl) (fun _ _ _ h => h) (Or.inl ⟨by rfl, ?_⟩) (by assumption) ?_
                    rotate_left
                    · intro w hSw
                      try dsimp only at hSw
                      go_simp
                      try with_reducible rfl
                    try simp only [Act.put, List.setIfInBounds_toArray, List.set_cons_zero, List.set_cons_succ]
                    refine wpAnyH_take (i := 15) (v := ?_) (by simp only [List.getElem?_toArray, List.getElem?_cons_succ, List.getElem?_cons_zero]; rfl) (by kernel_rfl) (by kernel_rfl) (by kernel_rfl) (fun _ _ _ h => h) (Or.inl ⟨by rfl, ?_⟩) (by assumption) ?_
                    rotate_left
                    · intro w hSw
                      try dsimp only at hSw
                      go_simp
                      try with_reducible rfl
                    try simp only [Act.put, List.setIfInBounds_toArray, List.set_cons_zero, List.set_cons_succ]
                    refine wpAnyH_take (i := 16) (v := ?_) (by simp only [List.getElem?_toArray, List.getElem?_cons_succ, List.getElem?_cons_zero]; rfl) (by kernel_rfl) (by kernel_rfl) (by kernel_rfl) (fun _ _ _ h => h) (Or.inl ⟨by rfl, ?_⟩) (by assumption) ?_
                    rotate_left
                    · intro w hSw
                      try dsimp only at hSw
                      go_simp
                      try with_reducible rfl
                    try simp only [Act.put, List.setIfInBounds_toArray, List.set_cons_zero, List.set_cons_succ]
                    refine wpAnyH_take (i := 17) (v := ?_) (by simp only [List.getElem?_toArray, List.getElem?_cons_succ, List.getElem?_cons_zero]; rfl) (by kernel_rfl) (by kernel_rfl) (by kernel_rfl) (fun _ _ _ h => h) (Or.inl ⟨by rfl, ?_⟩) (by assumption) ?_
                    rotate_left
                    · intro w hSw
                      try dsimp only at hSw
                      go_simp
                      try with_reducible rfl
                    try simp only [Act.put, List.setIfInBounds_toArray, List.set_cons_zero, List.set_cons_succ]
                    refine wpAnyH_take (i := 18) (v := ?_) (by simp only [List.getElem?_toArray, List.getElem?_cons_succ, List.getElem?_cons_zero]; rfl) (by kernel_rfl) (by kernel_rfl) (by kernel_rfl) (fun _ _ _ h => h) (Or.inl ⟨by rfl, ?_⟩) (by assumption) ?_
                    rotate_left
                    · intro w hSw
                      try dsimp only at hSw
                      go_simp
                      try with_reducible rfl
                    try simp only [Act.put, List.setIfInBounds_toArray, List.set_cons_zero, List.set_cons_succ]
                    refine wpAnyH_take (i := 19) (v := ?_) (by simp only [List.getElem?_toArray, List.getElem?_cons_succ, List.getElem?_cons_zero]; rfl) (by kernel_rfl) (by kernel_rfl) (by kernel_rfl) (fun _ _ _ h => h) (Or.inl ⟨by rfl, ?_⟩) (by assumption) ?_
                    rotate_left
                    · intro w hSw
                      try dsimp only at hSw
                      go_simp
                      try with_reducible rfl
                    try simp only [Act.put, List.setIfInBounds_toArray, List.set_cons_zero, List.set_cons_succ]
                    refine wpAnyH_take (i := 20) (v := ?_) (by simp only [List.getElem?_toArray, List.getElem?_cons_succ, List.getElem?_cons_zero]; rfl) (by kernel_rfl) (by kernel_rfl) (by kernel_rfl) (fun _ _ _ h => h) (Or.inl ⟨by rfl, ?_⟩) (by assumption) ?_
                    rotate_left
                    · intro w hSw
                      try dsimp only at hSw
                      go_simp
                      try with_reducible rfl
                    try simp only [Act.put, List.setIfInBounds_toArray, List.set_cons_zero, List.set_cons_succ]
                    refine wpAnyH_take (i := 21) (v := ?_) (by simp only [List.getElem?_toArray, List.getElem?_cons_succ, List.getElem?_cons_zero]; rfl) (by kernel_rfl) (by kernel_rfl) (by kernel_rfl) (fun _ _ _ h => h) (Or.inl ⟨by rfl, ?_⟩) (by assumption) ?_
                    rotate_left
                    · intro w hSw
                      try dsimp only at hSw
                      go_simp
                      try with_reducible rfl
                    try simp only [Act.put, List.setIfInBounds_toArray, List.set_cons_zero, List.set_cons_succ]
                    refine wpAnyH_take (i := 22) (v := ?_) (by simp only [List.getElem?_toArray, List.getElem?_cons_succ, List.getElem?_cons_zero]; rfl) (by kernel_rfl) (by kernel_rfl) (by kernel_rfl) (fun _ _ _ h => h) (Or.inl ⟨by rfl, ?_⟩) (by assumption) ?_
                    rotate_left
                    · intro w hSw
                      try dsimp only at hSw
                      go_simp
                      try with_reducible rfl
                    try simp only [Act.put, List.setIfInBounds_toArray, List.set_cons_zero, List.set_cons_succ]
                    refine wpAnyH_take (i := 23) (v := ?_) (by simp only [List.getElem?_toArray, List.getElem?_cons_succ, List.getElem?_cons_zero]; rfl) (by kernel_rfl) (by kernel_rfl) (by kernel_rfl) (fun _ _ _ h => h) (Or.inl ⟨by rfl, ?_⟩) (by assumption) ?_
                    rotate_left
                    · intro w hSw
                      try dsimp only at hSw
                      go_simp
                      try with_reducible rfl
                    try simp only [Act.put, List.setIfInBounds_toArray, List.set_cons_zero, List.set_cons_succ]
                    refine wpAnyH_done (by kernel_rfl) ?_ _
                    refine NoPanic.normal ?_
                    clear q1 r1 hne
                    go_wp2_with fail
                    go_round
                    case rel => exact ⟨i + 1, by omega, by omega, by go_num, B11⟩
                    case measure => simp [intOf]; omega
                  · have hpre' : pre P = true := by simpa using hpre
                    rw [hpre'] at HRP
                    by_cases hl0 : Ln = 0
                    · have hc1 : c = 11 := by
                        rw [HWN.out]; unfold wantL
                        rw [if_neg hpre, if_pos (by rw [← HLL.out, ← HLn.out]; exact hl0)]
                      subst hc1 hl0
                      go_wp2_with (go_at_call 48; refine (HRP.out _).mono ?_; rintro e w' ⟨rfl, rfl⟩)
                      have q1 := hld_row (w := (w9.alloc (.cells (hv hz) 36)).drew) hz_len HV11.out
                      generalize w9.alloc (.cells (hv hz) 36) = w10 at *
                      clear st
                      have hne := HNE.out
                      try simp only [List.append]
                      refine wp_region_noPanic ?_
                      refine wp_region_held_drew (S := (fun W => (hld ⟨w9.heap.size, 0, none⟩).run Tryz.prog W = .ok (.agg (hv hz)) W)) (by kernel_rfl) q1 (fun hHeld => ?_)
                      refine wpAnyH_take (i := 0) (v := ?_) (by simp only [List.getElem?_toArray, List.getElem?_cons_zero]; rfl) (by kernel_rfl) (by kernel_rfl) (by kernel_rfl) (fun _ _ _ h => h) (Or.inl ⟨by rfl, ?_⟩) (by assumption) ?_
                      rotate_left
                      · intro w hSw
                        try dsimp only at hSw
                        go_simp
                        try with_reducible rfl
                      try simp only [Act.put, List.setIfInBounds_toArray, List.set_cons_zero, List.set_cons_succ]
                      refine wpAnyH_take (i := 2) (v := ?_) (by simp only [List.getElem?_toArray, List.getElem?_cons_succ, List.getElem?_cons_zero]; rfl) (by kernel_rfl) (by kernel_rfl) (by kernel_rfl) (fun _ _ _ h => h) (Or.inl ⟨by rfl, ?_⟩) (by assumption) ?_
                      rotate_left
                      · intro w hSw
                        try dsimp only at hSw
                        go_simp
                        try with_reducible rfl
                      try simp only [Act.put, List.setIfInBounds_toArray, List.set_cons_zero, List.set_cons_succ]
                      refine wpAnyH_ready (rs := [1]) (by kernel_rfl) (by simp) ?_
                      refine AllReadyH.cons (by simp only [List.getElem?_toArray, List.getElem?_cons_succ, List.getElem?_cons_zero]; rfl) (fun K hK => ?_) AllReadyH.nil
                      go_simp
                      refine (HKI.out w10.drew ⟨B10.out.os, B10.out.tape, B10.out.output, B10.out.size, B10.out.block⟩).mono ?_
                      rintro e w11 ⟨rfl, b11⟩
                      have B11 : Hid (Below w3.heap.size w3 w11) := Lib.hid (B10.out.trans ((below_drn0 (m := 1) b11).mono B10.out.size))
                      have r1 := hld_row (w := w11) hz_len ((b11.block w9.heap.size (Array.getElem?_eq_some_iff.1 HV11.out).1).trans HV11.out)
                      clear b11
                      go_wp2_with fail
                      refine hK.out _ _ r1 (fun hHeld => ?_)
                      clear hK K
                      try simp only [Act.put, List.setIfInBounds_toArray, List.set_cons_zero, List.set_cons_succ]
                      refine wpAnyH_take (i := 3) (v := ?_) (by simp only [List.getElem?_toArray, List.getElem?_cons_succ, List.getElem?_cons_zero]; rfl) (by kernel_rfl) (by kernel_rfl) (by kernel_rfl) (fun _ _ _ h => h) (Or.inl ⟨by rfl, ?_⟩) (by assumption) ?_
                      rotate_left
                      · intro w hSw
                        try dsimp only at hSw
                        go_simp
                        try with_reducible rfl
                      try simp only [Act.put, List.setIfInBounds_toArray, List.set_cons_zero, List.set_cons_succ]
                      refine wpAnyH_take (i := 4) (v := ?_) (by simp only [List.getElem?_toArray, List.getElem?_cons_succ, List.getElem?_cons_zero]; rfl) (by kernel_rfl) (by kernel_rfl) (by kernel_rfl) (fun _ _ _ h => h) (Or.inl ⟨by rfl, ?_⟩) (by assumption) ?_
                      rotate_left
                      · intro w hSw
                        try dsimp only at hSw
                        go_simp
                        try with_reducible rfl
                      try simp only [Act.put, List.setIfInBounds_toArray, List.set_cons_zero, List.set_cons_succ]
                      refine wpAnyH_take (i := 5) (v := ?_) (by simp only [List.getElem?_toArray, List.getElem?_cons_succ, List.getElem?_cons_zero]; rfl) (by kernel_rfl) (by kernel_rfl) (by kernel_rfl) (fun _ _ _ h => h) (Or.inl ⟨by rfl, ?_⟩) (by assumption) ?_
                      rotate_left
                      · intro w hSw
                        try dsimp only at hSw
                        go_simp
                        try with_reducible rfl
                      try simp only [Act.put, List.setIfInBounds_toArray, List.set_cons_zero, List.set_cons_succ]
                      refine wpAnyH_take (i := 6) (v := ?_) (by simp only [List.getElem?_toArray, List.getElem?_cons_succ, List.getElem?_cons_zero]; rfl) (by kernel_rfl) (by kernel_rfl) (by kernel_rfl) (fun _ _ _ h => h) (Or.inl ⟨by rfl, ?_⟩) (by assumption) ?_
                      rotate_left
                      · intro w hSw
                        try dsimp only at hSw
                        go_simp
                        try with_reducible rfl
                      try simp only [Act.put, List.setIfInBounds_toArray, List.set_cons_zero, List.set_cons_succ]
                      refine wpAnyH_take (i := 7) (v := ?_) (by simp only [List.getElem?_toArray, List.getElem?_cons_succ, List.getElem?_cons_zero]; rfl) (by kernel_rfl) (by kernel_rfl) (by kernel_rfl) (fun _ _ _ h => h) (Or.inl ⟨by rfl, ?_⟩) (by assumption) ?_
                      rotate_left
                      · intro w hSw
                        try dsimp only at hSw
                        go_simp
                        try with_reducible rfl
                      try simp only [Act.put, List.setIfInBounds_toArray, List.set_cons_zero, List.set_cons_succ]
                      refine wpAnyH_take (i := 8) (v := undef) (by simp only [List.getElem?_toArray, List.getElem?_cons_succ, List.getElem?_cons_zero]; rfl) (by kernel_rfl) (by kernel_rfl) (by kernel_rfl) (fun _ _ _ h => h) (Or.inr ⟨by rfl, rfl⟩) (by assumption) ?_
                      try simp only [Act.put, List.setIfInBounds_toArray, List.set_cons_zero, List.set_cons_succ]
                      refine wpAnyH_take (i := 9) (v := undef) (by simp only [List.getElem?_toArray, List.getElem?_cons_succ, List.getElem?_cons_zero]; rfl) (by kernel_rfl) (by kernel_rfl) (by kernel_rfl) (fun _ _ _ h => h) (Or.inr ⟨by rfl, rfl⟩) (by assumption) ?_
                      try simp only [Act.put, List.setIfInBounds_toArray, List.set_cons_zero, List.set_cons_succ]
                      refine wpAnyH_take (i := 10) (v := undef) (by simp only [List.getElem?_toArray, List.getElem?_cons_succ, List.getElem?_cons_zero]; rfl) (by kernel_rfl) (by kernel_rfl) (by kernel_rfl) (fun _ _ _ h => h) (Or.inr ⟨by rfl, rfl⟩) (by assumption) ?_
                      try simp only [Act.put, List.setIfInBounds_toArray, List.set_cons_zero, List.set_cons_succ]
                      refine wpAnyH_take (i := 11) (v := undef) (by simp only [List.getElem?_toArray, List.getElem?_cons_succ, List.getElem?_cons_zero]; rfl) (by kernel_rfl) (by kernel_rfl) (by kernel_rfl) (fun _ _ _ h => h) (Or.inr ⟨by rfl, rfl⟩) (by assumption) ?_
                      try simp only [Act.put, List.setIfInBounds_toArray, List.set_cons_zero, List.set_cons_succ]
                      refine wpAnyH_take (i := 12) (v := undef) (by simp only [List.getElem?_toArray, List.getElem?_cons_succ, List.getElem?_cons_zero]; rfl) (by kernel_rfl) (by kernel_rfl) (by kernel_rfl) (fun _ _ _ h => h) (Or.inr ⟨by rfl, rfl⟩) (by assumption) ?_
                      try simp only [Act.put, List.setIfInBounds_toArray, List.set_cons_zero, List.set_cons_succ]
                      refine wpAnyH_take (i := 13) (v := ?_) (by simp only [List.getElem?_toArray, List.getElem?_cons_succ, List.getElem?_cons_zero]; rfl) (by kernel_rfl) (by kernel_rfl) (by kernel_rfl) (fun _ _ _ h => h) (Or.inl ⟨by rfl, ?_⟩) (by assumption) ?_
                      rotate_left
                      · intro w hSw
                        try dsimp only at hSw
                        go_simp
                        try with_reducible rfl
                      try simp only [Act.put, List.setIfInBounds_toArray, List.set_cons_zero, List.set_cons_succ]
                      refine wpAnyH_take (i := 14) (v := ?_) (by simp only [List.getElem?_toArray, List.getElem?_cons_succ, List.getElem?_cons_zero]; rfl) (by kernel_rfl) (by kernel_rfl) (by kernel_rfl) (fun _ _ _ h => h) (Or.inl ⟨by rfl, ?_⟩) (by assumption) ?_
                      rotate_left
                      · intro w hSw
                        try dsimp only at hSw
                        go_simp
                        try with_reducible rfl
                      try simp only [Act.put, List.setIfInBounds_toArray, List.set_cons_zero, List.set_cons_succ]
                      refine wpAnyH_take (i := 15) (v := ?_) (by simp only [List.getElem?_toArray, List.getElem?_cons_succ, List.getElem?_cons_zero]; rfl) (by kernel_rfl) (by kernel_rfl) (by kernel_rfl) (fun _ _ _ h => h) (Or.inl ⟨by rfl, ?_⟩) (by assumption) ?_
                      rotate_left
                      · intro w hSw
                        try dsimp only at hSw
                        go_simp
                        try with_reducible rfl
                      try simp only [Act.put, List.setIfInBounds_toArray, List.set_cons_zero, List.set_cons_succ]
                      refine wpAnyH_take (i := 16) (v := ?_) (by simp only [List.getElem?_toArray, List.getElem?_cons_succ, List.getElem?_cons_zero]; rfl) (by kernel_rfl) (by kernel_rfl) (by kernel_rfl) (fun _ _ _ h => h) (Or.inl ⟨by rfl, ?_⟩) (by assumption) ?_
                      rotate_left
                      · intro w hSw
                        try dsimp only at hSw
                        go_simp
                        try with_reducible rfl
                      try simp only [Act.put, List.setIfInBounds_toArray, List.set_cons_zero, List.set_cons_succ]
                      refine wpAnyH_take (i := 17) (v := ?_) (by simp only [List.getElem?_toArray, List.getElem?_cons_succ, List.getElem?_cons_zero]; rfl) (by kernel_rfl) (by kernel_rfl) (by kernel_rfl) (fun _ _ _ h => h) (Or.inl ⟨by rfl, ?_⟩) (by assumption) ?_
                      rotate_left
                      · intro w hSw
                        try dsimp only at hSw
                        go_simp
                        try with_reducible rfl
                      try simp only [Act.put, List.setIfInBounds_toArray, List.set_cons_zero, List.set_cons_succ]
                      refine wpAnyH_take (i := 18) (v := ?_) (by simp only [List.getElem?_toArray, List.getElem?_cons_succ, List.getElem?_cons_zero]; rfl) (by kernel_rfl) (by kernel_rfl) (by kernel_rfl) (fun _ _ _ h => h) (Or.inl ⟨by rfl, ?_⟩) (by assumption) ?_
                      rotate_left
                      · intro w hSw
                        try dsimp only at hSw
                        go_simp
                        try with_reducible rfl
                      try simp only [Act.put, List.setIfInBounds_toArray, List.set_cons_zero, List.set_cons_succ]
                      refine wpAnyH_take (i := 19) (v := ?_) (by simp only [List.getElem?_toArray, List.getElem?_cons_succ, List.getElem?_cons_zero]; rfl) (by kernel_rfl) (by kernel_rfl) (by kernel_rfl) (fun _ _ _ h => h) (Or.inl ⟨by rfl, ?_⟩) (by assumption) ?_
                      rotate_left
                      · intro w hSw
                        try dsimp only at hSw
                        go_simp
                        try with_reducible rfl
                      try simp only [Act.put, List.setIfInBounds_toArray, List.set_cons_zero, List.set_cons_succ]
                      refine wpAnyH_take (i := 20) (v := ?_) (by simp only [List.getElem?_toArray, List.getElem?_cons_succ, List.getElem?_cons_zero]; rfl) (by kernel_rfl) (by kernel_rfl) (by kernel_rfl) (fun _ _ _ h => h) (Or.inl ⟨by rfl, ?_⟩) (by assumption) ?_
                      rotate_left
                      · intro w hSw
                        try dsimp only at hSw
                        go_simp
                        try with_reducible rfl
                      try simp only [Act.put, List.setIfInBounds_toArray, List.set_cons_zero, List.set_cons_succ]
                      refine wpAnyH_take (i := 21) (v := ?_) (by simp only [List.getElem?_toArray, List.getElem?_cons_succ, List.getElem?_cons_zero]; rfl) (by kernel_rfl) (by kernel_rfl) (by kernel_rfl) (fun _ _ _ h => h) (Or.inl ⟨by rfl, ?_⟩) (by assumption) ?_
                      rotate_left
                      · intro w hSw
                        try dsimp only at hSw
                        go_simp
                        try with_reducible rfl
                      try simp only [Act.put, List.setIfInBounds_toArray, List.set_cons_zero, List.set_cons_succ]
                      refine wpAnyH_take (i := 22) (v := ?_) (by simp only [List.getElem?_toArray, List.getElem?_cons_succ, List.getElem?_cons_zero]; rfl) (by kernel_rfl) (by kernel_rfl) (by kernel_rfl) (fun _ _ _ h => h) (Or.inl ⟨by rfl, ?_⟩) (by assumption) ?_
                      rotate_left
                      · intro w hSw
                        try dsimp only at hSw
                        go_simp
                        try with_reducible rfl
                      try simp only [Act.put, List.setIfInBounds_toArray, List.set_cons_zero, List.set_cons_succ]
                      refine wpAnyH_take (i := 23) (v := ?_) (by simp only [List.getElem?_toArray, List.getElem?_cons_succ, List.getElem?_cons_zero]; rfl) (by kernel_rfl) (by kernel_rfl) (by kernel_rfl) (fun _ _ _ h => h) (Or.inl ⟨by rfl, ?_⟩) (by assumption) ?_
                      rotate_left
                      · intro w hSw
                        try dsimp only at hSw
                        go_simp
                        try with_reducible rfl
                      try simp only [Act.put, List.setIfInBounds_toArray, List.set_cons_zero, List.set_cons_succ]
                      refine wpAnyH_done (by kernel_rfl) ?_ _
                      refine NoPanic.normal ?_
                      clear q1 r1 hne
                      go_wp2_with fail
                      go_round
                      case rel => exact ⟨i + 1, by omega, by omega, by go_num, B11⟩
                      case measure => simp [intOf]; omega
                    · have hl2 : 1 < Ln := by
                        have h1 := HCN.out
                        rw [HWN.out] at h1
                        unfold wantL at h1
                        rw [if_neg hpre, ← HLL.out, ← HLn.out, if_neg hl0] at h1
                        by_cases h2 : 1 < Ln
                        · exact h2
                        · rw [if_neg h2] at h1; exact absurd rfl h1
                      have hc1 : c = 14 := by
                        rw [HWN.out]; unfold wantL
                        rw [if_neg hpre, ← HLL.out, ← HLn.out, if_neg hl0, if_pos hl2]
                      have hlb : ((Ln : Int) == 0) = false := by simp; omega
                      have hlg : decide ((Ln : Int) > 1) = true := decide_eq_true (by omega)
                      have hlg2 : decide (1 < (Ln : Int)) = true := decide_eq_true (by omega)
                      subst hc1
                      go_wp2_with (go_at_call 48; refine (HRP.out _).mono ?_; rintro e w' ⟨rfl, rfl⟩)
                      have q1 := hld_row (w := (w9.alloc (.cells (hv hz) 36)).drew) hz_len HV11.out
                      generalize w9.alloc (.cells (hv hz) 36) = w10 at *
                      clear st
                      have hne := HNE.out
                      try simp only [List.append]
                      refine wp_region_noPanic ?_
                      refine wp_region_held_drew (S := (fun W => (hld ⟨w9.heap.size, 0, none⟩).run Tryz.prog W = .ok (.agg (hv hz)) W)) (by kernel_rfl) q1 (fun hHeld => ?_)
                      refine wpAnyH_take (i := 0) (v := ?_) (by simp only [List.getElem?_toArray, List.getElem?_cons_zero]; rfl) (by kernel_rfl) (by kernel_rfl) (by kernel_rfl) (fun _ _ _ h => h) (Or.inl ⟨by rfl, ?_⟩) (by assumption) ?_
                      rotate_left
                      · intro w hSw
                        try dsimp only at hSw
                        go_simp
                        try with_reducible rfl
                      try simp only [Act.put, List.setIfInBounds_toArray, List.set_cons_zero, List.set_cons_succ]
                      refine wpAnyH_take (i := 2) (v := ?_) (by simp only [List.getElem?_toArray, List.getElem?_cons_succ, List.getElem?_cons_zero]; rfl) (by kernel_rfl) (by kernel_rfl) (by kernel_rfl) (fun _ _ _ h => h) (Or.inl ⟨by rfl, ?_⟩) (by assumption) ?_
                      rotate_left
                      · intro w hSw
                        try dsimp only at hSw
                        go_simp
                        try with_reducible rfl
                      try simp only [Act.put, List.setIfInBounds_toArray, List.set_cons_zero, List.set_cons_succ]
                      refine wpAnyH_ready (rs := [1]) (by kernel_rfl) (by simp) ?_
                      refine AllReadyH.cons (by simp only [List.getElem?_toArray, List.getElem?_cons_succ, List.getElem?_cons_zero]; rfl) (fun K hK => ?_) AllReadyH.nil
                      go_simp
                      refine (HKI.out w10.drew ⟨B10.out.os, B10.out.tape, B10.out.output, B10.out.size, B10.out.block⟩).mono ?_
                      rintro e w11 ⟨rfl, b11⟩
                      have B11 : Hid (Below w3.heap.size w3 w11) := Lib.hid (B10.out.trans ((below_drn0 (m := 1) b11).mono B10.out.size))
                      have r1 := hld_row (w := w11) hz_len ((b11.block w9.heap.size (Array.getElem?_eq_some_iff.1 HV11.out).1).trans HV11.out)
                      clear b11
                      go_wp2_with fail
                      refine hK.out _ _ r1 (fun hHeld => ?_)
                      clear hK K
                      try simp only [Act.put, List.setIfInBounds_toArray, List.set_cons_zero, List.set_cons_succ]
                      refine wpAnyH_take (i := 3) (v := ?_) (by simp only [List.getElem?_toArray, List.getElem?_cons_succ, List.getElem?_cons_zero]; rfl) (by kernel_rfl) (by kernel_rfl) (by kernel_rfl) (fun _ _ _ h => h) (Or.inl ⟨by rfl, ?_⟩) (by assumption) ?_
                      rotate_left
                      · intro w hSw
                        try dsimp only at hSw
                        go_simp
                        try with_reducible rfl
                      try simp only [Act.put, List.setIfInBounds_toArray, List.set_cons_zero, List.set_cons_succ]
                      refine wpAnyH_take (i := 4) (v := ?_) (by simp only [List.getElem?_toArray, List.getElem?_cons_succ, List.getElem?_cons_zero]; rfl) (by kernel_rfl) (by kernel_rfl) (by kernel_rfl) (fun _ _ _ h => h) (Or.inl ⟨by rfl, ?_⟩) (by assumption) ?_
                      rotate_left
                      · intro w hSw
                        try dsimp only at hSw
                        go_simp
                        try with_reducible rfl
                      try simp only [Act.put, List.setIfInBounds_toArray, List.set_cons_zero, List.set_cons_succ]
                      refine wpAnyH_take (i := 5) (v := ?_) (by simp only [List.getElem?_toArray, List.getElem?_cons_succ, List.getElem?_cons_zero]; rfl) (by kernel_rfl) (by kernel_rfl) (by kernel_rfl) (fun _ _ _ h => h) (Or.inl ⟨by rfl, ?_⟩) (by assumption) ?_
                      rotate_left
                      · intro w hSw
                        try dsimp only at hSw
                        go_simp
                        try with_reducible rfl
                      try simp only [Act.put, List.setIfInBounds_toArray, List.set_cons_zero, List.set_cons_succ]
                      refine wpAnyH_take (i := 6) (v := ?_) (by simp only [List.getElem?_toArray, List.getElem?_cons_succ, List.getElem?_cons_zero]; rfl) (by kernel_rfl) (by kernel_rfl) (by kernel_rfl) (fun _ _ _ h => h) (Or.inl ⟨by rfl, ?_⟩) (by assumption) ?_
                      rotate_left
                      · intro w hSw
                        try dsimp only at hSw
                        go_simp
                        try with_reducible rfl
                      try simp only [Act.put, List.setIfInBounds_toArray, List.set_cons_zero, List.set_cons_succ]
                      refine wpAnyH_take (i := 7) (v := ?_) (by simp only [List.getElem?_toArray, List.getElem?_cons_succ, List.getElem?_cons_zero]; rfl) (by kernel_rfl) (by kernel_rfl) (by kernel_rfl) (fun _ _ _ h => h) (Or.inl ⟨by rfl, ?_⟩) (by assumption) ?_
                      rotate_left
                      · intro w hSw
                        try dsimp only at hSw
                        go_simp
                        try with_reducible rfl
                      try simp only [Act.put, List.setIfInBounds_toArray, List.set_cons_zero, List.set_cons_succ]
                      refine wpAnyH_take (i := 8) (v := undef) (by simp only [List.getElem?_toArray, List.getElem?_cons_succ, List.getElem?_cons_zero]; rfl) (by kernel_rfl) (by kernel_rfl) (by kernel_rfl) (fun _ _ _ h => h) (Or.inr ⟨by rfl, rfl⟩) (by assumption) ?_
                      try simp only [Act.put, List.setIfInBounds_toArray, List.set_cons_zero, List.set_cons_succ]
                      refine wpAnyH_take (i := 9) (v := undef) (by simp only [List.getElem?_toArray, List.getElem?_cons_succ, List.getElem?_cons_zero]; rfl) (by kernel_rfl) (by kernel_rfl) (by kernel_rfl) (fun _ _ _ h => h) (Or.inr ⟨by rfl, rfl⟩) (by assumption) ?_
                      try simp only [Act.put, List.setIfInBounds_toArray, List.set_cons_zero, List.set_cons_succ]
                      refine wpAnyH_take (i := 10) (v := undef) (by simp only [List.getElem?_toArray, List.getElem?_cons_succ, List.getElem?_cons_zero]; rfl) (by kernel_rfl) (by kernel_rfl) (by kernel_rfl) (fun _ _ _ h => h) (Or.inr ⟨by rfl, rfl⟩) (by assumption) ?_
                      try simp only [Act.put, List.setIfInBounds_toArray, List.set_cons_zero, List.set_cons_succ]
                      refine wpAnyH_take (i := 11) (v := undef) (by simp only [List.getElem?_toArray, List.getElem?_cons_succ, List.getElem?_cons_zero]; rfl) (by kernel_rfl) (by kernel_rfl) (by kernel_rfl) (fun _ _ _ h => h) (Or.inr ⟨by rfl, rfl⟩) (by assumption) ?_
                      try simp only [Act.put, List.setIfInBounds_toArray, List.set_cons_zero, List.set_cons_succ]
                      refine wpAnyH_take (i := 12) (v := undef) (by simp only [List.getElem?_toArray, List.getElem?_cons_succ, List.getElem?_cons_zero]; rfl) (by kernel_rfl) (by kernel_rfl) (by kernel_rfl) (fun _ _ _ h => h) (Or.inr ⟨by rfl, rfl⟩) (by assumption) ?_
                      try simp only [Act.put, List.setIfInBounds_toArray, List.set_cons_zero, List.set_cons_succ]
                      refine wpAnyH_take (i := 13) (v := ?_) (by simp only [List.getElem?_toArray, List.getElem?_cons_succ, List.getElem?_cons_zero]; rfl) (by kernel_rfl) (by kernel_rfl) (by kernel_rfl) (fun _ _ _ h => h) (Or.inl ⟨by rfl, ?_⟩) (by assumption) ?_
                      rotate_left
                      · intro w hSw
                        try dsimp only at hSw
                        go_simp
                        try with_reducible rfl
                      try simp only [Act.put, List.setIfInBounds_toArray, List.set_cons_zero, List.set_cons_succ]
                      refine wpAnyH_take (i := 14) (v := ?_) (by simp only [List.getElem?_toArray, List.getElem?_cons_succ, List.getElem?_cons_zero]; rfl) (by kernel_rfl) (by kernel_rfl) (by kernel_rfl) (fun _ _ _ h => h) (Or.inl ⟨by rfl, ?_⟩) (by assumption) ?_
                      rotate_left
                      · intro w hSw
                        try dsimp only at hSw
                        go_simp
                        try with_reducible rfl
                      try simp only [Act.put, List.setIfInBounds_toArray, List.set_cons_zero, List.set_cons_succ]
                      refine wpAnyH_take (i := 15) (v := ?_) (by simp only [List.getElem?_toArray, List.getElem?_cons_succ, List.getElem?_cons_zero]; rfl) (by kernel_rfl) (by kernel_rfl) (by kernel_rfl) (fun _ _ _ h => h) (Or.inl ⟨by rfl, ?_⟩) (by assumption) ?_
                      rotate_left
                      · intro w hSw
                        try dsimp only at hSw
                        go_simp
                        try with_reducible rfl
                      try simp only [Act.put, List.setIfInBounds_toArray, List.set_cons_zero, List.set_cons_succ]
                      refine wpAnyH_take (i := 16) (v := ?_) (by simp only [List.getElem?_toArray, List.getElem?_cons_succ, List.getElem?_cons_zero]; rfl) (by kernel_rfl) (by kernel_rfl) (by kernel_rfl) (fun _ _ _ h => h) (Or.inl ⟨by rfl, ?_⟩) (by assumption) ?_
                      rotate_left
                      · intro w hSw
                        try dsimp only at hSw
                        go_simp
                        try with_reducible rfl
                      try simp only [Act.put, List.setIfInBounds_toArray, List.set_cons_zero, List.set_cons_succ]
                      refine wpAnyH_take (i := 17) (v := ?_) (by simp only [List.getElem?_toArray, List.getElem?_cons_succ, List.getElem?_cons_zero]; rfl) (by kernel_rfl) (by kernel_rfl) (by kernel_rfl) (fun _ _ _ h => h) (Or.inl ⟨by rfl, ?_⟩) (by assumption) ?_
                      rotate_left
                      · intro w hSw
                        try dsimp only at hSw
                        go_simp
                        try with_reducible rfl
                      try simp only [Act.put, List.setIfInBounds_toArray, List.set_cons_zero, List.set_cons_succ]
                      refine wpAnyH_take (i := 18) (v := ?_) (by simp only [List.getElem?_toArray, List.getElem?_cons_succ, List.getElem?_cons_zero]; rfl) (by kernel_rfl) (by kernel_rfl) (by kernel_rfl) (fun _ _ _ h => h) (Or.inl ⟨by rfl, ?_⟩) (by assumption) ?_
                      rotate_left
                      · intro w hSw
                        try dsimp only at hSw
                        go_simp
                        try with_reducible rfl
                      try simp only [Act.put, List.setIfInBounds_toArray, List.set_cons_zero, List.set_cons_succ]
                      refine wpAnyH_take (i := 19) (v := ?_) (by simp only [List.getElem?_toArray, List.getElem?_cons_succ, List.getElem?_cons_zero]; rfl) (by kernel_rfl) (by kernel_rfl) (by kernel_rfl) (fun _ _ _ h => h) (Or.inl ⟨by rfl, ?_⟩) (by assumption) ?_
                      rotate_left
                      · intro w hSw
                        try dsimp only at hSw
                        go_simp
                        try with_reducible rfl
                      try simp only [Act.put, List.setIfInBounds_toArray, List.set_cons_zero, List.set_cons_succ]
                      refine wpAnyH_take (i := 20) (v := ?_) (by simp only [List.getElem?_toArray, List.getElem?_cons_succ, List.getElem?_cons_zero]; rfl) (by kernel_rfl) (by kernel_rfl) (by kernel_rfl) (fun _ _ _ h => h) (Or.inl ⟨by rfl, ?_⟩) (by assumption) ?_
                      rotate_left
                      · intro w hSw
                        try dsimp only at hSw
                        go_simp
                        try with_reducible rfl
                      try simp only [Act.put, List.setIfInBounds_toArray, List.set_cons_zero, List.set_cons_succ]
                      refine wpAnyH_take (i := 21) (v := ?_) (by simp only [List.getElem?_toArray, List.getElem?_cons_succ, List.getElem?_cons_zero]; rfl) (by kernel_rfl) (by kernel_rfl) (by kernel_rfl) (fun _ _ _ h => h) (Or.inl ⟨by rfl, ?_⟩) (by assumption) ?_
                      rotate_left
                      · intro w hSw
                        try dsimp only at hSw
                        go_simp
                        try with_reducible rfl
                      try simp only [Act.put, List.setIfInBounds_toArray, List.set_cons_zero, List.set_cons_succ]
                      refine wpAnyH_take (i := 22) (v := ?_) (by simp only [List.getElem?_toArray, List.getElem?_cons_succ, List.getElem?_cons_zero]; rfl) (by kernel_rfl) (by kernel_rfl) (by kernel_rfl) (fun _ _ _ h => h) (Or.inl ⟨by rfl, ?_⟩) (by assumption) ?_
                      rotate_left
                      · intro w hSw
                        try dsimp only at hSw
                        go_simp
                        try with_reducible rfl
                      try simp only [Act.put, List.setIfInBounds_toArray, List.set_cons_zero, List.set_cons_succ]
                      refine wpAnyH_take (i := 23) (v := ?_) (by simp only [List.getElem?_toArray, List.getElem?_cons_succ, List.getElem?_cons_zero]; rfl) (by kernel_rfl) (by kernel_rfl) (by kernel_rfl) (fun _ _ _ h => h) (Or.inl ⟨by rfl, ?_⟩) (by assumption) ?_
                      rotate_left
                      · intro w hSw
                        try dsimp only at hSw
                        go_simp
                        try with_reducible rfl
                      try simp only [Act.put, List.setIfInBounds_toArray, List.set_cons_zero, List.set_cons_succ]
                      refine wpAnyH_done (by kernel_rfl) ?_ _
                      refine NoPanic.normal ?_
                      clear q1 r1 hne
                      go_wp2_with fail
                      go_round
                      case rel => exact ⟨i + 1, by omega, by omega, by go_num, B11⟩
                      case measure => simp [intOf]; omega
end Go.Proofs.YtbpccbhlggcmfaaGreatDoor
