/- What decode makes of a body. The body is within what a slice may take up. -/
import Derived.Test.YtfneadlknieppaaDoorRootL
import Derived.Test.YtfneadlknieppaaDoorOctR
import Derived.Test.YtfneadlknieppaaDoorLogC
namespace Go.Proofs.YtfneadlknieppaaDoor
open Go.RowKit
open Go.Maps

theorem below_dw {n : Nat} {w w' : World} (h : Below n w w') : Below n w w'.drew := ⟨h.os, h.tape, h.output, h.size, h.block⟩
theorem nx_post {T B b : Nat} {w : World} {v : Value} {l : List Int} {lk : Bool} {e : Ending} {w' : World} (h : VarPost T B w b v lk (rv 10 0 0 l) e w') : e = .returned (.int .i64 (nxV l lk).1) ∧ Rdd T B w b v (nxV l lk).2.1 (nxV l lk).2.2 w' := by
  unfold VarPost at h
  unfold nxV pV
  cases hr : rv 10 0 0 l with
  | none => rw [hr] at h; exact h
  | some p => obtain ⟨x, l'⟩ := p; rw [hr] at h; exact h
theorem rvar_nx (w : World) (B b : Nat) (v : Value) (l : List Int) (lk : Bool) (h : Rd 128 B w b v l lk) :
    Calls Tryd.prog 53 #[.pointer (some ⟨b, 0, none⟩)] w fun e w' => e = .returned (.int .i64 (nxV l lk).1) ∧ Rdd 128 B w b v (nxV l lk).2.1 (nxV l lk).2.2 w' :=
  (rvar_any B w b v l lk h).mono fun _ _ h => nx_post h
/-- A decoder at work: what is read, the root at q, its lengths. -/
structure Dc (T U : Nat) (w wr : World) (M b q : Nat) (body : List Int) (g i n : Int) (ls : List Int) (lv : Value) : Prop where
  rd : ∃ v l lk, Rd T w.heap.size wr b v l lk ∧ (∀ k, v.ownBlock = some k → k < M) ∧ RdAt body g i n ls l lk
  obj : wr.heap[q]? = some (.cells #[.int .i64 g, lv, .int .i64 i] U (0, 0))
  own : IOwn wr M lv ls
  bel : Below w.heap.size w wr
  res : wr.heap[w.heap.size]? = some (.cells #[.int .i64 0, .slice none 0 0, .int .i64 0] U (0, 0))
  ge : M ≤ q
  le : w.heap.size < M
  bm : b < M
  msz : M ≤ wr.heap.size
  bne : w.heap.size < b
theorem Dc.drew {T U M b q : Nat} {w wr : World} {body : List Int} {g i n : Int} {ls : List Int} {lv : Value} (h : Dc T U w wr M b q body g i n ls lv) : Dc T U w wr.drew M b q body g i n ls lv := by
  obtain ⟨v, l, lk, h1, h2, h3⟩ := h.rd
  exact ⟨⟨v, l, lk, h1.kb (below_dw (Below.refl _ _)), h2, h3⟩, h.obj, own_kb h.own (below_dw (Below.refl _ _)), below_dw h.bel, h.res, h.ge, h.le, h.bm, h.msz, h.bne⟩
/-- Behind the reading of one number. -/
theorem Dc.read {T U M b q : Nat} {w wr w' : World} {body : List Int} {g i n : Int} {ls : List Int} {lv v : Value} {l : List Int} {lk : Bool} (h : Dc T U w wr M b q body g i n ls lv) (hv : ∀ k, v.ownBlock = some k → k < M) (ha : RdAt body g i n ls l lk) (hn : 0 < n)
    (hp : Rdd T w.heap.size wr b v (nxV l lk).2.1 (nxV l lk).2.2 w') : wr.heap.size ≤ w'.heap.size ∧ w'.heap[q]? = some (.cells #[.int .i64 g, lv, .int .i64 i] U (0, 0)) ∧ IOwn w' M lv ls ∧ Below w.heap.size w w' ∧ w'.heap[w.heap.size]? = some (.cells #[.int .i64 0, .slice none 0 0, .int .i64 0] U (0, 0)) ∧
    ∃ v' l' lk', Rd T w.heap.size w' b v' l' lk' ∧ (∀ k, v'.ownBlock = some k → k < M) ∧ RdAt body g i (n - 1) (ls ++ [(nxV l lk).1]) l' lk' := by
  obtain ⟨v', h1, h2, h3⟩ := hp
  have hm := h.msz
  have hge := h.ge
  have hbm := h.bm
  have hbn := h.bne
  refine ⟨h2.size, (h2.block _ (lt_of_block h.obj) (by omega)).trans h.obj, own_kept h.own h2 (fun k hk e => by have := (h.own.lt k hk).1; omega), h.bel.trans (h2.below h.bel.size (fun k hk => by omega)), (h2.block _ (lt_of_block h.res) (by omega)).trans h.res, v', _, _, h1, fun k hk => hv k (h3 k hk), ha.next hn⟩
/-- Behind the laying of that number. -/
theorem Dc.laid {T U M b q gg cc : Nat} {w w1 w2 w3 : World} {body : List Int} {g i n : Int} {ls : List Int} {lv : Value} {x : Int} {H : Nat}
    (hq : w1.heap[q]? = some (.cells #[.int .i64 g, lv, .int .i64 i] U (0, 0))) (ho : IOwn w1 M lv ls) (hb : Below w.heap.size w w1) (hs : w1.heap[w.heap.size]? = some (.cells #[.int .i64 0, .slice none 0 0, .int .i64 0] U (0, 0))) (hge : M ≤ q) (hle : w.heap.size < M) (hbm : b < M) (hbn : w.heap.size < b) (hm : M ≤ w1.heap.size)
    (hr : ∃ v' l' lk', Rd T w.heap.size w1 b v' l' lk' ∧ (∀ k, v'.ownBlock = some k → k < M) ∧ RdAt body g i (n - 1) (ls ++ [x]) l' lk') (hb2 : Below w1.heap.size w1 w2) (hn : U ≠ 3)
    (own : w3.ownsRow M 3 1 (.slice (some ⟨gg, 0, none⟩) (ls.length + 1) cc) (ls.length + 1) (iv ls ++ [.int .i64 x])) (grow : w2.grownBy w3 lv.ownBlock) (hat : lv.ownBlock = some gg ∨ gg = H) (hH : w1.heap.size ≤ H) :
    w3.heap[q]? = some (.cells #[.int .i64 g, lv, .int .i64 i] U (0, 0)) ∧ Dc T U w (w3.setCell ⟨q, 1, none⟩ (.slice (some ⟨gg, 0, none⟩) (ls.length + 1) cc)) M b q body g i (n - 1) (ls ++ [x]) (.slice (some ⟨gg, 0, none⟩) (ls.length + 1) cc) := by
  have o3 : Only (fun k => lv.ownBlock = some k) w1 w3 := Only.grown (Only.of_below hb2) grow (fun k _ e => e)
  have hlv : ∀ k, lv.ownBlock = some k → M ≤ k ∧ k ≠ q := fun k hk => ⟨(ho.lt k hk).1, fun e => by
    obtain ⟨cs, hcs⟩ := own_type ho hk
    rw [e, hq] at hcs
    simp at hcs
    exact hn hcs.2⟩
  have hgq : gg ≠ q := fun e => by
    rcases hat with h | h
    · exact (hlv _ h).2 e
    · have := lt_of_block hq; omega
  have o4 : Only (fun k => lv.ownBlock = some k ∨ k = q) w1 (w3.setCell ⟨q, 1, none⟩ (.slice (some ⟨gg, 0, none⟩) (ls.length + 1) cc)) := (o3.mono (fun _ _ e => .inl e)).setCell (p := ⟨q, 1, none⟩) (.inr rfl) _
  have hq3 := (o3.block q (lt_of_block hq) (fun e => (hlv q e).2 rfl)).trans hq
  obtain ⟨v', l', lk', r1, r2, r3⟩ := hr
  refine ⟨hq3, ⟨v', l', lk', r1.kept o4 ?_ ?_, r2, r3⟩, Lib.heap_setCell_same (i := 1) hq3 _, ?_, hb.trans (o4.below hb.size ?_), (o4.block _ (lt_of_block hs) ?_).trans hs, hge, hle, hbm, Nat.le_trans hm o4.size, hbn⟩
  · rintro (e | e)
    · have := (hlv b e).1; omega
    · omega
  · rintro k hk (e | e)
    · have := (hlv k e).1; have := r2 k hk; omega
    · have := r2 k hk; omega
  · have h1 : IOwn w3 M (.slice (some ⟨gg, 0, none⟩) (ls.length + 1) cc) (ls ++ [x]) := by
      have e1 : (ls ++ [x]).length = ls.length + 1 := by simp
      unfold IOwn
      rw [e1, show iv (ls ++ [x]) = iv ls ++ [.int .i64 x] from by simp]
      exact own
    exact own_kept h1 ((Only.refl (fun k => k = q) w3).setCell (p := ⟨q, 1, none⟩) rfl _) (fun k hk e => by
      simp only [Value.ownBlock, Option.some.injEq] at hk
      exact hgq (hk.trans e))
  · rintro k (e | e)
    · have := (hlv k e).1; omega
    · omega
  · rintro (e | e)
    · have := (hlv _ e).1; omega
    · omega
theorem rdec_fit {j : Nat} (h : j ≤ 16) : j + 1 ≤ maxLen ∧ (j + 1) * 8 ≤ 140737488355328 := by unfold maxLen; omega
/-- What decode answers. -/
def RDecPost (w : World) (body : List Int) (e : Ending) (w' : World) : Prop := ∃ g v i ls, e = .returned (rtv g v i) ∧ IOwn w' w.heap.size v ls ∧ ls.length ≤ 8 ∧ DecIs body ⟨g, ls, i⟩ ∧ Below w.heap.size w w'
set_option maxRecDepth 20000 in
set_option maxHeartbeats 4000000 in
theorem rdecode_to (w : World) (u : Value) (body : List Int) (hl : body.length ≤ 140737488351232) (ok : Okb body) (hs : Seen w u body) :
    Calls Tryd.prog 30 #[u] w (RDecPost w body) := by
  have B1 : Hid (Below w.heap.size w (w.alloc (.cells #[.int .i64 0, .slice none 0 0, .int .i64 0] 24))) := Lib.hid ((Below.refl _ w).alloc (Nat.le_refl _) _)
  have H1 : Hid ((w.alloc (.cells #[.int .i64 0, .slice none 0 0, .int .i64 0] 24)).heap[w.heap.size]? = some (.cells #[.int .i64 0, .slice none 0 0, .int .i64 0] 24 (0, 0))) := Lib.hid (heap_alloc_last w _)
  have HN := Lib.hid (newreader_any (w.alloc (.cells #[.int .i64 0, .slice none 0 0, .int .i64 0] 24)) w.heap.size (by simp) u body hl ok (hs.kb B1.out))
  obtain ⟨pu, cu, rfl⟩ := len_val hs
  clear hs
  go_enter Tryd.func30, Tryd.ntmps30
  go_wp2_with fail
  refine HN.out.mono ?_
  rintro e w2 ⟨b, v2, rfl, r2, b2, gb, gv⟩
  have R2 := Lib.hid r2
  have B2 : Hid (Below w.heap.size w w2) := Lib.hid (B1.out.trans (b2.mono (by simp)))
  have H2 := Lib.hid ((b2.block _ (lt_of_block H1.out)).trans H1.out)
  have HB : Hid (w.heap.size < b ∧ b < w2.heap.size ∧ ∀ k, v2.ownBlock = some k → w.heap.size < k ∧ k < w2.heap.size) := Lib.hid ⟨by simp at gb; omega, r2.lt, fun k hk => ⟨by have := gv k hk; simp at this; omega, (r2.own k hk).2.2⟩⟩
  have F := Lib.hid (RdAt.first body)
  clear r2 b2 gb gv HN H1 B1
  go_wp2_with fail
  refine (rvar_nx w2 _ b v2 body false R2.out).mono ?_
  rintro e w3 ⟨rfl, v3, r3, o3, s3⟩
  obtain ⟨N1, hN1⟩ : ∃ z, z = nxV body false := ⟨_, rfl⟩
  rw [← hN1] at r3 F ⊢
  have R3 := Lib.hid r3
  have O3 := Lib.hid o3
  have S3 := Lib.hid s3
  clear r3 o3 s3 hN1
  go_wp2_with fail
  refine (rvar_nx w3 _ b v3 _ _ R3.out).mono ?_
  rintro e w4 ⟨rfl, v4, r4, o4, s4⟩
  obtain ⟨N2, hN2⟩ : ∃ z, z = nxV N1.2.1 N1.2.2 := ⟨_, rfl⟩
  rw [← hN2] at r4 F ⊢
  have R4 := Lib.hid r4
  have O4 : Hid (Only (fun k => k = b) w2 w4) := Lib.hid (O3.out.trans o4 (fun _ h => h) (fun _ _ h => h))
  have S4 : Hid (∀ k, v4.ownBlock = some k → v2.ownBlock = some k) := Lib.hid (fun k hk => S3.out k (s4 k hk))
  clear r4 o4 s4 hN2 R3 O3 S3
  go_wp2_with fail
  have HQ : Hid ((w4.alloc (.cells #[.int .i64 N1.1, .slice none 0 0, .int .i64 N2.1] 24)).heap[w4.heap.size]? = some (.cells #[.int .i64 N1.1, .slice none 0 0, .int .i64 N2.1] 24 (0, 0))) := Lib.hid (heap_alloc_last w4 _)
  have BQ : Hid (Below w4.heap.size w4 (w4.alloc (.cells #[.int .i64 N1.1, .slice none 0 0, .int .i64 N2.1] 24))) := Lib.hid ((Below.refl _ w4).alloc (Nat.le_refl _) _)
  generalize w4.alloc (.cells #[.int .i64 N1.1, .slice none 0 0, .int .i64 N2.1] 24) = w5 at HQ BQ ⊢
  have R5 := Lib.hid (R4.out.kb BQ.out)
  have O5 : Hid (Only (fun k => k = b) w2 w5) := Lib.hid (O4.out.trans (Only.of_below BQ.out (S := fun _ => False)) (fun _ h => h) (fun _ _ h => h.elim))
  obtain ⟨q, hq⟩ : ∃ q, q = w4.heap.size := ⟨_, rfl⟩
  have HQM : Hid (w2.heap.size ≤ q) := Lib.hid (by rw [hq]; exact O4.out.size)
  rw [← hq] at HQ ⊢
  clear hq BQ O4 R4
  refine (rvar_nx w5 _ b v4 _ _ R5.out).mono ?_
  rintro e w6 ⟨rfl, v6, r6, o6, s6⟩
  obtain ⟨N3, hN3⟩ : ∃ z, z = nxV N2.2.1 N2.2.2 := ⟨_, rfl⟩
  rw [← hN3] at r6 F ⊢
  have D6 : Hid (Dc 128 24 w w6 w2.heap.size b q body N1.1 N2.1 (N3.1 - (0 : Nat)) [] (.slice none 0 0)) := Lib.hid (by
    have O6 : Only (fun k => k = b) w2 w6 := O5.out.trans o6 (fun _ h => h) (fun _ _ h => h)
    have hb := HB.out
    refine ⟨⟨v6, _, _, r6, fun k hk => (hb.2.2 k (S4.out k (s6 k hk))).2, by simpa using F.out⟩, (o6.block _ (lt_of_block HQ.out) (by have := HQM.out; omega)).trans HQ.out, World.ownsRow_nil _ _ _ _, B2.out.trans (O6.below B2.out.size (fun k hk => by omega)), (O6.block _ (lt_of_block H2.out) (by omega)).trans H2.out, HQM.out, by omega, hb.2.1, O6.size, hb.1⟩)
  clear r6 o6 s6 hN3 F HQ R5 O5 S4 H2 B2 HB R2
  obtain ⟨n3, hn3⟩ : ∃ z, z = N3.1 := ⟨_, rfl⟩
  rw [← hn3] at D6 ⊢
  clear hn3
  obtain ⟨M, hM⟩ : ∃ z, z = w2.heap.size := ⟨_, rfl⟩
  rw [← hM] at D6
  clear hM HQM
  have HMN : Hid (∀ j : Nat, (j : Int) < min n3 8 → 0 < n3 - (j : Int) ∧ j < 8) := Lib.hid (fun j h => by omega)
  have HMX : Hid (∀ j : Nat, ¬ (j : Int) < min n3 8 → n3 - (j : Int) ≤ 0 ∨ 8 ≤ j) := Lib.hid (fun j h => by omega)
  have HM8 : Hid (min n3 8 ≤ 8) := Lib.hid (by omega)
  obtain ⟨mn, hmn⟩ : ∃ z, min n3 8 = z := ⟨_, rfl⟩
  rw [hmn] at HMN HMX HM8
  go_wp2_with fail
  obtain ⟨i0, hi0, hz0, hz1, hz2⟩ := info_parts iinfo
  go_loopw [15] (fun t wr => ∃ (j : Nat) (ls : List Int) (lv : Value), t = .int .i64 j ∧ j ≤ 8 ∧ ls.length = j ∧ Hid (Dc 128 24 w wr M b q body N1.1 N2.1 (n3 - (j : Nat)) ls lv)) (fun t _ => 8 - (intOf t).toNat)
  case atStart => exact ⟨0, [], _, rfl, by omega, rfl, D6⟩
  case round =>
    clear D6
    obtain ⟨j, ls, lv, rfl, hj8, hlj, D⟩ := hrel
    by_cases hlt : (j : Int) < mn
    case neg =>
      obtain ⟨p, c, rfl⟩ := own_slice D.out.own
      have HF := Lib.hid (HMX.out j (by omega))
      have HLJ := Lib.hid hlj
      obtain ⟨v, l, lk, _, _, hra⟩ := D.out.rd
      have HDI := Lib.hid (hra.fin8 (by rw [hlj]; exact HF.out))
      obtain ⟨c0, c1, c2, _⟩ := three_cells D.out.obj
      obtain ⟨r0, r1, r2, rf⟩ := three_cells D.out.res
      have hlt' : ¬ (j : Int) < mn := hlt
      clear hra hlj hlt hmn
      go_wp2_with fail
      (try simp only [Exit.inBlock, Exit.then])
      refine bodyPost_ret (results_cell_row rfl _ _ w.heap.size _ _ (0, 0) _ rfl (set3 D.out.res) Tryd.underlying24 rfl (by kernel_rfl)) rfl ?_
      have o := only3 (Only.refl (fun k => k = w.heap.size) wr) rfl (.int .i64 N1.1) (.slice p ls.length c) (.int .i64 N2.1)
      exact ⟨N1.1, _, N2.1, ls, rfl, (own_kept D.out.own o (fun k hk e => by have := (D.out.own.lt k hk).1; have := D.out.le; omega)).mono (Nat.le_of_lt D.out.le), by rw [HLJ.out]; exact hj8, HDI.out, D.out.bel.trans (o.below D.out.bel.size (fun k hk => by omega))⟩
    have hj7 : j < 8 := (HMN.out j hlt).2
    have HNP : Hid (0 < n3 - (j : Int)) := Lib.hid (HMN.out j hlt).1
    obtain ⟨p, c, rfl⟩ := own_slice D.out.own
    have DD := Lib.hid D.out.drew
    obtain ⟨v, l, lk, hr, hv, hra⟩ := DD.out.rd
    have HR := Lib.hid (rvar_nx wr.drew _ b v l lk hr)
    have HRD := Lib.hid (fun w' hp => DD.out.read (w' := w') hv hra HNP.out hp)
    obtain ⟨_, c1d, _, _⟩ := three_cells DD.out.obj
    have HFT := Lib.hid (rdec_fit (j := j) (by omega))
    have HLJ := Lib.hid hlj
    obtain ⟨x, hx⟩ : ∃ z, z = (nxV l lk).1 := ⟨_, rfl⟩
    rw [hlj] at c1d
    rw [← hx] at HR HRD
    clear hr hv hra hlj hmn hx
    have hlt' : (j : Int) < mn := hlt
    go_wp2_with fail
    try simp only [List.append]
    refine wp_region_noPanic ?_
    refine wp_region_any_drew (by kernel_rfl) ?_
    refine wpAny_take (i := 0) (v := ?_) (by simp only [List.getElem?_toArray, List.getElem?_cons_zero]; rfl) (by kernel_rfl) (by kernel_rfl) (by kernel_rfl) (fun _ _ _ h => h) (Or.inl ⟨by rfl, ?_⟩) ?_
    rotate_left
    · intro w
      go_simp
      try with_reducible rfl
    try simp only [Act.put, List.setIfInBounds_toArray, List.set_cons_zero, List.set_cons_succ]
    refine wpAny_take (i := 2) (v := ?_) (by simp only [List.getElem?_toArray, List.getElem?_cons_succ, List.getElem?_cons_zero]; rfl) (by kernel_rfl) (by kernel_rfl) (by kernel_rfl) (fun _ _ _ h => h) (Or.inl ⟨by rfl, ?_⟩) ?_
    rotate_left
    · intro w
      go_simp
      try with_reducible rfl
    try simp only [Act.put, List.setIfInBounds_toArray, List.set_cons_zero, List.set_cons_succ]
    refine wpAny_ready (rs := [1, 3]) (by kernel_rfl) (by simp) ?_
    refine (AllReady.cons (by simp only [List.getElem?_toArray, List.getElem?_cons_succ, List.getElem?_cons_zero]; rfl) (fun K hK => ?_) (AllReady.cons (by simp only [List.getElem?_toArray, List.getElem?_cons_succ, List.getElem?_cons_zero]; rfl) (fun K hK => ?_) AllReady.nil))
    · have HK := Lib.hid hK
      clear hK
      go_simp
      refine HK.out _ _ ?_
      clear HK K
      try simp only [Act.put, List.setIfInBounds_toArray, List.set_cons_zero, List.set_cons_succ]
      refine wpAny_ready (rs := [3]) (by kernel_rfl) (by simp) ?_
      refine (AllReady.cons (by simp only [List.getElem?_toArray, List.getElem?_cons_succ, List.getElem?_cons_zero]; rfl) (fun K hK => ?_) AllReady.nil)
      have HK := Lib.hid hK
      clear hK
      go_simp
      refine HR.out.mono ?_
      rintro e w1 ⟨rfl, hp⟩
      have HP := Lib.hid (HRD.out w1 hp)
      clear hp
      obtain ⟨_, c1w, _, _⟩ := three_cells HP.out.2.1
      rw [HLJ.out] at c1w
      go_wp2_with fail
      refine HK.out _ _ ?_
      clear HK K
      try simp only [Act.put, List.setIfInBounds_toArray, List.set_cons_zero, List.set_cons_succ]
      refine wpAny_ready (rs := [4]) (by kernel_rfl) (by simp) ?_
      refine (AllReady.cons (by simp only [List.getElem?_toArray, List.getElem?_cons_succ, List.getElem?_cons_zero]; rfl) (fun K hK => ?_) AllReady.nil)
      have HK := Lib.hid hK
      clear hK
      go_simp
      have HB4 : Hid (Below w1.heap.size w1 (w1.alloc (.cells #[.int .i64 x] 3))) := Lib.hid ((Below.refl _ w1).alloc (Nat.le_refl _) _)
      have c1a : (w1.alloc (.cells #[.int .i64 x] 3)).cell? ⟨q, 1, none⟩ = some (.slice p j c) := by rw [World.cell?_of_block (w := w1) (HB4.out.block _ (lt_of_block HP.out.2.1))]; exact c1w
      have HN4 : Hid (∀ j u, ([.int .i64 x] : List Value)[j]? = some u → (w1.alloc (.cells #[.int .i64 x] 3)).cell? ((⟨w1.heap.size, 0, none⟩ : Addr).add j) = some u) := Lib.hid (World.news_of_block (cs := #[.int .i64 x]) (t := 3) (fr := (0, 0)) (heap_alloc_new w1 _))
      refine HK.out _ _ ?_
      clear HK K
      try simp only [Act.put, List.setIfInBounds_toArray, List.set_cons_zero, List.set_cons_succ]
      refine wpAny_ready (rs := [5]) (by kernel_rfl) (by simp) ?_
      refine (AllReady.cons (by simp only [List.getElem?_toArray, List.getElem?_cons_succ, List.getElem?_cons_zero]; rfl) (fun K hK => ?_) AllReady.nil)
      have HK := Lib.hid hK
      clear hK
      refine step_append_lies _ (by rfl) _ _ _ (by rfl) M 3 i0 _ 1 8 Tryd.underlying22 hi0 hz0 hz1 hz2 rfl (by omega) (.slice p j c) j (iv ls) (by rfl) (by have := own_kb HP.out.2.2.1 HB4.out; rw [HLJ.out] at this; exact this) ⟨w1.heap.size, 0, none⟩ 1 1 [.int .i64 x] (by rfl) (by rfl) (fun j u hj => HN4.out j u hj) (by simp [Value.oneCell']) (by decide) HFT.out.1 HFT.out.2 (Nat.le_trans DD.out.msz (Nat.le_trans HP.out.1 HB4.out.size)) (w1.heap.size + 1) (by simp) ?_
      intro gg cc w5 own5 grow5 hat5 hlt5
      have HDC : Hid (w5.heap[q]? = some (.cells #[.int .i64 N1.1, .slice p j c, .int .i64 N2.1] 24 (0, 0)) ∧ Dc 128 24 w (w5.setCell ⟨q, 1, none⟩ (.slice (some ⟨gg, 0, none⟩) (j + 1) cc)) M b q body N1.1 N2.1 (n3 - (j : Nat) - 1) (ls ++ [x]) (.slice (some ⟨gg, 0, none⟩) (j + 1) cc)) := Lib.hid (by
        obtain ⟨h1, h2, h3, h4, h5, h6⟩ := HP.out
        have := Dc.laid (T := 128) (U := 24) h2 h3 h4 h5 DD.out.ge DD.out.le DD.out.bm DD.out.bne (Nat.le_trans DD.out.msz h1) h6 HB4.out (by decide) (gg := gg) (cc := cc) (w3 := w5) (by rw [HLJ.out]; exact own5) (by rw [HLJ.out]; exact grow5) (by rw [HLJ.out]; exact hat5) (Nat.le_succ _)
        rw [HLJ.out] at this
        exact this)
      obtain ⟨_, c5, _, f5⟩ := three_cells HDC.out.1
      clear own5 grow5 hat5 hlt5
      refine HK.out _ _ ?_
      clear HK K
      try simp only [Act.put, List.setIfInBounds_toArray, List.set_cons_zero, List.set_cons_succ]
      refine wpAny_take (i := 6) (v := ?_) (by simp only [List.getElem?_toArray, List.getElem?_cons_succ, List.getElem?_cons_zero]; rfl) (by kernel_rfl) (by kernel_rfl) (by kernel_rfl) (fun _ _ _ h => h) (Or.inl ⟨by rfl, ?_⟩) ?_
      rotate_left
      · intro w
        go_simp
        try with_reducible rfl
      try simp only [Act.put, List.setIfInBounds_toArray, List.set_cons_zero, List.set_cons_succ]
      refine wpAny_ready (rs := [7]) (by kernel_rfl) (by simp) ?_
      refine (AllReady.cons (by simp only [List.getElem?_toArray, List.getElem?_cons_succ, List.getElem?_cons_zero]; rfl) (fun K hK => ?_) AllReady.nil)
      have HK := Lib.hid hK
      clear hK
      go_simp
      refine HK.out _ _ ?_
      clear HK K
      try simp only [Act.put, List.setIfInBounds_toArray, List.set_cons_zero, List.set_cons_succ]
      refine wpAny_done (by kernel_rfl) ?_ _
      refine NoPanic.normal ?_
      clear c1d c1w c1a c5 f5
      go_wp2_with fail
      refine ⟨⟨j + 1, ls ++ [x], .slice (some ⟨gg, 0, none⟩) (j + 1) cc, by go_num, by omega, by rw [List.length_append, HLJ.out]; rfl, Lib.hid ?_⟩, by simp [intOf]; omega⟩
      have := HDC.out.2
      rw [show n3 - (j : Int) - 1 = n3 - ((j + 1 : Nat) : Int) from by omega] at this
      exact this
    · have HK := Lib.hid hK
      clear hK
      go_simp
      refine HR.out.mono ?_
      rintro e w1 ⟨rfl, hp⟩
      have HP := Lib.hid (HRD.out w1 hp)
      clear hp
      obtain ⟨_, c1w, _, _⟩ := three_cells HP.out.2.1
      rw [HLJ.out] at c1w
      go_wp2_with fail
      refine HK.out _ _ ?_
      clear HK K
      try simp only [Act.put, List.setIfInBounds_toArray, List.set_cons_zero, List.set_cons_succ]
      refine wpAny_ready (rs := [1, 4]) (by kernel_rfl) (by simp) ?_
      refine (AllReady.cons (by simp only [List.getElem?_toArray, List.getElem?_cons_succ, List.getElem?_cons_zero]; rfl) (fun K hK => ?_) (AllReady.cons (by simp only [List.getElem?_toArray, List.getElem?_cons_succ, List.getElem?_cons_zero]; rfl) (fun K hK => ?_) AllReady.nil))
      · have HK := Lib.hid hK
        clear hK
        go_simp
        refine HK.out _ _ ?_
        clear HK K
        try simp only [Act.put, List.setIfInBounds_toArray, List.set_cons_zero, List.set_cons_succ]
        refine wpAny_ready (rs := [4]) (by kernel_rfl) (by simp) ?_
        refine (AllReady.cons (by simp only [List.getElem?_toArray, List.getElem?_cons_succ, List.getElem?_cons_zero]; rfl) (fun K hK => ?_) AllReady.nil)
        have HK := Lib.hid hK
        clear hK
        go_simp
        have HB4 : Hid (Below w1.heap.size w1 (w1.alloc (.cells #[.int .i64 x] 3))) := Lib.hid ((Below.refl _ w1).alloc (Nat.le_refl _) _)
        have c1a : (w1.alloc (.cells #[.int .i64 x] 3)).cell? ⟨q, 1, none⟩ = some (.slice p j c) := by rw [World.cell?_of_block (w := w1) (HB4.out.block _ (lt_of_block HP.out.2.1))]; exact c1w
        have HN4 : Hid (∀ j u, ([.int .i64 x] : List Value)[j]? = some u → (w1.alloc (.cells #[.int .i64 x] 3)).cell? ((⟨w1.heap.size, 0, none⟩ : Addr).add j) = some u) := Lib.hid (World.news_of_block (cs := #[.int .i64 x]) (t := 3) (fr := (0, 0)) (heap_alloc_new w1 _))
        refine HK.out _ _ ?_
        clear HK K
        try simp only [Act.put, List.setIfInBounds_toArray, List.set_cons_zero, List.set_cons_succ]
        refine wpAny_ready (rs := [5]) (by kernel_rfl) (by simp) ?_
        refine (AllReady.cons (by simp only [List.getElem?_toArray, List.getElem?_cons_succ, List.getElem?_cons_zero]; rfl) (fun K hK => ?_) AllReady.nil)
        have HK := Lib.hid hK
        clear hK
        refine step_append_lies _ (by rfl) _ _ _ (by rfl) M 3 i0 _ 1 8 Tryd.underlying22 hi0 hz0 hz1 hz2 rfl (by omega) (.slice p j c) j (iv ls) (by rfl) (by have := own_kb HP.out.2.2.1 HB4.out; rw [HLJ.out] at this; exact this) ⟨w1.heap.size, 0, none⟩ 1 1 [.int .i64 x] (by rfl) (by rfl) (fun j u hj => HN4.out j u hj) (by simp [Value.oneCell']) (by decide) HFT.out.1 HFT.out.2 (Nat.le_trans DD.out.msz (Nat.le_trans HP.out.1 HB4.out.size)) (w1.heap.size + 1) (by simp) ?_
        intro gg cc w5 own5 grow5 hat5 hlt5
        have HDC : Hid (w5.heap[q]? = some (.cells #[.int .i64 N1.1, .slice p j c, .int .i64 N2.1] 24 (0, 0)) ∧ Dc 128 24 w (w5.setCell ⟨q, 1, none⟩ (.slice (some ⟨gg, 0, none⟩) (j + 1) cc)) M b q body N1.1 N2.1 (n3 - (j : Nat) - 1) (ls ++ [x]) (.slice (some ⟨gg, 0, none⟩) (j + 1) cc)) := Lib.hid (by
          obtain ⟨h1, h2, h3, h4, h5, h6⟩ := HP.out
          have := Dc.laid (T := 128) (U := 24) h2 h3 h4 h5 DD.out.ge DD.out.le DD.out.bm DD.out.bne (Nat.le_trans DD.out.msz h1) h6 HB4.out (by decide) (gg := gg) (cc := cc) (w3 := w5) (by rw [HLJ.out]; exact own5) (by rw [HLJ.out]; exact grow5) (by rw [HLJ.out]; exact hat5) (Nat.le_succ _)
          rw [HLJ.out] at this
          exact this)
        obtain ⟨_, c5, _, f5⟩ := three_cells HDC.out.1
        clear own5 grow5 hat5 hlt5
        refine HK.out _ _ ?_
        clear HK K
        try simp only [Act.put, List.setIfInBounds_toArray, List.set_cons_zero, List.set_cons_succ]
        refine wpAny_take (i := 6) (v := ?_) (by simp only [List.getElem?_toArray, List.getElem?_cons_succ, List.getElem?_cons_zero]; rfl) (by kernel_rfl) (by kernel_rfl) (by kernel_rfl) (fun _ _ _ h => h) (Or.inl ⟨by rfl, ?_⟩) ?_
        rotate_left
        · intro w
          go_simp
          try with_reducible rfl
        try simp only [Act.put, List.setIfInBounds_toArray, List.set_cons_zero, List.set_cons_succ]
        refine wpAny_ready (rs := [7]) (by kernel_rfl) (by simp) ?_
        refine (AllReady.cons (by simp only [List.getElem?_toArray, List.getElem?_cons_succ, List.getElem?_cons_zero]; rfl) (fun K hK => ?_) AllReady.nil)
        have HK := Lib.hid hK
        clear hK
        go_simp
        refine HK.out _ _ ?_
        clear HK K
        try simp only [Act.put, List.setIfInBounds_toArray, List.set_cons_zero, List.set_cons_succ]
        refine wpAny_done (by kernel_rfl) ?_ _
        refine NoPanic.normal ?_
        clear c1d c1w c1a c5 f5
        go_wp2_with fail
        refine ⟨⟨j + 1, ls ++ [x], .slice (some ⟨gg, 0, none⟩) (j + 1) cc, by go_num, by omega, by rw [List.length_append, HLJ.out]; rfl, Lib.hid ?_⟩, by simp [intOf]; omega⟩
        have := HDC.out.2
        rw [show n3 - (j : Int) - 1 = n3 - ((j + 1 : Nat) : Int) from by omega] at this
        exact this
      · have HK := Lib.hid hK
        clear hK
        go_simp
        have HB4 : Hid (Below w1.heap.size w1 (w1.alloc (.cells #[.int .i64 x] 3))) := Lib.hid ((Below.refl _ w1).alloc (Nat.le_refl _) _)
        have c1a : (w1.alloc (.cells #[.int .i64 x] 3)).cell? ⟨q, 1, none⟩ = some (.slice p j c) := by rw [World.cell?_of_block (w := w1) (HB4.out.block _ (lt_of_block HP.out.2.1))]; exact c1w
        have HN4 : Hid (∀ j u, ([.int .i64 x] : List Value)[j]? = some u → (w1.alloc (.cells #[.int .i64 x] 3)).cell? ((⟨w1.heap.size, 0, none⟩ : Addr).add j) = some u) := Lib.hid (World.news_of_block (cs := #[.int .i64 x]) (t := 3) (fr := (0, 0)) (heap_alloc_new w1 _))
        refine HK.out _ _ ?_
        clear HK K
        try simp only [Act.put, List.setIfInBounds_toArray, List.set_cons_zero, List.set_cons_succ]
        refine wpAny_ready (rs := [1]) (by kernel_rfl) (by simp) ?_
        refine (AllReady.cons (by simp only [List.getElem?_toArray, List.getElem?_cons_succ, List.getElem?_cons_zero]; rfl) (fun K hK => ?_) AllReady.nil)
        have HK := Lib.hid hK
        clear hK
        go_simp
        refine HK.out _ _ ?_
        clear HK K
        try simp only [Act.put, List.setIfInBounds_toArray, List.set_cons_zero, List.set_cons_succ]
        refine wpAny_ready (rs := [5]) (by kernel_rfl) (by simp) ?_
        refine (AllReady.cons (by simp only [List.getElem?_toArray, List.getElem?_cons_succ, List.getElem?_cons_zero]; rfl) (fun K hK => ?_) AllReady.nil)
        have HK := Lib.hid hK
        clear hK
        refine step_append_lies _ (by rfl) _ _ _ (by rfl) M 3 i0 _ 1 8 Tryd.underlying22 hi0 hz0 hz1 hz2 rfl (by omega) (.slice p j c) j (iv ls) (by rfl) (by have := own_kb HP.out.2.2.1 HB4.out; rw [HLJ.out] at this; exact this) ⟨w1.heap.size, 0, none⟩ 1 1 [.int .i64 x] (by rfl) (by rfl) (fun j u hj => HN4.out j u hj) (by simp [Value.oneCell']) (by decide) HFT.out.1 HFT.out.2 (Nat.le_trans DD.out.msz (Nat.le_trans HP.out.1 HB4.out.size)) (w1.heap.size + 1) (by simp) ?_
        intro gg cc w5 own5 grow5 hat5 hlt5
        have HDC : Hid (w5.heap[q]? = some (.cells #[.int .i64 N1.1, .slice p j c, .int .i64 N2.1] 24 (0, 0)) ∧ Dc 128 24 w (w5.setCell ⟨q, 1, none⟩ (.slice (some ⟨gg, 0, none⟩) (j + 1) cc)) M b q body N1.1 N2.1 (n3 - (j : Nat) - 1) (ls ++ [x]) (.slice (some ⟨gg, 0, none⟩) (j + 1) cc)) := Lib.hid (by
          obtain ⟨h1, h2, h3, h4, h5, h6⟩ := HP.out
          have := Dc.laid (T := 128) (U := 24) h2 h3 h4 h5 DD.out.ge DD.out.le DD.out.bm DD.out.bne (Nat.le_trans DD.out.msz h1) h6 HB4.out (by decide) (gg := gg) (cc := cc) (w3 := w5) (by rw [HLJ.out]; exact own5) (by rw [HLJ.out]; exact grow5) (by rw [HLJ.out]; exact hat5) (Nat.le_succ _)
          rw [HLJ.out] at this
          exact this)
        obtain ⟨_, c5, _, f5⟩ := three_cells HDC.out.1
        clear own5 grow5 hat5 hlt5
        refine HK.out _ _ ?_
        clear HK K
        try simp only [Act.put, List.setIfInBounds_toArray, List.set_cons_zero, List.set_cons_succ]
        refine wpAny_take (i := 6) (v := ?_) (by simp only [List.getElem?_toArray, List.getElem?_cons_succ, List.getElem?_cons_zero]; rfl) (by kernel_rfl) (by kernel_rfl) (by kernel_rfl) (fun _ _ _ h => h) (Or.inl ⟨by rfl, ?_⟩) ?_
        rotate_left
        · intro w
          go_simp
          try with_reducible rfl
        try simp only [Act.put, List.setIfInBounds_toArray, List.set_cons_zero, List.set_cons_succ]
        refine wpAny_ready (rs := [7]) (by kernel_rfl) (by simp) ?_
        refine (AllReady.cons (by simp only [List.getElem?_toArray, List.getElem?_cons_succ, List.getElem?_cons_zero]; rfl) (fun K hK => ?_) AllReady.nil)
        have HK := Lib.hid hK
        clear hK
        go_simp
        refine HK.out _ _ ?_
        clear HK K
        try simp only [Act.put, List.setIfInBounds_toArray, List.set_cons_zero, List.set_cons_succ]
        refine wpAny_done (by kernel_rfl) ?_ _
        refine NoPanic.normal ?_
        clear c1d c1w c1a c5 f5
        go_wp2_with fail
        refine ⟨⟨j + 1, ls ++ [x], .slice (some ⟨gg, 0, none⟩) (j + 1) cc, by go_num, by omega, by rw [List.length_append, HLJ.out]; rfl, Lib.hid ?_⟩, by simp [intOf]; omega⟩
        have := HDC.out.2
        rw [show n3 - (j : Int) - 1 = n3 - ((j + 1 : Nat) : Int) from by omega] at this
        exact this
end Go.Proofs.YtfneadlknieppaaDoor
