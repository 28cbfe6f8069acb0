/- GraphWays' walk. Condition: errors.errorType holds what its text lays. -/
import Derived.Test.YtakbdnkodnlkdaaDoorGphUn
import Derived.Deep.CutBlock
import Derived.Deep.CutRange
namespace Go.Proofs.YtakbdnkodnlkdaaDoor
open Go.RowKit Go.Extern.Stop Go.Stop Go.Extern
open Go.Maps

theorem ways_iff {G : Gr} (W : Wf G) (x y : Key) : y ∈ ancs G [x] ↔ x ∈ descs G [y] := by
  rw [ancs_mem W.clo, descs_mem]
  constructor
  · rintro ⟨a, ha, h1, h2⟩
    rw [List.mem_singleton.1 ha] at h1 h2
    exact ⟨y, List.mem_singleton.2 rfl, up_has W.clo h2 h1, h2⟩
  · rintro ⟨a, ha, h1, h2⟩
    rw [List.mem_singleton.1 ha] at h1 h2
    exact ⟨x, List.mem_singleton.2 rfl, dsc_has (E := [y]) ⟨y, List.mem_singleton.2 rfl, h1, h2⟩, h2⟩
theorem ancs_idem {G : Gr} (W : Wf G) (E : List Key) : ancs G (ancs G E) = ancs G E := by
  refine asc_ext _ _ (ancs_asc W.asc _) (ancs_asc W.asc _) fun x => ?_
  rw [ancs_mem W.clo, ancs_mem W.clo]
  constructor
  · rintro ⟨a, ha, _, h2⟩
    obtain ⟨b, hb, h3, h4⟩ := (ancs_mem W.clo).1 ha
    exact ⟨b, hb, h3, h4.trans h2⟩
  · rintro ⟨a, ha, h1, h2⟩
    exact ⟨x, (ancs_mem W.clo).2 ⟨a, ha, h1, h2⟩, up_has W.clo h2 h1, .refl _⟩
theorem descs_idem {G : Gr} (W : Wf G) (E : List Key) : descs G (descs G E) = descs G E := by
  refine asc_ext _ _ (descs_asc W.asc _) (descs_asc W.asc _) fun x => ?_
  rw [descs_mem, descs_mem]
  constructor
  · rintro ⟨a, ha, _, h2⟩
    obtain ⟨b, hb, h3, h4⟩ := descs_mem.1 ha
    exact ⟨b, hb, h3, h2.trans h4⟩
  · rintro h
    exact ⟨x, descs_mem.2 h, dsc_has h, .refl _⟩
theorem ancs_self {G : Gr} (W : Wf G) (x : Key) : x ∈ ancs G [x] ↔ (aget x G).isSome = true := by
  rw [ancs_mem W.clo]
  constructor
  · rintro ⟨a, ha, h1, _⟩
    rw [List.mem_singleton.1 ha] at h1
    exact h1
  · exact fun h => ⟨x, List.mem_singleton.2 rfl, h, .refl _⟩
theorem ancs_all {G : Gr} (W : Wf G) : ancs G (G.map (·.1)) = G.map (·.1) := by
  refine asc_ext _ _ (ancs_asc W.asc _) (aasc_asc W.asc) fun x => ?_
  rw [ancs_mem W.clo]
  constructor
  · rintro ⟨a, _, h1, h2⟩
    exact mem_keys.2 (up_has W.clo h2 h1)
  · exact fun h => ⟨x, h, mem_keys.1 h, .refl _⟩
theorem descs_sub (G : Gr) (E : List Key) : ∀ x ∈ descs G E, x ∈ G.map (·.1) := fun _ hx => (List.mem_filter.1 hx).1
theorem ancs_sub (G : Gr) (E : List Key) : ∀ x ∈ ancs G E, x ∈ G.map (·.1) := fun _ hx => (List.mem_filter.1 hx).1
theorem sub_h32 {X : Lx} (W : Wf (gr X)) {L : List Key} (h : ∀ x ∈ L, x ∈ (gr X).map (·.1)) : H32 L := fun x hx => keys_h32 W x (h x hx)
theorem req_field (pc ph : Option Addr) (m cc mh ch : Nat) (gg : Int) (W : World) : (Instr.field 33 (.agg #[.slice pc m cc, .slice ph mh ch, .int .i64 gg]) 0).run Tryd.prog W = .ok (.slice pc m cc) W := by kernel_rfl
/-- A list of hashes of one's own, of those of a graph. -/
structure Ls (W : World) (B : Nat) (p : Option Addr) (n c : Nat) (X : Lx) (L : List Key) : Prop where
  own : HOwn W B (.slice p n c) L
  len : n = L.length
  h32 : H32 L
  few : L.length ≤ 1000
theorem Ls.kb {W W' : World} {B : Nat} {p : Option Addr} {n c : Nat} {X : Lx} {L : List Key} (h : Ls W B p n c X L) (k : Below W.heap.size W W') : Ls W' B p n c X L := ⟨own_below h.own k, h.len, h.h32, h.few⟩
theorem Ls.mk' {W : World} {B : Nat} {v : Value} {X : Lx} {L : List Key} (W' : Wf (gr X)) (o : HOwn W B v L) (h : ∀ x ∈ L, x ∈ (gr X).map (·.1)) (hl : L.length ≤ 1000) : ∃ p n c, v = .slice p n c ∧ Ls W B p n c X L := by
  obtain ⟨p, n, c, rfl, e⟩ := own_sh o
  exact ⟨p, n, c, rfl, o, e, sub_h32 W' h, hl⟩
set_option linter.unusedSimpArgs false in
set_option maxRecDepth 20000 in
set_option maxHeartbeats 16000000 in
attribute [local go_sem ↓] hld_open in
theorem ways_to (w : World) (p : Option Addr) (n cap : Nat) (a b : Int) (E : List Rq) (hn : n = E.length) (hE : RqSeen w p E) (hg : Glob w) :
    Calls Tryd.prog 6 #[.slice p n cap, .int .i64 a, .int .i64 b] w fun e w' => e = .returned (.bool true) ∧ Below w.heap.size w w' := by
  have HE := Lib.hid hE
  have HG := Lib.hid hg
  have HN := Lib.hid hn
  clear hE hg hn
  go_enter Tryd.func6, Tryd.ntmps6
  go_wp2_with fail
  refine (new_to w).mono ?_
  rintro e w1 ⟨rfl, g1, b1⟩
  obtain ⟨bm, hbm⟩ : ∃ bm, bm = w.heap.size := ⟨_, rfl⟩
  have K1 : Hid (Ks w w1 [] (w.heap.size + 1) bm [] []) := Lib.hid ⟨b1, (fun p hp => by cases hp), hbm ▸ g1, by omega, (fun p hp => by cases hp)⟩
  have HG1 := Lib.hid (HG.out.kb b1)
  clear g1 b1 hbm
  generalize w.heap.size + 1 = g at *
  have hnp : ∀ w : World, (binOp .eql 22 (gp g) (.pointer none)).run Tryd.prog w = .ok (.bool false) w := fun w => by kernel_rfl
  go_wp2_with fail
  refine (known11_to w1 HG1.out).mono ?_
  rintro e w2 ⟨rfl, b2⟩
  have K2 := Lib.hid (K1.out.kb b2)
  clear b2 K1
  go_upto_block 0 with fail
  go_cut [8] from 20 to 37 (fun _ wr => ∃ X : Lx, Hid (Ks w wr [] g bm X []) ∧ Hid (Wf (gr X)))
  case first =>
    go_wp2_with fail
    go_loopw [8] (fun s wr => ∃ (i : Nat) (X : Lx), s = .int .i64 i ∧ i ≤ n ∧ i ≤ 5 ∧ Hid (Ks w wr [] g bm X []) ∧ Hid (Wf (gr X))) (fun s _ => 5 - (intOf s).toNat)
    case atStart => exact ⟨0, [], rfl, Nat.zero_le _, Nat.zero_le _, K2, Lib.hid Wf.nil⟩
    case round =>
      clear K2 HG1
      obtain ⟨i, X, rfl, hi, hi5, K, HW⟩ := hrel
      by_cases hlt : i < n ∧ i < 5
      · obtain ⟨h1, h2⟩ := hlt
        have hl1 : (i : Int) < n := by omega
        have hl2 : (i : Int) < 5 := by omega
        have hl0 : (0 : Int) ≤ i := by omega
        have HI5 := Lib.hid h2
        have HIN := Lib.hid h1
        have hiE : i < E.length := by rw [← HN.out]; exact h1
        obtain ⟨b, o, x, rfl, hin, c0, c1, c2, c3⟩ := HE.out.get K.out.bel hiE
        have HRQ := Lib.hid (request_to wr x.vL x.vH x.grp x.how x.L x.hs hin.1 hin.2)
        clear hiE h1 h2 hi hi5 hin
        go_wp2_with fail
        refine HRQ.out.mono ?_
        rintro e w3 ⟨vc, vh, gg, cs, hs, rfl, hcs, hhs, hok, h32, hp10, hcl, hhl, b3⟩
        obtain ⟨pc, cc, rfl, _⟩ := id hcs
        obtain ⟨ph, ch, rfl⟩ := hhs.shape
        generalize hs.length = mh at *
        have K3 := Lib.hid (K.out.kb b3)
        have HAD := Lib.hid (add_to w3 g bm X _ cs K3.out.ga HW.out hcs hok (Nat.le_trans hcl (by decide)) (fun c hc => Nat.le_trans (hp10 c hc) (by decide)))
        have HOK := Lib.hid hok
        generalize cs.length = m at *
        have hfd := req_field pc ph m cc mh ch gg
        clear hcs hhs hok h32 hp10 hcl hhl b3 c0 c1 c2 c3 K
        go_wp2_with fail
        refine HAD.out.mono ?_
        intro e w6 hadd
        obtain ⟨y, X', he, k6, h61, h62⟩ := K3.out.added hadd
        subst he
        have K6 := Lib.hid k6.bare
        have HW6 : Hid (Wf (gr X')) := Lib.hid (by
          cases hc : chk (gr X) 2 cs [] with
          | some r => rw [h61 (by rw [hc]; rfl)]; exact HW.out
          | none => rw [h62 hc]; exact add_wf HW.out HOK.out (chk_fine.1 hc))
        clear hadd k6 h61 h62 K3 HAD
        go_wp2_with fail
        refine ⟨⟨i + 1, X', congrArg _ (by omega), HIN.out, HI5.out, K6, HW6⟩, ?_⟩
        simp only [intOf]; have := HI5.out; omega
      · rcases (by omega : ¬ i < n ∨ (i < n ∧ ¬ i < 5)) with hq1 | ⟨hq1, hq2⟩
        · have hjl : ¬ (i : Int) < n := by omega
          clear hlt hq1 hi
          go_wp2_with fail
          go_meet
          case rel => exact ⟨X, K, HW⟩
        · have hjl : (i : Int) < n := by omega
          have hjl6 : ¬ (i : Int) < 5 := by omega
          clear hlt hq1 hq2 hi
          go_wp2_with fail
          go_meet
          case rel => exact ⟨X, K, HW⟩
  case rest =>
    clear K2 HG1
    obtain ⟨X, K, HW⟩ := hcut
    go_wp2_with fail
    refine (hash_to _ a).mono ?_
    rintro e w3 ⟨rfl, bb⟩
    obtain ⟨x, hx⟩ : ∃ x, x = hh a := ⟨_, rfl⟩
    have hx32 : x.length = 32 := by rw [hx]; exact hh_length _
    rw [← hx]
    have HX := Lib.hid hx32
    have K3 := Lib.hid (((K.out.kb bb).al (.cells (hv x) 26)).hash hx32 (heap_alloc_last w3 _))
    clear hx hx32 bb K
    go_upto_region 9 with (refine build_one x HX.out rfl ?_)
    generalize w3.alloc (.cells (hv x) 26) = w4 at *
    generalize w3.heap.size = ba at *
    go_wp2_with fail
    refine (hash_to _ b).mono ?_
    rintro e w5 ⟨rfl, bb⟩
    obtain ⟨y, hy⟩ : ∃ y, y = hh b := ⟨_, rfl⟩
    have hy32 : y.length = 32 := by rw [hy]; exact hh_length _
    rw [← hy]
    have HY := Lib.hid hy32
    have K5 := Lib.hid (((K3.out.kb bb).al (.cells (hv y) 26)).hash hy32 (heap_alloc_last w5 _))
    clear hy hy32 bb K3
    go_upto_region 10 with (refine build_one y HY.out rfl ?_)
    generalize w5.alloc (.cells (hv y) 26) = w6 at *
    generalize w5.heap.size = bb at *
    have hown : ∀ (V : World) (k : Nat) (z : Key), (k, z) ∈ [(bb, y), (ba, x)] → Ks w V [(bb, y), (ba, x)] g bm X [] → HSeen V (.slice (some ⟨k, 0, none⟩) 1 1) [z] := fun V k z hm hk => HSeen.own (own_hash (hk.own _ hm).2 (hk.own _ hm).1 (Nat.zero_le _))
    have HOWN := Lib.hid hown
    clear hown
    go_wp2_with fail
    refine (ancestors_to w6 g bm X _ [x] K5.out.ga (HOWN.out w6 ba x (by simp) K5.out) (H32.one HX.out) (by simp) (Nat.le_trans HW.out.xlen (by decide)) HW.out.clo (HW.out.parm 1000 (by decide))).mono ?_
    rintro e w7 ⟨v7, rfl, o7, b7⟩
    obtain ⟨p7, n7, c7, rfl, ls7⟩ := Ls.mk' HW.out o7 (ancs_sub _ _) (Nat.le_trans (ancs_len _ _) HW.out.few)
    have K7 := Lib.hid (K5.out.kb b7)
    have L7 := Lib.hid ls7
    clear o7 b7 ls7 K5
    go_wp2_with fail
    refine (descendants_to w7 g bm X _ [y] K7.out.ga (HOWN.out w7 bb y (by simp) K7.out) (H32.one HY.out) (by simp) HW.out.xlen HW.out.clo HW.out.parn).mono ?_
    rintro e w8 ⟨v8, rfl, o8, b8⟩
    obtain ⟨p8, n8, c8, rfl, ls8⟩ := Ls.mk' HW.out o8 (descs_sub _ _) (Nat.le_trans (descs_len _ _) HW.out.few)
    have K8 := Lib.hid (K7.out.kb b8)
    have L78 := Lib.hid (L7.out.kb b8)
    have L8 := Lib.hid ls8
    clear o8 b8 ls8 K7 L7
    go_wp2_with fail
    obtain ⟨pr, hpr⟩ : ∃ pr, pr = decide (y ∈ ancs (gr X) [x]) := ⟨_, rfl⟩
    have HPR : Hid (decide (x ∈ descs (gr X) [y]) = pr) := Lib.hid (by rw [hpr]; exact decide_eq_decide.2 (ways_iff HW.out x y).symm)
    have HPQ : Hid (decide (y ∈ ancs (gr X) [x]) = pr) := Lib.hid hpr.symm
    clear hpr
    have bq : Below w8.heap.size w8 w8.drew := blw_qt _ 1 w8
    have K9 := Lib.hid (K8.out.kb bq)
    have M7 := Lib.hid (L78.out.kb bq)
    have M8 := Lib.hid (L8.out.kb bq)
    clear bq K8 L78 L8
    have K8 := K9
    have L78 := M7
    have L8 := M8
    clear K9 M7 M8
    try simp only [List.append]
    refine wp_region_noPanic ?_
    refine wp_region_held_drew (S := (fun V => (hld ⟨bb, 0, none⟩).run Tryd.prog V = .ok (.agg (hv y)) V ∧ (hld ⟨ba, 0, none⟩).run Tryd.prog V = .ok (.agg (hv x)) V)) (by kernel_rfl) ⟨hld_row HY.out (K8.out.own (bb, y) (by simp)).1, hld_row HX.out (K8.out.own (ba, x) (by simp)).1⟩ (fun hHeld => ?_)
    generalize w8.drew = cw at *
    refine wpAnyH_take (i := 0) (v := ?_) (by simp only [List.getElem?_toArray, List.getElem?_cons_zero]; rfl) (by kernel_rfl) (by kernel_rfl) (by kernel_rfl) (fun _ _ _ h => h) (Or.inl ⟨by rfl, ?_⟩) (by assumption) ?_
    rotate_left
    · intro w hSw
      try dsimp only at hSw
      go_simp
      try with_reducible rfl
    try simp only [Act.put, List.setIfInBounds_toArray, List.set_cons_zero, List.set_cons_succ]
    refine wpAnyH_take (i := 1) (v := ?_) (by simp only [List.getElem?_toArray, List.getElem?_cons_succ, List.getElem?_cons_zero]; rfl) (by kernel_rfl) (by kernel_rfl) (by kernel_rfl) (fun _ _ _ h => h) (Or.inl ⟨by rfl, ?_⟩) (by assumption) ?_
    rotate_left
    · intro w hSw
      try dsimp only at hSw
      go_simp
      try with_reducible rfl
    try simp only [Act.put, List.setIfInBounds_toArray, List.set_cons_zero, List.set_cons_succ]
    refine wpAnyH_take (i := 2) (v := ?_) (by simp only [List.getElem?_toArray, List.getElem?_cons_succ, List.getElem?_cons_zero]; rfl) (by kernel_rfl) (by kernel_rfl) (by kernel_rfl) (fun _ _ _ h => h) (Or.inl ⟨by rfl, ?_⟩) (by assumption) ?_
    rotate_left
    · intro w hSw
      try dsimp only at hSw
      go_simp
      try with_reducible rfl
    try simp only [Act.put, List.setIfInBounds_toArray, List.set_cons_zero, List.set_cons_succ]
    refine wpAnyH_take (i := 3) (v := ?_) (by simp only [List.getElem?_toArray, List.getElem?_cons_succ, List.getElem?_cons_zero]; rfl) (by kernel_rfl) (by kernel_rfl) (by kernel_rfl) (fun _ _ _ h => h) (Or.inl ⟨by rfl, ?_⟩) (by assumption) ?_
    rotate_left
    · intro w hSw
      try dsimp only at hSw
      go_simp
      try with_reducible rfl
    try simp only [Act.put, List.setIfInBounds_toArray, List.set_cons_zero, List.set_cons_succ]
    refine wpAnyH_take (i := 5) (v := ?_) (by simp only [List.getElem?_toArray, List.getElem?_cons_succ, List.getElem?_cons_zero]; rfl) (by kernel_rfl) (by kernel_rfl) (by kernel_rfl) (fun _ _ _ h => h) (Or.inl ⟨by rfl, ?_⟩) (by assumption) ?_
    rotate_left
    · intro w hSw
      try dsimp only at hSw
      go_simp
      try with_reducible rfl
    try simp only [Act.put, List.setIfInBounds_toArray, List.set_cons_zero, List.set_cons_succ]
    refine wpAnyH_take (i := 6) (v := ?_) (by simp only [List.getElem?_toArray, List.getElem?_cons_succ, List.getElem?_cons_zero]; rfl) (by kernel_rfl) (by kernel_rfl) (by kernel_rfl) (fun _ _ _ h => h) (Or.inl ⟨by rfl, ?_⟩) (by assumption) ?_
    rotate_left
    · intro w hSw
      try dsimp only at hSw
      go_simp
      try with_reducible rfl
    try simp only [Act.put, List.setIfInBounds_toArray, List.set_cons_zero, List.set_cons_succ]
    refine wpAnyH_take (i := 7) (v := ?_) (by simp only [List.getElem?_toArray, List.getElem?_cons_succ, List.getElem?_cons_zero]; rfl) (by kernel_rfl) (by kernel_rfl) (by kernel_rfl) (fun _ _ _ h => h) (Or.inl ⟨by rfl, ?_⟩) (by assumption) ?_
    rotate_left
    · intro w hSw
      try dsimp only at hSw
      go_simp
      try with_reducible rfl
    try simp only [Act.put, List.setIfInBounds_toArray, List.set_cons_zero, List.set_cons_succ]
    refine wpAnyH_take (i := 8) (v := ?_) (by simp only [List.getElem?_toArray, List.getElem?_cons_succ, List.getElem?_cons_zero]; rfl) (by kernel_rfl) (by kernel_rfl) (by kernel_rfl) (fun _ _ _ h => h) (Or.inl ⟨by rfl, ?_⟩) (by assumption) ?_
    rotate_left
    · intro w hSw
      try dsimp only at hSw
      go_simp
      try with_reducible rfl
    try simp only [Act.put, List.setIfInBounds_toArray, List.set_cons_zero, List.set_cons_succ]
    refine wpAnyH_ready (rs := [4]) (by kernel_rfl) (by simp) ?_
    refine AllReadyH.cons (by simp only [List.getElem?_toArray, List.getElem?_cons_succ, List.getElem?_cons_zero]; rfl) (fun K hK => ?_) AllReadyH.nil
    go_simp
    refine (in_any cw (.slice p7 n7 c7) (ancs (gr X) [x]) y HY.out (HSeen.own L78.out.own) L78.out.h32 (Nat.le_trans L78.out.few (by decide))).mono ?_
    rintro e cx ⟨rfl, bk⟩
    rw [HPQ.out]
    have K9 := Lib.hid (K8.out.kb bk)
    have M7 := Lib.hid (L78.out.kb bk)
    have M8 := Lib.hid (L8.out.kb bk)
    clear bk K8 L78 L8
    have K8 := K9
    have L78 := M7
    have L8 := M8
    clear K9 M7 M8
    rename World => cw
    go_wp2_with fail
    refine hK.out _ _ ⟨hld_row HY.out (K8.out.own (bb, y) (by simp)).1, hld_row HX.out (K8.out.own (ba, x) (by simp)).1⟩ (fun hHeld => ?_)
    clear hK K
    try simp only [Act.put, List.setIfInBounds_toArray, List.set_cons_zero, List.set_cons_succ]
    refine wpAnyH_ready (rs := [9]) (by kernel_rfl) (by simp) ?_
    refine AllReadyH.cons (by simp only [List.getElem?_toArray, List.getElem?_cons_succ, List.getElem?_cons_zero]; rfl) (fun K hK => ?_) AllReadyH.nil
    go_simp
    refine (in_any cw (.slice p8 n8 c8) (descs (gr X) [y]) x HX.out (HSeen.own L8.out.own) L8.out.h32 (Nat.le_trans L8.out.few (by decide))).mono ?_
    rintro e cx ⟨rfl, bk⟩
    rw [HPR.out]
    have K9 := Lib.hid (K8.out.kb bk)
    have M7 := Lib.hid (L78.out.kb bk)
    have M8 := Lib.hid (L8.out.kb bk)
    clear bk K8 L78 L8
    have K8 := K9
    have L78 := M7
    have L8 := M8
    clear K9 M7 M8
    rename World => cw
    go_wp2_with fail
    refine hK.out _ _ ⟨hld_row HY.out (K8.out.own (bb, y) (by simp)).1, hld_row HX.out (K8.out.own (ba, x) (by simp)).1⟩ (fun hHeld => ?_)
    clear hK K
    try simp only [Act.put, List.setIfInBounds_toArray, List.set_cons_zero, List.set_cons_succ]
    refine wpAnyH_take (i := 10) (v := ?_) (by simp only [List.getElem?_toArray, List.getElem?_cons_succ, List.getElem?_cons_zero]; rfl) (by kernel_rfl) (by kernel_rfl) (by kernel_rfl) (fun _ _ _ h => h) (Or.inl ⟨by rfl, ?_⟩) (by assumption) ?_
    rotate_left
    · intro w hSw
      try dsimp only at hSw
      go_simp
      try with_reducible rfl
    try simp only [Act.put, List.setIfInBounds_toArray, List.set_cons_zero, List.set_cons_succ]
    refine wpAnyH_done (by kernel_rfl) ?_ _
    refine NoPanic.normal ?_
    go_wp2_with fail
    have bk : Below cw.heap.size cw cw.drew := blw_qt _ 1 cw
    have K9 := Lib.hid (K8.out.kb bk)
    have M7 := Lib.hid (L78.out.kb bk)
    have M8 := Lib.hid (L8.out.kb bk)
    clear bk K8 L78 L8
    have K8 := K9
    have L78 := M7
    have L8 := M8
    clear K9 M7 M8
    obtain ⟨hb0, hhb⟩ : ∃ hb0, hb0 = (aget x (gr X)).isSome := ⟨_, rfl⟩
    have HHB : Hid ((aget x (gr X)).isSome = hb0) := Lib.hid hhb.symm
    have HHA : Hid (decide (x ∈ ancs (gr X) [x]) = hb0) := Lib.hid (by have h1 := ancs_self HW.out x; rw [← hhb] at h1; cases hb0 <;> simp_all)
    clear hhb
    try simp only [List.append]
    refine wp_region_noPanic ?_
    refine wp_region_held_drew (S := (fun V => (hld ⟨bb, 0, none⟩).run Tryd.prog V = .ok (.agg (hv y)) V ∧ (hld ⟨ba, 0, none⟩).run Tryd.prog V = .ok (.agg (hv x)) V)) (by kernel_rfl) ⟨hld_row HY.out (K8.out.own (bb, y) (by simp)).1, hld_row HX.out (K8.out.own (ba, x) (by simp)).1⟩ (fun hHeld => ?_)
    generalize cw.drew = cv at *
    rename World => cw
    refine wpAnyH_take (i := 0) (v := ?_) (by simp only [List.getElem?_toArray, List.getElem?_cons_zero]; rfl) (by kernel_rfl) (by kernel_rfl) (by kernel_rfl) (fun _ _ _ h => h) (Or.inl ⟨by rfl, ?_⟩) (by assumption) ?_
    rotate_left
    · intro w hSw
      try dsimp only at hSw
      go_simp
      try with_reducible rfl
    try simp only [Act.put, List.setIfInBounds_toArray, List.set_cons_zero, List.set_cons_succ]
    refine wpAnyH_take (i := 1) (v := ?_) (by simp only [List.getElem?_toArray, List.getElem?_cons_succ, List.getElem?_cons_zero]; rfl) (by kernel_rfl) (by kernel_rfl) (by kernel_rfl) (fun _ _ _ h => h) (Or.inl ⟨by rfl, ?_⟩) (by assumption) ?_
    rotate_left
    · intro w hSw
      try dsimp only at hSw
      go_simp
      try with_reducible rfl
    try simp only [Act.put, List.setIfInBounds_toArray, List.set_cons_zero, List.set_cons_succ]
    refine wpAnyH_take (i := 3) (v := ?_) (by simp only [List.getElem?_toArray, List.getElem?_cons_succ, List.getElem?_cons_zero]; rfl) (by kernel_rfl) (by kernel_rfl) (by kernel_rfl) (fun _ _ _ h => h) (Or.inl ⟨by rfl, ?_⟩) (by assumption) ?_
    rotate_left
    · intro w hSw
      try dsimp only at hSw
      go_simp
      try with_reducible rfl
    try simp only [Act.put, List.setIfInBounds_toArray, List.set_cons_zero, List.set_cons_succ]
    refine wpAnyH_ready (rs := [2]) (by kernel_rfl) (by simp) ?_
    refine AllReadyH.cons (by simp only [List.getElem?_toArray, List.getElem?_cons_succ, List.getElem?_cons_zero]; rfl) (fun K hK => ?_) AllReadyH.nil
    go_simp
    refine (ancestors_to cw g bm X (.slice p7 n7 c7) (ancs (gr X) [x]) K8.out.ga (HSeen.own L78.out.own) L78.out.h32 (Nat.le_trans L78.out.few (by decide)) (Nat.le_trans HW.out.xlen (by decide)) HW.out.clo (HW.out.parm 1000 (by decide))).mono ?_
    rintro e cx ⟨vA, rfl, oA, bk⟩
    rw [ancs_idem HW.out] at oA
    obtain ⟨pA, nA, cA, rfl, lsA⟩ := Ls.mk' HW.out oA (ancs_sub _ _) (Nat.le_trans (ancs_len _ _) HW.out.few)
    have K9 := Lib.hid (K8.out.kb bk)
    have M7 := Lib.hid (L78.out.kb bk)
    have M8 := Lib.hid (L8.out.kb bk)
    clear bk K8 L78 L8
    have K8 := K9
    have L78 := M7
    have L8 := M8
    clear K9 M7 M8
    have LA := Lib.hid lsA
    clear lsA oA
    rename World => cw
    go_wp2_with fail
    refine hK.out _ _ ⟨hld_row HY.out (K8.out.own (bb, y) (by simp)).1, hld_row HX.out (K8.out.own (ba, x) (by simp)).1⟩ (fun hHeld => ?_)
    clear hK K
    try simp only [Act.put, List.setIfInBounds_toArray, List.set_cons_zero, List.set_cons_succ]
    refine wpAnyH_ready (rs := [4]) (by kernel_rfl) (by simp) ?_
    refine AllReadyH.cons (by simp only [List.getElem?_toArray, List.getElem?_cons_succ, List.getElem?_cons_zero]; rfl) (fun K hK => ?_) AllReadyH.nil
    go_simp
    refine (same_any cw _ _ _ _ _ L78.out.h32 LA.out.own L78.out.own (Nat.le_trans L78.out.few (by decide))).mono ?_
    rintro e cx ⟨rfl, q, rfl⟩
    have bk := blw_qt cw.heap.size q cw
    clear LA
    have K9 := Lib.hid (K8.out.kb bk)
    have M7 := Lib.hid (L78.out.kb bk)
    have M8 := Lib.hid (L8.out.kb bk)
    clear bk K8 L78 L8
    have K8 := K9
    have L78 := M7
    have L8 := M8
    clear K9 M7 M8
    generalize cw.drewN q = cx at *
    rename World => cw
    go_wp2_with fail
    refine hK.out _ _ ⟨hld_row HY.out (K8.out.own (bb, y) (by simp)).1, hld_row HX.out (K8.out.own (ba, x) (by simp)).1⟩ (fun hHeld => ?_)
    clear hK K
    try simp only [Act.put, List.setIfInBounds_toArray, List.set_cons_zero, List.set_cons_succ]
    refine wpAnyH_take (i := 5) (v := ?_) (by simp only [List.getElem?_toArray, List.getElem?_cons_succ, List.getElem?_cons_zero]; rfl) (by kernel_rfl) (by kernel_rfl) (by kernel_rfl) (fun _ _ _ h => h) (Or.inl ⟨by rfl, ?_⟩) (by assumption) ?_
    rotate_left
    · intro w hSw
      try dsimp only at hSw
      go_simp
      try with_reducible rfl
    try simp only [Act.put, List.setIfInBounds_toArray, List.set_cons_zero, List.set_cons_succ]
    refine wpAnyH_take (i := 6) (v := ?_) (by simp only [List.getElem?_toArray, List.getElem?_cons_succ, List.getElem?_cons_zero]; rfl) (by kernel_rfl) (by kernel_rfl) (by kernel_rfl) (fun _ _ _ h => h) (Or.inl ⟨by rfl, ?_⟩) (by assumption) ?_
    rotate_left
    · intro w hSw
      try dsimp only at hSw
      go_simp
      try with_reducible rfl
    try simp only [Act.put, List.setIfInBounds_toArray, List.set_cons_zero, List.set_cons_succ]
    refine wpAnyH_take (i := 7) (v := ?_) (by simp only [List.getElem?_toArray, List.getElem?_cons_succ, List.getElem?_cons_zero]; rfl) (by kernel_rfl) (by kernel_rfl) (by kernel_rfl) (fun _ _ _ h => h) (Or.inl ⟨by rfl, ?_⟩) (by assumption) ?_
    rotate_left
    · intro w hSw
      try dsimp only at hSw
      go_simp
      try with_reducible rfl
    try simp only [Act.put, List.setIfInBounds_toArray, List.set_cons_zero, List.set_cons_succ]
    refine wpAnyH_take (i := 9) (v := ?_) (by simp only [List.getElem?_toArray, List.getElem?_cons_succ, List.getElem?_cons_zero]; rfl) (by kernel_rfl) (by kernel_rfl) (by kernel_rfl) (fun _ _ _ h => h) (Or.inl ⟨by rfl, ?_⟩) (by assumption) ?_
    rotate_left
    · intro w hSw
      try dsimp only at hSw
      go_simp
      try with_reducible rfl
    try simp only [Act.put, List.setIfInBounds_toArray, List.set_cons_zero, List.set_cons_succ]
    refine wpAnyH_ready (rs := [8]) (by kernel_rfl) (by simp) ?_
    refine AllReadyH.cons (by simp only [List.getElem?_toArray, List.getElem?_cons_succ, List.getElem?_cons_zero]; rfl) (fun K hK => ?_) AllReadyH.nil
    go_simp
    refine (descendants_to cw g bm X (.slice p8 n8 c8) (descs (gr X) [y]) K8.out.ga (HSeen.own L8.out.own) L8.out.h32 (Nat.le_trans L8.out.few (by decide)) HW.out.xlen HW.out.clo HW.out.parn).mono ?_
    rintro e cx ⟨vA, rfl, oA, bk⟩
    rw [descs_idem HW.out] at oA
    obtain ⟨pA, nA, cA, rfl, lsA⟩ := Ls.mk' HW.out oA (descs_sub _ _) (Nat.le_trans (descs_len _ _) HW.out.few)
    have K9 := Lib.hid (K8.out.kb bk)
    have M7 := Lib.hid (L78.out.kb bk)
    have M8 := Lib.hid (L8.out.kb bk)
    clear bk K8 L78 L8
    have K8 := K9
    have L78 := M7
    have L8 := M8
    clear K9 M7 M8
    have LA := Lib.hid lsA
    clear lsA oA
    rename World => cw
    go_wp2_with fail
    refine hK.out _ _ ⟨hld_row HY.out (K8.out.own (bb, y) (by simp)).1, hld_row HX.out (K8.out.own (ba, x) (by simp)).1⟩ (fun hHeld => ?_)
    clear hK K
    try simp only [Act.put, List.setIfInBounds_toArray, List.set_cons_zero, List.set_cons_succ]
    refine wpAnyH_ready (rs := [10]) (by kernel_rfl) (by simp) ?_
    refine AllReadyH.cons (by simp only [List.getElem?_toArray, List.getElem?_cons_succ, List.getElem?_cons_zero]; rfl) (fun K hK => ?_) AllReadyH.nil
    go_simp
    refine (same_any cw _ _ _ _ _ L8.out.h32 LA.out.own L8.out.own (Nat.le_trans L8.out.few (by decide))).mono ?_
    rintro e cx ⟨rfl, q, rfl⟩
    have bk := blw_qt cw.heap.size q cw
    clear LA
    have K9 := Lib.hid (K8.out.kb bk)
    have M7 := Lib.hid (L78.out.kb bk)
    have M8 := Lib.hid (L8.out.kb bk)
    clear bk K8 L78 L8
    have K8 := K9
    have L78 := M7
    have L8 := M8
    clear K9 M7 M8
    generalize cw.drewN q = cx at *
    rename World => cw
    go_wp2_with fail
    refine hK.out _ _ ⟨hld_row HY.out (K8.out.own (bb, y) (by simp)).1, hld_row HX.out (K8.out.own (ba, x) (by simp)).1⟩ (fun hHeld => ?_)
    clear hK K
    try simp only [Act.put, List.setIfInBounds_toArray, List.set_cons_zero, List.set_cons_succ]
    refine wpAnyH_take (i := 11) (v := ?_) (by simp only [List.getElem?_toArray, List.getElem?_cons_succ, List.getElem?_cons_zero]; rfl) (by kernel_rfl) (by kernel_rfl) (by kernel_rfl) (fun _ _ _ h => h) (Or.inl ⟨by rfl, ?_⟩) (by assumption) ?_
    rotate_left
    · intro w hSw
      try dsimp only at hSw
      go_simp
      try with_reducible rfl
    try simp only [Act.put, List.setIfInBounds_toArray, List.set_cons_zero, List.set_cons_succ]
    refine wpAnyH_take (i := 12) (v := ?_) (by simp only [List.getElem?_toArray, List.getElem?_cons_succ, List.getElem?_cons_zero]; rfl) (by kernel_rfl) (by kernel_rfl) (by kernel_rfl) (fun _ _ _ h => h) (Or.inl ⟨by rfl, ?_⟩) (by assumption) ?_
    rotate_left
    · intro w hSw
      try dsimp only at hSw
      go_simp
      try with_reducible rfl
    try simp only [Act.put, List.setIfInBounds_toArray, List.set_cons_zero, List.set_cons_succ]
    refine wpAnyH_take (i := 13) (v := ?_) (by simp only [List.getElem?_toArray, List.getElem?_cons_succ, List.getElem?_cons_zero]; rfl) (by kernel_rfl) (by kernel_rfl) (by kernel_rfl) (fun _ _ _ h => h) (Or.inl ⟨by rfl, ?_⟩) (by assumption) ?_
    rotate_left
    · intro w hSw
      try dsimp only at hSw
      go_simp
      try with_reducible rfl
    try simp only [Act.put, List.setIfInBounds_toArray, List.set_cons_zero, List.set_cons_succ]
    refine wpAnyH_take (i := 14) (v := ?_) (by simp only [List.getElem?_toArray, List.getElem?_cons_succ, List.getElem?_cons_zero]; rfl) (by kernel_rfl) (by kernel_rfl) (by kernel_rfl) (fun _ _ _ h => h) (Or.inl ⟨by rfl, ?_⟩) (by assumption) ?_
    rotate_left
    · intro w hSw
      try dsimp only at hSw
      go_simp
      try with_reducible rfl
    try simp only [Act.put, List.setIfInBounds_toArray, List.set_cons_zero, List.set_cons_succ]
    refine wpAnyH_take (i := 15) (v := ?_) (by simp only [List.getElem?_toArray, List.getElem?_cons_succ, List.getElem?_cons_zero]; rfl) (by kernel_rfl) (by kernel_rfl) (by kernel_rfl) (fun _ _ _ h => h) (Or.inl ⟨by rfl, ?_⟩) (by assumption) ?_
    rotate_left
    · intro w hSw
      try dsimp only at hSw
      go_simp
      try with_reducible rfl
    try simp only [Act.put, List.setIfInBounds_toArray, List.set_cons_zero, List.set_cons_succ]
    refine wpAnyH_take (i := 16) (v := ?_) (by simp only [List.getElem?_toArray, List.getElem?_cons_succ, List.getElem?_cons_zero]; rfl) (by kernel_rfl) (by kernel_rfl) (by kernel_rfl) (fun _ _ _ h => h) (Or.inl ⟨by rfl, ?_⟩) (by assumption) ?_
    rotate_left
    · intro w hSw
      try dsimp only at hSw
      go_simp
      try with_reducible rfl
    try simp only [Act.put, List.setIfInBounds_toArray, List.set_cons_zero, List.set_cons_succ]
    refine wpAnyH_take (i := 18) (v := ?_) (by simp only [List.getElem?_toArray, List.getElem?_cons_succ, List.getElem?_cons_zero]; rfl) (by kernel_rfl) (by kernel_rfl) (by kernel_rfl) (fun _ _ _ h => h) (Or.inl ⟨by rfl, ?_⟩) (by assumption) ?_
    rotate_left
    · intro w hSw
      try dsimp only at hSw
      go_simp
      try with_reducible rfl
    try simp only [Act.put, List.setIfInBounds_toArray, List.set_cons_zero, List.set_cons_succ]
    refine wpAnyH_take (i := 19) (v := ?_) (by simp only [List.getElem?_toArray, List.getElem?_cons_succ, List.getElem?_cons_zero]; rfl) (by kernel_rfl) (by kernel_rfl) (by kernel_rfl) (fun _ _ _ h => h) (Or.inl ⟨by rfl, ?_⟩) (by assumption) ?_
    rotate_left
    · intro w hSw
      try dsimp only at hSw
      go_simp
      try with_reducible rfl
    try simp only [Act.put, List.setIfInBounds_toArray, List.set_cons_zero, List.set_cons_succ]
    refine wpAnyH_take (i := 20) (v := ?_) (by simp only [List.getElem?_toArray, List.getElem?_cons_succ, List.getElem?_cons_zero]; rfl) (by kernel_rfl) (by kernel_rfl) (by kernel_rfl) (fun _ _ _ h => h) (Or.inl ⟨by rfl, ?_⟩) (by assumption) ?_
    rotate_left
    · intro w hSw
      try dsimp only at hSw
      go_simp
      try with_reducible rfl
    try simp only [Act.put, List.setIfInBounds_toArray, List.set_cons_zero, List.set_cons_succ]
    refine wpAnyH_take (i := 21) (v := ?_) (by simp only [List.getElem?_toArray, List.getElem?_cons_succ, List.getElem?_cons_zero]; rfl) (by kernel_rfl) (by kernel_rfl) (by kernel_rfl) (fun _ _ _ h => h) (Or.inl ⟨by rfl, ?_⟩) (by assumption) ?_
    rotate_left
    · intro w hSw
      try dsimp only at hSw
      go_simp
      try with_reducible rfl
    try simp only [Act.put, List.setIfInBounds_toArray, List.set_cons_zero, List.set_cons_succ]
    refine wpAnyH_ready (rs := [17]) (by kernel_rfl) (by simp) ?_
    refine AllReadyH.cons (by simp only [List.getElem?_toArray, List.getElem?_cons_succ, List.getElem?_cons_zero]; rfl) (fun K hK => ?_) AllReadyH.nil
    go_simp
    refine (in_any cw (.slice p7 n7 c7) (ancs (gr X) [x]) x HX.out (HSeen.own L78.out.own) L78.out.h32 (Nat.le_trans L78.out.few (by decide))).mono ?_
    rintro e cx ⟨rfl, bk⟩
    rw [HHA.out]
    have K9 := Lib.hid (K8.out.kb bk)
    have M7 := Lib.hid (L78.out.kb bk)
    have M8 := Lib.hid (L8.out.kb bk)
    clear bk K8 L78 L8
    have K8 := K9
    have L78 := M7
    have L8 := M8
    clear K9 M7 M8
    rename World => cw
    go_wp2_with fail
    refine hK.out _ _ ⟨hld_row HY.out (K8.out.own (bb, y) (by simp)).1, hld_row HX.out (K8.out.own (ba, x) (by simp)).1⟩ (fun hHeld => ?_)
    clear hK K
    try simp only [Act.put, List.setIfInBounds_toArray, List.set_cons_zero, List.set_cons_succ]
    refine wpAnyH_ready (rs := [22]) (by kernel_rfl) (by simp) ?_
    refine AllReadyH.cons (by simp only [List.getElem?_toArray, List.getElem?_cons_succ, List.getElem?_cons_zero]; rfl) (fun K hK => ?_) AllReadyH.nil
    go_simp
    refine (has_to cw g bm X x HX.out K8.out.ga).mono ?_
    rintro e cx ⟨rfl, bk⟩
    rw [HHB.out]
    have K9 := Lib.hid (K8.out.kb bk)
    have M7 := Lib.hid (L78.out.kb bk)
    have M8 := Lib.hid (L8.out.kb bk)
    clear bk K8 L78 L8
    have K8 := K9
    have L78 := M7
    have L8 := M8
    clear K9 M7 M8
    rename World => cw
    go_wp2_with fail
    refine hK.out _ _ ⟨hld_row HY.out (K8.out.own (bb, y) (by simp)).1, hld_row HX.out (K8.out.own (ba, x) (by simp)).1⟩ (fun hHeld => ?_)
    clear hK K
    try simp only [Act.put, List.setIfInBounds_toArray, List.set_cons_zero, List.set_cons_succ]
    refine wpAnyH_take (i := 23) (v := ?_) (by simp only [List.getElem?_toArray, List.getElem?_cons_succ, List.getElem?_cons_zero]; rfl) (by kernel_rfl) (by kernel_rfl) (by kernel_rfl) (fun _ _ _ h => h) (Or.inl ⟨by rfl, ?_⟩) (by assumption) ?_
    rotate_left
    · intro w hSw
      try dsimp only at hSw
      go_simp
      try with_reducible rfl
    try simp only [Act.put, List.setIfInBounds_toArray, List.set_cons_zero, List.set_cons_succ]
    refine wpAnyH_take (i := 24) (v := ?_) (by simp only [List.getElem?_toArray, List.getElem?_cons_succ, List.getElem?_cons_zero]; rfl) (by kernel_rfl) (by kernel_rfl) (by kernel_rfl) (fun _ _ _ h => h) (Or.inl ⟨by rfl, ?_⟩) (by assumption) ?_
    rotate_left
    · intro w hSw
      try dsimp only at hSw
      go_simp
      try with_reducible rfl
    try simp only [Act.put, List.setIfInBounds_toArray, List.set_cons_zero, List.set_cons_succ]
    refine wpAnyH_take (i := 25) (v := ?_) (by simp only [List.getElem?_toArray, List.getElem?_cons_succ, List.getElem?_cons_zero]; rfl) (by kernel_rfl) (by kernel_rfl) (by kernel_rfl) (fun _ _ _ h => h) (Or.inl ⟨by rfl, ?_⟩) (by assumption) ?_
    rotate_left
    · intro w hSw
      try dsimp only at hSw
      go_simp
      try with_reducible rfl
    try simp only [Act.put, List.setIfInBounds_toArray, List.set_cons_zero, List.set_cons_succ]
    refine wpAnyH_take (i := 26) (v := ?_) (by simp only [List.getElem?_toArray, List.getElem?_cons_succ, List.getElem?_cons_zero]; rfl) (by kernel_rfl) (by kernel_rfl) (by kernel_rfl) (fun _ _ _ h => h) (Or.inl ⟨by rfl, ?_⟩) (by assumption) ?_
    rotate_left
    · intro w hSw
      try dsimp only at hSw
      go_simp
      try with_reducible rfl
    try simp only [Act.put, List.setIfInBounds_toArray, List.set_cons_zero, List.set_cons_succ]
    refine wpAnyH_take (i := 27) (v := ?_) (by simp only [List.getElem?_toArray, List.getElem?_cons_succ, List.getElem?_cons_zero]; rfl) (by kernel_rfl) (by kernel_rfl) (by kernel_rfl) (fun _ _ _ h => h) (Or.inl ⟨by rfl, ?_⟩) (by assumption) ?_
    rotate_left
    · intro w hSw
      try dsimp only at hSw
      go_simp
      try with_reducible rfl
    try simp only [Act.put, List.setIfInBounds_toArray, List.set_cons_zero, List.set_cons_succ]
    refine wpAnyH_take (i := 31) (v := ?_) (by simp only [List.getElem?_toArray, List.getElem?_cons_succ, List.getElem?_cons_zero]; rfl) (by kernel_rfl) (by kernel_rfl) (by kernel_rfl) (fun _ _ _ h => h) (Or.inl ⟨by rfl, ?_⟩) (by assumption) ?_
    rotate_left
    · intro w hSw
      try dsimp only at hSw
      go_simp
      try with_reducible rfl
    try simp only [Act.put, List.setIfInBounds_toArray, List.set_cons_zero, List.set_cons_succ]
    obtain ⟨KL, hKL⟩ : ∃ KL, KL = (gr X).map (·.1) := ⟨_, rfl⟩
    have HKL := Lib.hid hKL
    have HAN : Hid (ancs (gr X) KL = KL) := Lib.hid (by rw [hKL]; exact ancs_all HW.out)
    clear hKL
    refine wpAnyH_ready (rs := [28]) (by kernel_rfl) (by simp) ?_
    refine AllReadyH.cons (by simp only [List.getElem?_toArray, List.getElem?_cons_succ, List.getElem?_cons_zero]; rfl) (fun K hK => ?_) AllReadyH.nil
    go_simp
    refine (hashes_to cw g bm X (Nat.le_trans HW.out.xlen (by decide)) K8.out.ga).mono ?_
    rintro e cx ⟨vA, rfl, oA, bk⟩
    rw [← gr_keys, ← HKL.out] at oA
    obtain ⟨pA, nA, cA, rfl, lsA⟩ := Ls.mk' HW.out oA (fun _ h => by rw [← HKL.out]; exact h) (by rw [HKL.out]; exact keys_len HW.out)
    have K9 := Lib.hid (K8.out.kb bk)
    have M7 := Lib.hid (L78.out.kb bk)
    have M8 := Lib.hid (L8.out.kb bk)
    clear bk K8 L78 L8
    have K8 := K9
    have L78 := M7
    have L8 := M8
    clear K9 M7 M8
    have LA := Lib.hid lsA
    clear lsA oA
    rename World => cw
    go_wp2_with fail
    refine hK.out _ _ ⟨hld_row HY.out (K8.out.own (bb, y) (by simp)).1, hld_row HX.out (K8.out.own (ba, x) (by simp)).1⟩ (fun hHeld => ?_)
    clear hK K
    try simp only [Act.put, List.setIfInBounds_toArray, List.set_cons_zero, List.set_cons_succ]
    refine wpAnyH_ready (rs := [29]) (by kernel_rfl) (by simp) ?_
    refine AllReadyH.cons (by simp only [List.getElem?_toArray, List.getElem?_cons_succ, List.getElem?_cons_zero]; rfl) (fun K hK => ?_) AllReadyH.nil
    go_simp
    refine (ancestors_to cw g bm X (.slice pA nA cA) KL K8.out.ga (HSeen.own LA.out.own) LA.out.h32 (Nat.le_trans LA.out.few (by decide)) (Nat.le_trans HW.out.xlen (by decide)) HW.out.clo (HW.out.parm 1000 (by decide))).mono ?_
    rintro e cx ⟨vB, rfl, oB, bk⟩
    rw [HAN.out] at oB
    obtain ⟨pB, nB, cB, rfl, hnB⟩ := own_sh oB
    have HNB : Hid (X.length = nB) := Lib.hid (by rw [hnB, HKL.out, List.length_map, gr_len])
    clear hnB oB LA
    have K9 := Lib.hid (K8.out.kb bk)
    have M7 := Lib.hid (L78.out.kb bk)
    have M8 := Lib.hid (L8.out.kb bk)
    clear bk K8 L78 L8
    have K8 := K9
    have L78 := M7
    have L8 := M8
    clear K9 M7 M8
    rename World => cw
    go_wp2_with fail
    refine hK.out _ _ ⟨hld_row HY.out (K8.out.own (bb, y) (by simp)).1, hld_row HX.out (K8.out.own (ba, x) (by simp)).1⟩ (fun hHeld => ?_)
    clear hK K
    try simp only [Act.put, List.setIfInBounds_toArray, List.set_cons_zero, List.set_cons_succ]
    refine wpAnyH_take (i := 30) (v := ?_) (by simp only [List.getElem?_toArray, List.getElem?_cons_succ, List.getElem?_cons_zero]; rfl) (by kernel_rfl) (by kernel_rfl) (by kernel_rfl) (fun _ _ _ h => h) (Or.inl ⟨by rfl, ?_⟩) (by assumption) ?_
    rotate_left
    · intro w hSw
      try dsimp only at hSw
      go_simp
      try with_reducible rfl
    try simp only [Act.put, List.setIfInBounds_toArray, List.set_cons_zero, List.set_cons_succ]
    refine wpAnyH_ready (rs := [32]) (by kernel_rfl) (by simp) ?_
    refine AllReadyH.cons (by simp only [List.getElem?_toArray, List.getElem?_cons_succ, List.getElem?_cons_zero]; rfl) (fun K hK => ?_) AllReadyH.nil
    go_simp
    have hcnt := count_to cw g bm X K8.out.ga
    rw [HNB.out] at hcnt
    refine hcnt.mono ?_
    clear hcnt
    rintro e cx ⟨rfl, rfl⟩
    go_wp2_with fail
    refine hK.out _ _ ⟨hld_row HY.out (K8.out.own (bb, y) (by simp)).1, hld_row HX.out (K8.out.own (ba, x) (by simp)).1⟩ (fun hHeld => ?_)
    clear hK K
    try simp only [Act.put, List.setIfInBounds_toArray, List.set_cons_zero, List.set_cons_succ]
    refine wpAnyH_take (i := 33) (v := ?_) (by simp only [List.getElem?_toArray, List.getElem?_cons_succ, List.getElem?_cons_zero]; rfl) (by kernel_rfl) (by kernel_rfl) (by kernel_rfl) (fun _ _ _ h => h) (Or.inl ⟨by rfl, ?_⟩) (by assumption) ?_
    rotate_left
    · intro w hSw
      try dsimp only at hSw
      go_simp
      try with_reducible rfl
    try simp only [Act.put, List.setIfInBounds_toArray, List.set_cons_zero, List.set_cons_succ]
    refine wpAnyH_take (i := 34) (v := ?_) (by simp only [List.getElem?_toArray, List.getElem?_cons_succ, List.getElem?_cons_zero]; rfl) (by kernel_rfl) (by kernel_rfl) (by kernel_rfl) (fun _ _ _ h => h) (Or.inl ⟨by rfl, ?_⟩) (by assumption) ?_
    rotate_left
    · intro w hSw
      try dsimp only at hSw
      go_simp
      try with_reducible rfl
    try simp only [Act.put, List.setIfInBounds_toArray, List.set_cons_zero, List.set_cons_succ]
    refine wpAnyH_take (i := 35) (v := ?_) (by simp only [List.getElem?_toArray, List.getElem?_cons_succ, List.getElem?_cons_zero]; rfl) (by kernel_rfl) (by kernel_rfl) (by kernel_rfl) (fun _ _ _ h => h) (Or.inl ⟨by rfl, ?_⟩) (by assumption) ?_
    rotate_left
    · intro w hSw
      try dsimp only at hSw
      go_simp
      try with_reducible rfl
    try simp only [Act.put, List.setIfInBounds_toArray, List.set_cons_zero, List.set_cons_succ]
    refine wpAnyH_done (by kernel_rfl) ?_ _
    refine NoPanic.normal ?_
    go_wp2_with fail
    go_ret
    exact ⟨rfl, K8.out.bel⟩
end Go.Proofs.YtakbdnkodnlkdaaDoor
