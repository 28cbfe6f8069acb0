/- checkHeads, checkParents, checkCycles. Conditions: hashes of 32 bytes; no more than a million commits; what parents lead to is at most 4000 hashes, no list of more than 1000. -/
import Derived.Test.YthfkmfepeafgjaaGphL
namespace Go.Proofs.Ythfkmfepeafgjaa
open Go.RowKit
open Go.Maps

/-- The first hash that is nowhere. -/
def miss (G A : Gr) : List Key → Option Key
  | [] => none
  | p :: E => if (aget p G).isSome || (aget p A).isSome then miss G A E else some p
def ck5 (G A : Gr) (hs : List Key) : Rf := match miss G A hs with | some p => some (11, some p) | none => none
def ck4 (G A : Gr) : List Cm → Rf
  | [] => none
  | c :: cs => match miss G A c.2 with | some p => some (10, some p) | none => ck4 G A cs
open Classical in
noncomputable def ck6 (A : Gr) : List Cm → Rf
  | [] => none
  | c :: cs => if ∃ p ∈ c.2, Up (adj A) p c.1 then some (12, some c.1) else ck6 A cs

set_option maxRecDepth 20000 in
set_option maxHeartbeats 8000000 in
attribute [local go_sem ↓] hld_open in
theorem checkHeads_to (w : World) (g bm ba : Nat) (X Y : Lx) (v : Value) (hs : List Key) (H : GA w g bm X) (hY : LAt w ba Y) (hv' : HSeen w v hs) (h32 : H32 hs) (hl : hs.length ≤ 1000000) :
    Calls Try.prog 63 #[gp g, v, .map (some ba)] w fun e w' => ∃ x, e = .returned x ∧ ErrW w' x (ck5 (gr X) (gr Y) hs) ∧ Below w.heap.size w w' := by
  obtain ⟨p, cap, rfl⟩ := hv'.shape
  obtain ⟨n, hn⟩ : ∃ n, n = hs.length := ⟨_, rfl⟩
  rw [← hn] at hv' hl ⊢
  have HG := Lib.hid H
  have HY := Lib.hid hY
  have HV := Lib.hid hv'
  have H3 := Lib.hid h32
  have HN := Lib.hid hn
  have HL := Lib.hid hl
  clear H hY hv' h32 hn hl
  go_enter Try.func63, Try.ntmps63
  go_wp2_with fail
  go_loopw [11] (fun s wr => ∃ i : Nat, s = .int .i64 i ∧ i ≤ n ∧ Hid (miss (gr X) (gr Y) hs = miss (gr X) (gr Y) (hs.drop i)) ∧ Hid (Below w.heap.size w wr))
    (fun s _ => n - (intOf s).toNat)
  case atStart => exact ⟨0, rfl, Nat.zero_le _, Lib.hid rfl, Lib.hid (Below.refl _ _)⟩
  case round =>
    obtain ⟨i, rfl, hi, T, B⟩ := hrel
    by_cases hlt : i < n
    · obtain ⟨j1, j2, j3⟩ := next_fit hlt HL.out
      have hiE : i < hs.length := by rw [← HN.out]; exact hlt
      obtain ⟨b, o, c', e1, hrg⟩ := (HV.out.mild (mild_below B.out)).at H3.out hiE
      injection e1 with e1 e2 e3
      subst e1
      have hdr : hs.drop i = hs[i] :: hs.drop (i + 1) := drop_at hiE
      obtain ⟨x, hx⟩ : ∃ x, x = hs[i] := ⟨_, rfl⟩
      rw [← hx] at hrg hdr
      have hx32 : x.length = 32 := by rw [hx]; exact H3.out.at hiE
      have hld0 := hld_range hx32 hrg
      have st := hst_cells x hx32 wr
      have hks : (hv x).size = 32 := by rw [hv_size, hx32]
      have b3 : Below wr.heap.size wr (wr.alloc (.cells (hv x) 28)) := (Below.refl _ _).alloc (Nat.le_refl _) _
      have HV3 := Lib.hid (heap_alloc_last wr (.cells (hv x) 28))
      have hld3 := hld_row (w := wr.alloc (.cells (hv x) 28)) hx32 HV3.out
      have B3 : Hid (Below w.heap.size w (wr.alloc (.cells (hv x) 28))) := Lib.hid (B.out.alloc B.out.size _)
      have HHS := Lib.hid (has_to (wr.alloc (.cells (hv x) 28)) g bm X x hx32 (HG.out.kb B3.out))
      have HLS := Lib.hid (fun W (hW : Below w.heap.size w W) => lhas_to W ba (kvs Y) x hx32 (HY.out.kb hW).mp)
      have hs3 : (wr.alloc (.cells (hv x) 28)).heap.size = wr.heap.size + 1 := by simp
      have H32x := Lib.hid hx32
      have HDR := Lib.hid hdr
      have HOF := Lib.hid (fun W => of_kind W x hx32 11)
      have hq : (aget x (kvs Y)).isSome = (aget x (gr Y)).isSome := by rw [kvs_get, gr_get]; cases aget x Y <;> rfl
      rw [hq] at HLS
      have hms : miss (gr X) (gr Y) hs = if (aget x (gr X)).isSome || (aget x (gr Y)).isSome then miss (gr X) (gr Y) (hs.drop (i + 1)) else some x := by rw [T.out, hdr]; rfl
      have HMS := Lib.hid hms
      clear hx hrg hx32 b3 e2 e3 hiE hdr hq hms
      generalize hw3 : wr.alloc (.cells (hv x) 28) = w3 at *
      generalize (aget x (gr Y)).isSome = okA at HLS HMS
      cases hokG : (aget x (gr X)).isSome with
      | true =>
        rw [hokG] at HHS HMS
        go_wp2_with fail
        refine HHS.out.mono ?_
        rintro e w4 ⟨rfl, b4⟩
        rw [hs3] at b4
        have B4 : Hid (Below w.heap.size w w4) := Lib.hid (B3.out.trans (b4.mono (by have := B.out.size; omega)))
        skip
        clear b4
        go_wp2_with fail
        refine ⟨⟨i + 1, by rw [j1], hlt, Lib.hid (by rw [HMS.out]; rfl), B4⟩, ?_⟩
        rw [j1]; simp only [intOf]; omega
      | false =>
        rw [hokG] at HHS HMS
        go_wp2_with fail
        refine HHS.out.mono ?_
        rintro e w4 ⟨rfl, b4⟩
        rw [hs3] at b4
        have B4 : Hid (Below w.heap.size w w4) := Lib.hid (B3.out.trans (b4.mono (by have := B.out.size; omega)))
        have HV4 := Lib.hid ((b4.block wr.heap.size (by omega)).trans HV3.out)
        have hld4 := hld_row (w := w4) H32x.out HV4.out
        skip
        clear b4
        go_wp2_with fail
        refine (HLS.out w4 B4.out).mono ?_
        rintro e w5 ⟨rfl, b5⟩
        have HV5 := Lib.hid ((b5.block _ (Array.getElem?_eq_some_iff.1 HV4.out).1).trans HV4.out)
        have hld5 := hld_row (w := w5) H32x.out HV5.out
        have B5 : Hid (Below w.heap.size w w5) := Lib.hid (B4.out.trans (b5.mono B4.out.size))
        skip
        clear b5
        cases okA with
        | true =>
          go_wp2_with fail
          refine ⟨⟨i + 1, by rw [j1], hlt, Lib.hid (by rw [HMS.out]; rfl), B5⟩, ?_⟩
          rw [j1]; simp only [intOf]; omega
        | false =>
          go_wp2_with fail
          refine (HOF.out w5).mono ?_
          rintro e w6 ⟨z, rfl, ⟨pz, rfl⟩, hz, b6⟩
          go_wp2
          go_ret
          refine ⟨_, rfl, ?_, B5.out.trans (b6.mono B5.out.size)⟩
          unfold ck5
          rw [HMS.out]
          exact hz
    · obtain rfl : i = n := by omega
      go_wp2
      go_ret
      have hT := T.out
      rw [List.drop_eq_nil_of_le (by rw [HN.out]; exact Nat.le_refl _)] at hT
      exact ⟨_, rfl, by unfold ck5; rw [hT]; rfl, B.out⟩
set_option maxRecDepth 20000 in
set_option maxHeartbeats 8000000 in
attribute [local go_sem ↓] hld_open cld_open in
theorem checkParents_to (w : World) (g bm ba : Nat) (X Y : Lx) (v : Value) (cs : List Cm) (H : GA w g bm X) (hY : LAt w ba Y) (hv' : CSeen w v cs) (hok : COk cs) (hl : cs.length ≤ 1000000) (hp : ∀ c ∈ cs, c.2.length ≤ 1000000) :
    Calls Try.prog 62 #[gp g, v, .map (some ba)] w fun e w' => ∃ x, e = .returned x ∧ ErrW w' x (ck4 (gr X) (gr Y) cs) ∧ Below w.heap.size w w' := by
  obtain ⟨p, cap, rfl, hc⟩ := id hv'
  clear hc
  obtain ⟨n, hn⟩ : ∃ n, n = cs.length := ⟨_, rfl⟩
  rw [← hn] at hv' hl ⊢
  have HV := Lib.hid hv'
  have HO := Lib.hid hok
  have HN := Lib.hid hn
  have HL := Lib.hid hl
  have HP := Lib.hid hp
  have HG := Lib.hid H
  have HY := Lib.hid hY
  clear hv' hok hl hn hp H hY
  go_enter Try.func62, Try.ntmps62
  go_wp2_with fail
  go_loopw [13] (fun s wr => ∃ i : Nat, s = .int .i64 i ∧ i ≤ n ∧ Hid (ck4 (gr X) (gr Y) cs = ck4 (gr X) (gr Y) (cs.drop i)) ∧ Hid (Below w.heap.size w wr))
    (fun s _ => n - (intOf s).toNat)
  case atStart => exact ⟨0, rfl, Nat.zero_le _, Lib.hid rfl, Lib.hid (Below.refl _ _)⟩
  case round =>
    obtain ⟨i, rfl, hi, T, B⟩ := hrel
    by_cases hlt : i < n
    · obtain ⟨j1, j2, j3⟩ := next_fit hlt HL.out
      have hiE : i < cs.length := by rw [← HN.out]; exact hlt
      obtain ⟨p', cap', e1, hc⟩ := HV.out.mild (mild_below B.out)
      injection e1 with e1 e2 e3
      obtain ⟨b, o, u, rfl, hrg, hsn⟩ := hc i cs[i] (List.getElem?_eq_getElem hiE)
      subst e1
      have hdr : cs.drop i = cs[i] :: cs.drop (i + 1) := drop_at hiE
      have hoki := HO.out _ (List.getElem_mem hiE)
      have hmemi := List.getElem_mem hiE
      obtain ⟨⟨h, E⟩, hce⟩ : ∃ c : Cm, c = cs[i] := ⟨_, rfl⟩
      rw [← hce] at hrg hsn hdr hoki hmemi
      dsimp only at hrg hsn hoki
      have hh := hoki.1
      have hld0 := cld_range hh hrg
      have st := cst_cells h u hh hsn.one wr
      have hks : (cmv h u).size = 33 := cmv_size hh u
      have b3 : Below wr.heap.size wr (wr.alloc (.cells (cmv h u) 49)) := (Below.refl _ _).alloc (Nat.le_refl _) _
      have B3 : Hid (Below w.heap.size w (wr.alloc (.cells (cmv h u) 49))) := Lib.hid (B.out.alloc B.out.size _)
      have HV3 := heap_alloc_last wr (.cells (cmv h u) 49)
      have hsn3 := hsn.mild (mild_below b3)
      have hs3 : (wr.alloc (.cells (cmv h u) 49)).heap.size = wr.heap.size + 1 := by simp
      obtain ⟨pu, cu, rfl⟩ := hsn3.shape
      have HH3 := Lib.hid HV3
      have HSN := Lib.hid hsn3
      have HOK := Lib.hid hoki
      have HDR := Lib.hid hdr
      have HMI := Lib.hid hmemi
      obtain ⟨m, hm⟩ : ∃ m, m = E.length := ⟨_, rfl⟩
      rw [← hm] at hld0 st hks HH3 HSN hs3 B3
      have HB3 := Lib.hid b3
      rw [← hm] at HB3
      have HM := Lib.hid hm
      have HPI : Hid (E.length ≤ 1000000) := Lib.hid (HP.out _ hmemi)
      clear hrg hsn hdr hoki hmemi hh b3 HV3 hsn3 hc e2 e3 hce hm hiE
      generalize hV3 : wr.alloc (.cells (cmv h (.slice pu m cu)) 49) = V3 at *
      have hc3 := cm_cell HOK.out.1 HH3.out
      have HCK : Hid (ck4 (gr X) (gr Y) cs = match miss (gr X) (gr Y) E with | some p => some (10, some p) | none => ck4 (gr X) (gr Y) (cs.drop (i + 1))) := Lib.hid (by rw [T.out, HDR.out]; rfl)
      have HJ1 := Lib.hid j1
      have HLT := Lib.hid hlt
      generalize cmv h (.slice pu m cu) = q33 at *
      clear T
      generalize i = I at *
      have HB0 := Lib.hid B.out.size
      go_wp2_with fail
      go_loopw [20] (fun s wr => ∃ i : Nat, s = .int .i64 i ∧ i ≤ m ∧ Hid (miss (gr X) (gr Y) E = miss (gr X) (gr Y) (E.drop i)) ∧ Hid (Below w.heap.size w wr) ∧ Hid (Below V3.heap.size V3 wr))
        (fun s _ => m - (intOf s).toNat)
      case atStart => exact ⟨0, rfl, Nat.zero_le _, Lib.hid rfl, B3, Lib.hid (Below.refl _ _)⟩
      case round =>
        clear B3 B hld0 st hks
        have hMl : m ≤ 1000000 := by rw [HM.out]; exact HPI.out
        have HML := Lib.hid hMl
        clear hMl
        obtain ⟨i, rfl, hi, T, B, BV⟩ := hrel
        by_cases hlt : i < m
        · obtain ⟨j1, j2, j3⟩ := next_fit hlt HML.out
          have hiE : i < E.length := by rw [← HM.out]; exact hlt
          obtain ⟨b, o, c', e1, hrg⟩ := (HSN.out.mild (mild_below BV.out)).at HOK.out.2 hiE
          injection e1 with e1 e2 e3
          subst e1
          have hdr : E.drop i = E[i] :: E.drop (i + 1) := drop_at hiE
          obtain ⟨x, hx⟩ : ∃ x, x = E[i] := ⟨_, rfl⟩
          rw [← hx] at hrg hdr
          have hx32 : x.length = 32 := by rw [hx]; exact HOK.out.2.at hiE
          have hld0 := hld_range hx32 hrg
          have st := hst_cells x hx32 wr
          have hks : (hv x).size = 32 := by rw [hv_size, hx32]
          have b3 : Below wr.heap.size wr (wr.alloc (.cells (hv x) 28)) := (Below.refl _ _).alloc (Nat.le_refl _) _
          have HV3 := Lib.hid (heap_alloc_last wr (.cells (hv x) 28))
          have hld3 := hld_row (w := wr.alloc (.cells (hv x) 28)) hx32 HV3.out
          have B3 : Hid (Below w.heap.size w (wr.alloc (.cells (hv x) 28))) := Lib.hid (B.out.alloc B.out.size _)
          have BV3 : Hid (Below V3.heap.size V3 (wr.alloc (.cells (hv x) 28))) := Lib.hid (BV.out.alloc BV.out.size _)
          have HHS := Lib.hid (has_to (wr.alloc (.cells (hv x) 28)) g bm X x hx32 (HG.out.kb B3.out))
          have HLS := Lib.hid (fun W (hW : Below w.heap.size w W) => lhas_to W ba (kvs Y) x hx32 (HY.out.kb hW).mp)
          have hs3 : (wr.alloc (.cells (hv x) 28)).heap.size = wr.heap.size + 1 := by simp
          have H32x := Lib.hid hx32
          have HDR := Lib.hid hdr
          have HOF := Lib.hid (fun W => of_kind W x hx32 10)
          have hq : (aget x (kvs Y)).isSome = (aget x (gr Y)).isSome := by rw [kvs_get, gr_get]; cases aget x Y <;> rfl
          rw [hq] at HLS
          have hms : miss (gr X) (gr Y) E = if (aget x (gr X)).isSome || (aget x (gr Y)).isSome then miss (gr X) (gr Y) (E.drop (i + 1)) else some x := by rw [T.out, hdr]; rfl
          have HMS := Lib.hid hms
          clear hx hrg hx32 b3 e2 e3 hiE hdr hq hms
          generalize hw3 : wr.alloc (.cells (hv x) 28) = w3 at *
          generalize (aget x (gr Y)).isSome = okA at HLS HMS
          cases hokG : (aget x (gr X)).isSome with
          | true =>
            rw [hokG] at HHS HMS
            go_wp2_with fail
            refine HHS.out.mono ?_
            rintro e w4 ⟨rfl, b4⟩
            rw [hs3] at b4
            have B4 : Hid (Below w.heap.size w w4) := Lib.hid (B3.out.trans (b4.mono (by have := B.out.size; omega)))
            have BV4 : Hid (Below V3.heap.size V3 w4) := Lib.hid (BV3.out.trans (b4.mono (by have := BV.out.size; omega)))
            clear b4
            go_wp2_with fail
            refine ⟨⟨i + 1, by rw [j1], hlt, Lib.hid (by rw [HMS.out]; rfl), B4, BV4⟩, ?_⟩
            rw [j1]; simp only [intOf]; omega
          | false =>
            rw [hokG] at HHS HMS
            go_wp2_with fail
            refine HHS.out.mono ?_
            rintro e w4 ⟨rfl, b4⟩
            rw [hs3] at b4
            have B4 : Hid (Below w.heap.size w w4) := Lib.hid (B3.out.trans (b4.mono (by have := B.out.size; omega)))
            have HV4 := Lib.hid ((b4.block wr.heap.size (by omega)).trans HV3.out)
            have hld4 := hld_row (w := w4) H32x.out HV4.out
            have BV4 : Hid (Below V3.heap.size V3 w4) := Lib.hid (BV3.out.trans (b4.mono (by have := BV.out.size; omega)))
            clear b4
            go_wp2_with fail
            refine (HLS.out w4 B4.out).mono ?_
            rintro e w5 ⟨rfl, b5⟩
            have HV5 := Lib.hid ((b5.block _ (Array.getElem?_eq_some_iff.1 HV4.out).1).trans HV4.out)
            have hld5 := hld_row (w := w5) H32x.out HV5.out
            have B5 : Hid (Below w.heap.size w w5) := Lib.hid (B4.out.trans (b5.mono B4.out.size))
            have BV5 : Hid (Below V3.heap.size V3 w5) := Lib.hid (BV4.out.trans (b5.mono BV4.out.size))
            clear b5
            cases okA with
            | true =>
              go_wp2_with fail
              refine ⟨⟨i + 1, by rw [j1], hlt, Lib.hid (by rw [HMS.out]; rfl), B5, BV5⟩, ?_⟩
              rw [j1]; simp only [intOf]; omega
            | false =>
              go_wp2_with fail
              refine (HOF.out w5).mono ?_
              rintro e w6 ⟨z, rfl, ⟨pz, rfl⟩, hz, b6⟩
              go_wp2
              go_ret
              refine ⟨_, rfl, ?_, B5.out.trans (b6.mono B5.out.size)⟩
              rw [HCK.out, HMS.out]
              exact hz
        · obtain rfl : i = m := by omega
          have hT := T.out
          rw [List.drop_eq_nil_of_le (by rw [HM.out]; exact Nat.le_refl _)] at hT
          have HT := Lib.hid hT
          clear hT
          go_wp2_with fail
          refine ⟨⟨I + 1, by rw [HJ1.out], HLT.out, Lib.hid (by rw [HCK.out, HT.out]; rfl), B⟩, ?_⟩
          rw [HJ1.out]; simp only [intOf]
          have := HLT.out
          omega
    · obtain rfl : i = n := by omega
      go_wp2
      go_ret
      have hT := T.out
      rw [List.drop_eq_nil_of_le (by rw [HN.out]; exact Nat.le_refl _)] at hT
      exact ⟨_, rfl, by rw [hT]; rfl, B.out⟩
set_option maxRecDepth 20000 in
set_option maxHeartbeats 8000000 in
attribute [local go_sem ↓] hld_open cld_open in
theorem checkCycles_to (w : World) (ba : Nat) (Y : Lx) (v : Value) (cs : List Cm) (U : List Key) (hY : LAt w ba Y) (hv' : CSeen w v cs) (hok : COk cs) (hl : cs.length ≤ 1000000) (hp : ∀ c ∈ cs, c.2.length ≤ 1000)
    (hU : U.length ≤ 4000) (hcU : ∀ c ∈ cs, ∀ p ∈ c.2, p ∈ U) (hYU : ∀ x, ∀ p ∈ adj (gr Y) x, p ∈ U) (hYl : ∀ y ∈ Y, y.2.2.length ≤ 1000) :
    Calls Try.prog 64 #[v, .map (some ba)] w fun e w' => ∃ x, e = .returned x ∧ ErrW w' x (ck6 (gr Y) cs) ∧ Below w.heap.size w w' := by
  obtain ⟨p, cap, rfl, hc⟩ := id hv'
  clear hc
  obtain ⟨n, hn⟩ : ∃ n, n = cs.length := ⟨_, rfl⟩
  rw [← hn] at hv' hl ⊢
  have HV := Lib.hid hv'
  have HO := Lib.hid hok
  have HN := Lib.hid hn
  have HL := Lib.hid hl
  have HP := Lib.hid hp
  have HY := Lib.hid hY
  have HUl := Lib.hid hU
  have HCU := Lib.hid hcU
  have HYU := Lib.hid hYU
  have HYL := Lib.hid hYl
  clear hv' hok hl hn hp hY hU hcU hYU hYl
  go_enter Try.func64, Try.ntmps64
  go_wp2_with fail
  go_loopw [9] (fun s wr => ∃ i : Nat, s = .int .i64 i ∧ i ≤ n ∧ Hid (ck6 (gr Y) cs = ck6 (gr Y) (cs.drop i)) ∧ Hid (Below w.heap.size w wr))
    (fun s _ => n - (intOf s).toNat)
  case atStart => exact ⟨0, rfl, Nat.zero_le _, Lib.hid rfl, Lib.hid (Below.refl _ _)⟩
  case round =>
    obtain ⟨i, rfl, hi, T, B⟩ := hrel
    by_cases hlt : i < n
    · obtain ⟨j1, j2, j3⟩ := next_fit hlt HL.out
      have hiE : i < cs.length := by rw [← HN.out]; exact hlt
      obtain ⟨p', cap', e1, hc⟩ := HV.out.mild (mild_below B.out)
      injection e1 with e1 e2 e3
      obtain ⟨b, o, u, rfl, hrg, hsn⟩ := hc i cs[i] (List.getElem?_eq_getElem hiE)
      subst e1
      have hdr : cs.drop i = cs[i] :: cs.drop (i + 1) := drop_at hiE
      have hoki := HO.out _ (List.getElem_mem hiE)
      have hmemi := List.getElem_mem hiE
      obtain ⟨⟨h, E⟩, hce⟩ : ∃ c : Cm, c = cs[i] := ⟨_, rfl⟩
      rw [← hce] at hrg hsn hdr hoki hmemi
      dsimp only at hrg hsn hoki
      have hh := hoki.1
      have hld0 := cld_range hh hrg
      have st := cst_cells h u hh hsn.one wr
      have hks : (cmv h u).size = 33 := cmv_size hh u
      have b3 : Below wr.heap.size wr (wr.alloc (.cells (cmv h u) 49)) := (Below.refl _ _).alloc (Nat.le_refl _) _
      have B3 : Hid (Below w.heap.size w (wr.alloc (.cells (cmv h u) 49))) := Lib.hid (B.out.alloc B.out.size _)
      have HV3 := heap_alloc_last wr (.cells (cmv h u) 49)
      have hsn3 := hsn.mild (mild_below b3)
      have hs3 : (wr.alloc (.cells (cmv h u) 49)).heap.size = wr.heap.size + 1 := by simp
      obtain ⟨pu, cu, rfl⟩ := hsn3.shape
      have HH3 := Lib.hid HV3
      have HSN := Lib.hid hsn3
      have HOK := Lib.hid hoki
      have HDR := Lib.hid hdr
      have HMI := Lib.hid hmemi
      obtain ⟨m, hm⟩ : ∃ m, m = E.length := ⟨_, rfl⟩
      rw [← hm] at hld0 st hks HH3 HSN hs3 B3
      have HB3 := Lib.hid b3
      rw [← hm] at HB3
      have HM := Lib.hid hm
      have HPI : Hid (E.length ≤ 1000 ∧ ∀ p ∈ E, p ∈ U) := Lib.hid ⟨HP.out _ hmemi, HCU.out _ hmemi⟩
      clear hrg hsn hdr hoki hmemi hh b3 HV3 hsn3 hc e2 e3 hce hm hiE
      generalize hw3 : wr.alloc (.cells (cmv h (.slice pu m cu)) 49) = w3 at *
      have hc3 := cm_cell HOK.out.1 HH3.out
      have hld3 := cm_hld (w := w3.drew) HOK.out.1 HH3.out
      have HCL := Lib.hid (fun W (hW : Below w3.heap.size w3 W) => cm_cell (w := W) HOK.out.1 ((mild_below hW).cells HH3.out))
      have HLD := Lib.hid (fun W (hW : Below w3.heap.size w3 W) => cm_hld (w := W) HOK.out.1 ((mild_below hW).cells HH3.out))
      have HRE := Lib.hid (fun W (hW : Below w3.heap.size w3 W) => reach_to W ba Y (.slice pu m cu) E U (HY.out.kb (B3.out.trans (hW.mono B3.out.size))) (HSN.out.mild (mild_below hW)) HOK.out.2 (by have := HPI.out.1; omega) HUl.out HPI.out.2 HYU.out HYL.out)
      have HCK : Hid (ck6 (gr Y) cs = open Classical in if ∃ p ∈ E, Up (adj (gr Y)) p h then some (12, some h) else ck6 (gr Y) (cs.drop (i + 1))) := Lib.hid (by rw [T.out, HDR.out]; rfl)
      generalize cmv h (.slice pu m cu) = q33 at *
      go_wp2_with fail
      try simp only [List.append]
      refine wp_region_noPanic ?_
      refine wp_region_held_drew (S := (fun W => W.cell? ⟨wr.heap.size, 32, none⟩ = some (.slice pu m cu) ∧ (hld ⟨wr.heap.size, 0, none⟩).run Try.prog W = .ok (.agg (hv h)) W)) (by kernel_rfl) ⟨hc3, hld3⟩ (fun hHeld => ?_)
      refine wpAnyH_take (i := 0) (v := ?_) (by simp only [List.getElem?_toArray, List.getElem?_cons_zero]; rfl) (by kernel_rfl) (by kernel_rfl) (by kernel_rfl) (fun _ _ _ h => h) (Or.inl ⟨by rfl, ?_⟩) (by assumption) ?_
      rotate_left
      · intro w hSw
        try dsimp only at hSw
        go_simp
        try with_reducible rfl
      try simp only [Act.put, List.setIfInBounds_toArray, List.set_cons_zero, List.set_cons_succ]
      refine wpAnyH_take (i := 1) (v := ?_) (by simp only [List.getElem?_toArray, List.getElem?_cons_succ, List.getElem?_cons_zero]; rfl) (by kernel_rfl) (by kernel_rfl) (by kernel_rfl) (fun _ _ _ h => h) (Or.inl ⟨by rfl, ?_⟩) (by assumption) ?_
      rotate_left
      · intro w hSw
        try dsimp only at hSw
        go_simp
        try with_reducible rfl
      try simp only [Act.put, List.setIfInBounds_toArray, List.set_cons_zero, List.set_cons_succ]
      refine wpAnyH_take (i := 2) (v := ?_) (by simp only [List.getElem?_toArray, List.getElem?_cons_succ, List.getElem?_cons_zero]; rfl) (by kernel_rfl) (by kernel_rfl) (by kernel_rfl) (fun _ _ _ h => h) (Or.inl ⟨by rfl, ?_⟩) (by assumption) ?_
      rotate_left
      · intro w hSw
        try dsimp only at hSw
        go_simp
        try with_reducible rfl
      try simp only [Act.put, List.setIfInBounds_toArray, List.set_cons_zero, List.set_cons_succ]
      refine wpAnyH_take (i := 4) (v := ?_) (by simp only [List.getElem?_toArray, List.getElem?_cons_succ, List.getElem?_cons_zero]; rfl) (by kernel_rfl) (by kernel_rfl) (by kernel_rfl) (fun _ _ _ h => h) (Or.inl ⟨by rfl, ?_⟩) (by assumption) ?_
      rotate_left
      · intro w hSw
        try dsimp only at hSw
        go_simp
        try with_reducible rfl
      try simp only [Act.put, List.setIfInBounds_toArray, List.set_cons_zero, List.set_cons_succ]
      refine wpAnyH_take (i := 5) (v := ?_) (by simp only [List.getElem?_toArray, List.getElem?_cons_succ, List.getElem?_cons_zero]; rfl) (by kernel_rfl) (by kernel_rfl) (by kernel_rfl) (fun _ _ _ h => h) (Or.inl ⟨by rfl, ?_⟩) (by assumption) ?_
      rotate_left
      · intro w hSw
        try dsimp only at hSw
        go_simp
        try with_reducible rfl
      try simp only [Act.put, List.setIfInBounds_toArray, List.set_cons_zero, List.set_cons_succ]
      refine wpAnyH_ready (rs := [3]) (by kernel_rfl) (by simp) ?_
      refine AllReadyH.cons (by simp only [List.getElem?_toArray, List.getElem?_cons_succ, List.getElem?_cons_zero]; rfl) (fun K hK => ?_) AllReadyH.nil
      go_simp
      refine (HRE.out w3.drew (blw_qt _ 1 w3)).mono ?_
      rintro e w4 ⟨b4, R, rfl, hS, _, hR, _, bb4⟩
      have b5 := blw_drn (m := 1) bb4
      have c4 := HCL.out w4 b5
      have l4 := HLD.out w4 b5
      have HSH := Lib.hid (shas_to w4 b4 R h HOK.out.1 hS)
      have HR := Lib.hid (hR h)
      have HB5 := Lib.hid b5
      clear hS hR bb4 b5
      go_wp2_with fail
      refine hK.out _ _ ⟨c4, l4⟩ (fun hHeld => ?_)
      clear hK K
      try simp only [Act.put, List.setIfInBounds_toArray, List.set_cons_zero, List.set_cons_succ]
      by_cases hup : h ∈ R
      · rw [decide_eq_true hup] at HSH
        have HUP := Lib.hid (HR.out.1 hup)
        clear hup
        refine wpAnyH_ready (rs := [6]) (by kernel_rfl) (by simp) ?_
        refine AllReadyH.cons (by simp only [List.getElem?_toArray, List.getElem?_cons_succ, List.getElem?_cons_zero]; rfl) (fun K hK => ?_) AllReadyH.nil
        go_simp
        refine HSH.out.mono ?_
        rintro e w6 ⟨rfl, b6⟩
        have b7 := HB5.out.trans (b6.mono HB5.out.size)
        have c6 := HCL.out w6 b7
        have l6 := HLD.out w6 b7
        have B6 : Hid (Below w.heap.size w w6) := Lib.hid (B3.out.trans (b7.mono B3.out.size))
        have HOF := Lib.hid (of_kind w6 h HOK.out.1 12)
        clear b6 b7
        go_wp2_with fail
        refine hK.out _ _ ⟨c6, l6⟩ (fun hHeld => ?_)
        clear hK K
        try simp only [Act.put, List.setIfInBounds_toArray, List.set_cons_zero, List.set_cons_succ]
        refine wpAnyH_done (by kernel_rfl) ?_ _
        refine NoPanic.normal ?_
        go_wp2_with fail
        refine HOF.out.mono ?_
        rintro e w8 ⟨x, rfl, ⟨px, rfl⟩, hx, b8⟩
        go_wp2
        go_ret
        exact ⟨_, rfl, by rw [HCK.out, if_pos HUP.out]; exact hx, B6.out.trans (b8.mono B6.out.size)⟩
      · rw [decide_eq_false hup] at HSH
        have HUP : Hid (¬ ∃ p ∈ E, Up (adj (gr Y)) p h) := Lib.hid (fun e => hup (HR.out.2 e))
        clear hup
        refine wpAnyH_ready (rs := [6]) (by kernel_rfl) (by simp) ?_
        refine AllReadyH.cons (by simp only [List.getElem?_toArray, List.getElem?_cons_succ, List.getElem?_cons_zero]; rfl) (fun K hK => ?_) AllReadyH.nil
        go_simp
        refine HSH.out.mono ?_
        rintro e w6 ⟨rfl, b6⟩
        have b7 := HB5.out.trans (b6.mono HB5.out.size)
        have c6 := HCL.out w6 b7
        have l6 := HLD.out w6 b7
        have B6 : Hid (Below w.heap.size w w6) := Lib.hid (B3.out.trans (b7.mono B3.out.size))
        clear b6 b7
        go_wp2_with fail
        refine hK.out _ _ ⟨c6, l6⟩ (fun hHeld => ?_)
        clear hK K
        try simp only [Act.put, List.setIfInBounds_toArray, List.set_cons_zero, List.set_cons_succ]
        refine wpAnyH_done (by kernel_rfl) ?_ _
        refine NoPanic.normal ?_
        go_wp2_with fail
        refine ⟨⟨i + 1, by rw [j1], hlt, Lib.hid (by rw [HCK.out, if_neg HUP.out]), B6⟩, ?_⟩
        rw [j1]; simp only [intOf]; omega
    · obtain rfl : i = n := by omega
      go_wp2
      go_ret
      have hT := T.out
      rw [List.drop_eq_nil_of_le (by rw [HN.out]; exact Nat.le_refl _)] at hT
      exact ⟨_, rfl, by rw [hT]; rfl, B.out⟩
end Go.Proofs.Ythfkmfepeafgjaa
