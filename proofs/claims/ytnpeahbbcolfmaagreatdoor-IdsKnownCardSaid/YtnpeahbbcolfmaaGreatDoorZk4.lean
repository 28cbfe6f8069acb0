/- IdsKnown returns true, whatever the memory holds and whatever the schedule is. No condition. -/
import Derived.Test.YtnpeahbbcolfmaaGreatDoorZk3
import Derived.BigQuiet
import Derived.Deep.RegionHeld3
import Derived.Shelf.SlSortCmp.NoneTotal
import Derived.Maps.AppendAt
import Derived.Laws.OwnMore
import Derived.Shelf.Spec.SlicesGrow
import Derived.Test.YtnpeahbbcolfmaaGreatDoorRows
import Derived.ProofKit
import Derived.ChangeSame
import Derived.ChangeVars
import Derived.JoinedOf
import Derived.RowKit
import Derived.LaidLaws
import Derived.LaidHandle
import Derived.HandedShaped
import Derived.Stop.Joined
import Derived.Test.YtnpeahbbcolfmaaGreatDoorCards
import Derived.Test.YtnpeahbbcolfmaaGreatDoorTie
import Derived.SevenTiedAt
import Derived.OpenShut
import Derived.SizedLaws
import Derived.ShutString
import Derived.ChangeOld
set_option linter.unusedSimpArgs false
set_option linter.unusedVariables false
namespace Go.Proofs.YtnpeahbbcolfmaaGreatDoor
open Go.RowKit
open Go.Maps
/-- The others so far. -/
abbrev oAt (ms os l : List Key) (k : Nat) : List Key := os ++ (l.take k).filter (out (ms ++ os))
theorem oAt_next {ms os l : List Key} {k : Nat} {x : Key} (hx : l[k]? = some x) : oAt ms os l (k + 1) = oAt ms os l k ++ (if x ∈ ms ++ os then [] else [x]) := by
  unfold oAt
  rw [take_flt hx, List.append_assoc]
  by_cases h : x ∈ ms ++ os
  · simp only [out, h, decide_true, Bool.not_true, if_true, Bool.false_eq_true, if_false]
  · simp only [out, h, decide_false, Bool.not_false, if_true, if_false]
theorem oAt_mem {ms os l : List Key} {k : Nat} {x : Key} (hn : l.Nodup) (hx : l[k]? = some x) : (idn ms (oAt ms os l k) x).isSome = decide (x ∈ ms ++ os) := by
  have hnt : x ∉ l.take k := fun hm => by
    obtain ⟨j, hj, hjk⟩ := idx_take hm
    have := idx_at hn hx
    rw [hj] at this
    injection this with this
    omega
  by_cases h : x ∈ ms ++ os
  · rw [decide_eq_true h]
    cases hi : idn ms (oAt ms os l k) x with
    | some n => rfl
    | none =>
      obtain ⟨h1, h2⟩ := idn_none.1 hi
      rcases List.mem_append.1 h with h | h
      · exact absurd h h1
      · exact absurd (List.mem_append_left _ h) h2
  · rw [decide_eq_false h]
    have : idn ms (oAt ms os l k) x = none := idn_none.2 ⟨fun h1 => h (List.mem_append_left _ h1), fun h1 => by
      rcases List.mem_append.1 h1 with h1 | h1
      · exact h (List.mem_append_right _ h1)
      · exact hnt (List.mem_filter.1 h1).1⟩
    rw [this]; rfl
theorem oAt_len {ms os l : List Key} {k : Nat} : (oAt ms os l k).length ≤ os.length + l.length := by
  unfold oAt
  rw [List.length_append]
  have h1 := List.length_filter_le (out (ms ++ os)) (l.take k)
  rw [List.length_take] at h1
  omega
set_option linter.unusedSimpArgs false in
set_option maxRecDepth 20000 in
set_option maxHeartbeats 8000000 in
attribute [local go_sem ↓] hld_open in
theorem iadd_to (w0 w : World) (b0 : Below w0.heap.size w0 w) (B i nb : Nat) (most : Int) (mv ov : Value) (ms os : List Key) (H : IA w0 B i nb most mv ov ms os (idn ms os)) (v : Value) (l : List Key) (ho : HOwn w w0.heap.size v l) (hn : l.Nodup) (h32 : H32 l) (hl : l.length ≤ 1000)
    (hlm : ms.length + os.length ≤ 1000) :
    Calls Tryz.prog 40 #[ip i, v] w fun e w' => e = .returned (.tuple #[]) ∧ IPost w0 w' B i nb most mv ov ms (os ++ l.filter (out (ms ++ os))) (idn ms (os ++ l.filter (out (ms ++ os)))) := by
  obtain ⟨pm, nm, cm, rfl, hnm⟩ := own_sh H.oo
  have hB : B ≤ w0.heap.size := Nat.le_trans H.lo.1 (Nat.le_of_lt (Array.getElem?_eq_some_iff.1 H.cell).1)
  obtain ⟨pr, nr, cr, rfl, hnr⟩ := own_sh ho
  have HBB := Lib.hid hB
  have H0 := Lib.hid H
  have HA3 := Lib.hid (H.kb b0)
  have HLM := Lib.hid hlm
  have HNR := Lib.hid hnr
  have O3 := Lib.hid ho
  have B3 := Lib.hid b0
  have HRF : Hid (l.Nodup ∧ H32 l ∧ l.length ≤ 1000) := Lib.hid ⟨hn, h32, hl⟩
  have NE3 : Hid (∀ j, (Value.slice pr nr cr).ownBlock = some j → mv.ownBlock ≠ some j ∧ (Value.slice pm nm cm).ownBlock ≠ some j) := Lib.hid (fun j hj => ⟨fun e => by have h1 := own_from ho j hj; have h2 := own_lt H.om j e; omega, fun e => by have h1 := own_from ho j hj; have h2 := own_lt H.oo j e; omega⟩)
  clear b0 H ho hn h32 hl hlm hnm hB hnr
  go_enter Tryz.func40, Tryz.ntmps40
  go_wp2_with fail
  go_loopw [10] (fun v10 wr => ∃ k : Nat, v10 = .int .i64 k ∧ k ≤ nr ∧ Hid (∃ pk nk ck, IA wr B i nb most mv (.slice pk nk ck) ms (oAt ms os l k) (idn ms (oAt ms os l k)) ∧ Only (iS i nb mv (.slice pm nm cm)) w0 wr ∧ iL w0.heap.size mv (.slice pm nm cm) mv (.slice pk nk ck) ∧ ∀ j, (Value.slice pr nr cr).ownBlock = some j → mv.ownBlock ≠ some j ∧ (Value.slice pk nk ck).ownBlock ≠ some j) ∧ Hid (HOwn wr w0.heap.size (.slice pr nr cr) l)) (fun v10 _ => nr - (intOf v10).toNat)
  case atStart => exact ⟨0, rfl, Nat.zero_le _, Lib.hid ⟨pm, nm, cm, by simp only [oAt, List.take_zero, List.filter_nil, List.append_nil]; exact HA3.out, Only.of_below (S := iS i nb mv (.slice pm nm cm)) B3.out, iL.refl _ _ _, NE3.out⟩, O3⟩
  case round =>
    clear HA3 O3 B3 NE3
    obtain ⟨k, rfl, hk, HE, HO⟩ := hrel
    obtain ⟨pk, nk, ck, ha, t, ll, ne⟩ := HE.out
    have HA := Lib.hid ha
    have T := Lib.hid t
    have LL := Lib.hid ll
    have NE := Lib.hid ne
    obtain ⟨p9, c9, e9⟩ := own_shape ha.oo
    have HNK : Hid (nk = (oAt ms os l k).length) := Lib.hid (by
      injection e9 with _ e9 _)
    clear ha t ll ne HE e9
    by_cases hlt : k < nr
    · have hl1 : (k : Int) < nr := by omega
      obtain ⟨j1, j2, j3⟩ := next_fit hlt (by have := HRF.out.2.2; have := HNR.out; omega)
      have hkE : k < l.length := by rw [← HNR.out]; exact hlt
      obtain ⟨bb, o, c', e1, hrg⟩ := (HSeen.own HO.out).at HRF.out.2.1 hkE
      injection e1 with e1 e2 e3
      subst e1
      have hat : l[k]? = some l[k] := List.getElem?_eq_getElem hkE
      obtain ⟨x, hx⟩ : ∃ x, x = l[k] := ⟨_, rfl⟩
      rw [← hx] at hrg hat
      have HX : Hid (x.length = 32) := Lib.hid (by rw [hx]; exact HRF.out.2.1.at hkE)
      have HAT := Lib.hid hat
      have hld0 := hld_range HX.out hrg
      have st := hst_cells x HX.out wr
      have hks : (hv x).size = 32 := by rw [hv_size, HX.out]
      have AL := Lib.hid (below_al11 wr (.cells (hv x) 31))
      have HBX := Lib.hid (heap_alloc_last wr (.cells (hv x) 31))
      have HA4 := Lib.hid (HA.out.kb AL.out)
      have T4 : Hid (Only (iS i nb mv (.slice pm nm cm)) w0 (wr.alloc (.cells (hv x) 31))) := Lib.hid (T.out.trans (Only.of_below (S := iS i nb mv (.slice pm nm cm)) AL.out) (fun _ h => h) (fun _ _ h => h))
      have HO4 := Lib.hid (own_below HO.out AL.out)
      have XB : Hid (∀ j, (Value.slice pk nk ck).ownBlock = some j → j ≠ wr.heap.size) := Lib.hid (fun j hj e => by have := own_lt HA.out.oo j hj; omega)
      have HLT := Lib.hid hlt
      have HJ := Lib.hid j1
      clear hx hrg hat hkE hk e2 e3 HA T HO
      go_upto_region 3 with fail
      clear st hld0
      generalize wr.alloc (.cells (hv x) 31) = w4 at *
      generalize wr.heap.size = xb at *
      have bq : Below w4.heap.size w4 w4.drew := blw_qt _ 1 w4
      have HA5 := Lib.hid (HA4.out.kb bq)
      have HB5 := Lib.hid ((mild_below bq).cells HBX.out)
      have HO5 := Lib.hid (own_below HO4.out bq)
      have T5 : Hid (Only (iS i nb mv (.slice pm nm cm)) w0 w4.drew) := Lib.hid (T4.out.trans (Only.of_below (S := iS i nb mv (.slice pm nm cm)) bq) (fun _ h => h) (fun _ _ h => h))
      obtain ⟨d, hd⟩ : ∃ d, d = (idn ms (oAt ms os l k) x).getD 0 := ⟨_, rfl⟩
      obtain ⟨ok, hok⟩ : ∃ ok, ok = decide (x ∈ ms ++ os) := ⟨_, rfl⟩
      have hlk := HA5.out.im.lookOk x HX.out
      rw [← hd, oAt_mem HRF.out.1 HAT.out, ← hok] at hlk
      have HLK := Lib.hid hlk
      have HOK := Lib.hid hok
      clear bq HA4 T4 HO4 HBX hlk hd hok
      go_wp2_with fail
      try simp only [List.append]
      refine wp_region_noPanic ?_
      refine wp_region_held_drew (S := (fun V => V.cell? ⟨i, 3, none⟩ = some (.map (some nb)) ∧ (hld ⟨xb, 0, none⟩).run Tryz.prog V = .ok (.agg (hv x)) V ∧ (Instr.lookup 92 (.map (some nb)) (.agg (hv x)) true).run Tryz.prog V = .ok (.tuple #[.int .i64 d, .bool ok]) V)) (by kernel_rfl) ⟨HA5.out.c (k := 3) rfl, hld_row HX.out HB5.out, HLK.out⟩ (fun hHeld => ?_)
      generalize w4.drew = w5 at *
      refine wpAnyH_take (i := 0) (v := ?_) (by simp only [List.getElem?_toArray, List.getElem?_cons_zero]; rfl) (by kernel_rfl) (by kernel_rfl) (by kernel_rfl) (fun _ _ _ h => h) (Or.inl ⟨by rfl, ?_⟩) (by assumption) ?_
      rotate_left
      · intro w hSw
        try dsimp only at hSw
        go_simp
        try with_reducible rfl
      try simp only [Act.put, List.setIfInBounds_toArray, List.set_cons_zero, List.set_cons_succ]
      refine wpAnyH_take (i := 1) (v := ?_) (by simp only [List.getElem?_toArray, List.getElem?_cons_succ, List.getElem?_cons_zero]; rfl) (by kernel_rfl) (by kernel_rfl) (by kernel_rfl) (fun _ _ _ h => h) (Or.inl ⟨by rfl, ?_⟩) (by assumption) ?_
      rotate_left
      · intro w hSw
        try dsimp only at hSw
        go_simp
        try with_reducible rfl
      try simp only [Act.put, List.setIfInBounds_toArray, List.set_cons_zero, List.set_cons_succ]
      refine wpAnyH_take (i := 2) (v := ?_) (by simp only [List.getElem?_toArray, List.getElem?_cons_succ, List.getElem?_cons_zero]; rfl) (by kernel_rfl) (by kernel_rfl) (by kernel_rfl) (fun _ _ _ h => h) (Or.inl ⟨by rfl, ?_⟩) (by assumption) ?_
      rotate_left
      · intro w hSw
        try dsimp only at hSw
        go_simp
        try with_reducible rfl
      try simp only [Act.put, List.setIfInBounds_toArray, List.set_cons_zero, List.set_cons_succ]
      refine wpAnyH_take (i := 3) (v := ?_) (by simp only [List.getElem?_toArray, List.getElem?_cons_succ, List.getElem?_cons_zero]; rfl) (by kernel_rfl) (by kernel_rfl) (by kernel_rfl) (fun _ _ _ h => h) (Or.inl ⟨by rfl, ?_⟩) (by assumption) ?_
      rotate_left
      · intro w hSw
        try dsimp only at hSw
        go_simp
        try with_reducible rfl
      try simp only [Act.put, List.setIfInBounds_toArray, List.set_cons_zero, List.set_cons_succ]
      refine wpAnyH_take (i := 4) (v := ?_) (by simp only [List.getElem?_toArray, List.getElem?_cons_succ, List.getElem?_cons_zero]; rfl) (by kernel_rfl) (by kernel_rfl) (by kernel_rfl) (fun _ _ _ h => h) (Or.inl ⟨by rfl, ?_⟩) (by assumption) ?_
      rotate_left
      · intro w hSw
        try dsimp only at hSw
        go_simp
        try with_reducible rfl
      try simp only [Act.put, List.setIfInBounds_toArray, List.set_cons_zero, List.set_cons_succ]
      refine wpAnyH_take (i := 5) (v := ?_) (by simp only [List.getElem?_toArray, List.getElem?_cons_succ, List.getElem?_cons_zero]; rfl) (by kernel_rfl) (by kernel_rfl) (by kernel_rfl) (fun _ _ _ h => h) (Or.inl ⟨by rfl, ?_⟩) (by assumption) ?_
      rotate_left
      · intro w hSw
        try dsimp only at hSw
        go_simp
        try with_reducible rfl
      try simp only [Act.put, List.setIfInBounds_toArray, List.set_cons_zero, List.set_cons_succ]
      refine wpAnyH_take (i := 6) (v := ?_) (by simp only [List.getElem?_toArray, List.getElem?_cons_succ, List.getElem?_cons_zero]; rfl) (by kernel_rfl) (by kernel_rfl) (by kernel_rfl) (fun _ _ _ h => h) (Or.inl ⟨by rfl, ?_⟩) (by assumption) ?_
      rotate_left
      · intro w hSw
        try dsimp only at hSw
        go_simp
        try with_reducible rfl
      try simp only [Act.put, List.setIfInBounds_toArray, List.set_cons_zero, List.set_cons_succ]
      refine wpAnyH_take (i := 7) (v := ?_) (by simp only [List.getElem?_toArray, List.getElem?_cons_succ, List.getElem?_cons_zero]; rfl) (by kernel_rfl) (by kernel_rfl) (by kernel_rfl) (fun _ _ _ h => h) (Or.inl ⟨by rfl, ?_⟩) (by assumption) ?_
      rotate_left
      · intro w hSw
        try dsimp only at hSw
        go_simp
        try with_reducible rfl
      try simp only [Act.put, List.setIfInBounds_toArray, List.set_cons_zero, List.set_cons_succ]
      refine wpAnyH_take (i := 8) (v := ?_) (by simp only [List.getElem?_toArray, List.getElem?_cons_succ, List.getElem?_cons_zero]; rfl) (by kernel_rfl) (by kernel_rfl) (by kernel_rfl) (fun _ _ _ h => h) (Or.inl ⟨by rfl, ?_⟩) (by assumption) ?_
      rotate_left
      · intro w hSw
        try dsimp only at hSw
        go_simp
        try with_reducible rfl
      try simp only [Act.put, List.setIfInBounds_toArray, List.set_cons_zero, List.set_cons_succ]
      refine wpAnyH_take (i := 9) (v := ?_) (by simp only [List.getElem?_toArray, List.getElem?_cons_succ, List.getElem?_cons_zero]; rfl) (by kernel_rfl) (by kernel_rfl) (by kernel_rfl) (fun _ _ _ h => h) (Or.inl ⟨by rfl, ?_⟩) (by assumption) ?_
      rotate_left
      · intro w hSw
        try dsimp only at hSw
        go_simp
        try with_reducible rfl
      try simp only [Act.put, List.setIfInBounds_toArray, List.set_cons_zero, List.set_cons_succ]
      refine wpAnyH_take (i := 10) (v := ?_) (by simp only [List.getElem?_toArray, List.getElem?_cons_succ, List.getElem?_cons_zero]; rfl) (by kernel_rfl) (by kernel_rfl) (by kernel_rfl) (fun _ _ _ h => h) (Or.inl ⟨by rfl, ?_⟩) (by assumption) ?_
      rotate_left
      · intro w hSw
        try dsimp only at hSw
        go_simp
        try with_reducible rfl
      try simp only [Act.put, List.setIfInBounds_toArray, List.set_cons_zero, List.set_cons_succ]
      refine wpAnyH_done (by kernel_rfl) ?_ _
      refine NoPanic.normal ?_
      clear hHeld HLK
      cases ok with
      | true =>
        have HNX : Hid (oAt ms os l (k + 1) = oAt ms os l k) := Lib.hid (by rw [oAt_next HAT.out, if_pos (of_decide_eq_true HOK.out.symm), List.append_nil])
        go_wp2_with fail
        refine ⟨⟨k + 1, by first | rw [HJ.out] | rfl, HLT.out, Lib.hid ⟨pk, nk, ck, by rw [HNX.out]; exact HA5.out, T5.out, LL.out, NE.out⟩, HO5⟩, ?_⟩
        first | exact meas_nv HLT.out HJ.out | exact meas_nw HLT.out
      | false =>
        have hnm := of_decide_eq_false HOK.out.symm
        have HNX : Hid (oAt ms os l (k + 1) = oAt ms os l k ++ [x]) := Lib.hid (by rw [oAt_next HAT.out, if_neg hnm])
        have hsn := oAt_mem HRF.out.1 HAT.out (ms := ms) (os := os)
        rw [decide_eq_false hnm] at hsn
        obtain ⟨hn1, hn2⟩ := idn_none.1 (Option.not_isSome_iff_eq_none.1 (by rw [hsn]; decide))
        have hp := idn_osnoc hn1 hn2
        rw [← HNK.out, ← HNX.out] at hp
        have HP := Lib.hid hp
        have HWR : Hid (IntKind.i64.wrap (1099511627776 + (nk : Int)) = split + (nk : Int)) := Lib.hid (IntWalk.i64_in _ (by have h1 := oAt_len (ms := ms) (os := os) (l := l) (k := k); have := HNK.out; have := HLM.out; have := HRF.out.2.2; omega))
        clear hnm hsn hn1 hn2 hp
        have bq : Below w5.heap.size w5 w5.drew := blw_qt _ 1 w5
        have HA6 := Lib.hid (HA5.out.kb bq)
        have HB6 := Lib.hid ((mild_below bq).cells HB5.out)
        have HO6 := Lib.hid (own_below HO5.out bq)
        have T6 : Hid (Only (iS i nb mv (.slice pm nm cm)) w0 w5.drew) := Lib.hid (T5.out.trans (Only.of_below (S := iS i nb mv (.slice pm nm cm)) bq) (fun _ h => h) (fun _ _ h => h))
        clear bq HA5 T5 HO5 HB5
        go_wp2_with fail
        try simp only [List.append]
        refine wp_region_noPanic ?_
        refine wp_region_held_drew (S := (fun V => V.cell? ⟨i, 2, none⟩ = some (.slice pk nk ck) ∧ V.cell? ⟨i, 3, none⟩ = some (.map (some nb)) ∧ (hld ⟨xb, 0, none⟩).run Tryz.prog V = .ok (.agg (hv x)) V)) (by kernel_rfl) ⟨HA6.out.c (k := 2) rfl, HA6.out.c (k := 3) rfl, hld_row HX.out HB6.out⟩ (fun hHeld => ?_)
        generalize w5.drew = cw at *
        obtain ⟨w6, hmu, h6, o6⟩ := HA6.out.upd x HX.out (split + (nk : Int)) (ms ++ oAt ms os l k) idn_sup (by have h1 := oAt_len (ms := ms) (os := os) (l := l) (k := k); rw [List.length_append]; have := HLM.out; have := HRF.out.2.2; omega)
        rw [HP.out] at h6
        have hmm : ∃ es cc, cw.heap[nb]? = some (.map es cc) := by obtain ⟨M, m1, _⟩ := HA6.out.mp; exact m1.ismap
        have HMU := Lib.hid hmu
        have HA7 := Lib.hid h6
        have HB7m := Lib.hid ((o6.block xb (Array.getElem?_eq_some_iff.1 HB6.out).1 (fun e => by obtain ⟨es, cc, hm⟩ := hmm; have h1 := HB6.out; rw [e, hm] at h1; cases h1)).trans HB6.out)
        have HO7m := Lib.hid (own_keep HO6.out o6 (fun j hj e => by obtain ⟨es, cc, hm⟩ := hmm; exact own_nomap HO6.out hm (by rw [hj, e])))
        have T7 : Hid (Only (iS i nb mv (.slice pm nm cm)) w0 w6) := Lib.hid (T6.out.trans o6 (fun _ h => h) (fun _ _ h => .inr (.inl h)))
        clear hmu h6 o6 hmm T6 HA6 HO6
        refine wpAnyH_take (i := 0) (v := ?_) (by simp only [List.getElem?_toArray, List.getElem?_cons_zero]; rfl) (by kernel_rfl) (by kernel_rfl) (by kernel_rfl) (fun _ _ _ h => h) (Or.inl ⟨by rfl, ?_⟩) (by assumption) ?_
        rotate_left
        · intro w hSw
          try dsimp only at hSw
          go_simp
          try with_reducible rfl
        try simp only [Act.put, List.setIfInBounds_toArray, List.set_cons_zero, List.set_cons_succ]
        refine wpAnyH_take (i := 1) (v := ?_) (by simp only [List.getElem?_toArray, List.getElem?_cons_succ, List.getElem?_cons_zero]; rfl) (by kernel_rfl) (by kernel_rfl) (by kernel_rfl) (fun _ _ _ h => h) (Or.inl ⟨by rfl, ?_⟩) (by assumption) ?_
        rotate_left
        · intro w hSw
          try dsimp only at hSw
          go_simp
          try with_reducible rfl
        try simp only [Act.put, List.setIfInBounds_toArray, List.set_cons_zero, List.set_cons_succ]
        refine wpAnyH_take (i := 2) (v := ?_) (by simp only [List.getElem?_toArray, List.getElem?_cons_succ, List.getElem?_cons_zero]; rfl) (by kernel_rfl) (by kernel_rfl) (by kernel_rfl) (fun _ _ _ h => h) (Or.inl ⟨by rfl, ?_⟩) (by assumption) ?_
        rotate_left
        · intro w hSw
          try dsimp only at hSw
          go_simp
          try with_reducible rfl
        try simp only [Act.put, List.setIfInBounds_toArray, List.set_cons_zero, List.set_cons_succ]
        refine wpAnyH_take (i := 3) (v := ?_) (by simp only [List.getElem?_toArray, List.getElem?_cons_succ, List.getElem?_cons_zero]; rfl) (by kernel_rfl) (by kernel_rfl) (by kernel_rfl) (fun _ _ _ h => h) (Or.inl ⟨by rfl, ?_⟩) (by assumption) ?_
        rotate_left
        · intro w hSw
          try dsimp only at hSw
          go_simp
          try with_reducible rfl
        try simp only [Act.put, List.setIfInBounds_toArray, List.set_cons_zero, List.set_cons_succ]
        refine wpAnyH_take (i := 4) (v := ?_) (by simp only [List.getElem?_toArray, List.getElem?_cons_succ, List.getElem?_cons_zero]; rfl) (by kernel_rfl) (by kernel_rfl) (by kernel_rfl) (fun _ _ _ h => h) (Or.inl ⟨by rfl, ?_⟩) (by assumption) ?_
        rotate_left
        · intro w hSw
          try dsimp only at hSw
          go_simp
          try with_reducible rfl
        try simp only [Act.put, List.setIfInBounds_toArray, List.set_cons_zero, List.set_cons_succ]
        refine wpAnyH_take (i := 5) (v := ?_) (by simp only [List.getElem?_toArray, List.getElem?_cons_succ, List.getElem?_cons_zero]; rfl) (by kernel_rfl) (by kernel_rfl) (by kernel_rfl) (fun _ _ _ h => h) (Or.inl ⟨by rfl, ?_⟩) (by assumption) ?_
        rotate_left
        · intro w hSw
          try dsimp only at hSw
          go_simp
          try with_reducible rfl
        try simp only [Act.put, List.setIfInBounds_toArray, List.set_cons_zero, List.set_cons_succ]
        refine wpAnyH_take (i := 6) (v := ?_) (by simp only [List.getElem?_toArray, List.getElem?_cons_succ, List.getElem?_cons_zero]; rfl) (by kernel_rfl) (by kernel_rfl) (by kernel_rfl) (fun _ _ _ h => h) (Or.inl ⟨by rfl, ?_⟩) (by assumption) ?_
        rotate_left
        · intro w hSw
          try dsimp only at hSw
          go_simp
          try with_reducible rfl
        try simp only [Act.put, List.setIfInBounds_toArray, List.set_cons_zero, List.set_cons_succ]
        refine wpAnyH_take (i := 7) (v := ?_) (by simp only [List.getElem?_toArray, List.getElem?_cons_succ, List.getElem?_cons_zero]; rfl) (by kernel_rfl) (by kernel_rfl) (by kernel_rfl) (fun _ _ _ h => h) (Or.inl ⟨by rfl, ?_⟩) (by assumption) ?_
        rotate_left
        · intro w hSw
          try dsimp only at hSw
          go_simp
          try with_reducible rfl
        try simp only [Act.put, List.setIfInBounds_toArray, List.set_cons_zero, List.set_cons_succ]
        refine wpAnyH_take (i := 8) (v := ?_) (by simp only [List.getElem?_toArray, List.getElem?_cons_succ, List.getElem?_cons_zero]; rfl) (by kernel_rfl) (by kernel_rfl) (by kernel_rfl) (fun _ _ _ h => h) (Or.inl ⟨by rfl, ?_⟩) (by assumption) ?_
        rotate_left
        · intro w hSw
          try dsimp only at hSw
          go_simp
          try with_reducible rfl
        try simp only [Act.put, List.setIfInBounds_toArray, List.set_cons_zero, List.set_cons_succ]
        refine wpAnyH_take (i := 9) (v := ?_) (by simp only [List.getElem?_toArray, List.getElem?_cons_succ, List.getElem?_cons_zero]; rfl) (by kernel_rfl) (by kernel_rfl) (by kernel_rfl) (fun _ _ _ h => h) (Or.inl ⟨by rfl, ?_⟩) (by assumption) ?_
        rotate_left
        · intro w hSw
          try dsimp only at hSw
          go_simp
          try with_reducible rfl
        try simp only [Act.put, List.setIfInBounds_toArray, List.set_cons_zero, List.set_cons_succ]
        refine wpAnyH_take (i := 10) (v := ?_) (by simp only [List.getElem?_toArray, List.getElem?_cons_succ, List.getElem?_cons_zero]; rfl) (by kernel_rfl) (by kernel_rfl) (by kernel_rfl) (fun _ _ _ h => h) (Or.inl ⟨by rfl, ?_⟩) (by assumption) ?_
        rotate_left
        · intro w hSw
          try dsimp only at hSw
          go_simp
          try with_reducible rfl
        try simp only [Act.put, List.setIfInBounds_toArray, List.set_cons_zero, List.set_cons_succ]
        refine wpAnyH_ready (rs := [11]) (by kernel_rfl) (by simp) ?_
        refine AllReadyH.cons (by simp only [List.getElem?_toArray, List.getElem?_cons_succ, List.getElem?_cons_zero]; rfl) (fun K hK => ?_) AllReadyH.nil
        refine step_upd rfl _ _ _ rfl (by rfl) (by rfl) (by show Value.int .i64 (IntKind.i64.wrap (1099511627776 + (nk : Int))) = _; rw [HWR.out]) HMU.out ?_
        refine hK.out _ _ ⟨HA7.out.c (k := 2) rfl, HA7.out.c (k := 3) rfl, hld_row HX.out HB7m.out⟩ (fun hHeld => ?_)
        clear hK K
        try simp only [Act.put, List.setIfInBounds_toArray, List.set_cons_zero, List.set_cons_succ]
        refine wpAnyH_done (by kernel_rfl) ?_ _
        refine NoPanic.normal ?_
        clear hHeld HMU HB6
        have BW : Hid (Below w6.heap.size w6 w6.drew) := Lib.hid (blw_qt _ 1 w6)
        have HC := Lib.hid (fun (V : World) (k : Below w6.heap.size w6 V) => (HA7.out.kb k).c (k := 2) rfl)
        have HLD := Lib.hid (fun (V : World) (k : Below w6.heap.size w6 V) => hld_row (w := V) HX.out ((mild_below k).cells HB7m.out))
        go_wp2_with fail
        try simp only [List.append]
        refine wp_region_noPanic ?_
        refine wp_region_held_drew (S := (fun V => (hld ⟨xb, 0, none⟩).run Tryz.prog V = .ok (.agg (hv x)) V)) (by kernel_rfl) (HLD.out _ BW.out) (fun hHeld => ?_)
        generalize w6.drew = cw at *
        refine wpAnyH_take (i := 0) (v := ?_) (by simp only [List.getElem?_toArray, List.getElem?_cons_zero]; rfl) (by kernel_rfl) (by kernel_rfl) (by kernel_rfl) (fun _ _ _ h => h) (Or.inl ⟨by rfl, ?_⟩) (by assumption) ?_
        rotate_left
        · intro w hSw
          try dsimp only at hSw
          go_simp
          try with_reducible rfl
        try simp only [Act.put, List.setIfInBounds_toArray, List.set_cons_zero, List.set_cons_succ]
        refine wpAnyH_take (i := 1) (v := ?_) (by simp only [List.getElem?_toArray, List.getElem?_cons_succ, List.getElem?_cons_zero]; rfl) (by kernel_rfl) (by kernel_rfl) (by kernel_rfl) (fun _ _ _ h => h) (Or.inl ⟨by rfl, ?_⟩) (by assumption) ?_
        rotate_left
        · intro w hSw
          try dsimp only at hSw
          go_simp
          try with_reducible rfl
        try simp only [Act.put, List.setIfInBounds_toArray, List.set_cons_zero, List.set_cons_succ]
        refine wpAnyH_take (i := 2) (v := ?_) (by simp only [List.getElem?_toArray, List.getElem?_cons_succ, List.getElem?_cons_zero]; rfl) (by kernel_rfl) (by kernel_rfl) (by kernel_rfl) (fun _ _ _ h => h) (Or.inl ⟨by rfl, ?_⟩) (by assumption) ?_
        rotate_left
        · intro w hSw
          try dsimp only at hSw
          go_simp
          try with_reducible rfl
        try simp only [Act.put, List.setIfInBounds_toArray, List.set_cons_zero, List.set_cons_succ]
        refine wpAnyH_take (i := 3) (v := ?_) (by simp only [List.getElem?_toArray, List.getElem?_cons_succ, List.getElem?_cons_zero]; rfl) (by kernel_rfl) (by kernel_rfl) (by kernel_rfl) (fun _ _ _ h => h) (Or.inl ⟨by rfl, ?_⟩) (by assumption) ?_
        rotate_left
        · intro w hSw
          try dsimp only at hSw
          go_simp
          try with_reducible rfl
        try simp only [Act.put, List.setIfInBounds_toArray, List.set_cons_zero, List.set_cons_succ]
        refine wpAnyH_take (i := 5) (v := ?_) (by simp only [List.getElem?_toArray, List.getElem?_cons_succ, List.getElem?_cons_zero]; rfl) (by kernel_rfl) (by kernel_rfl) (by kernel_rfl) (fun _ _ _ h => h) (Or.inl ⟨by rfl, ?_⟩) (by assumption) ?_
        rotate_left
        · intro w hSw
          try dsimp only at hSw
          go_simp
          try with_reducible rfl
        try simp only [Act.put, List.setIfInBounds_toArray, List.set_cons_zero, List.set_cons_succ]
        refine wpAnyH_ready (rs := [4, 6]) (by kernel_rfl) (by simp) ?_
        refine (AllReadyH.cons (by simp only [List.getElem?_toArray, List.getElem?_cons_succ, List.getElem?_cons_zero]; rfl) (fun K hK => ?_) (AllReadyH.cons (by simp only [List.getElem?_toArray, List.getElem?_cons_succ, List.getElem?_cons_zero]; rfl) (fun K hK => ?_) AllReadyH.nil))
        · have hc := HC.out cw BW.out
          go_simp
          clear hc
          refine hK.out _ _ (HLD.out _ BW.out) (fun hHeld => ?_)
          clear hK K
          try simp only [Act.put, List.setIfInBounds_toArray, List.set_cons_zero, List.set_cons_succ]
          refine wpAnyH_ready (rs := [6]) (by kernel_rfl) (by simp) ?_
          refine (AllReadyH.cons (by simp only [List.getElem?_toArray, List.getElem?_cons_succ, List.getElem?_cons_zero]; rfl) (fun K hK => ?_) AllReadyH.nil)
          refine step_sl1 x HX.out (by rfl) (by rfl) ?_
          have HN := Lib.hid (heap_alloc_last cw (.cells (hv x) 31))
          have BW := Lib.hid (BW.out.trans ((below_al11 cw (.cells (hv x) 31)).mono BW.out.size))
          generalize cw.alloc (.cells (hv x) 31) = cx at *
          generalize cw.heap.size = nb7 at *
          rename World => cw
          refine hK.out _ _ (HLD.out _ BW.out) (fun hHeld => ?_)
          clear hK K
          try simp only [Act.put, List.setIfInBounds_toArray, List.set_cons_zero, List.set_cons_succ]
          refine wpAnyH_ready (rs := [7]) (by kernel_rfl) (by simp) ?_
          refine (AllReadyH.cons (by simp only [List.getElem?_toArray, List.getElem?_cons_succ, List.getElem?_cons_zero]; rfl) (fun K hK => ?_) AllReadyH.nil)
          have OW7 := Lib.hid (own_below HA7.out.oo BW.out)
          have CW7 := Lib.hid ((mild_below BW.out).cells HA7.out.cell)
          have HBW := Lib.hid ((mild_below BW.out).cells HB7m.out)
          have HOW := Lib.hid (own_below HO7m.out BW.out)
          refine step_pushh rfl _ _ rfl B (.slice pk nk ck) (oAt ms os l k) nb7 x HX.out (by rfl) OW7.out (by rfl) HN.out (by have h1 := oAt_len (ms := ms) (os := os) (l := l) (k := k); have := HLM.out; have := HRF.out.2.2; omega) (Nat.le_trans HBB.out (Nat.le_trans T7.out.size BW.out.size)) (nk + 1) (by rw [HNK.out]) ?_
          intro p7 c7 cx o7 oth7 loc7
          have o7' : HOwn cx B (.slice p7 (nk + 1) c7) (oAt ms os l (k + 1)) := by rw [HNX.out]; exact o7
          obtain ⟨h8, t8, l8⟩ := HA7.out.pushO BW.out o7' oth7 loc7
          have HA8 := Lib.hid h8
          have T8 := Lib.hid t8
          have L8 := Lib.hid l8
          have C7 := Lib.hid ((oth7.block i (Array.getElem?_eq_some_iff.1 CW7.out).1 (fun e => own_apart OW7.out CW7.out (by decide) e)).trans CW7.out)
          have HB7 := Lib.hid ((oth7.block xb (Array.getElem?_eq_some_iff.1 HBW.out).1 (fun e => XB.out xb e rfl)).trans HBW.out)
          have HO7 := Lib.hid (own_keep HOW.out oth7 (fun j hj e => (NE.out j hj).2 e))
          have NE8 : Hid (∀ j, (Value.slice (some ⟨bb, o, none⟩) nr cr).ownBlock = some j → mv.ownBlock ≠ some j ∧ (Value.slice p7 (nk + 1) c7).ownBlock ≠ some j) := Lib.hid (fun j hj => ⟨(NE.out j hj).1, fun e => by
            rcases loc7 j e with h9 | h9
            · exact (NE.out j hj).2 h9
            · have := own_lt HOW.out j hj; omega⟩)
          clear o7 o7' oth7 loc7 h8 t8 l8 OW7 CW7 HBW HOW BW HN
          rename World => cw
          refine hK.out _ _ (hld_row HX.out HB7.out) (fun hHeld => ?_)
          clear hK K
          try simp only [Act.put, List.setIfInBounds_toArray, List.set_cons_zero, List.set_cons_succ]
          refine wpAnyH_take (i := 8) (v := ?_) (by simp only [List.getElem?_toArray, List.getElem?_cons_succ, List.getElem?_cons_zero]; rfl) (by kernel_rfl) (by kernel_rfl) (by kernel_rfl) (fun _ _ _ h => h) (Or.inl ⟨by rfl, ?_⟩) (by assumption) ?_
          rotate_left
          · intro w hSw
            try dsimp only at hSw
            go_simp
            try with_reducible rfl
          try simp only [Act.put, List.setIfInBounds_toArray, List.set_cons_zero, List.set_cons_succ]
          refine wpAnyH_take (i := 9) (v := ?_) (by simp only [List.getElem?_toArray, List.getElem?_cons_succ, List.getElem?_cons_zero]; rfl) (by kernel_rfl) (by kernel_rfl) (by kernel_rfl) (fun _ _ _ h => h) (Or.inl ⟨by rfl, ?_⟩) (by assumption) ?_
          rotate_left
          · intro w hSw
            try dsimp only at hSw
            go_simp
            try with_reducible rfl
          try simp only [Act.put, List.setIfInBounds_toArray, List.set_cons_zero, List.set_cons_succ]
          refine wpAnyH_ready (rs := [10]) (by kernel_rfl) (by simp) ?_
          refine (AllReadyH.cons (by simp only [List.getElem?_toArray, List.getElem?_cons_succ, List.getElem?_cons_zero]; rfl) (fun K hK => ?_) AllReadyH.nil)
          have hc := cell_obj C7.out 2 rfl
          have hf : cw.frozen? ⟨i, 2, none⟩ = false := frozen_of_row _ _ _ _ _ C7.out
          have OS : Only (fun j => j = i) cw (cw.setCell ⟨i, 2, none⟩ (.slice p7 (nk + 1) c7)) := (Only.refl (fun j => j = i) cw).setCell (p := ⟨i, 2, none⟩) rfl _
          have HB8 := Lib.hid ((OS.block xb (Array.getElem?_eq_some_iff.1 HB7.out).1 (fun e => by have h1 := HB7.out; rw [e, C7.out] at h1; injection h1 with h1; injection h1 with _ h1 _; revert h1; decide)).trans HB7.out)
          have HO8 := Lib.hid (own_keep HO7.out OS (fun j hj e => own_apart HO7.out C7.out (by decide) (by rw [hj, e])))
          go_simp
          clear hc hf OS C7 HB7 HO7
          refine hK.out _ _ (hld_row HX.out HB8.out) (fun hHeld => ?_)
          clear hK K
          try simp only [Act.put, List.setIfInBounds_toArray, List.set_cons_zero, List.set_cons_succ]
          refine wpAnyH_done (by kernel_rfl) ?_ _
          refine NoPanic.normal ?_
          clear hHeld
          generalize cw.setCell ⟨i, 2, none⟩ (.slice p7 (nk + 1) c7) = w8 at *
          go_wp2_with fail
          refine ⟨⟨k + 1, by first | rw [HJ.out] | rfl, HLT.out, Lib.hid ⟨p7, nk + 1, c7, HA8.out, iS.trans T7.out T8.out LL.out, LL.out.trans L8.out T7.out.size, NE8.out⟩, HO8⟩, ?_⟩
          first | exact meas_nv HLT.out HJ.out | exact meas_nw HLT.out
        · refine step_sl1 x HX.out (by rfl) (by rfl) ?_
          have HN := Lib.hid (heap_alloc_last cw (.cells (hv x) 31))
          have BW := Lib.hid (BW.out.trans ((below_al11 cw (.cells (hv x) 31)).mono BW.out.size))
          generalize cw.alloc (.cells (hv x) 31) = cx at *
          generalize cw.heap.size = nb7 at *
          rename World => cw
          refine hK.out _ _ (HLD.out _ BW.out) (fun hHeld => ?_)
          clear hK K
          try simp only [Act.put, List.setIfInBounds_toArray, List.set_cons_zero, List.set_cons_succ]
          refine wpAnyH_ready (rs := [4]) (by kernel_rfl) (by simp) ?_
          refine (AllReadyH.cons (by simp only [List.getElem?_toArray, List.getElem?_cons_succ, List.getElem?_cons_zero]; rfl) (fun K hK => ?_) AllReadyH.nil)
          have hc := HC.out cw BW.out
          go_simp
          clear hc
          refine hK.out _ _ (HLD.out _ BW.out) (fun hHeld => ?_)
          clear hK K
          try simp only [Act.put, List.setIfInBounds_toArray, List.set_cons_zero, List.set_cons_succ]
          refine wpAnyH_ready (rs := [7]) (by kernel_rfl) (by simp) ?_
          refine (AllReadyH.cons (by simp only [List.getElem?_toArray, List.getElem?_cons_succ, List.getElem?_cons_zero]; rfl) (fun K hK => ?_) AllReadyH.nil)
          have OW7 := Lib.hid (own_below HA7.out.oo BW.out)
          have CW7 := Lib.hid ((mild_below BW.out).cells HA7.out.cell)
          have HBW := Lib.hid ((mild_below BW.out).cells HB7m.out)
          have HOW := Lib.hid (own_below HO7m.out BW.out)
          refine step_pushh rfl _ _ rfl B (.slice pk nk ck) (oAt ms os l k) nb7 x HX.out (by rfl) OW7.out (by rfl) HN.out (by have h1 := oAt_len (ms := ms) (os := os) (l := l) (k := k); have := HLM.out; have := HRF.out.2.2; omega) (Nat.le_trans HBB.out (Nat.le_trans T7.out.size BW.out.size)) (nk + 1) (by rw [HNK.out]) ?_
          intro p7 c7 cx o7 oth7 loc7
          have o7' : HOwn cx B (.slice p7 (nk + 1) c7) (oAt ms os l (k + 1)) := by rw [HNX.out]; exact o7
          obtain ⟨h8, t8, l8⟩ := HA7.out.pushO BW.out o7' oth7 loc7
          have HA8 := Lib.hid h8
          have T8 := Lib.hid t8
          have L8 := Lib.hid l8
          have C7 := Lib.hid ((oth7.block i (Array.getElem?_eq_some_iff.1 CW7.out).1 (fun e => own_apart OW7.out CW7.out (by decide) e)).trans CW7.out)
          have HB7 := Lib.hid ((oth7.block xb (Array.getElem?_eq_some_iff.1 HBW.out).1 (fun e => XB.out xb e rfl)).trans HBW.out)
          have HO7 := Lib.hid (own_keep HOW.out oth7 (fun j hj e => (NE.out j hj).2 e))
          have NE8 : Hid (∀ j, (Value.slice (some ⟨bb, o, none⟩) nr cr).ownBlock = some j → mv.ownBlock ≠ some j ∧ (Value.slice p7 (nk + 1) c7).ownBlock ≠ some j) := Lib.hid (fun j hj => ⟨(NE.out j hj).1, fun e => by
            rcases loc7 j e with h9 | h9
            · exact (NE.out j hj).2 h9
            · have := own_lt HOW.out j hj; omega⟩)
          clear o7 o7' oth7 loc7 h8 t8 l8 OW7 CW7 HBW HOW BW HN
          rename World => cw
          refine hK.out _ _ (hld_row HX.out HB7.out) (fun hHeld => ?_)
          clear hK K
          try simp only [Act.put, List.setIfInBounds_toArray, List.set_cons_zero, List.set_cons_succ]
          refine wpAnyH_take (i := 8) (v := ?_) (by simp only [List.getElem?_toArray, List.getElem?_cons_succ, List.getElem?_cons_zero]; rfl) (by kernel_rfl) (by kernel_rfl) (by kernel_rfl) (fun _ _ _ h => h) (Or.inl ⟨by rfl, ?_⟩) (by assumption) ?_
          rotate_left
          · intro w hSw
            try dsimp only at hSw
            go_simp
            try with_reducible rfl
          try simp only [Act.put, List.setIfInBounds_toArray, List.set_cons_zero, List.set_cons_succ]
          refine wpAnyH_take (i := 9) (v := ?_) (by simp only [List.getElem?_toArray, List.getElem?_cons_succ, List.getElem?_cons_zero]; rfl) (by kernel_rfl) (by kernel_rfl) (by kernel_rfl) (fun _ _ _ h => h) (Or.inl ⟨by rfl, ?_⟩) (by assumption) ?_
          rotate_left
          · intro w hSw
            try dsimp only at hSw
            go_simp
            try with_reducible rfl
          try simp only [Act.put, List.setIfInBounds_toArray, List.set_cons_zero, List.set_cons_succ]
          refine wpAnyH_ready (rs := [10]) (by kernel_rfl) (by simp) ?_
          refine (AllReadyH.cons (by simp only [List.getElem?_toArray, List.getElem?_cons_succ, List.getElem?_cons_zero]; rfl) (fun K hK => ?_) AllReadyH.nil)
          have hc := cell_obj C7.out 2 rfl
          have hf : cw.frozen? ⟨i, 2, none⟩ = false := frozen_of_row _ _ _ _ _ C7.out
          have OS : Only (fun j => j = i) cw (cw.setCell ⟨i, 2, none⟩ (.slice p7 (nk + 1) c7)) := (Only.refl (fun j => j = i) cw).setCell (p := ⟨i, 2, none⟩) rfl _
          have HB8 := Lib.hid ((OS.block xb (Array.getElem?_eq_some_iff.1 HB7.out).1 (fun e => by have h1 := HB7.out; rw [e, C7.out] at h1; injection h1 with h1; injection h1 with _ h1 _; revert h1; decide)).trans HB7.out)
          have HO8 := Lib.hid (own_keep HO7.out OS (fun j hj e => own_apart HO7.out C7.out (by decide) (by rw [hj, e])))
          go_simp
          clear hc hf OS C7 HB7 HO7
          refine hK.out _ _ (hld_row HX.out HB8.out) (fun hHeld => ?_)
          clear hK K
          try simp only [Act.put, List.setIfInBounds_toArray, List.set_cons_zero, List.set_cons_succ]
          refine wpAnyH_done (by kernel_rfl) ?_ _
          refine NoPanic.normal ?_
          clear hHeld
          generalize cw.setCell ⟨i, 2, none⟩ (.slice p7 (nk + 1) c7) = w8 at *
          go_wp2_with fail
          refine ⟨⟨k + 1, by first | rw [HJ.out] | rfl, HLT.out, Lib.hid ⟨p7, nk + 1, c7, HA8.out, iS.trans T7.out T8.out LL.out, LL.out.trans L8.out T7.out.size, NE8.out⟩, HO8⟩, ?_⟩
          first | exact meas_nv HLT.out HJ.out | exact meas_nw HLT.out
    · obtain rfl : k = nr := by omega
      have hl2 : ¬ (k : Int) < k := by omega
      have HTE : Hid (oAt ms os l k = os ++ l.filter (out (ms ++ os))) := Lib.hid (by unfold oAt; rw [List.take_of_length_le (by rw [HNR.out]; exact Nat.le_refl _)])
      rw [HTE.out] at HA
      clear hlt hk
      go_wp2_with fail
      refine bodyPost_end (results_none rfl _ _ _) rfl ?_
      exact ⟨rfl, _, _, HA.out, T.out, LL.out⟩
end Go.Proofs.YtnpeahbbcolfmaaGreatDoor
namespace Go.Proofs.YtnpeahbbcolfmaaGreatDoor
open Go.RowKit
open Go.Maps
theorem IA.off {W : World} {B i nb : Nat} {most : Int} {mv ov : Value} {ms os : List Key} {f : Key → Option Int} (h : IA W B i nb most mv ov ms os f) {b : Nat} {cs : Array Value} {t : TypeId} {fz : Nat × Nat} (hb : W.heap[b]? = some (.cells cs t fz)) (h1 : t ≠ 94) (h2 : t ≠ 31) : ¬ iS i nb mv ov b := fun hj => by
  rcases hj with rfl | rfl | hj | hj
  · rw [h.cell] at hb
    injection hb with hb
    injection hb with _ hb _
    exact h1 hb.symm
  · obtain ⟨M, m1, _⟩ := h.mp
    obtain ⟨es, c, hm⟩ := m1.ismap
    rw [hm] at hb; cases hb
  · exact own_apart h.om hb h2 hj
  · exact own_apart h.oo hb h2 hj
theorem IA.lt {W : World} {B i nb : Nat} {most : Int} {mv ov : Value} {ms os : List Key} {f : Key → Option Int} (h : IA W B i nb most mv ov ms os f) : ∀ j, iS i nb mv ov j → j < W.heap.size := fun j hj => by
  rcases hj with rfl | rfl | hj | hj
  · exact (Array.getElem?_eq_some_iff.1 h.cell).1
  · obtain ⟨M, m1, _⟩ := h.mp
    exact m1.lt
  · exact own_lt h.om j hj
  · exact own_lt h.oo j hj
noncomputable def mNew (G : Gr) (grp : Int) (ms hs : List Key) : List Key := if grp = 1 then mUp G ms hs else ms
noncomputable def oNew (G : Gr) (grp : Int) (ms os hs : List Key) (cs : List Cm) : List Key := oUp G (mNew G grp ms hs) (oIn (mNew G grp ms hs) os) (hs ++ cs.map (·.1))
/-- What Update leaves. -/
def UpPost (G : Gr) (w w' : World) (B i nb : Nat) (most : Int) (mv ov : Value) (ms os hs : List Key) (cs : List Cm) (grp : Int) (e : Ending) : Prop :=
  if grp = 1 ∧ ((mUp G ms hs).length : Int) > most then e = .returned (kind 13) ∧ Below w.heap.size w w'
  else e = .returned .nilIface ∧ IPost w w' B i nb most mv ov (mNew G grp ms hs) (oNew G grp ms os hs cs) (idn (mNew G grp ms hs) (oNew G grp ms os hs cs))
set_option linter.unusedSimpArgs false in
set_option maxRecDepth 20000 in
set_option maxHeartbeats 8000000 in
attribute [local go_sem ↓] hld_open in
theorem iupdate_to (w : World) (B i nb : Nat) (most : Int) (mv ov : Value) (ms os : List Key) (H : IA w B i nb most mv ov ms os (idn ms os)) (g bm : Nat) (X : Lx) (hga : ∀ V, Only (iS i nb mv ov) w V → GA V g bm X) (HWf : Wf (gr X)) (hi : In13 (gr X) ms os)
    (vc vh : Value) (grp : Int) (cs : List Cm) (hs : List Key) (hfar : ∀ V, Only (iS i nb mv ov) w V → CSeen V vc cs ∧ HSeen V vh hs) (hok : COk cs) (h32 : H32 hs) (hcl : cs.length ≤ 1000) (hhl : hs.length ≤ 1000) :
    Calls Tryz.prog 10 #[ip i, gp g, .agg #[vc, vh, .int .i64 grp]] w fun e w' => UpPost (gr X) w w' B i nb most mv ov ms os hs cs grp e := by
  obtain ⟨pc, cc, rfl, _⟩ := id (hfar w (Only.refl _ _)).1
  obtain ⟨ph, ch, rfl⟩ := (hfar w (Only.refl _ _)).2.shape
  obtain ⟨lc, hlc⟩ : ∃ lc, lc = cs.length := ⟨_, rfl⟩
  obtain ⟨lh, hlh⟩ : ∃ lh, lh = hs.length := ⟨_, rfl⟩
  rw [← hlc, ← hlh] at hfar ⊢
  have hnp : ∀ w : World, (binOp .eql 22 (gp g) (.pointer none)).run Tryz.prog w = .ok (.bool false) w := fun w => by kernel_rfl
  have hne := nn_iface
  have hnn := nn_nil
  have AL := below_al11 w (.cells #[.slice pc lc cc, .slice ph lh ch, .int .i64 grp] 37)
  have HRq := Lib.hid (heap_alloc_last w (.cells #[.slice pc lc cc, .slice ph lh ch, .int .i64 grp] 37))
  have HAq := Lib.hid (H.kb AL)
  have HGA := Lib.hid hga
  have HW := Lib.hid HWf
  have HI := Lib.hid hi
  have HF := Lib.hid hfar
  have HOK := Lib.hid hok
  have HH32 := Lib.hid h32
  have HC32 : Hid (H32 (cs.map (·.1))) := Lib.hid (fun x hx => by obtain ⟨c, hc, rfl⟩ := List.mem_map.1 hx; exact (hok c hc).1)
  have HCL := Lib.hid hcl
  have HHL := Lib.hid hhl
  have BA := Lib.hid AL
  clear H hga HWf hi hfar hok h32 hcl hhl hlc hlh AL
  go_enter Tryz.func10, Tryz.ntmps10
  go_upto_region 1 with fail
  generalize w.alloc (.cells #[.slice pc lc cc, .slice ph lh ch, .int .i64 grp] 37) = w0 at *
  generalize hrb : w.heap.size = rb at HRq
  clear hrb
  have TQ : Hid (Only (iS i nb mv ov) w w0) := Lib.hid (Only.of_below (S := iS i nb mv ov) BA.out)
  have HGq := Lib.hid (HGA.out w0 TQ.out)
  have hr0 := cell_obj HRq.out 0 rfl
  have hr1 := cell_obj HRq.out 1 rfl
  have hr2 := cell_obj HRq.out 2 rfl
  by_cases hg1 : grp = 1
  · subst hg1
    have HWK := Lib.hid (walk_to w0 g bm X HGq.out HW.out (.slice ph lh ch) hs (HF.out w0 TQ.out).2 HH32.out (Nat.le_trans HHL.out (by decide)) .nilFunc (fun _ => false) (Dn.none w0))
    go_wp2_with fail
    refine HWK.out.mono ?_
    rintro e w1 ⟨v1, l1, rfl, o1, ⟨N1, vl1⟩, b1⟩
    obtain rfl := wlk_eq vl1
    obtain ⟨p1, n1, c1, rfl, hn1⟩ := own_sh o1
    clear hn1
    have HRA := Lib.hid (iraise_to w0 w1 b1 B i nb most mv ov ms os HAq.out _ _ o1 (wlk_nd HW.out _) (wlk_h32 HW.out _) (wlk_len HW.out _) HI.out.nd (fun x hx => HI.out.h32 HW.out x (List.mem_append_right _ hx)) (HI.out.len HW.out))
    clear HWK o1 vl1 hr0 hr1 hr2
    go_wp2_with fail
    refine HRA.out.mono ?_
    intro e w2 hra
    unfold RaPost at hra
    have hml : (mUp (gr X) ms hs).length = ms.length + ((wlk (gr X) hs).filter (out ms)).length := by unfold mUp; rw [List.length_append]
    have HML := Lib.hid hml
    clear HRA hml b1
    split at hra
    · rename_i hfull
      have HFU := Lib.hid hfull
      obtain ⟨rfl, b2⟩ := hra
      have B2 := Lib.hid (BA.out.trans (b2.mono BA.out.size))
      clear hfull b2
      go_wp2_with fail
      go_ret
      unfold UpPost
      rw [if_pos ⟨rfl, by rw [HML.out]; exact HFU.out⟩]
      exact ⟨rfl, B2.out⟩
    · rename_i hfull
      have HFU := Lib.hid hfull
      obtain ⟨rfl, mv2, ov2, h2, t2, l2⟩ := hra
      obtain ⟨ms2, hms2⟩ : ∃ m, m = mUp (gr X) ms hs := ⟨_, rfl⟩
      obtain ⟨os2, hos2⟩ : ∃ m, m = oIn ms2 os := ⟨_, rfl⟩
      rw [show ms ++ (wlk (gr X) hs).filter (out ms) = ms2 from hms2.symm, ← hos2] at h2
      have HI2 : Hid (In13 (gr X) ms2 os2) := Lib.hid (by rw [hos2, hms2]; exact HI.out.upM HW.out hs)
      have HA2 := Lib.hid h2
      have T2 : Hid (Only (iS i nb mv ov) w w2) := Lib.hid (TQ.out.trans t2 (fun _ h => h) (fun _ _ h => h))
      have L2 : Hid (iL w.heap.size mv ov mv2 ov2) := Lib.hid (fun j hj => (l2 j hj).imp id (fun h => h.imp id (fun h => Nat.le_trans BA.out.size h)))
      have HR2 := Lib.hid ((t2.block rb (Array.getElem?_eq_some_iff.1 HRq.out).1 (HAq.out.off HRq.out (by decide) (by decide))).trans HRq.out)
      have HG2 := Lib.hid (HGA.out w2 T2.out)
      have HC2 := Lib.hid (HF.out w2 T2.out).1
      have HH2 := Lib.hid (HF.out w2 T2.out).2
      have HMS := Lib.hid hms2
      have HOS := Lib.hid hos2
      clear hfull h2 t2 l2 hms2 hos2 HAq HRq HGq TQ
      go_wp2_with fail
      have bq : Below w2.heap.size w2 w2.drew := blw_qt _ 1 w2
      have HA3 := Lib.hid (HA2.out.kb bq)
      have HR3 := Lib.hid ((mild_below bq).cells HR2.out)
      have HG3 := Lib.hid (HG2.out.kb bq)
      have HC3 := Lib.hid (HC2.out.kb bq)
      have HH3 := Lib.hid (HH2.out.mild (mild_below bq))
      have T3 := Lib.hid (T2.out.trans (Only.of_below (S := iS i nb mv ov) bq) (fun _ h => h) (fun _ _ h => h))
      clear bq HA2 HR2 HG2 HC2 HH2 T2
      go_wp2_with fail
      try simp only [List.append]
      refine wp_region_noPanic ?_
      refine wp_region_held_drew (S := (fun V => V.cell? ⟨rb, 0, none⟩ = some (.slice pc lc cc) ∧ V.cell? ⟨rb, 1, none⟩ = some (.slice ph lh ch))) (by kernel_rfl) ⟨cell_obj HR3.out 0 rfl, cell_obj HR3.out 1 rfl⟩ (fun hHeld => ?_)
      generalize w2.drew = w3 at *
      refine wpAnyH_take (i := 0) (v := ?_) (by simp only [List.getElem?_toArray, List.getElem?_cons_zero]; rfl) (by kernel_rfl) (by kernel_rfl) (by kernel_rfl) (fun _ _ _ h => h) (Or.inl ⟨by rfl, ?_⟩) (by assumption) ?_
      rotate_left
      · intro w hSw
        try dsimp only at hSw
        go_simp
        try with_reducible rfl
      try simp only [Act.put, List.setIfInBounds_toArray, List.set_cons_zero, List.set_cons_succ]
      refine wpAnyH_take (i := 1) (v := ?_) (by simp only [List.getElem?_toArray, List.getElem?_cons_succ, List.getElem?_cons_zero]; rfl) (by kernel_rfl) (by kernel_rfl) (by kernel_rfl) (fun _ _ _ h => h) (Or.inl ⟨by rfl, ?_⟩) (by assumption) ?_
      rotate_left
      · intro w hSw
        try dsimp only at hSw
        go_simp
        try with_reducible rfl
      try simp only [Act.put, List.setIfInBounds_toArray, List.set_cons_zero, List.set_cons_succ]
      refine wpAnyH_take (i := 2) (v := ?_) (by simp only [List.getElem?_toArray, List.getElem?_cons_succ, List.getElem?_cons_zero]; rfl) (by kernel_rfl) (by kernel_rfl) (by kernel_rfl) (fun _ _ _ h => h) (Or.inl ⟨by rfl, ?_⟩) (by assumption) ?_
      rotate_left
      · intro w hSw
        try dsimp only at hSw
        go_simp
        try with_reducible rfl
      try simp only [Act.put, List.setIfInBounds_toArray, List.set_cons_zero, List.set_cons_succ]
      refine wpAnyH_take (i := 3) (v := ?_) (by simp only [List.getElem?_toArray, List.getElem?_cons_succ, List.getElem?_cons_zero]; rfl) (by kernel_rfl) (by kernel_rfl) (by kernel_rfl) (fun _ _ _ h => h) (Or.inl ⟨by rfl, ?_⟩) (by assumption) ?_
      rotate_left
      · intro w hSw
        try dsimp only at hSw
        go_simp
        try with_reducible rfl
      try simp only [Act.put, List.setIfInBounds_toArray, List.set_cons_zero, List.set_cons_succ]
      refine wpAnyH_take (i := 4) (v := ?_) (by simp only [List.getElem?_toArray, List.getElem?_cons_succ, List.getElem?_cons_zero]; rfl) (by kernel_rfl) (by kernel_rfl) (by kernel_rfl) (fun _ _ _ h => h) (Or.inl ⟨by rfl, ?_⟩) (by assumption) ?_
      rotate_left
      · intro w hSw
        try dsimp only at hSw
        go_simp
        try with_reducible rfl
      try simp only [Act.put, List.setIfInBounds_toArray, List.set_cons_zero, List.set_cons_succ]
      refine wpAnyH_take (i := 5) (v := ?_) (by simp only [List.getElem?_toArray, List.getElem?_cons_succ, List.getElem?_cons_zero]; rfl) (by kernel_rfl) (by kernel_rfl) (by kernel_rfl) (fun _ _ _ h => h) (Or.inl ⟨by rfl, ?_⟩) (by assumption) ?_
      rotate_left
      · intro w hSw
        try dsimp only at hSw
        go_simp
        try with_reducible rfl
      try simp only [Act.put, List.setIfInBounds_toArray, List.set_cons_zero, List.set_cons_succ]
      refine wpAnyH_ready (rs := [6]) (by kernel_rfl) (by simp) ?_
      refine AllReadyH.cons (by simp only [List.getElem?_toArray, List.getElem?_cons_succ, List.getElem?_cons_zero]; rfl) (fun K hK => ?_) AllReadyH.nil
      go_simp
      refine (named_to w3 _ cs HC3.out HOK.out (Nat.le_trans HCL.out (by decide))).mono ?_
      rintro e w4 ⟨v4, rfl, o4, b4⟩
      obtain ⟨p4, n4, c4, rfl, hn4⟩ := own_sh o4
      clear hn4
      have HA4 := Lib.hid (HA3.out.kb b4)
      have HR4 := Lib.hid ((mild_below b4).cells HR3.out)
      have HG4 := Lib.hid (HG3.out.kb b4)
      have HH4 := Lib.hid (HH3.out.mild (mild_below b4))
      have HN4 := Lib.hid (HSeen.own o4)
      have T4 := Lib.hid (T3.out.trans (Only.of_below (S := iS i nb mv ov) b4) (fun _ h => h) (fun _ _ h => h))
      clear o4 b4 HA3 HR3 HG3 HC3 HH3 T3
      go_wp2_with fail
      refine hK.out _ _ ⟨cell_obj HR4.out 0 rfl, cell_obj HR4.out 1 rfl⟩ (fun hHeld => ?_)
      clear hK K
      try simp only [Act.put, List.setIfInBounds_toArray, List.set_cons_zero, List.set_cons_succ]
      have AL := below_al11 w4 (.cells #[.slice ph lh ch, .slice p4 n4 c4] 32)
      have HB5 := Lib.hid (heap_alloc_last w4 (.cells #[.slice ph lh ch, .slice p4 n4 c4] 32))
      have HA5 := Lib.hid (HA4.out.kb AL)
      have HR5 := Lib.hid ((mild_below AL).cells HR4.out)
      have HG5 := Lib.hid (HG4.out.kb AL)
      have HH5 := Lib.hid (HH4.out.mild (mild_below AL))
      have HN5 := Lib.hid (HN4.out.mild (mild_below AL))
      have T5 := Lib.hid (T4.out.trans (Only.of_below (S := iS i nb mv ov) AL) (fun _ h => h) (fun _ _ h => h))
      clear AL HA4 HR4 HG4 HH4 HN4 T4
      refine wpAnyH_ready (rs := [7]) (by kernel_rfl) (by simp) ?_
      refine AllReadyH.cons (by simp only [List.getElem?_toArray, List.getElem?_cons_succ, List.getElem?_cons_zero]; rfl) (fun K hK => ?_) AllReadyH.nil
      go_simp
      generalize w4.alloc (.cells #[.slice ph lh ch, .slice p4 n4 c4] 32) = w5 at *
      generalize w4.heap.size = gb at *
      refine hK.out _ _ ⟨cell_obj HR5.out 0 rfl, cell_obj HR5.out 1 rfl⟩ (fun hHeld => ?_)
      clear hK K
      try simp only [Act.put, List.setIfInBounds_toArray, List.set_cons_zero, List.set_cons_succ]
      refine wpAnyH_ready (rs := [8]) (by kernel_rfl) (by simp) ?_
      refine AllReadyH.cons (by simp only [List.getElem?_toArray, List.getElem?_cons_succ, List.getElem?_cons_zero]; rfl) (fun K hK => ?_) AllReadyH.nil
      go_simp
      refine (hconcat_to w5 gb _ _ hs (cs.map (·.1)) HB5.out HH5.out HN5.out HH32.out HC32.out (by rw [List.length_map]; have := HCL.out; have := HHL.out; omega)).mono ?_
      rintro e w6 ⟨v6, rfl, o6, b6⟩
      obtain ⟨p6, n6, c6, rfl, hn6⟩ := own_sh o6
      clear hn6
      have HA6 := Lib.hid (HA5.out.kb b6)
      have HR6 := Lib.hid ((mild_below b6).cells HR5.out)
      have HG6 := Lib.hid (HG5.out.kb b6)
      have HN6 := Lib.hid (HSeen.own o6)
      have T6 := Lib.hid (T5.out.trans (Only.of_below (S := iS i nb mv ov) b6) (fun _ h => h) (fun _ _ h => h))
      clear o6 b6 HA5 HR5 HG5 HH5 HN5 T5 HB5
      go_wp2_with fail
      refine hK.out _ _ ⟨cell_obj HR6.out 0 rfl, cell_obj HR6.out 1 rfl⟩ (fun hHeld => ?_)
      clear hK K
      try simp only [Act.put, List.setIfInBounds_toArray, List.set_cons_zero, List.set_cons_succ]
      refine wpAnyH_ready (rs := [9]) (by kernel_rfl) (by simp) ?_
      refine AllReadyH.cons (by simp only [List.getElem?_toArray, List.getElem?_cons_succ, List.getElem?_cons_zero]; rfl) (fun K hK => ?_) AllReadyH.nil
      go_simp
      refine (walk_to w6 g bm X HG6.out HW.out _ (hs ++ cs.map (·.1)) HN6.out (HH32.out.app HC32.out) (by rw [List.length_append, List.length_map]; have := HCL.out; have := HHL.out; omega) .nilFunc (fun _ => false) (Dn.none w6)).mono ?_
      rintro e w7 ⟨v7, l7, rfl, o7, ⟨N7, vl7⟩, b7⟩
      obtain rfl := wlk_eq vl7
      obtain ⟨p7, n7, c7, rfl, hn7⟩ := own_sh o7
      clear hn7
      have HR7 := Lib.hid ((mild_below b7).cells HR6.out)
      have HAD := Lib.hid (iadd_to w6 w7 b7 B i nb most mv2 ov2 ms2 os2 HA6.out _ _ o7 (wlk_nd HW.out _) (wlk_h32 HW.out _) (wlk_len HW.out _) (HI2.out.len HW.out))
      have HA7 := Lib.hid (HA6.out.kb b7)
      clear o7 b7 vl7 HG6 HN6
      go_wp2_with fail
      refine hK.out _ _ ⟨cell_obj HR7.out 0 rfl, cell_obj HR7.out 1 rfl⟩ (fun hHeld => ?_)
      clear hK K
      try simp only [Act.put, List.setIfInBounds_toArray, List.set_cons_zero, List.set_cons_succ]
      refine wpAnyH_ready (rs := [10]) (by kernel_rfl) (by simp) ?_
      refine AllReadyH.cons (by simp only [List.getElem?_toArray, List.getElem?_cons_succ, List.getElem?_cons_zero]; rfl) (fun K hK => ?_) AllReadyH.nil
      go_simp
      refine HAD.out.mono ?_
      rintro e w8 ⟨rfl, mv8, ov8, h8, t8, l8⟩
      have HA8 := Lib.hid h8
      have T8 := Lib.hid (iS.trans T6.out t8 L2.out)
      have L8 := Lib.hid (L2.out.trans l8 T6.out.size)
      have HR8 : Hid (w8.heap[rb]? = some (.cells #[.slice pc lc cc, .slice ph lh ch, .int .i64 1] 37 (0, 0))) := Lib.hid ((t8.block rb (Array.getElem?_eq_some_iff.1 HR6.out).1 (HA6.out.off HR6.out (by decide) (by decide))).trans HR6.out)
      clear h8 t8 l8 HAD
      go_wp2_with fail
      refine hK.out _ _ ⟨cell_obj HR8.out 0 rfl, cell_obj HR8.out 1 rfl⟩ (fun hHeld => ?_)
      clear hK K
      try simp only [Act.put, List.setIfInBounds_toArray, List.set_cons_zero, List.set_cons_succ]
      refine wpAnyH_done (by kernel_rfl) ?_ _
      refine NoPanic.normal ?_
      clear hHeld
      go_wp2_with fail
      go_ret
      unfold UpPost
      rw [if_neg (by rintro ⟨_, h⟩; have := HFU.out; rw [HML.out] at h; omega)]
      refine ⟨rfl, mv8, ov8, ?_, T8.out, L8.out⟩
      have e1 : mNew (gr X) 1 ms hs = ms2 := by rw [HMS.out]; exact if_pos rfl
      unfold oNew
      rw [e1, ← HOS.out]
      exact HA8.out
  · have HG1 := Lib.hid hg1
    have HIO : Hid (oIn ms os = os) := Lib.hid HI.out.oin
    have HI2 := HI
    have HA2 := HAq
    have T2 := TQ
    have L2 : Hid (iL w.heap.size mv ov mv ov) := Lib.hid (iL.refl _ _ _)
    have HR2 := HRq
    have HG2 := HGq
    have HC2 := Lib.hid (HF.out w0 TQ.out).1
    have HH2 := Lib.hid (HF.out w0 TQ.out).2
    have hge : (grp == 1) = false := by simp [hg1]
    clear hg1 HAq HRq HGq TQ
    go_wp2_with fail
    clear hr0 hr1 hr2 hge
    have bq : Below w0.heap.size w0 w0.drew := blw_qt _ 1 w0
    have HA3 := Lib.hid (HA2.out.kb bq)
    have HR3 := Lib.hid ((mild_below bq).cells HR2.out)
    have HG3 := Lib.hid (HG2.out.kb bq)
    have HC3 := Lib.hid (HC2.out.kb bq)
    have HH3 := Lib.hid (HH2.out.mild (mild_below bq))
    have T3 := Lib.hid (T2.out.trans (Only.of_below (S := iS i nb mv ov) bq) (fun _ h => h) (fun _ _ h => h))
    clear bq HA2 HR2 HG2 HC2 HH2 T2
    go_wp2_with fail
    try simp only [List.append]
    refine wp_region_noPanic ?_
    refine wp_region_held_drew (S := (fun V => V.cell? ⟨rb, 0, none⟩ = some (.slice pc lc cc) ∧ V.cell? ⟨rb, 1, none⟩ = some (.slice ph lh ch))) (by kernel_rfl) ⟨cell_obj HR3.out 0 rfl, cell_obj HR3.out 1 rfl⟩ (fun hHeld => ?_)
    generalize w0.drew = w3 at *
    refine wpAnyH_take (i := 0) (v := ?_) (by simp only [List.getElem?_toArray, List.getElem?_cons_zero]; rfl) (by kernel_rfl) (by kernel_rfl) (by kernel_rfl) (fun _ _ _ h => h) (Or.inl ⟨by rfl, ?_⟩) (by assumption) ?_
    rotate_left
    · intro w hSw
      try dsimp only at hSw
      go_simp
      try with_reducible rfl
    try simp only [Act.put, List.setIfInBounds_toArray, List.set_cons_zero, List.set_cons_succ]
    refine wpAnyH_take (i := 1) (v := ?_) (by simp only [List.getElem?_toArray, List.getElem?_cons_succ, List.getElem?_cons_zero]; rfl) (by kernel_rfl) (by kernel_rfl) (by kernel_rfl) (fun _ _ _ h => h) (Or.inl ⟨by rfl, ?_⟩) (by assumption) ?_
    rotate_left
    · intro w hSw
      try dsimp only at hSw
      go_simp
      try with_reducible rfl
    try simp only [Act.put, List.setIfInBounds_toArray, List.set_cons_zero, List.set_cons_succ]
    refine wpAnyH_take (i := 2) (v := ?_) (by simp only [List.getElem?_toArray, List.getElem?_cons_succ, List.getElem?_cons_zero]; rfl) (by kernel_rfl) (by kernel_rfl) (by kernel_rfl) (fun _ _ _ h => h) (Or.inl ⟨by rfl, ?_⟩) (by assumption) ?_
    rotate_left
    · intro w hSw
      try dsimp only at hSw
      go_simp
      try with_reducible rfl
    try simp only [Act.put, List.setIfInBounds_toArray, List.set_cons_zero, List.set_cons_succ]
    refine wpAnyH_take (i := 3) (v := ?_) (by simp only [List.getElem?_toArray, List.getElem?_cons_succ, List.getElem?_cons_zero]; rfl) (by kernel_rfl) (by kernel_rfl) (by kernel_rfl) (fun _ _ _ h => h) (Or.inl ⟨by rfl, ?_⟩) (by assumption) ?_
    rotate_left
    · intro w hSw
      try dsimp only at hSw
      go_simp
      try with_reducible rfl
    try simp only [Act.put, List.setIfInBounds_toArray, List.set_cons_zero, List.set_cons_succ]
    refine wpAnyH_take (i := 4) (v := ?_) (by simp only [List.getElem?_toArray, List.getElem?_cons_succ, List.getElem?_cons_zero]; rfl) (by kernel_rfl) (by kernel_rfl) (by kernel_rfl) (fun _ _ _ h => h) (Or.inl ⟨by rfl, ?_⟩) (by assumption) ?_
    rotate_left
    · intro w hSw
      try dsimp only at hSw
      go_simp
      try with_reducible rfl
    try simp only [Act.put, List.setIfInBounds_toArray, List.set_cons_zero, List.set_cons_succ]
    refine wpAnyH_take (i := 5) (v := ?_) (by simp only [List.getElem?_toArray, List.getElem?_cons_succ, List.getElem?_cons_zero]; rfl) (by kernel_rfl) (by kernel_rfl) (by kernel_rfl) (fun _ _ _ h => h) (Or.inl ⟨by rfl, ?_⟩) (by assumption) ?_
    rotate_left
    · intro w hSw
      try dsimp only at hSw
      go_simp
      try with_reducible rfl
    try simp only [Act.put, List.setIfInBounds_toArray, List.set_cons_zero, List.set_cons_succ]
    refine wpAnyH_ready (rs := [6]) (by kernel_rfl) (by simp) ?_
    refine AllReadyH.cons (by simp only [List.getElem?_toArray, List.getElem?_cons_succ, List.getElem?_cons_zero]; rfl) (fun K hK => ?_) AllReadyH.nil
    go_simp
    refine (named_to w3 _ cs HC3.out HOK.out (Nat.le_trans HCL.out (by decide))).mono ?_
    rintro e w4 ⟨v4, rfl, o4, b4⟩
    obtain ⟨p4, n4, c4, rfl, hn4⟩ := own_sh o4
    clear hn4
    have HA4 := Lib.hid (HA3.out.kb b4)
    have HR4 := Lib.hid ((mild_below b4).cells HR3.out)
    have HG4 := Lib.hid (HG3.out.kb b4)
    have HH4 := Lib.hid (HH3.out.mild (mild_below b4))
    have HN4 := Lib.hid (HSeen.own o4)
    have T4 := Lib.hid (T3.out.trans (Only.of_below (S := iS i nb mv ov) b4) (fun _ h => h) (fun _ _ h => h))
    clear o4 b4 HA3 HR3 HG3 HC3 HH3 T3
    go_wp2_with fail
    refine hK.out _ _ ⟨cell_obj HR4.out 0 rfl, cell_obj HR4.out 1 rfl⟩ (fun hHeld => ?_)
    clear hK K
    try simp only [Act.put, List.setIfInBounds_toArray, List.set_cons_zero, List.set_cons_succ]
    have AL := below_al11 w4 (.cells #[.slice ph lh ch, .slice p4 n4 c4] 32)
    have HB5 := Lib.hid (heap_alloc_last w4 (.cells #[.slice ph lh ch, .slice p4 n4 c4] 32))
    have HA5 := Lib.hid (HA4.out.kb AL)
    have HR5 := Lib.hid ((mild_below AL).cells HR4.out)
    have HG5 := Lib.hid (HG4.out.kb AL)
    have HH5 := Lib.hid (HH4.out.mild (mild_below AL))
    have HN5 := Lib.hid (HN4.out.mild (mild_below AL))
    have T5 := Lib.hid (T4.out.trans (Only.of_below (S := iS i nb mv ov) AL) (fun _ h => h) (fun _ _ h => h))
    clear AL HA4 HR4 HG4 HH4 HN4 T4
    refine wpAnyH_ready (rs := [7]) (by kernel_rfl) (by simp) ?_
    refine AllReadyH.cons (by simp only [List.getElem?_toArray, List.getElem?_cons_succ, List.getElem?_cons_zero]; rfl) (fun K hK => ?_) AllReadyH.nil
    go_simp
    generalize w4.alloc (.cells #[.slice ph lh ch, .slice p4 n4 c4] 32) = w5 at *
    generalize w4.heap.size = gb at *
    refine hK.out _ _ ⟨cell_obj HR5.out 0 rfl, cell_obj HR5.out 1 rfl⟩ (fun hHeld => ?_)
    clear hK K
    try simp only [Act.put, List.setIfInBounds_toArray, List.set_cons_zero, List.set_cons_succ]
    refine wpAnyH_ready (rs := [8]) (by kernel_rfl) (by simp) ?_
    refine AllReadyH.cons (by simp only [List.getElem?_toArray, List.getElem?_cons_succ, List.getElem?_cons_zero]; rfl) (fun K hK => ?_) AllReadyH.nil
    go_simp
    refine (hconcat_to w5 gb _ _ hs (cs.map (·.1)) HB5.out HH5.out HN5.out HH32.out HC32.out (by rw [List.length_map]; have := HCL.out; have := HHL.out; omega)).mono ?_
    rintro e w6 ⟨v6, rfl, o6, b6⟩
    obtain ⟨p6, n6, c6, rfl, hn6⟩ := own_sh o6
    clear hn6
    have HA6 := Lib.hid (HA5.out.kb b6)
    have HR6 := Lib.hid ((mild_below b6).cells HR5.out)
    have HG6 := Lib.hid (HG5.out.kb b6)
    have HN6 := Lib.hid (HSeen.own o6)
    have T6 := Lib.hid (T5.out.trans (Only.of_below (S := iS i nb mv ov) b6) (fun _ h => h) (fun _ _ h => h))
    clear o6 b6 HA5 HR5 HG5 HH5 HN5 T5 HB5
    go_wp2_with fail
    refine hK.out _ _ ⟨cell_obj HR6.out 0 rfl, cell_obj HR6.out 1 rfl⟩ (fun hHeld => ?_)
    clear hK K
    try simp only [Act.put, List.setIfInBounds_toArray, List.set_cons_zero, List.set_cons_succ]
    refine wpAnyH_ready (rs := [9]) (by kernel_rfl) (by simp) ?_
    refine AllReadyH.cons (by simp only [List.getElem?_toArray, List.getElem?_cons_succ, List.getElem?_cons_zero]; rfl) (fun K hK => ?_) AllReadyH.nil
    go_simp
    refine (walk_to w6 g bm X HG6.out HW.out _ (hs ++ cs.map (·.1)) HN6.out (HH32.out.app HC32.out) (by rw [List.length_append, List.length_map]; have := HCL.out; have := HHL.out; omega) .nilFunc (fun _ => false) (Dn.none w6)).mono ?_
    rintro e w7 ⟨v7, l7, rfl, o7, ⟨N7, vl7⟩, b7⟩
    obtain rfl := wlk_eq vl7
    obtain ⟨p7, n7, c7, rfl, hn7⟩ := own_sh o7
    clear hn7
    have HR7 := Lib.hid ((mild_below b7).cells HR6.out)
    have HAD := Lib.hid (iadd_to w6 w7 b7 B i nb most mv ov ms os HA6.out _ _ o7 (wlk_nd HW.out _) (wlk_h32 HW.out _) (wlk_len HW.out _) (HI2.out.len HW.out))
    have HA7 := Lib.hid (HA6.out.kb b7)
    clear o7 b7 vl7 HG6 HN6
    go_wp2_with fail
    refine hK.out _ _ ⟨cell_obj HR7.out 0 rfl, cell_obj HR7.out 1 rfl⟩ (fun hHeld => ?_)
    clear hK K
    try simp only [Act.put, List.setIfInBounds_toArray, List.set_cons_zero, List.set_cons_succ]
    refine wpAnyH_ready (rs := [10]) (by kernel_rfl) (by simp) ?_
    refine AllReadyH.cons (by simp only [List.getElem?_toArray, List.getElem?_cons_succ, List.getElem?_cons_zero]; rfl) (fun K hK => ?_) AllReadyH.nil
    go_simp
    refine HAD.out.mono ?_
    rintro e w8 ⟨rfl, mv8, ov8, h8, t8, l8⟩
    have HA8 := Lib.hid h8
    have T8 := Lib.hid (iS.trans T6.out t8 L2.out)
    have L8 := Lib.hid (L2.out.trans l8 T6.out.size)
    have HR8 : Hid (w8.heap[rb]? = some (.cells #[.slice pc lc cc, .slice ph lh ch, .int .i64 grp] 37 (0, 0))) := Lib.hid ((t8.block rb (Array.getElem?_eq_some_iff.1 HR6.out).1 (HA6.out.off HR6.out (by decide) (by decide))).trans HR6.out)
    clear h8 t8 l8 HAD
    go_wp2_with fail
    refine hK.out _ _ ⟨cell_obj HR8.out 0 rfl, cell_obj HR8.out 1 rfl⟩ (fun hHeld => ?_)
    clear hK K
    try simp only [Act.put, List.setIfInBounds_toArray, List.set_cons_zero, List.set_cons_succ]
    refine wpAnyH_done (by kernel_rfl) ?_ _
    refine NoPanic.normal ?_
    clear hHeld
    go_wp2_with fail
    go_ret
    unfold UpPost
    rw [if_neg (fun h => HG1.out h.1)]
    refine ⟨rfl, mv8, ov8, ?_, T8.out, L8.out⟩
    have e1 : mNew (gr X) grp ms hs = ms := if_neg HG1.out
    unfold oNew
    rw [e1, HIO.out]
    exact HA8.out
end Go.Proofs.YtnpeahbbcolfmaaGreatDoor
namespace Go.Proofs.YtnpeahbbcolfmaaGreatDoor
open Go.RowKit
open Go.Maps
theorem idh_fin {w : World} {b : Nat} (hb : b = w.heap.size) (x : Key) (hx : x.length = 32) (W : World) (k : Below w.heap.size w W) (ht : W.there b 0 32) :
    (hld ⟨b, 0, none⟩).run Tryz.prog (W.setCells b 0 (hv x).toList) = .ok (.agg (hv x)) (W.setCells b 0 (hv x).toList) ∧ Below w.heap.size w (W.setCells b 0 (hv x).toList) :=
  ⟨load_back hx ht, k.trans ((Only.setCells (S := fun j => j = b) (b := b) rfl _ 0 (Only.refl _ W)).below k.size fun j hj => by rw [hj, hb]; exact Nat.le_refl _)⟩
set_option linter.unusedSimpArgs false in
set_option maxRecDepth 20000 in
set_option maxHeartbeats 8000000 in
attribute [local go_sem ↓] hld_open in
theorem idhash_to (w : World) (B i nb : Nat) (most : Int) (mv ov : Value) (ms os : List Key) (f : Key → Option Int) (H : IA w B i nb most mv ov ms os f) (hm : H32 ms) (ho : H32 os) (hl : ms.length + os.length ≤ 1000) (n : Int) (h0 : -4611686018427387904 ≤ n) (h1 : n ≤ 4611686018427387904) :
    Calls Tryz.prog 13 #[ip i, .int .i64 n] w fun e w' => e = .returned (.tuple #[.agg (hv ((atId ms os n).getD hz)), .bool (atId ms os n).isSome]) ∧ Below w.heap.size w w' := by
  obtain ⟨pm, nm, cm, rfl, hnm⟩ := own_sh H.om
  obtain ⟨po, no, co, rfl, hno⟩ := own_sh H.oo
  have BA := Lib.hid (below_al11 w (.cells hzer 31))
  have HZ := Lib.hid (heap_alloc_last w (.cells hzer 31))
  have HA := Lib.hid (H.kb BA.out)
  have HM := Lib.hid hm
  have HO := Lib.hid ho
  have HNM := Lib.hid hnm
  have HNO := Lib.hid hno
  have HL := Lib.hid hl
  have HT0 : Hid ((w.alloc (.cells hzer 31)).there w.heap.size 0 32) := Lib.hid (there32 (q := hzer) rfl HZ.out)
  have FIN := Lib.hid (fun (x : Key) (hx : x.length = 32) => idh_fin (w := w) rfl x hx (w.alloc (.cells hzer 31)) BA.out HT0.out)
  have c1 : (w.alloc (.cells hzer 31)).cell? ⟨i, 1, none⟩ = some (.slice pm nm cm) := HA.out.c rfl
  have c2 : (w.alloc (.cells hzer 31)).cell? ⟨i, 2, none⟩ = some (.slice po no co) := HA.out.c rfl
  have hzl : (#[.int .u8 0, .int .u8 0, .int .u8 0, .int .u8 0, .int .u8 0, .int .u8 0, .int .u8 0, .int .u8 0, .int .u8 0, .int .u8 0, .int .u8 0, .int .u8 0, .int .u8 0, .int .u8 0, .int .u8 0, .int .u8 0, .int .u8 0, .int .u8 0, .int .u8 0, .int .u8 0, .int .u8 0, .int .u8 0, .int .u8 0, .int .u8 0, .int .u8 0, .int .u8 0, .int .u8 0, .int .u8 0, .int .u8 0, .int .u8 0, .int .u8 0, .int .u8 0] : Array Value) = hzer := rfl
  have H0 := Lib.hid h0
  have H1 := Lib.hid h1
  clear H hm ho hnm hno hl h0 h1
  by_cases hA : 0 ≤ n ∧ n < nm
  · obtain ⟨k, rfl⟩ : ∃ k : Nat, n = k := ⟨n.toNat, by omega⟩
    have hkm : k < ms.length := by have := HNM.out; omega
    obtain ⟨b, o, c', e1, hrg⟩ := (HSeen.own HA.out.om).at HM.out hkm
    injection e1 with e1 e2 e3
    subst e1
    have hat : atId ms os (k : Int) = some ms[k] := by
      unfold atId
      rw [if_pos (by omega)]
      simp
    obtain ⟨x, hx⟩ : ∃ x, x = ms[k] := ⟨_, rfl⟩
    rw [← hx] at hrg hat
    have hx32 : x.length = 32 := by rw [hx]; exact HM.out.at hkm
    have hld0 := hld_range hx32 hrg
    have HX := Lib.hid hx32
    have hk1 : (k : Int) < nm := by omega
    have hk0 : (0 : Int) ≤ k := by omega
    rw [hat]
    simp only [Option.getD_some, Option.isSome_some]
    clear hx hrg hat hkm hx32 e2 e3 hA
    go_enter Tryz.func13, Tryz.ntmps13
    go_upto_region 1 with fail
    try rw [hzl]
    generalize w.alloc (.cells hzer 31) = w0 at *
    have HT : Hid (w0.there w.heap.size 0 (hv x).size) := Lib.hid (by rw [hv_size, HX.out]; exact HT0.out)
    go_wp2_with (refine store_to HT.out (hinfo (hv x) (by rw [hv_size, HX.out])) (hv_one _) ?hx ?hy ?_; (case hx => rfl); (case hy => simp [Act.eval]))
    refine bodyPost_ret (v := .tuple #[.agg (hv x), .bool true]) ?_ rfl ⟨rfl, (FIN.out x HX.out).2⟩
    have hl := (FIN.out x HX.out).1
    generalize w0.setCells w.heap.size 0 (hv x).toList = W3 at hl ⊢
    simp only [results, Tryz.results13]
    simp [hl, asAddr, hld_open]
  · by_cases hB : n ≥ 1099511627776 ∧ n - 1099511627776 < no
    · obtain ⟨k, hk⟩ : ∃ k : Nat, n = 1099511627776 + k := ⟨(n - 1099511627776).toNat, by omega⟩
      have hko : k < os.length := by have := HNO.out; omega
      obtain ⟨b, o, c', e1, hrg⟩ := (HSeen.own HA.out.oo).at HO.out hko
      injection e1 with e1 e2 e3
      subst e1
      have hat : atId ms os n = some os[k] := by
        unfold atId split
        rw [if_neg (by have := HNM.out; omega), if_pos (by omega)]
        rw [show (n - 1099511627776).toNat = k by omega]
        exact List.getElem?_eq_getElem hko
      obtain ⟨x, hx⟩ : ∃ x, x = os[k] := ⟨_, rfl⟩
      rw [← hx] at hrg hat
      have hx32 : x.length = 32 := by rw [hx]; exact HO.out.at hko
      have hld0 := hld_range hx32 hrg
      have HX := Lib.hid hx32
      have d1 : n ≥ 0 := by omega
      have d2 : ¬ n < nm := by omega
      have d3 : n ≥ 1099511627776 := by omega
      have hw : IntKind.i64.wrap (n - 1099511627776) = (k : Int) := by rw [IntWalk.i64_in _ (by have := H1.out; have := H0.out; omega)]; omega
      have hw2 : wrap64 (n - 1099511627776) = (k : Int) := by unfold wrap64; have := H1.out; omega
      have d4 : (k : Int) < no := by omega
      have hk0 : (0 : Int) ≤ k := by omega
      rw [hat]
      simp only [Option.getD_some, Option.isSome_some]
      clear hx hrg hat hko hx32 e2 e3 hA hB hk
      go_enter Tryz.func13, Tryz.ntmps13
      go_upto_region 1 with fail
      try rw [hzl]
      generalize w.alloc (.cells hzer 31) = w0 at *
      have HT : Hid (w0.there w.heap.size 0 (hv x).size) := Lib.hid (by rw [hv_size, HX.out]; exact HT0.out)
      go_wp2_with (refine store_to HT.out (hinfo (hv x) (by rw [hv_size, HX.out])) (hv_one _) ?hx ?hy ?_; (case hx => rfl); (case hy => simp [Act.eval]))
      refine bodyPost_ret (v := .tuple #[.agg (hv x), .bool true]) ?_ rfl ⟨rfl, (FIN.out x HX.out).2⟩
      have hl := (FIN.out x HX.out).1
      generalize w0.setCells w.heap.size 0 (hv x).toList = W3 at hl ⊢
      simp only [results, Tryz.results13]
      simp [hl, asAddr, hld_open]
    · have hat : atId ms os n = none := by
        unfold atId split
        rw [if_neg (by have := HNM.out; omega), if_neg (by have := HNO.out; omega)]
      rw [hat]
      simp only [Option.getD_none, Option.isSome_none]
      have HT : Hid ((w.alloc (.cells hzer 31)).there w.heap.size 0 hzer.size) := Lib.hid HT0.out
      have cases3 : (¬ n ≥ 0 ∧ ¬ n ≥ 1099511627776) ∨ (n ≥ 0 ∧ ¬ n < nm ∧ ¬ n ≥ 1099511627776) ∨ (n ≥ 0 ∧ ¬ n < nm ∧ n ≥ 1099511627776 ∧ ¬ (n - 1099511627776) < no) := by omega
      clear hat hA hB
      rcases cases3 with ⟨d1, d2⟩ | ⟨d1, d2, d3⟩ | ⟨d1, d2, d3, d4⟩
      · go_enter Tryz.func13, Tryz.ntmps13
        go_upto_region 1 with fail
        try rw [hzl]
        generalize w.alloc (.cells hzer 31) = w0 at *
        go_wp2_with (refine build_to (vals := #[]) hbuilt ?hv ?_; (case hv => simp); refine store_to HT.out (hinfo hzer rfl) (hv_one hz) ?hx ?hy ?_; (case hx => rfl); (case hy => rfl))
        refine bodyPost_ret (v := .tuple #[.agg hzer, .bool false]) ?_ rfl ⟨rfl, (FIN.out hz rfl).2⟩
        have hl := (FIN.out hz rfl).1
        rw [hz_hv] at hl
        generalize w0.setCells w.heap.size 0 hzer.toList = W3 at hl ⊢
        simp only [results, Tryz.results13]
        simp [hl, asAddr, hld_open]
      · go_enter Tryz.func13, Tryz.ntmps13
        go_upto_region 1 with fail
        try rw [hzl]
        generalize w.alloc (.cells hzer 31) = w0 at *
        go_wp2_with (refine build_to (vals := #[]) hbuilt ?hv ?_; (case hv => simp); refine store_to HT.out (hinfo hzer rfl) (hv_one hz) ?hx ?hy ?_; (case hx => rfl); (case hy => rfl))
        refine bodyPost_ret (v := .tuple #[.agg hzer, .bool false]) ?_ rfl ⟨rfl, (FIN.out hz rfl).2⟩
        have hl := (FIN.out hz rfl).1
        rw [hz_hv] at hl
        generalize w0.setCells w.heap.size 0 hzer.toList = W3 at hl ⊢
        simp only [results, Tryz.results13]
        simp [hl, asAddr, hld_open]
      · obtain ⟨k, hk⟩ : ∃ k : Int, k = n - 1099511627776 := ⟨_, rfl⟩
        have hw2 : wrap64 (n - 1099511627776) = k := by unfold wrap64; have := H1.out; omega
        have d5 : ¬ k < no := by omega
        clear hk d4
        go_enter Tryz.func13, Tryz.ntmps13
        go_upto_region 1 with fail
        try rw [hzl]
        generalize w.alloc (.cells hzer 31) = w0 at *
        go_wp2_with (refine build_to (vals := #[]) hbuilt ?hv ?_; (case hv => simp); refine store_to HT.out (hinfo hzer rfl) (hv_one hz) ?hx ?hy ?_; (case hx => rfl); (case hy => rfl))
        refine bodyPost_ret (v := .tuple #[.agg hzer, .bool false]) ?_ rfl ⟨rfl, (FIN.out hz rfl).2⟩
        have hl := (FIN.out hz rfl).1
        rw [hz_hv] at hl
        generalize w0.setCells w.heap.size 0 hzer.toList = W3 at hl ⊢
        simp only [results, Tryz.results13]
        simp [hl, asAddr, hld_open]
end Go.Proofs.YtnpeahbbcolfmaaGreatDoor
namespace Go.Proofs.YtnpeahbbcolfmaaGreatDoor
/-- A span: its two ends. -/
abbrev Sp := Int × Int
/-- What some spans contain. -/
def Has (l : List Sp) (x : Int) : Prop := 0 ≤ x ∧ ∃ s ∈ l, s.1 ≤ x ∧ x ≤ s.2
/-- Ascending, with gaps. -/
def Nrm : List Sp → Prop
  | [] => True
  | s :: l => 0 ≤ s.1 ∧ s.1 ≤ s.2 ∧ (∀ t ∈ l, s.2 + 1 < t.1) ∧ Nrm l
theorem has_nil {x : Int} : Has [] x ↔ False := ⟨fun h => by obtain ⟨_, s, hs, _⟩ := h; simp at hs, False.elim⟩
theorem has_app {l m : List Sp} {x : Int} : Has (l ++ m) x ↔ Has l x ∨ Has m x := by
  constructor
  · rintro ⟨h0, s, hs, h⟩
    rcases List.mem_append.1 hs with hs | hs
    · exact .inl ⟨h0, s, hs, h⟩
    · exact .inr ⟨h0, s, hs, h⟩
  · rintro (⟨h0, s, hs, h⟩ | ⟨h0, s, hs, h⟩)
    · exact ⟨h0, s, List.mem_append_left _ hs, h⟩
    · exact ⟨h0, s, List.mem_append_right _ hs, h⟩
theorem has_one {s : Sp} {x : Int} : Has [s] x ↔ 0 ≤ x ∧ s.1 ≤ x ∧ x ≤ s.2 := by
  unfold Has; simp
theorem has_cons {s : Sp} {l : List Sp} {x : Int} : Has (s :: l) x ↔ (0 ≤ x ∧ s.1 ≤ x ∧ x ≤ s.2) ∨ Has l x := by
  rw [show s :: l = [s] ++ l from rfl, has_app, has_one]
theorem has_perm {l m : List Sp} (h : ∀ s, s ∈ l ↔ s ∈ m) {x : Int} : Has l x ↔ Has m x := by
  unfold Has; simp only [h]
theorem Nrm.tail {s : Sp} {l : List Sp} (h : Nrm (s :: l)) : Nrm l := h.2.2.2
theorem Nrm.mem : ∀ {l : List Sp}, Nrm l → ∀ s ∈ l, 0 ≤ s.1 ∧ s.1 ≤ s.2
  | _ :: _, h, s, hs => by
    rcases List.mem_cons.1 hs with rfl | hs
    · exact ⟨h.1, h.2.1⟩
    · exact h.tail.mem s hs
theorem Nrm.gap {s : Sp} {l : List Sp} (h : Nrm (s :: l)) {x : Int} (hx : Has l x) : s.2 + 1 < x := by
  obtain ⟨_, t, ht, h1, _⟩ := hx
  have := h.2.2.1 t ht
  omega
theorem Nrm.lo {l : List Sp} (h : Nrm l) {s : Sp} (hs : s ∈ l) : Has l s.1 := ⟨(h.mem s hs).1, s, hs, by omega, (h.mem s hs).2⟩
theorem Nrm.hi {l : List Sp} (h : Nrm l) {s : Sp} (hs : s ∈ l) : Has l s.2 := ⟨by have := h.mem s hs; omega, s, hs, (h.mem s hs).2, by omega⟩
theorem nrm_cons {s : Sp} {l : List Sp} (h0 : 0 ≤ s.1) (h1 : s.1 ≤ s.2) (hl : Nrm l) (h : ∀ x, Has l x → s.2 + 1 < x) : Nrm (s :: l) :=
  ⟨h0, h1, fun t ht => h t.1 (hl.lo ht), hl⟩
theorem Nrm.app : ∀ {l m : List Sp}, Nrm l → Nrm m → (∀ s ∈ l, ∀ t ∈ m, s.2 + 1 < t.1) → Nrm (l ++ m)
  | [], _, _, hm, _ => hm
  | s :: l, m, hl, hm, h => ⟨hl.1, hl.2.1, fun t ht => by
      rcases List.mem_append.1 ht with ht | ht
      · exact hl.2.2.1 t ht
      · exact h s List.mem_cons_self t ht, hl.tail.app hm fun u hu => h u (List.mem_cons_of_mem _ hu)⟩
theorem Nrm.left : ∀ {l m : List Sp}, Nrm (l ++ m) → Nrm l
  | [], _, _ => trivial
  | _ :: _, _, h => ⟨h.1, h.2.1, fun t ht => h.2.2.1 t (List.mem_append_left _ ht), (Nrm.tail h).left⟩
theorem Nrm.right : ∀ {l m : List Sp}, Nrm (l ++ m) → Nrm m
  | [], _, h => h
  | _ :: _, _, h => (Nrm.tail h).right
theorem Nrm.mid : ∀ {l m : List Sp}, Nrm (l ++ m) → ∀ s ∈ l, ∀ t ∈ m, s.2 + 1 < t.1
  | _ :: _, _, h, s, hs, t, ht => by
    rcases List.mem_cons.1 hs with rfl | hs
    · exact h.2.2.1 t (List.mem_append_right _ ht)
    · exact (Nrm.tail h).mid s hs t ht
theorem nrm_one {s : Sp} (h0 : 0 ≤ s.1) (h1 : s.1 ≤ s.2) : Nrm [s] := ⟨h0, h1, fun t ht => by simp at ht, trivial⟩
theorem Nrm.nil_of {l : List Sp} (h : Nrm l) (hx : ∀ x, ¬ Has l x) : l = [] := by
  cases l with
  | nil => rfl
  | cons s l => exact absurd (h.lo List.mem_cons_self) (hx _)
theorem Nrm.low {s : Sp} {a : List Sp} (ha : Nrm (s :: a)) {x : Int} (hx : Has (s :: a) x) : s.1 ≤ x := by
  rcases has_cons.1 hx with hx | hx
  · exact hx.2.1
  · have := ha.gap hx; have := ha.2.1; omega
/-- A set has one normal form. -/
theorem uniq : ∀ {a b : List Sp}, Nrm a → Nrm b → (∀ x, Has a x ↔ Has b x) → a = b
  | [], b, _, hb, h => (hb.nil_of fun x hx => has_nil.1 ((h x).2 hx)).symm
  | s :: a, [], ha, _, h => ha.nil_of fun x hx => has_nil.1 ((h x).1 hx)
  | s :: a, t :: b, ha, hb, h => by
    have e1 : s.1 = t.1 := by
      have h1 := hb.low ((h _).1 (ha.lo List.mem_cons_self))
      have h2 := ha.low ((h _).2 (hb.lo List.mem_cons_self))
      omega
    have hi : ∀ {s t : Sp} {a b : List Sp}, Nrm (s :: a) → Nrm (t :: b) → s.1 = t.1 → (∀ x, Has (t :: b) x → Has (s :: a) x) → t.2 ≤ s.2 := fun {s t a b} ha hb e h => by
      refine Classical.byContradiction fun hn => ?_
      have h1 := h (s.2 + 1) ⟨by have := ha.1; have := ha.2.1; omega, t, List.mem_cons_self, by have := ha.2.1; omega, by omega⟩
      rcases has_cons.1 h1 with h2 | h2
      · omega
      · have := ha.gap h2; omega
    have e2 : s.2 = t.2 := by
      have h1 := hi ha hb e1 fun x => (h x).2
      have h2 := hi hb ha e1.symm fun x => (h x).1
      omega
    have e : s = t := Prod.ext e1 e2
    subst e
    rw [uniq ha.tail hb.tail fun x => ?_]
    constructor
    · intro hx
      rcases has_cons.1 ((h x).1 (has_cons.2 (.inr hx))) with h1 | h1
      · have := ha.gap hx; omega
      · exact h1
    · intro hx
      rcases has_cons.1 ((h x).2 (has_cons.2 (.inr hx))) with h1 | h1
      · have := hb.gap hx; omega
      · exact h1

/-- A set with a span more. -/
def jn : List Sp → Sp → List Sp
  | [], s => [s]
  | x :: l, s => if x.2 < s.1 - 1 then x :: jn l s else if s.2 < x.1 - 1 then s :: x :: l else jn l (min s.1 x.1, max s.2 x.2)
theorem jn_ok : ∀ {l : List Sp} {s : Sp}, Nrm l → 0 ≤ s.1 → s.1 ≤ s.2 → Nrm (jn l s) ∧ ∀ x, Has (jn l s) x ↔ Has l x ∨ (s.1 ≤ x ∧ x ≤ s.2)
  | [], s, _, h0, h1 => ⟨nrm_one h0 h1, fun x => by unfold jn; rw [has_one, has_nil, false_or]; constructor <;> intro h <;> omega⟩
  | y :: l, s, hl, h0, h1 => by
    unfold jn
    have hy := hl.mem y List.mem_cons_self
    by_cases c1 : y.2 < s.1 - 1
    · rw [if_pos c1]
      obtain ⟨i1, i2⟩ := jn_ok hl.tail h0 h1
      refine ⟨nrm_cons hy.1 hy.2 i1 fun x hx => ?_, fun x => ?_⟩
      · rcases (i2 x).1 hx with hx | hx
        · exact hl.gap hx
        · omega
      · rw [has_cons, i2, has_cons, or_assoc]
    · rw [if_neg c1]
      by_cases c2 : s.2 < y.1 - 1
      · rw [if_pos c2]
        refine ⟨nrm_cons h0 h1 hl fun x hx => ?_, fun x => ?_⟩
        · rcases has_cons.1 hx with hx | hx
          · omega
          · have := hl.gap hx; omega
        · rw [has_cons]
          constructor
          · rintro (h | h)
            · exact .inr h.2
            · exact .inl h
          · rintro (h | h)
            · exact .inr h
            · exact .inl ⟨by omega, h⟩
      · rw [if_neg c2]
        obtain ⟨i1, i2⟩ := jn_ok (l := l) (s := (min s.1 y.1, max s.2 y.2)) hl.tail (by simp only; omega) (by simp only; omega)
        refine ⟨i1, fun x => ?_⟩
        rw [i2, has_cons]
        constructor
        · rintro (h | h)
          · exact .inl (.inr h)
          · simp only at h
            by_cases h2 : s.1 ≤ x ∧ x ≤ s.2
            · exact .inr h2
            · exact .inl (.inl (by omega))
        · rintro ((h | h) | h)
          · exact .inr (by simp only; omega)
          · exact .inl h
          · exact .inr (by simp only; omega)
/-- Without what is below 0, and empty ones. -/
def clip (l : List Sp) : List Sp := (l.map fun s => ((max s.1 0, s.2) : Sp)).filter fun s => decide (s.1 ≤ s.2)
theorem clip_mem {l : List Sp} {s : Sp} (h : s ∈ clip l) : 0 ≤ s.1 ∧ s.1 ≤ s.2 := by
  unfold clip at h
  obtain ⟨h1, h2⟩ := List.mem_filter.1 h
  obtain ⟨t, _, rfl⟩ := List.mem_map.1 h1
  exact ⟨by simp only; omega, by simpa using h2⟩
theorem clip_has (l : List Sp) (x : Int) : Has (clip l) x ↔ Has l x := by
  unfold Has clip
  constructor
  · rintro ⟨h0, s, hs, h⟩
    obtain ⟨h1, _⟩ := List.mem_filter.1 hs
    obtain ⟨t, ht, rfl⟩ := List.mem_map.1 h1
    exact ⟨h0, t, ht, by simp only at h; omega, h.2⟩
  · rintro ⟨h0, t, ht, h⟩
    refine ⟨h0, (max t.1 0, t.2), List.mem_filter.2 ⟨List.mem_map.2 ⟨t, ht, rfl⟩, ?_⟩, ?_, h.2⟩
    · simp only [decide_eq_true_eq]; omega
    · simp only; omega
theorem clip_len (l : List Sp) : (clip l).length ≤ l.length := by
  unfold clip
  have := List.length_filter_le (fun s : Sp => decide (s.1 ≤ s.2)) (l.map fun s => ((max s.1 0, s.2) : Sp))
  simpa using this
theorem clip_app (l m : List Sp) : clip (l ++ m) = clip l ++ clip m := by simp [clip]
theorem clip_one (s : Sp) : clip [s] = if max s.1 0 ≤ s.2 then [(max s.1 0, s.2)] else [] := by
  unfold clip
  by_cases h : max s.1 0 ≤ s.2
  · rw [if_pos h]; simp [h]
  · rw [if_neg h]; simp [h]
/-- The normal form. -/
def mk (l : List Sp) : List Sp := (clip l).foldl jn []
theorem fold_ok : ∀ (l m : List Sp), (∀ s ∈ l, 0 ≤ s.1 ∧ s.1 ≤ s.2) → Nrm m → Nrm (l.foldl jn m) ∧ ∀ x, Has (l.foldl jn m) x ↔ Has m x ∨ Has l x
  | [], m, _, hm => ⟨hm, fun x => by rw [has_nil]; simp⟩
  | s :: l, m, hl, hm => by
    have hs := hl s List.mem_cons_self
    obtain ⟨j1, j2⟩ := jn_ok hm hs.1 hs.2
    obtain ⟨i1, i2⟩ := fold_ok l (jn m s) (fun t ht => hl t (List.mem_cons_of_mem _ ht)) j1
    refine ⟨i1, fun x => ?_⟩
    rw [List.foldl_cons, i2, j2, has_cons, or_assoc]
    constructor
    · rintro (h | h | h)
      · exact .inl h
      · exact .inr (.inl ⟨by omega, h⟩)
      · exact .inr (.inr h)
    · rintro (h | h | h)
      · exact .inl h
      · exact .inr (.inl h.2)
      · exact .inr (.inr h)
theorem mk_nrm (l : List Sp) : Nrm (mk l) := (fold_ok (clip l) [] (fun _ h => clip_mem h) trivial).1
theorem mk_has (l : List Sp) (x : Int) : Has (mk l) x ↔ Has l x := by
  rw [mk, (fold_ok (clip l) [] (fun _ h => clip_mem h) trivial).2, has_nil, clip_has]; simp
theorem mk_eq {l m : List Sp} (hm : Nrm m) (h : ∀ x, Has m x ↔ Has l x) : m = mk l := uniq hm (mk_nrm l) fun x => by rw [h, mk_has]
theorem mk_self {l : List Sp} (h : Nrm l) : mk l = l := (mk_eq h fun _ => Iff.rfl).symm
/-- All ends are at most M. -/
def Top (M : Int) (l : List Sp) : Prop := ∀ s ∈ l, s.2 ≤ M
/-- The numbers from one to another. -/
def rng (lo hi : Int) : List Int := (List.range (hi - lo + 1).toNat).map fun k : Nat => lo + (k : Int)
theorem mem_rng {lo hi x : Int} : x ∈ rng lo hi ↔ lo ≤ x ∧ x ≤ hi := by
  unfold rng
  rw [List.mem_map]
  constructor
  · rintro ⟨k, hk, rfl⟩
    rw [List.mem_range] at hk
    omega
  · rintro ⟨h1, h2⟩
    exact ⟨(x - lo).toNat, by rw [List.mem_range]; omega, by omega⟩
theorem rng_len (lo hi : Int) : (rng lo hi).length = (hi - lo + 1).toNat := by simp [rng]
theorem rng_cut {lo m hi : Int} (h1 : lo ≤ m) (h2 : m ≤ hi + 1) : rng lo hi = rng lo (m - 1) ++ rng m hi := by
  have e : (hi - lo + 1).toNat = (m - 1 - lo + 1).toNat + (hi - m + 1).toNat := by omega
  unfold rng
  rw [e, List.range_add, List.map_append, List.map_map]
  congr 1
  refine List.map_congr_left fun k _ => ?_
  simp only [Function.comp]
  omega
/-- All numbers of a set, ascending. -/
def els (l : List Sp) : List Int := l.flatMap fun s => rng s.1 s.2
theorem els_cons (s : Sp) (l : List Sp) : els (s :: l) = rng s.1 s.2 ++ els l := rfl
theorem els_app (l m : List Sp) : els (l ++ m) = els l ++ els m := by simp [els]
theorem els_one (s : Sp) : els [s] = rng s.1 s.2 := by simp [els]
theorem els_nil : els [] = [] := rfl
theorem mem_els {l : List Sp} (hl : Nrm l) {x : Int} : x ∈ els l ↔ Has l x := by
  unfold els
  rw [List.mem_flatMap]
  constructor
  · rintro ⟨s, hs, hx⟩
    rw [mem_rng] at hx
    exact ⟨by have := hl.mem s hs; omega, s, hs, hx⟩
  · rintro ⟨_, s, hs, hx⟩
    exact ⟨s, hs, mem_rng.2 hx⟩
/-- How many. -/
def cnt (l : List Sp) : Nat := (els l).length
theorem cnt_cons (s : Sp) (l : List Sp) : cnt (s :: l) = (s.2 - s.1 + 1).toNat + cnt l := by unfold cnt; rw [els_cons, List.length_append, rng_len]
theorem cnt_app (l m : List Sp) : cnt (l ++ m) = cnt l + cnt m := by unfold cnt; rw [els_app, List.length_append]
theorem cnt_one (s : Sp) : cnt [s] = (s.2 - s.1 + 1).toNat := by rw [cnt_cons]; rfl
/-- One span more of a set that is cut after n of its numbers. -/
def spl1 (x : (List Sp × List Sp) × Nat) (s : Sp) : (List Sp × List Sp) × Nat :=
  if (s.2 - s.1 + 1).toNat ≤ x.2 then ((x.1.1 ++ [s], x.1.2), x.2 - (s.2 - s.1 + 1).toNat)
  else if 0 < x.2 then ((x.1.1 ++ [(s.1, s.1 + x.2 - 1)], x.1.2 ++ [(s.1 + x.2, s.2)]), 0)
  else ((x.1.1, x.1.2 ++ [s]), 0)
def splf (l : List Sp) (n : Nat) := l.foldl spl1 (([], []), n)
def rest (l : List Sp) (n : Nat) : List Sp := (splf l n).1.2
/-- What is cut so far. -/
structure SplI (l b a : List Sp) (n m : Nat) : Prop where
  nb : Nrm b
  na : Nrm a
  eb : els b = (els l).take n
  ea : els a = (els l).drop n
  em : m = n - cnt l
  lb : b.length + a.length ≤ l.length + (if m = 0 then 1 else 0)
  la : m ≠ 0 → a = []
theorem SplI.step {l b a : List Sp} {n m : Nat} {s : Sp} (H : SplI l b a n m) (hl : Nrm (l ++ [s])) : SplI (l ++ [s]) (spl1 ((b, a), m) s).1.1 (spl1 ((b, a), m) s).1.2 n (spl1 ((b, a), m) s).2 := by
  have hs := hl.mem s (by simp)
  have hml := hl.left
  have hg : ∀ x, Has l x → x + 1 < s.1 := fun x hx => by
    obtain ⟨_, t, ht, _, h2⟩ := hx
    have := hl.mid t ht s (by simp); omega
  have gb : ∀ t ∈ b, t.2 + 1 < s.1 := fun t ht => hg _ ((mem_els hml).1 (List.mem_of_mem_take (i := n) (by rw [← H.eb]; exact (mem_els H.nb).2 (H.nb.hi ht))))
  have ga : ∀ t ∈ a, t.2 + 1 < s.1 := fun t ht => hg _ ((mem_els hml).1 (List.mem_of_mem_drop (i := n) (by rw [← H.ea]; exact (mem_els H.na).2 (H.na.hi ht))))
  have hn1 : Nrm [s] := nrm_one hs.1 hs.2
  have hc : cnt (l ++ [s]) = cnt l + (s.2 - s.1 + 1).toNat := by rw [cnt_app, cnt_one]
  have hbl : n ≤ cnt l → b.length + a.length ≤ l.length + 1 := fun _ => by have := H.lb; split at this <;> omega
  unfold spl1
  by_cases c1 : (s.2 - s.1 + 1).toNat ≤ m
  · simp only [if_pos c1]
    have hm : m = n - cnt l := H.em
    have ha : a = [] := H.la (by omega)
    refine ⟨H.nb.app hn1 fun t ht u hu => ?_, H.na, ?_, ?_, by omega, ?_, fun h => H.la (by omega)⟩
    · obtain rfl : u = s := by simpa using hu
      exact gb t ht
    · rw [els_app, H.eb, els_app, els_one, List.take_of_length_le (by unfold cnt at hm; omega), List.take_of_length_le]
      rw [List.length_append, rng_len]; unfold cnt at hm; omega
    · rw [ha, els_nil, els_app, els_one, List.drop_of_length_le]
      rw [List.length_append, rng_len]; unfold cnt at hm; omega
    · have := H.lb
      rw [if_neg (by omega)] at this
      simp only [List.length_append, List.length_cons, List.length_nil]
      split <;> omega
  · simp only [if_neg c1]
    by_cases c2 : 0 < m
    · simp only [if_pos c2]
      have hm : m = n - cnt l := H.em
      have ha : a = [] := H.la (by omega)
      have hL : (els l).length = cnt l := rfl
      have e1 : els (l ++ [s]) = (els l ++ rng s.1 (s.1 + m - 1)) ++ rng (s.1 + m) s.2 := by
        rw [els_app, els_one, rng_cut (m := s.1 + m) (by omega) (by omega), List.append_assoc]
      have e2 : (els l ++ rng s.1 (s.1 + m - 1)).length = n := by
        rw [List.length_append, rng_len, hL]; omega
      refine ⟨H.nb.app (nrm_one hs.1 (by simp only; omega)) fun t ht u hu => ?_, ?_, ?_, ?_, by omega, ?_, fun h => absurd rfl h⟩
      · obtain rfl : u = (s.1, s.1 + (m : Int) - 1) := by simpa using hu
        exact gb t ht
      · rw [ha, List.nil_append]
        exact nrm_one (by simp only; omega) (by simp only; omega)
      · rw [els_app, H.eb, els_one, e1, List.take_left' e2, List.take_of_length_le (by omega)]
      · rw [ha, List.nil_append, els_one, e1, List.drop_left' e2]
      · have := H.lb
        rw [if_neg (by omega)] at this
        rw [if_pos rfl, ha]
        simp only [List.length_append, List.length_cons, List.length_nil]
        rw [ha] at this
        simp only [List.length_nil] at this
        omega
    · simp only [if_neg c2]
      have hm : m = n - cnt l := H.em
      have hL : (els l).length = cnt l := rfl
      refine ⟨H.nb, H.na.app hn1 fun t ht u hu => ?_, ?_, ?_, by omega, ?_, fun h => absurd rfl h⟩
      · obtain rfl : u = s := by simpa using hu
        exact ga t ht
      · rw [H.eb, els_app, List.take_append_of_le_length (by omega)]
      · rw [els_app, els_one, H.ea, els_app, els_one, List.drop_append_of_le_length (by omega)]
      · have := H.lb
        rw [if_pos (by omega)] at this
        rw [if_pos rfl]
        simp only [List.length_append, List.length_cons, List.length_nil]
        omega
theorem SplI.start (n : Nat) : SplI [] [] [] n n := ⟨trivial, trivial, by simp [els], by simp [els], by simp [cnt, els], by simp, fun _ => rfl⟩
/-- All numbers of a span and up that a set, from there on, does not have, up to M. -/
def wo (M : Int) : Int → List Sp → List Sp
  | lo, [] => if lo ≤ M then [(lo, M)] else []
  | lo, s :: l => (if lo < s.1 then [(lo, s.1 - 1)] else []) ++ wo M (s.2 + 1) l
end Go.Proofs.YtnpeahbbcolfmaaGreatDoor
namespace Go.Proofs.YtnpeahbbcolfmaaGreatDoor
open Go.RowKit
def Sp.row (s : Sp) : List Value := [.int .i64 s.1, .int .i64 s.2]
/-- The span as one value. -/
abbrev spv (s : Sp) : Value := .agg #[.int .i64 s.1, .int .i64 s.2]
/-- The slice v holds the spans l. -/
def SSeen (w : World) (v : Value) (l : List Sp) : Prop :=
  ∃ p cap, v = .slice p l.length cap ∧ l.length ≤ cap ∧ ∀ (j : Nat) (s : Sp), l[j]? = some s → ∃ b o, p = some ⟨b, o, none⟩ ∧ w.cell? ⟨b, o + j * 2, none⟩ = some (.int .i64 s.1) ∧ w.cell? ⟨b, o + j * 2 + 1, none⟩ = some (.int .i64 s.2)
/-- The rows of spans. -/
def sps (l : List Sp) : List Value := l.flatMap Sp.row
theorem sps_app (l m : List Sp) : sps (l ++ m) = sps l ++ sps m := List.flatMap_append ..
theorem sps_one (s : Sp) : sps [s] = [.int .i64 s.1, .int .i64 s.2] := by simp [sps, Sp.row]
theorem sps_length : ∀ (l : List Sp), (sps l).length = l.length * 2
  | [] => rfl
  | x :: l => by
    have ih := sps_length l
    unfold sps at ih ⊢
    rw [List.flatMap_cons, List.length_append, ih, List.length_cons]
    simp [Sp.row]; omega
theorem sps_cell (l : List Sp) : ∀ u ∈ sps l, u.oneCell' = true := fun u hu => by
  obtain ⟨x, _, hx⟩ := List.mem_flatMap.1 hu
  simp [Sp.row] at hx
  rcases hx with rfl | rfl <;> rfl
theorem sps_at : ∀ {l : List Sp} {i : Nat} {s : Sp}, l[i]? = some s → (sps l)[i * 2]? = some (.int .i64 s.1) ∧ (sps l)[i * 2 + 1]? = some (.int .i64 s.2)
  | [], i, s, h => by simp at h
  | y :: l, 0, s, h => by
    obtain rfl : y = s := by simpa using h
    exact ⟨rfl, rfl⟩
  | y :: l, i + 1, s, h => by
    have ih := sps_at (l := l) (i := i) (s := s) (by simpa using h)
    have e : sps (y :: l) = .int .i64 y.1 :: .int .i64 y.2 :: sps l := rfl
    rw [e, show (i + 1) * 2 = i * 2 + 1 + 1 from by omega]
    simpa using ih
/-- A slice of spans of the call's own. -/
abbrev SOwn (w : World) (B : Nat) (v : Value) (l : List Sp) : Prop := w.ownsRow B 51 2 v l.length (sps l)
theorem SOwn.seen {w : World} {B : Nat} {v : Value} {l : List Sp} (h : SOwn w B v l) : SSeen w v l := by
  rcases h.2 with ⟨rfl, h0⟩ | ⟨g, cap, cur, rfl, _, hg, hn, _, _, hc⟩
  · obtain rfl : l = [] := List.eq_nil_of_length_eq_zero h0
    exact ⟨none, 0, rfl, Nat.le_refl _, fun j s hj => by simp at hj⟩
  · refine ⟨_, cap, rfl, hn, fun j s hj => ⟨g, 0, rfl, ?_, ?_⟩⟩
    · have := h.cells (g := g) rfl (j * 2) _ (sps_at hj).1
      simpa [Addr.add_lit] using this
    · have := h.cells (g := g) rfl (j * 2 + 1) _ (sps_at hj).2
      simpa [Addr.add_lit, Nat.add_assoc] using this
theorem SSeen.kb {w w' : World} {v : Value} {l : List Sp} (h : SSeen w v l) (hb : Below w.heap.size w w') : SSeen w' v l := by
  obtain ⟨p, cap, e, hl, hs⟩ := h
  refine ⟨p, cap, e, hl, fun j s hj => ?_⟩
  obtain ⟨b, o, ep, h1, h2⟩ := hs j s hj
  have hb1 : b < w.heap.size := World.block_lt_of_cell? _ _ h1
  exact ⟨b, o, ep, (hb.cell (p := ⟨b, o + j * 2, none⟩) hb1).trans h1, (hb.cell (p := ⟨b, o + j * 2 + 1, none⟩) hb1).trans h2⟩
theorem SOwn.kb {w w' : World} {B : Nat} {v : Value} {l : List Sp} (h : SOwn w B v l) (hb : Below w.heap.size w w') : SOwn w' B v l := by
  refine ⟨h.1, ?_⟩
  rcases h.2 with h1 | ⟨g, cap, cur, h1, h2, hg, h3⟩
  · exact .inl h1
  · exact .inr ⟨g, cap, cur, h1, h2, (hb.block g (Array.getElem?_eq_some_iff.1 hg).1).trans hg, h3⟩
theorem SSeen.form {w : World} {v : Value} {l : List Sp} (h : SSeen w v l) : ∃ p cap, v = .slice p l.length cap := by
  obtain ⟨p, cap, e, _⟩ := h
  exact ⟨p, cap, e⟩
theorem SSeen.at {w : World} {p : Option Addr} {n cap : Nat} {l : List Sp} (h : SSeen w (.slice p n cap) l) {j : Nat} (hj : j < l.length) : ∃ b o, p = some ⟨b, o, none⟩ ∧ w.cell? ⟨b, o + j * 2, none⟩ = some (.int .i64 l[j].1) ∧ w.cell? ⟨b, o + j * 2 + 1, none⟩ = some (.int .i64 l[j].2) := by
  obtain ⟨p', cap', e, _, hs⟩ := h
  injection e with e1 e2 e3
  subst e1
  exact hs j _ (List.getElem?_eq_getElem hj)
theorem spinfo : (Tryz.prog.info? 51).map (fun i => (i.zero, i.size, i.bytes)) = some (some (.agg #[.int .i64 0, .int .i64 0]), 2, 16) := by kernel_rfl
theorem spsize : (Tryz.prog.info? 51).map (·.size) = some 2 := by kernel_rfl
theorem two_range {w : World} {b o : Nat} {u v : Value} (h1 : w.cell? ⟨b, o, none⟩ = some u) (h2 : w.cell? ⟨b, o + 1, none⟩ = some v) : w.rangeAt b o [u, v] := fun i x hi => by
  match i, hi with
  | 0, hi => obtain rfl : u = x := by simpa using hi
             exact h1
  | 1, hi => obtain rfl : v = x := by simpa using hi
             exact h2
theorem apart_to (w : World) (s t : Sp) (h : 0 ≤ t.1) (h1 : t.1 < 9223372036854775808) : Calls Tryz.prog 109 #[spv s, spv t] w fun e w' => e = .returned (.bool (decide (s.2 < t.1 - 1))) ∧ Below w.heap.size w w' := by
  obtain ⟨s1, s2⟩ := s
  obtain ⟨t1, t2⟩ := t
  simp only at h h1 ⊢
  have hw : wrap64 (t1 - 1) = t1 - 1 := by unfold wrap64; omega
  go_enter Tryz.func109, Tryz.ntmps109
  go_wp2
  go_ret
  exact ⟨by simp, ((Below.refl _ w).alloc (Nat.le_refl _) _).alloc (by simp) _⟩
end Go.Proofs.YtnpeahbbcolfmaaGreatDoor
namespace Go.Proofs.YtnpeahbbcolfmaaGreatDoor
open Go.RowKit
/-- The largest number. -/
def topN : Int := 9223372036854775807
theorem Nrm.take {l : List Sp} (h : Nrm l) (k : Nat) : Nrm (l.take k) := by
  have := h
  rw [← List.take_append_drop k l] at this
  exact this.left
theorem Top.take {M : Int} {l : List Sp} (h : Top M l) (k : Nat) : Top M (l.take k) := fun s hs => h s (List.mem_of_mem_take hs)
theorem below_drn10 {B : Nat} {a w : World} (h : Below B a w) (n : Nat) : Below B a (w.drewN n) := h.trans ⟨rfl, rfl, rfl, Nat.le_refl _, fun _ _ => rfl⟩
theorem sp_cells {W : World} {b : Nat} {x y : Value} {t : TypeId} (h : W.heap[b]? = some (.cells #[x, y] t (0, 0))) : W.cell? ⟨b, 0, none⟩ = some x ∧ W.cell? ⟨b, 1, none⟩ = some y := by
  constructor
  · rw [cell_of_row W b 0 _ _ _ h, List.getElem?_toArray]; rfl
  · rw [cell_of_row W b 1 _ _ _ h, List.getElem?_toArray]; rfl
theorem SOwn.drn {w : World} {B : Nat} {v : Value} {l : List Sp} (h : SOwn w B v l) (n : Nat) : SOwn (w.drewN n) B v l := h
theorem below_drew_then {w W1 w2 : World} (B : Below w.heap.size w W1) (b2 : Below W1.drew.heap.size W1.drew w2) : Below w.heap.size w w2 :=
  B.drew.trans (b2.mono B.size)
theorem nrm_snoc {l : List Sp} {s : Sp} : Nrm (l ++ [s]) ↔ Nrm l ∧ 0 ≤ s.1 ∧ s.1 ≤ s.2 ∧ (∀ t, l.getLast? = some t → t.2 + 1 < s.1) := by
  constructor
  · intro h
    have h1 := h.right
    refine ⟨h.left, h1.1, h1.2.1, fun t ht => h.mid t (List.mem_of_getLast? ht) s (by simp)⟩
  · rintro ⟨h1, h2, h3, h4⟩
    refine h1.app (nrm_one h2 h3) fun t ht u hu => ?_
    obtain rfl : u = s := by simpa using hu
    obtain ⟨z, hz⟩ : ∃ z, l.getLast? = some z := by
      cases h : l.getLast? with
      | none => rw [List.getLast?_eq_none_iff.1 h] at ht; simp at ht
      | some z => exact ⟨z, rfl⟩
    have h5 := h4 z hz
    obtain ⟨l', rfl⟩ := List.getLast?_eq_some_iff.1 hz
    rcases List.mem_append.1 ht with ht | ht
    · have h6 := h1.mid t ht z (by simp)
      have h7 := h1.mem z (by simp)
      omega
    · obtain rfl : t = z := by simpa using ht
      exact h5
end Go.Proofs.YtnpeahbbcolfmaaGreatDoor
namespace Go.Proofs.YtnpeahbbcolfmaaGreatDoor
open Go.RowKit Go.Shelf
open Go.Sort (HoldsK putRowK flatK grow PermIn SortedIn SWO)
def Tryz.ssortf_ren : Go.Shelf.Ren := ⟨fun | 6 => 121 | 15 => 125 | 14 => 128 | 28 => 138 | 29 => 139 | 20 => 141 | 21 => 142 | 22 => 143 | 23 => 144 | 24 => 145 | 25 => 146 | 26 => 147 | 27 => 148 | 46 => 154 | 47 => 150 | 48 => 151 | 49 => 155 | 50 => 156 | 57 => 158 | n => n, fun | 22 => 46 | 24 => 51 | 25 => 196 | 3 => 3 | 39 => 199 | 0 => 0 | 53 => 212 | 55 => 214 | 4 => 4 | 46 => 206 | 45 => 205 | 50 => 44 | 5 => 5 | 9 => 9 | 66 => 220 | 70 => 224 | 76 => 228 | 77 => 229 | n => n, fun | n => n⟩
theorem Tryz.ssortf : Go.Proofs.SlLaysF0.n6 Tryz.prog Tryz.ssortf_ren := {
  mixed := by kernel_rfl
  f6 := ⟨Tryz.f121.name, by decide, Tryz.func121.trans (congrArg some (by kernel_rfl))⟩
  f14 := ⟨Tryz.f128.name, by decide, Tryz.func128.trans (congrArg some (by kernel_rfl))⟩
  f15 := Tryz.func125.trans (congrArg some (by kernel_rfl))
  f20 := ⟨Tryz.f141.name, by decide, Tryz.func141.trans (congrArg some (by kernel_rfl))⟩
  f21 := ⟨Tryz.f142.name, by decide, Tryz.func142.trans (congrArg some (by kernel_rfl))⟩
  f22 := ⟨Tryz.f143.name, by decide, Tryz.func143.trans (congrArg some (by kernel_rfl))⟩
  f23 := ⟨Tryz.f144.name, by decide, Tryz.func144.trans (congrArg some (by kernel_rfl))⟩
  f24 := ⟨Tryz.f145.name, by decide, Tryz.func145.trans (congrArg some (by kernel_rfl))⟩
  f25 := ⟨Tryz.f146.name, by decide, Tryz.func146.trans (congrArg some (by kernel_rfl))⟩
  f26 := ⟨Tryz.f147.name, by decide, Tryz.func147.trans (congrArg some (by kernel_rfl))⟩
  f27 := ⟨Tryz.f148.name, by decide, Tryz.func148.trans (congrArg some (by kernel_rfl))⟩
  f28 := Tryz.func138.trans (congrArg some (by kernel_rfl))
  f29 := Tryz.func139.trans (congrArg some (by kernel_rfl))
  f46 := ⟨Tryz.f154.name, by decide, Tryz.func154.trans (congrArg some (by kernel_rfl))⟩
  f47 := Tryz.func150.trans (congrArg some (by kernel_rfl))
  f48 := Tryz.func151.trans (congrArg some (by kernel_rfl))
  f49 := ⟨Tryz.f155.name, by decide, Tryz.func155.trans (congrArg some (by kernel_rfl))⟩
  f50 := ⟨Tryz.f156.name, by decide, Tryz.func156.trans (congrArg some (by kernel_rfl))⟩
  f57 := ⟨Tryz.f158.name, by decide, Tryz.func158.trans (congrArg some (by kernel_rfl))⟩
  t0 := Tryz.underlying0
  a0 := Tryz.isAgg0
  z0 := Tryz.sizeOf0
  v0 := Tryz.zeroValue0
  t3 := Tryz.underlying3
  a3 := Tryz.isAgg3
  z3 := Tryz.sizeOf3
  v3 := Tryz.zeroValue3
  t4 := Tryz.underlying4
  a4 := Tryz.isAgg4
  z4 := Tryz.sizeOf4
  v4 := Tryz.zeroValue4
  t5 := Tryz.underlying5
  a5 := Tryz.isAgg5
  z5 := Tryz.sizeOf5
  v5 := Tryz.zeroValue5
  t9 := Tryz.underlying9
  a9 := Tryz.isAgg9
  z9 := Tryz.sizeOf9
  v9 := Tryz.zeroValue9
  t22 := Tryz.underlying46
  a22 := Tryz.isAgg46
  z22 := Tryz.sizeOf46
  v22 := Tryz.zeroValue46
  t25 := Tryz.underlying196
  a25 := Tryz.isAgg196
  z25 := Tryz.sizeOf196
  v25 := Tryz.zeroValue196
  t39 := Tryz.underlying199
  a39 := Tryz.isAgg199
  z39 := Tryz.sizeOf199
  v39 := Tryz.zeroValue199
  t45 := Tryz.underlying205
  a45 := Tryz.isAgg205
  z45 := Tryz.sizeOf205
  v45 := Tryz.zeroValue205
  t46 := Tryz.underlying206
  a46 := Tryz.isAgg206
  z46 := Tryz.sizeOf206
  v46 := Tryz.zeroValue206
  t50 := Tryz.underlying44
  a50 := Tryz.isAgg44
  z50 := Tryz.sizeOf44
  v50 := Tryz.zeroValue44
  t53 := Tryz.underlying212
  a53 := Tryz.isAgg212
  z53 := Tryz.sizeOf212
  v53 := Tryz.zeroValue212
  t55 := Tryz.underlying214
  a55 := Tryz.isAgg214
  z55 := Tryz.sizeOf214
  v55 := Tryz.zeroValue214
  t66 := Tryz.underlying220
  a66 := Tryz.isAgg220
  z66 := Tryz.sizeOf220
  v66 := Tryz.zeroValue220
  t70 := Tryz.underlying224
  a70 := Tryz.isAgg224
  z70 := Tryz.sizeOf224
  v70 := Tryz.zeroValue224
  t76 := Tryz.underlying228
  a76 := Tryz.isAgg228
  z76 := Tryz.sizeOf228
  v76 := Tryz.zeroValue228
  t77 := Tryz.underlying229
  a77 := Tryz.isAgg229
  z77 := Tryz.sizeOf229
  v77 := Tryz.zeroValue229 }

theorem SOwn.shape {w : World} {B : Nat} {v : Value} {l : List Sp} (h : SOwn w B v l) : ∃ p c, v = .slice p l.length c := h.seen.form
theorem SOwn.nil (w : World) (B : Nat) : SOwn w B (.slice none 0 0) [] := World.ownsRow_nil ..
theorem SOwn.kept {w w' : World} {B : Nat} {v : Value} {l : List Sp} {S : Nat → Prop} (h : SOwn w B v l) (ho : Only S w w') (hS : ∀ k, v.ownBlock = some k → ¬ S k) : SOwn w' B v l := by
  refine ⟨h.1, ?_⟩
  rcases h.2 with h1 | ⟨g, cap, cur, rfl, h2, hg, h3⟩
  · exact .inl h1
  · exact .inr ⟨g, cap, cur, rfl, h2, (ho.block g (Array.getElem?_eq_some_iff.1 hg).1 (hS g rfl)).trans hg, h3⟩
theorem SOwn.mono {w : World} {B B' : Nat} {v : Value} {l : List Sp} (h : SOwn w B v l) (hB : B' ≤ B) : SOwn w B' v l := by
  refine ⟨h.1, ?_⟩
  rcases h.2 with h1 | ⟨g, cap, cur, h1, h2, h3⟩
  · exact .inl h1
  · exact .inr ⟨g, cap, cur, h1, Nat.le_trans hB h2, h3⟩
theorem SOwn.below {w w' : World} {B : Nat} {v : Value} {l : List Sp} (h : SOwn w B v l) (ho : Only (fun j => v.ownBlock = some j) w w') (hB : B ≤ w.heap.size) : Below B w w' := ho.below hB (fun k hk => (h.lt k hk).1)
theorem span_fits {n : Nat} (h : n ≤ 1000000) : n + 1 ≤ maxLen ∧ (n + 1) * 16 ≤ 140737488355328 := by unfold maxLen; omega
section
variable {ops : Array Oper} {rest : List Oper} {a : Act} {Q : Exit → Act → World → Prop} {o : Oper} {w : World} {K : Act → World → Prop} {X : Prop}
/-- append(v, s): behind the making of the slice of s. -/
theorem push_span (hgd : o.guard = none) (s x : Operand) (ho : o.op = .call { callee := .builtin .append, args := #[s, x], argTypes := #[46, 46] })
    (y : Sp) (B : Nat) (v : Value) (l : List Sp) (hs : a.eval s = v) (hown : SOwn w B v l) (N : Nat) (hN : w.heap.size = N) (hx : a.eval x = .slice (some ⟨N, 0, none⟩) 1 1) (hl : l.length ≤ 1000000) (hB : B ≤ w.heap.size)
    (h : ∀ p' c' w', SOwn w' B (.slice p' (l.length + 1) c') (l ++ [y]) → Only (fun j => v.ownBlock = some j) w w' → (∀ j, (Value.slice p' (l.length + 1) c').ownBlock = some j → v.ownBlock = some j ∨ w.heap.size ≤ j) → Below B w w' → wpList Tryz.prog ops Q rest (a.put o.dst (.slice p' (l.length + 1) c')) w') :
    wpList Tryz.prog ops Q (o :: rest) a (w.alloc (.cells #[.int .i64 y.1, .int .i64 y.2] 51)) := by
  subst hN
  obtain ⟨i0, hi0, hz0, hz1, hz2⟩ := info_parts spinfo
  have hf := span_fits hl
  refine wpList_append_lies _ hgd s x _ ho B 51 i0 _ 2 16 Tryz.underlying46 hi0 hz0 hz1 hz2 rfl (by omega) v l.length (sps l) hs (hown.alloc _) ⟨w.heap.size, 0, none⟩ 1 1 [.int .i64 y.1, .int .i64 y.2] hx rfl (World.news_of_block (cs := #[_, _]) (t := 51) (fr := (0, 0)) (heap_alloc_new w _)) (by simp [Value.oneCell']) (by decide) hf.1 hf.2 (by simp; omega) (w.heap.size + 1) (by simp) ?_
  intro g cap w' own grow hat _
  refine h _ _ w' ?_ (((Only.refl _ w).alloc _).grown grow (fun k _ e => e)) (fun j hj => ?_) ?_
  · unfold SOwn
    rw [List.length_append, sps_app, sps_one]
    exact own
  · have hj' : g = j := by simpa [Value.ownBlock] using hj
    subst hj'
    exact hat.imp id (fun e => by omega)
  · exact (((Only.refl _ w).alloc _).grown grow (fun k _ e => e)).below hB (fun k hk => (hown.lt k hk).1)
end
theorem nan_to (w : World) (n : Int) : Calls Tryz.prog 129 #[.int .i64 n] w fun e w' => e = .returned (.bool false) ∧ w' = w := by
  go_enter Tryz.func129, Tryz.ntmps129
  go_wp2
  go_ret
  exact ⟨by simp, rfl⟩
def cfI (x y : Int) : Int := if x < y then -1 else if y < x then 1 else 0
theorem compare_int (w : World) (x y : Int) : Calls Tryz.prog 123 #[.int .i64 x, .int .i64 y] w fun e w' => e = .returned (.int .i64 (cfI x y)) ∧ w' = w := by
  unfold cfI
  go_enter Tryz.func123, Tryz.ntmps123
  by_cases h1 : x < y
  · rw [if_pos h1]
    have d1 : decide (x < y) = true := by simpa using h1
    go_wp2_with (first
      | (go_at_call 129; refine (nan_to _ _).mono ?_; rintro e w2 ⟨rfl, rfl⟩))
    go_ret
    exact ⟨rfl, rfl⟩
  · rw [if_neg h1]
    have d1 : decide (x < y) = false := by simpa using h1
    by_cases h2 : y < x
    · rw [if_pos h2]
      have d2 : decide (x > y) = true := by simpa using h2
      have d2' : decide (y < x) = true := by simpa using h2
      go_wp2_with (first
        | (go_at_call 129; refine (nan_to _ _).mono ?_; rintro e w2 ⟨rfl, rfl⟩))
      go_ret
      exact ⟨rfl, rfl⟩
    · rw [if_neg h2]
      have d2 : decide (x > y) = false := by simpa using h2
      have d2' : decide (y < x) = false := by simpa using h2
      go_wp2_with (first
        | (go_at_call 129; refine (nan_to _ _).mono ?_; rintro e w2 ⟨rfl, rfl⟩))
      go_ret
      exact ⟨rfl, rfl⟩
/-- Spans by their lower ends. -/
def cfS (x y : Sp) : Int := cfI x.1 y.1
theorem cmp_to (w : World) (x y : Sp) : Calls Tryz.prog 122 #[spv x, spv y] w fun e w' => e = .returned (.int .i64 (cfS x y)) ∧ w' = (w.alloc (.cells #[.int .i64 x.1, .int .i64 x.2] 51)).alloc (.cells #[.int .i64 y.1, .int .i64 y.2] 51) := by
  go_enter Tryz.func122, Tryz.ntmps122
  go_wp2_with (first
    | (go_at_call 123; refine (compare_int _ x.1 y.1).mono ?_; rintro e w2 ⟨rfl, rfl⟩))
  go_ret
  exact ⟨rfl, rfl⟩
theorem ltS (x y : Sp) : ltOf cfS x y = decide (x.1 < y.1) := by
  unfold ltOf cfS cfI
  by_cases h : x.1 < y.1
  · simp [h]
  · by_cases h2 : y.1 < x.1
    · simp [h, h2]
    · simp [h, h2]
theorem swoS : SWO (ltOf cfS) where
  irrefl x := by rw [ltS]; simp
  trans x y z h k := by rw [ltS] at *; simp at *; omega
  ntrans x y z h k := by rw [ltS] at *; simp at *; omega
theorem row_length (x : Sp) : (Sp.row x).length = 2 := rfl
theorem row_one' (x : Sp) : ∀ v ∈ Sp.row x, v.oneCell' = true := fun v hv => by
  simp [Sp.row] at hv
  rcases hv with rfl | rfl <;> rfl
theorem lays_cmpS (blk off size : Nat) (w : World) : CmpLays Tryz.prog 122 #[] Sp.row 2 cfS blk off size w := fun m os dk _ x y => by
  have h := cmp_to (sortWorldK Sp.row 2 w blk off m dk os) x y
  refine h.mono ?_
  rintro e w' ⟨he, hw⟩
  exact ⟨he, 0, _, by rw [hw, Sort.alloc_eq_grow, Sort.alloc_eq_grow, Sort.grow_grow]; rfl⟩
theorem flat_sps (d : Array Sp) : (flatK Sp.row 2 d).toList = sps d.toList := by
  refine List.ext_getElem? fun t => ?_
  by_cases ht : t < d.size * 2
  · have hi : t / 2 < d.size := by omega
    have hg := Sort.get_flatK Sp.row 2 d t ht
    have hs : t < (flatK Sp.row 2 d).size := by rw [Sort.size_flatK]; exact ht
    have e1 : (flatK Sp.row 2 d).toList[t]? = some ((Sp.row d[t / 2]!)[t % 2]!) := by
      rw [Array.getElem?_toList, Array.getElem?_eq_getElem hs, ← hg, getElem!_pos _ t hs]
    have hd : d[t / 2]! = d[t / 2] := getElem!_pos d (t / 2) hi
    have hi2 : t / 2 < d.toList.length := by simpa using hi
    have e2 := sps_at (l := d.toList) (i := t / 2) (s := d[t / 2]) (by rw [List.getElem?_eq_getElem hi2]; simp)
    rw [e1, hd]
    obtain ⟨s, hs2⟩ : ∃ s, s = d[t / 2] := ⟨_, rfl⟩
    rw [← hs2] at e2 ⊢
    rcases Nat.mod_two_eq_zero_or_one t with h | h
    · have e3 := e2.1
      rw [show t / 2 * 2 = t from by omega] at e3
      rw [h, e3]; rfl
    · have e3 := e2.2
      rw [show t / 2 * 2 + 1 = t from by omega] at e3
      rw [h, e3]; rfl
  · rw [List.getElem?_eq_none (by rw [Array.length_toList, Sort.size_flatK]; omega), List.getElem?_eq_none (by rw [sps_length]; simp; omega)]
theorem sput_row (F : Array Value) (C R : List Value) (h : F.size = C.length) : Sort.putCells id 0 F (C ++ R).toArray = (F.toList ++ R).toArray := by
  apply Array.ext_getElem?
  intro t
  unfold Sort.putCells
  rw [Array.getElem?_mapIdx, List.getElem?_toArray, List.getElem?_toArray]
  by_cases ht : t < F.size
  · rw [List.getElem?_append_left (by omega), List.getElem?_append_left (by simpa using ht), List.getElem?_eq_getElem (show t < C.length by omega)]
    simp [ht]
  · rw [List.getElem?_append_right (by omega), List.getElem?_append_right (by simp; omega), show F.toList.length = C.length from by simpa using h]
    generalize R[t - C.length]? = o
    cases o with
    | none => rfl
    | some v => rw [Option.map_some, if_neg (by omega)]
theorem sgrow_at (X : World) (os : Array Obj) (k : Nat) (hk : k < X.heap.size) : (grow X os).heap[k]? = X.heap[k]? := by
  show (X.heap ++ os)[k]? = _
  rw [Array.getElem?_append_left hk]
theorem sputK_at (w : World) (n g : Nat) (d : Array Sp) (k : Nat) : (putRowK Sp.row 2 (Sort.ahead w n) g 0 d).heap[k]? = if g = k then (w.heap[k]?).map (Sort.onCells (Sort.putCells id 0 (flatK Sp.row 2 d))) else w.heap[k]? := by
  show (w.heap.modify g (Sort.onCells (Sort.putCells id 0 (flatK Sp.row 2 d))))[k]? = _
  rw [Array.getElem?_modify]
theorem sputK_size (w : World) (n g : Nat) (d : Array Sp) : (putRowK Sp.row 2 (Sort.ahead w n) g 0 d).heap.size = w.heap.size := by
  show (w.heap.modify g (Sort.onCells (Sort.putCells id 0 (flatK Sp.row 2 d)))).size = _
  rw [Array.size_modify]
theorem ssort_row (w : World) (g cap : Nat) (E : List Sp) (R : List Value) (hg : w.heap[g]? = some (.cells (sps E ++ R).toArray 51 (0, 0))) (hn : E.length ≤ 1000000) :
    Calls Tryz.prog 121 #[.slice (some ⟨g, 0, none⟩) E.length cap, .func (.func 122) #[] #[]] w fun e w' => e = .returned (.tuple #[]) ∧
      ∃ E', E'.length = E.length ∧ (∀ a, a ∈ E' ↔ a ∈ E) ∧ E'.Pairwise (fun a b => a.1 ≤ b.1) ∧ w'.heap[g]? = some (.cells (sps E' ++ R).toArray 51 (0, 0)) ∧ Only (fun k => k = g) w w' := by
  have eg : ∀ args w, (callFunc 122 args).run Tryz.prog w = .ok (.enter 122 args) w := enters_of Tryz.func122 (by kernel_rfl) rfl
  obtain ⟨d, hdm⟩ : ∃ d : Array Sp, d.toList = E := ⟨E.toArray, by simp⟩
  have hds : d.size = E.length := by rw [← hdm]; simp
  have hfl := flat_sps d
  rw [hdm] at hfl
  have hgl := (Array.getElem?_eq_some_iff.1 hg).1
  have hH : HoldsK Sp.row 2 w g 0 d := fun t ht => by
    rw [Nat.zero_add]
    have hs : t < (sps E).length := by rw [← hfl]; simpa using ht
    constructor
    · rw [cell_of_row w g t _ _ _ hg, List.getElem?_toArray, List.getElem?_append_left hs, ← hfl, Array.getElem?_toList, getElem!_pos _ t ht]
      simp
    · simp [World.frozen?, hg]
  have hc := AnyQ.slices_SortFunc Tryz.ssortf 2 Tryz.isAgg51 Tryz.sizeOf51 Sp.row row_length row_one' cfS swoS 122 #[] g 0 cap d w eg (lays_cmpS g 0 d.size w) hH hgl (by omega)
  rw [hds] at hc
  refine Calls.mono hc ?_
  rintro e w' ⟨he, d', n, os, hp, hso, rfl⟩
  refine ⟨he, d'.toList, ?_, ?_, ?_, ?_, ?_⟩
  · rw [Array.length_toList, hp.1, hds]
  · intro a
    have hpm := hp.2.2
    have e1 : d'.extract 0 E.length = d' := by rw [← hds, ← hp.1]; exact Array.extract_size
    have e2 : d.extract 0 E.length = d := by rw [← hds]; exact Array.extract_size
    rw [e1, e2] at hpm
    rw [← hdm]
    exact hpm.mem_iff
  · rw [List.pairwise_iff_getElem]
    intro i j hi hj hij
    have hi' : i < d'.size := by simpa using hi
    have hj' : j < d'.size := by simpa using hj
    have h := hso i j (Nat.zero_le _) hij (by rw [← hds, ← hp.1]; exact hj')
    rw [getElem!_pos d' i hi', getElem!_pos d' j hj', ltS] at h
    simpa using h
  · show (grow (putRowK Sp.row 2 (Sort.ahead w n) g 0 d') os).heap[g]? = _
    rw [sgrow_at _ _ _ (by rw [sputK_size]; exact hgl), sputK_at, if_pos rfl, hg]
    show some (Obj.cells (Sort.putCells id 0 (flatK Sp.row 2 d') (sps E ++ R).toArray) _ _) = _
    rw [sput_row _ _ _ (by rw [Sort.size_flatK, hp.1, hds, sps_length]), flat_sps]
  · refine ⟨rfl, rfl, rfl, ?_, fun k hk hn => ?_⟩
    · show _ ≤ ((putRowK Sp.row 2 (Sort.ahead w n) g 0 d').heap ++ os).size
      rw [Array.size_append, sputK_size]; omega
    · show (grow (putRowK Sp.row 2 (Sort.ahead w n) g 0 d') os).heap[k]? = _
      rw [sgrow_at _ _ _ (by rw [sputK_size]; exact hk), sputK_at, if_neg (fun e => hn e.symm)]
end Go.Proofs.YtnpeahbbcolfmaaGreatDoor
namespace Go.Proofs.YtnpeahbbcolfmaaGreatDoor
open Go.RowKit
/-- The slice v holds the numbers l. -/
def NSeen (w : World) (v : Value) (l : List Int) : Prop :=
  ∃ p cap, v = .slice p l.length cap ∧ l.length ≤ cap ∧ ∀ (j : Nat) (x : Int), l[j]? = some x → ∃ a, p = some a ∧ w.cell? (a.add j) = some (.int .i64 x)
theorem NSeen.form {w : World} {v : Value} {l : List Int} (h : NSeen w v l) : ∃ p cap, v = .slice p l.length cap := by
  obtain ⟨p, cap, e, _⟩ := h
  exact ⟨p, cap, e⟩
theorem NSeen.kb {w w' : World} {v : Value} {l : List Int} (h : NSeen w v l) (hb : Below w.heap.size w w') : NSeen w' v l := by
  obtain ⟨p, cap, e, hl, hs⟩ := h
  refine ⟨p, cap, e, hl, fun j x hj => ?_⟩
  obtain ⟨a, ep, h1⟩ := hs j x hj
  exact ⟨a, ep, (hb.cell (World.block_lt_of_cell? _ _ h1)).trans h1⟩
theorem NSeen.at {w : World} {p : Option Addr} {n cap : Nat} {l : List Int} (h : NSeen w (.slice p n cap) l) {j : Nat} (hj : j < l.length) : ∃ a, p = some a ∧ w.cell? (a.add j) = some (.int .i64 l[j]) := by
  obtain ⟨p', cap', e, _, hs⟩ := h
  injection e with e1 e2 e3
  subst e1
  exact hs j _ (List.getElem?_eq_getElem hj)
/-- The first n of it. -/
theorem NSeen.take {w : World} {p : Option Addr} {n cap m : Nat} {l : List Int} (h : NSeen w (.slice p n cap) l) (hm : m ≤ l.length) : NSeen w (.slice p m cap) (l.take m) := by
  obtain ⟨p', cap', e, hc, hs⟩ := h
  injection e with e1 e2 e3
  subst e1 e3
  have hlt : (l.take m).length = m := by rw [List.length_take]; omega
  refine ⟨p, cap, by rw [hlt], by omega, fun j x hj => hs j x ?_⟩
  rw [List.getElem?_take] at hj
  split at hj
  · exact hj
  · simp at hj
end Go.Proofs.YtnpeahbbcolfmaaGreatDoor
namespace Go.Proofs.YtnpeahbbcolfmaaGreatDoor
open Go.RowKit
end Go.Proofs.YtnpeahbbcolfmaaGreatDoor
namespace Go.Proofs.YtnpeahbbcolfmaaGreatDoor
structure MgI (E : List Sp) (k : Nat) (L : List Sp) : Prop where
  nrm : Nrm L
  has : ∀ x, Has L x ↔ Has (E.take k) x
  low : ∀ t ∈ L, ∃ u ∈ E.take k, t.1 ≤ u.1
  len : L.length ≤ k
theorem MgI.start (E : List Sp) : MgI E 0 [] := ⟨trivial, fun x => by simp, fun t ht => by simp at ht, Nat.le_refl _⟩
theorem MgI.first {E : List Sp} {k : Nat} {s : Sp} (H : MgI E k []) (hs : E[k]? = some s) (h : 0 ≤ s.1 ∧ s.1 ≤ s.2) : MgI E (k + 1) [s] := by
  have e : E.take (k + 1) = E.take k ++ [s] := by rw [List.take_add_one, hs]; rfl
  refine ⟨nrm_one h.1 h.2, fun x => ?_, fun t ht => ?_, by simp⟩
  · rw [e, has_app, ← H.has, has_nil]; simp
  · obtain rfl : t = s := by simpa using ht
    exact ⟨t, by rw [e]; simp, Int.le_refl _⟩
theorem MgI.snoc {E : List Sp} {k : Nat} {L : List Sp} {s t : Sp} (H : MgI E k (L ++ [t])) (hs : E[k]? = some s) (h : 0 ≤ s.1 ∧ s.1 ≤ s.2) (c : t.2 < s.1 - 1) : MgI E (k + 1) (L ++ [t] ++ [s]) := by
  have e : E.take (k + 1) = E.take k ++ [s] := by rw [List.take_add_one, hs]; rfl
  refine ⟨nrm_snoc.2 ⟨H.nrm, h.1, h.2, fun u hu => ?_⟩, fun x => ?_, fun u hu => ?_, ?_⟩
  · obtain rfl : t = u := by simpa using hu
    omega
  · rw [e, has_app (l := L ++ [t]), has_app (l := E.take k), H.has]
  · rcases List.mem_append.1 hu with hu | hu
    · obtain ⟨y, hy, h1⟩ := H.low u hu
      exact ⟨y, by rw [e]; exact List.mem_append_left _ hy, h1⟩
    · obtain rfl : u = s := by simpa using hu
      exact ⟨u, by rw [e]; simp, Int.le_refl _⟩
  · have := H.len
    simp at this ⊢; omega
theorem MgI.wide {E : List Sp} {k : Nat} {L : List Sp} {s t : Sp} (hp : E.Pairwise (fun a b => a.1 ≤ b.1)) (H : MgI E k (L ++ [t])) (hs : E[k]? = some s) (c : ¬ t.2 < s.1 - 1) : MgI E (k + 1) (L ++ [(t.1, max t.2 s.2)]) := by
  have e : E.take (k + 1) = E.take k ++ [s] := by rw [List.take_add_one, hs]; rfl
  have ht := H.nrm.right
  have hts : t.1 ≤ s.1 := by
    obtain ⟨u, hu, h1⟩ := H.low t (by simp)
    have hp' : (E.take (k + 1)).Pairwise (fun a b => a.1 ≤ b.1) := hp.sublist (List.take_sublist _ _)
    rw [e, List.pairwise_append] at hp'
    have := hp'.2.2 u hu s (by simp)
    omega
  refine ⟨H.nrm.left.app (nrm_one ht.1 (by have := ht.2.1; simp only; omega)) fun u hu v hv => ?_, fun x => ?_, fun u hu => ?_, by have := H.len; simp at this ⊢; omega⟩
  · obtain rfl : v = (t.1, max t.2 s.2) := by simpa using hv
    exact H.nrm.mid u hu t (by simp)
  · rw [e, has_app, has_app, ← H.has, has_app, has_one, has_one, has_one, or_assoc]
    refine or_congr Iff.rfl ?_
    simp only
    omega
  · rcases List.mem_append.1 hu with hu | hu
    · obtain ⟨y, hy, h1⟩ := H.low u (List.mem_append_left _ hu)
      exact ⟨y, by rw [e]; exact List.mem_append_left _ hy, h1⟩
    · obtain rfl : u = (t.1, max t.2 s.2) := by simpa using hu
      exact ⟨s, by rw [e]; simp, hts⟩
theorem mgI_done {E l : List Sp} {L : List Sp} (H : MgI E E.length L) (hm : ∀ a, a ∈ E ↔ a ∈ clip l) : L = mk l := by
  refine mk_eq H.nrm fun x => ?_
  rw [H.has, List.take_length, has_perm hm, clip_has]
end Go.Proofs.YtnpeahbbcolfmaaGreatDoor
namespace Go.Proofs.YtnpeahbbcolfmaaGreatDoor
open Go.RowKit
set_option maxRecDepth 20000
theorem SOwn.row {w : World} {B : Nat} {v : Value} {E : List Sp} (h : SOwn w B v E) (h0 : 0 < E.length) : ∃ g cap R, v = .slice (some ⟨g, 0, none⟩) E.length cap ∧ B ≤ g ∧ w.heap[g]? = some (.cells (sps E ++ R).toArray 51 (0, 0)) ∧ E.length ≤ cap ∧ cap ≤ maxLen ∧ R.length = (cap - E.length) * 2 := by
  rcases h.2 with ⟨_, hn⟩ | ⟨g, cap, cur, rfl, hb, hg, hn, hm, hs, ht⟩
  · omega
  · refine ⟨g, cap, cur.toList.drop (E.length * 2), rfl, hb, ?_, hn, hm, ?_⟩
    · rw [← ht, List.take_append_drop]; simpa using hg
    · rw [List.length_drop, Array.length_toList, hs, Nat.sub_mul]
theorem sown_mk {w : World} {B g cap n : Nat} {E : List Sp} {R : List Value} (hn : n = E.length) (hb : B ≤ g) (hg : w.heap[g]? = some (.cells (sps E ++ R).toArray 51 (0, 0))) (hc : E.length ≤ cap) (hm : cap ≤ maxLen) (hR : R.length = (cap - E.length) * 2) : SOwn w B (.slice (some ⟨g, 0, none⟩) n cap) E := by
  subst hn
  refine ⟨sps_length E, .inr ⟨g, cap, (sps E ++ R).toArray, rfl, hb, hg, hc, hm, ?_, ?_⟩⟩
  · show (sps E ++ R).length = cap * 2
    rw [List.length_append, sps_length, hR, ← Nat.add_mul]
    congr 1; omega
  · rw [show (sps E ++ R).toArray.toList = sps E ++ R from rfl, ← sps_length, List.take_left]
/-- slices.SortFunc over a slice of the call's own. -/
theorem ssort_to (w : World) (B : Nat) (v : Value) (E : List Sp) (h : SOwn w B v E) (hn : E.length ≤ 1000000) (hB : B ≤ w.heap.size) (h0 : 0 < E.length) :
    Calls Tryz.prog 121 #[v, .func (.func 122) #[] #[]] w fun e w' => e = .returned (.tuple #[]) ∧
      ∃ E', E'.length = E.length ∧ (∀ a, a ∈ E' ↔ a ∈ E) ∧ E'.Pairwise (fun a b => a.1 ≤ b.1) ∧ SOwn w' B v E' ∧ Below B w w' := by
  obtain ⟨g, cap, R, rfl, hb, hg, hc, hm, hR⟩ := h.row h0
  refine Calls.mono (ssort_row w g cap E R hg hn) ?_
  rintro e w' ⟨he, E', hl, hme, hp, hg', ho⟩
  exact ⟨he, E', hl, hme, hp, sown_mk hl.symm hb hg' (by omega) hm (by omega), ho.below hB (fun k hk => by rw [hk]; exact hb)⟩
/-- An empty slice: nothing is done. -/
theorem ssort_none (w : World) (p : Option Addr) (cap : Nat) : Calls Tryz.prog 121 #[.slice p 0 cap, .func (.func 122) #[] #[]] w fun e w' => e = .returned (.tuple #[]) ∧ w' = w := by
  refine (AnyF.slices_SortFunc_none Tryz.ssortf p cap (.func (.func 122) #[] #[]) w).mono ?_
  rintro e w' h
  exact h
/-- slices.SortFunc over any slice of the call's own. -/
theorem ssort_any (w : World) (B : Nat) (v : Value) (E : List Sp) (h : SOwn w B v E) (hn : E.length ≤ 1000000) (hB : B ≤ w.heap.size) :
    Calls Tryz.prog 121 #[v, .func (.func 122) #[] #[]] w fun e w' => e = .returned (.tuple #[]) ∧
      ∃ E', E'.length = E.length ∧ (∀ a, a ∈ E' ↔ a ∈ E) ∧ E'.Pairwise (fun a b => a.1 ≤ b.1) ∧ SOwn w' B v E' ∧ Below B w w' := by
  cases E with
  | nil =>
    obtain ⟨p, c, rfl⟩ := h.shape
    refine (ssort_none w p c).mono ?_
    rintro e w' ⟨he, rfl⟩
    exact ⟨he, [], rfl, fun _ => Iff.rfl, .nil, h, Below.refl _ _⟩
  | cons x E => exact ssort_to w B v (x :: E) h hn hB (by simp)
theorem clip_snoc {l : List Sp} {k : Nat} (hk : k < l.length) : clip (l.take (k + 1)) = clip (l.take k) ++ (if max l[k].1 0 ≤ l[k].2 then [(max l[k].1 0, l[k].2)] else []) := by
  rw [List.take_add_one, List.getElem?_eq_getElem hk, clip_app]
  exact congrArg _ (clip_one _)
theorem clip_fits (l : List Sp) (hl : l.length ≤ 1000000) (k : Nat) : (clip (l.take k)).length ≤ 1000000 := by
  have := clip_len (l.take k)
  have := List.length_take_le k l
  rw [List.length_take] at *
  omega
set_option maxHeartbeats 4000000 in
theorem ascending_to (w : World) (v : Value) (l : List Sp) (hs : SSeen w v l) (hl : l.length ≤ 1000000) : Calls Tryz.prog 108 #[v] w fun e w' => ∃ v' E, e = .returned v' ∧ SOwn w' w.heap.size v' E ∧ (∀ a, a ∈ E ↔ a ∈ clip l) ∧ E.length ≤ l.length ∧ E.Pairwise (fun a b => a.1 ≤ b.1) ∧ Below w.heap.size w w' := by
  obtain ⟨p, cap, rfl⟩ := hs.form
  have HS := Lib.hid hs
  have HF := Lib.hid (clip_fits l hl)
  obtain ⟨n, hn'⟩ : ∃ n, n = l.length := ⟨_, rfl⟩
  rw [← hn'] at hl HS ⊢
  have HL := Lib.hid hn'
  clear hs hn'
  go_enter Tryz.func108, Tryz.ntmps108
  go_wp2_with fail
  go_loopw [3, 8] (fun z i wr => ∃ k : Nat, k ≤ n ∧ i = .int .i64 k ∧ Hid (SOwn wr w.heap.size z (clip (l.take k))) ∧ Hid (Below w.heap.size w wr)) (fun _ i _ => n - (intOf i).toNat)
  case atStart => exact ⟨0, Nat.zero_le _, rfl, Lib.hid (SOwn.nil w _), Lib.hid (Below.refl _ w)⟩
  case round =>
    obtain ⟨k, hk, rfl, O, B⟩ := hrel
    by_cases hlt : k < n
    · have hkl : k < l.length := by rw [← HL.out]; exact hlt
      obtain ⟨b, o, rfl, c1, c2⟩ := (HS.out.kb B.out).at hkl
      have hk' : (k : Int) < n := by omega
      have hr := two_range c1 c2
      have HC := Lib.hid (clip_snoc hkl)
      obtain ⟨s, hs⟩ : ∃ s, s = l[k] := ⟨_, rfl⟩
      rw [← hs] at hr HC c1 c2
      clear hs
      obtain ⟨pz, cz, rfl⟩ := O.out.shape
      obtain ⟨L, hL⟩ : ∃ L, L = clip (l.take k) := ⟨_, rfl⟩
      have HLL := Lib.hid (HF.out k)
      rw [← hL] at O HC HLL ⊢
      have HL' := Lib.hid hL
      clear hL
      by_cases c : max s.1 0 ≤ s.2
      · rw [if_pos c] at HC
        have d1 : decide (max s.1 0 ≤ s.2) = true := by simpa using c
        go_wp2_with (first
          | (refine load_to (cs := [.int .i64 s.1, .int .i64 s.2]) hr Tryz.underlying51 rfl spsize ?hx ?_; (case hx => rfl))
          | (at_builtin; refine push_span (by rfl) (.tmp 21) (.tmp 23) (by rfl) (max s.1 0, s.2) w.heap.size _ L (by rfl) (O.out.alloc _) (wr.heap.size + 1) (by simp) (by rfl) HLL.out (B.out.alloc B.out.size _).size ?_; intro p2 c2' w2 own2 _ _ b2; have O2 := Lib.hid own2; have B2 := Lib.hid ((B.out.alloc B.out.size _).trans b2); clear own2 b2))
        exact ⟨⟨k + 1, by omega, by go_num, Lib.hid (by rw [HC.out]; exact O2.out), B2⟩, by simp [intOf]; omega⟩
      · rw [if_neg c, List.append_nil] at HC
        have d1 : decide (max s.1 0 ≤ s.2) = false := by simpa using c
        go_wp2_with (first
          | (refine load_to (cs := [.int .i64 s.1, .int .i64 s.2]) hr Tryz.underlying51 rfl spsize ?hx ?_; (case hx => rfl)))
        exact ⟨⟨k + 1, by omega, by go_num, Lib.hid (by rw [HC.out]; exact O.out.alloc _), Lib.hid (B.out.alloc B.out.size _)⟩, by simp [intOf]; omega⟩
    · obtain rfl : k = n := by omega
      have HLL := Lib.hid (HF.out k)
      rw [List.take_of_length_le (Nat.le_of_eq HL.out.symm)] at O HLL
      obtain ⟨pz, cz, rfl⟩ := O.out.shape
      have HSO := fun W (h : SOwn W w.heap.size (.slice pz (clip l).length cz) (clip l)) hB => ssort_any W w.heap.size _ _ h HLL.out hB
      have HCL := Lib.hid (clip_len l)
      obtain ⟨L, hL⟩ : ∃ L, L = clip l := ⟨_, rfl⟩
      rw [← hL] at O HLL HSO HCL ⊢
      have HLe := Lib.hid hL
      clear hL
      go_wp2_with (go_at_call 121; refine (HSO wr O.out B.out.size).mono ?_; rintro e w2 ⟨rfl, E, hE1, hE2, hE3, own2, b2⟩; have HE := Lib.hid (And.intro hE1 (And.intro hE2 (And.intro hE3 (And.intro own2 b2)))); clear hE1 hE2 hE3 own2 b2)
      go_ret
      obtain ⟨h1, h2, h3, h4, h5⟩ := HE.out
      exact ⟨_, E, rfl, h4, fun a => by rw [h2, HLe.out], by rw [h1, HL.out]; exact HCL.out, h3, B.out.trans h5⟩
end Go.Proofs.YtnpeahbbcolfmaaGreatDoor
namespace Go.Proofs.YtnpeahbbcolfmaaGreatDoor
open Go.RowKit
set_option maxRecDepth 20000
/-- The last span of a slice of the call's own has a new end. -/
theorem SOwn.setLast {w : World} {B g c n : Nat} {L : List Sp} {t : Sp} (h : SOwn w B (.slice (some ⟨g, 0, none⟩) n c) (L ++ [t])) (hn : n = (L ++ [t]).length) (m : Int) : SOwn (w.setCell ⟨g, L.length * 2 + 1, none⟩ (.int .i64 m)) B (.slice (some ⟨g, 0, none⟩) n c) (L ++ [(t.1, m)]) := by
  subst hn
  obtain ⟨g', c', R, e, hb, hg, hc, hm, hR⟩ := h.row (by simp)
  injection e with e1 e2 e3
  injection e1 with e1
  injection e1 with e1
  subst e1 e3
  refine sown_mk (R := R) (by simp) hb ?_ (by simpa using hc) hm (by rw [hR]; simp)
  have := cells_set (j := L.length * 2 + 1) hg (.int .i64 m)
  rw [this]
  congr 2
  rw [sps_app, sps_one, sps_app, sps_one, List.append_assoc, List.append_assoc, List.set_append_right _ _ (by rw [sps_length]; omega), sps_length, show L.length * 2 + 1 - L.length * 2 = 1 from by omega]
  rfl
/-- A span of the sorted ones. -/
theorem kept_at {E l : List Sp} (hm : ∀ a, a ∈ E ↔ a ∈ clip l) (ht : Top topN l) {k : Nat} {s : Sp} (hk : E[k]? = some s) : 0 ≤ s.1 ∧ s.1 ≤ s.2 ∧ s.2 < 9223372036854775808 ∧ s.1 < 9223372036854775808 := by
  have h1 := (hm s).1 (List.mem_of_getElem? hk)
  have h2 := clip_mem h1
  unfold clip at h1
  obtain ⟨t, ht', e⟩ := List.mem_map.1 (List.mem_filter.1 h1).1
  have h3 := ht t ht'
  have h4 : t.2 = s.2 := by rw [← e]
  unfold topN at h3
  omega
set_option maxHeartbeats 4000000 in
theorem make_to (w : World) (v : Value) (l : List Sp) (hs : SSeen w v l) (hl : l.length ≤ 1000000) (ht : Top topN l) : Calls Tryz.prog 89 #[v] w fun e w' => ∃ v', e = .returned v' ∧ SOwn w' w.heap.size v' (mk l) ∧ Below w.heap.size w w' := by
  obtain ⟨p, cap, rfl⟩ := hs.form
  have HA := Lib.hid (ascending_to w _ l hs hl)
  have HT := Lib.hid ht
  clear hs ht
  go_enter Tryz.func89, Tryz.ntmps89
  go_wp2_with fail
  refine HA.out.mono ?_
  rintro e w1 ⟨v1, E, rfl, o1, hm, hel, hp, b1⟩
  have S1 := Lib.hid o1.seen
  obtain ⟨p1, c1, rfl⟩ := o1.shape
  have O1 := Lib.hid o1
  have HM := Lib.hid hm
  have HP := Lib.hid hp
  have B1 := Lib.hid b1
  obtain ⟨n, hn⟩ : ∃ n, n = E.length := ⟨_, rfl⟩
  have hn1 : n ≤ 1000000 := by omega
  have HN := Lib.hid hn
  rw [← hn] at S1 ⊢
  clear o1 hm hp b1 hn hel O1
  go_wp2_with fail
  go_loopw [3, 10] (fun z i wr => ∃ (k : Nat) (L : List Sp), k ≤ n ∧ i = .int .i64 k ∧ Hid (MgI E k L) ∧ Hid (SOwn wr w1.heap.size z L) ∧ Hid (Below w1.heap.size w1 wr)) (fun _ i _ => n - (intOf i).toNat)
  case atStart => exact ⟨0, [], Nat.zero_le _, rfl, Lib.hid (MgI.start E), Lib.hid (SOwn.nil w1 _), Lib.hid (Below.refl _ w1)⟩
  case round =>
    obtain ⟨k, L, hk, rfl, M, O, B⟩ := hrel
    obtain ⟨pz, cz, rfl⟩ := O.out.shape
    by_cases hlt : k < n
    · have hkl : k < E.length := by rw [← HN.out]; exact hlt
      obtain ⟨b, o, rfl, c1, c2⟩ := (S1.out.kb B.out).at hkl
      have hk' : (k : Int) < n := by omega
      have hr := two_range c1 c2
      obtain ⟨s, hs⟩ : ∃ s, s = E[k] := ⟨_, rfl⟩
      have hsk : E[k]? = some s := by rw [hs]; exact List.getElem?_eq_getElem hkl
      rw [← hs] at hr c1 c2
      have HSK := Lib.hid hsk
      have hka := kept_at HM.out HT.out hsk
      have HKA := Lib.hid hka
      have HLL : Hid (L.length ≤ 1000000) := Lib.hid (Nat.le_trans M.out.len (by omega))
      clear hs hsk
      have HBS := Lib.hid (B.out.alloc B.out.size (.cells #[.int .i64 s.1, .int .i64 s.2] 51))
      rcases List.eq_nil_or_concat L with rfl | ⟨L', t, rfl⟩
      · go_wp2_with (first
          | (refine load_to (cs := [.int .i64 s.1, .int .i64 s.2]) hr Tryz.underlying51 rfl spsize ?hx ?_; (case hx => rfl)))
        go_quiet (fail)
        have OW : Hid (SOwn ((wr.alloc (.cells #[.int .i64 s.1, .int .i64 s.2] 51)).drewN nq) w1.heap.size (.slice pz 0 cz) []) := Lib.hid (SOwn.drn (O.out.alloc _) _)
        have BW := Lib.hid (below_drn10 HBS.out nq)
        have n0 : ((wr.alloc (.cells #[.int .i64 s.1, .int .i64 s.2] 51)).drewN nq).heap[wr.heap.size]? = some (.cells #[.int .i64 s.1, .int .i64 s.2] 51 (0, 0)) := heap_alloc_last wr _
        clear c1 c2 hr HBS
        generalize (wr.alloc (.cells #[.int .i64 s.1, .int .i64 s.2] 51)).drewN nq = W at *
        obtain ⟨z1, z2⟩ := sp_cells n0
        clear n0
        go_wp2_with (first
          | (at_builtin; refine push_span (by rfl) (.tmp 40) (.tmp 42) (by rfl) s w1.heap.size _ [] (by rfl) OW.out W.heap.size rfl (by rfl) HLL.out BW.out.size ?_; intro p2 c2' w2 own2 _ _ b2; have O2 := Lib.hid own2; have B2 := Lib.hid (BW.out.trans b2); clear own2 b2))
        exact ⟨⟨k + 1, [s], by omega, by go_num, Lib.hid (M.out.first HSK.out ⟨HKA.out.1, HKA.out.2.1⟩), O2, B2⟩, by simp [intOf]; omega⟩
      · have hlen : (L'.concat t).length = L'.length + 1 := by simp
        rw [List.concat_eq_append] at hlen M O HLL ⊢
        rw [hlen] at O ⊢
        obtain ⟨n1, hn1'⟩ : ∃ n1, n1 = L'.length := ⟨_, rfl⟩
        have hn2 : n1 ≤ 1000000 := by have := HLL.out; omega
        have HN1 := Lib.hid hn1'
        rw [← hn1'] at O ⊢
        clear hlen hn1'
        obtain ⟨bg, og, hpz, d1, d2⟩ := O.out.seen.at (j := n1) (by rw [HN1.out]; simp)
        have hog : og = 0 := by
          obtain ⟨g', cc', RR, e, _⟩ := O.out.row (by simp)
          injection e with e
          rw [hpz] at e
          injection e with e
          injection e with _ e
        subst hpz hog
        have htl : (L' ++ [t])[n1]'(by rw [HN1.out]; simp) = t := by
          have : (L' ++ [t])[n1]? = some t := by rw [HN1.out]; simp
          rw [List.getElem?_eq_getElem (by rw [HN1.out]; simp)] at this
          simpa using this
        rw [htl, Nat.zero_add] at d1 d2
        clear htl
        have hw : wrap64 ((n1 : Int) + 1 - 1) = n1 := by unfold wrap64; omega
        have hw2 : IntKind.i64.wrap (n1 : Int) = n1 := by rw [wrap64_eq]; unfold wrap64; omega
        have hq1 : 0 ≤ (n1 : Int) := by omega
        have hq2 : (n1 : Int) < (n1 : Int) + 1 := by omega
        obtain ⟨g3, hg3⟩ : ∃ g3, g3 = decide (t.2 < s.1 - 1) := ⟨_, rfl⟩
        have HAP := Lib.hid (fun W => apart_to W t s HKA.out.1 HKA.out.2.2.2)
        rw [← hg3] at HAP
        have G3 := Lib.hid hg3
        clear hg3
        go_wp2_with (first
          | (refine load_to (cs := [.int .i64 s.1, .int .i64 s.2]) hr Tryz.underlying51 rfl spsize ?hx ?_; (case hx => rfl)))
        have OW : Hid (SOwn (wr.alloc (.cells #[.int .i64 s.1, .int .i64 s.2] 51)) w1.heap.size (.slice (some ⟨bg, 0, none⟩) (n1 + 1) cz) (L' ++ [t])) := Lib.hid (O.out.alloc _)
        obtain ⟨B0, hB0⟩ : ∃ B0, B0 = wr.heap.size := ⟨_, rfl⟩
        have n0 := heap_alloc_last wr (.cells #[.int .i64 s.1, .int .i64 s.2] 51)
        have b0 := (Below.refl wr.heap.size wr).alloc (Nat.le_refl _) (.cells #[.int .i64 s.1, .int .i64 s.2] 51)
        have z1 := (b0.cell (p := ⟨bg, n1 * 2, none⟩) (World.block_lt_of_cell? _ _ d1)).trans d1
        have z2 := (b0.cell (p := ⟨bg, n1 * 2 + 1, none⟩) (World.block_lt_of_cell? _ _ d2)).trans d2
        have HNE : Hid (bg ≠ B0) := Lib.hid (by have := World.block_lt_of_cell? _ _ d1; simp only at this; omega)
        rw [← hB0] at n0 ⊢
        clear b0 c1 c2 hr d1 d2
        generalize wr.alloc (.cells #[.int .i64 s.1, .int .i64 s.2] 51) = W1 at *
        have N0 := Lib.hid n0
        have Z1 := Lib.hid z1
        have Z2 := Lib.hid z2
        obtain ⟨z3, z4⟩ := sp_cells n0
        clear n0 hB0
        try simp only [List.append]
        refine wp_region_noPanic ?_
        refine wp_region_held_drew (S := (fun W => (W.cell? ⟨B0, 0, none⟩ = some (.int .i64 s.1) ∧ W.cell? ⟨B0, 1, none⟩ = some (.int .i64 s.2)) ∧ W.cell? ⟨bg, n1 * 2, none⟩ = some (.int .i64 t.1) ∧ W.cell? ⟨bg, n1 * 2 + 1, none⟩ = some (.int .i64 t.2))) (by kernel_rfl) ⟨⟨z3, z4⟩, z1, z2⟩ (fun hHeld => ?_)
        refine wpAnyH_take (i := 0) (v := ?_) (by simp only [List.getElem?_toArray, List.getElem?_cons_zero]; rfl) (by kernel_rfl) (by kernel_rfl) (by kernel_rfl) (fun _ _ _ h => h) (Or.inl ⟨by rfl, ?_⟩) (by assumption) ?_
        rotate_left
        · intro w hSw
          try dsimp only at hSw
          go_simp
          try with_reducible rfl
        try simp only [Act.put, List.setIfInBounds_toArray, List.set_cons_zero, List.set_cons_succ]
        refine wpAnyH_take (i := 1) (v := ?_) (by simp only [List.getElem?_toArray, List.getElem?_cons_succ, List.getElem?_cons_zero]; rfl) (by kernel_rfl) (by kernel_rfl) (by kernel_rfl) (fun _ _ _ h => h) (Or.inl ⟨by rfl, ?_⟩) (by assumption) ?_
        rotate_left
        · intro w hSw
          try dsimp only at hSw
          go_simp
          try with_reducible rfl
        try simp only [Act.put, List.setIfInBounds_toArray, List.set_cons_zero, List.set_cons_succ]
        refine wpAnyH_take (i := 2) (v := ?_) (by simp only [List.getElem?_toArray, List.getElem?_cons_succ, List.getElem?_cons_zero]; rfl) (by kernel_rfl) (by kernel_rfl) (by kernel_rfl) (fun _ _ _ h => h) (Or.inl ⟨by rfl, ?_⟩) (by assumption) ?_
        rotate_left
        · intro w hSw
          try dsimp only at hSw
          go_simp
          try with_reducible rfl
        try simp only [Act.put, List.setIfInBounds_toArray, List.set_cons_zero, List.set_cons_succ]
        refine wpAnyH_take (i := 3) (v := ?_) (by simp only [List.getElem?_toArray, List.getElem?_cons_succ, List.getElem?_cons_zero]; rfl) (by kernel_rfl) (by kernel_rfl) (by kernel_rfl) (fun _ _ _ h => h) (Or.inl ⟨by rfl, ?_⟩) (by assumption) ?_
        rotate_left
        · intro w hSw
          try dsimp only at hSw
          go_simp
          try with_reducible rfl
        try simp only [Act.put, List.setIfInBounds_toArray, List.set_cons_zero, List.set_cons_succ]
        refine wpAnyH_take (i := 4) (v := ?_) (by simp only [List.getElem?_toArray, List.getElem?_cons_succ, List.getElem?_cons_zero]; rfl) (by kernel_rfl) (by kernel_rfl) (by kernel_rfl) (fun _ _ _ h => h) (Or.inl ⟨by rfl, ?_⟩) (by assumption) ?_
        rotate_left
        · intro w hSw
          try dsimp only at hSw
          go_simp
          try with_reducible rfl
        try simp only [Act.put, List.setIfInBounds_toArray, List.set_cons_zero, List.set_cons_succ]
        refine wpAnyH_take (i := 5) (v := ?_) (by simp only [List.getElem?_toArray, List.getElem?_cons_succ, List.getElem?_cons_zero]; rfl) (by kernel_rfl) (by kernel_rfl) (by kernel_rfl) (fun _ _ _ h => h) (Or.inl ⟨by rfl, ?_⟩) (by assumption) ?_
        rotate_left
        · intro w hSw
          try dsimp only at hSw
          go_simp
          try with_reducible rfl
        try simp only [Act.put, List.setIfInBounds_toArray, List.set_cons_zero, List.set_cons_succ]
        refine wpAnyH_take (i := 6) (v := (.agg #[.int .i64 t.1, .int .i64 t.2])) (by simp only [List.getElem?_toArray, List.getElem?_cons_succ, List.getElem?_cons_zero]; rfl) (by kernel_rfl) (by kernel_rfl) (by kernel_rfl) (fun _ _ _ h => h) (Or.inl ⟨by rfl, ?_⟩) (by assumption) ?_
        · intro w hSw
          try dsimp only at hSw
          go_simp
        try simp only [Act.put, List.setIfInBounds_toArray, List.set_cons_zero, List.set_cons_succ]
        refine wpAnyH_take (i := 7) (v := (.agg #[.int .i64 s.1, .int .i64 s.2])) (by simp only [List.getElem?_toArray, List.getElem?_cons_succ, List.getElem?_cons_zero]; rfl) (by kernel_rfl) (by kernel_rfl) (by kernel_rfl) (fun _ _ _ h => h) (Or.inl ⟨by rfl, ?_⟩) (by assumption) ?_
        · intro w hSw
          try dsimp only at hSw
          go_simp
        try simp only [Act.put, List.setIfInBounds_toArray, List.set_cons_zero, List.set_cons_succ]
        refine wpAnyH_ready (rs := [8]) (by kernel_rfl) (by simp) ?_
        refine AllReadyH.cons (by simp only [List.getElem?_toArray, List.getElem?_cons_succ, List.getElem?_cons_zero]; rfl) (fun K hK => ?_) AllReadyH.nil
        go_simp
        refine (HAP.out W1.drew).mono ?_
        rintro e w2 ⟨rfl, b2⟩
        have BW := Lib.hid (below_drew_then HBS.out b2)
        have O2 : Hid (SOwn w2 w1.heap.size (.slice (some ⟨bg, 0, none⟩) (n1 + 1) cz) (L' ++ [t])) := Lib.hid ((OW.out.drn 1).kb b2)
        have n2 := (b2.block B0 (Array.getElem?_eq_some_iff.1 N0.out).1).trans N0.out
        obtain ⟨y3, y4⟩ := sp_cells n2
        have y1 := (b2.cell (p := ⟨bg, n1 * 2, none⟩) (World.block_lt_of_cell? W1 _ Z1.out)).trans Z1.out
        have y2 := (b2.cell (p := ⟨bg, n1 * 2 + 1, none⟩) (World.block_lt_of_cell? W1 _ Z2.out)).trans Z2.out
        clear b2 n2
        go_wp2_with fail
        refine hK.out _ _ ⟨⟨y3, y4⟩, y1, y2⟩ (fun hHeld => ?_)
        clear hK K
        try simp only [Act.put, List.setIfInBounds_toArray, List.set_cons_zero, List.set_cons_succ]
        cases g3 with
        | true =>
          refine wpAnyH_take (i := 9) (v := ?_) (by simp only [List.getElem?_toArray, List.getElem?_cons_succ, List.getElem?_cons_zero]; rfl) (by kernel_rfl) (by kernel_rfl) (by kernel_rfl) (fun _ _ _ h => h) (Or.inl ⟨by rfl, ?_⟩) (by assumption) ?_
          rotate_left
          · intro w hSw
            try dsimp only at hSw
            go_simp
            try with_reducible rfl
          try simp only [Act.put, List.setIfInBounds_toArray, List.set_cons_zero, List.set_cons_succ]
          refine wpAnyH_take (i := 10) (v := ?_) (by simp only [List.getElem?_toArray, List.getElem?_cons_succ, List.getElem?_cons_zero]; rfl) (by kernel_rfl) (by kernel_rfl) (by kernel_rfl) (fun _ _ _ h => h) (Or.inl ⟨by rfl, ?_⟩) (by assumption) ?_
          rotate_left
          · intro w hSw
            try dsimp only at hSw
            go_simp
            try with_reducible rfl
          try simp only [Act.put, List.setIfInBounds_toArray, List.set_cons_zero, List.set_cons_succ]
          refine wpAnyH_done (by kernel_rfl) ?_ _
          refine NoPanic.normal ?_
          go_wp2_with (first
            | (at_builtin; refine push_span (by rfl) (.tmp 40) (.tmp 42) (by rfl) s w1.heap.size _ (L' ++ [t]) (by rfl) O2.out w2.heap.size rfl (by rfl) HLL.out BW.out.size ?_; intro p2 c2' w3 own2 _ _ b3; have O3 := Lib.hid own2; have B3 := Lib.hid (BW.out.trans b3); clear own2 b3))
          exact ⟨⟨k + 1, L' ++ [t] ++ [s], by omega, by go_num, Lib.hid (M.out.snoc HSK.out ⟨HKA.out.1, HKA.out.2.1⟩ (by simpa using G3.out.symm)), Lib.hid (by have h := O3.out; rw [List.length_append] at h; exact h), B3⟩, by simp [intOf]; omega⟩
        | false =>
          refine wpAnyH_take (i := 9) (v := ?_) (by simp only [List.getElem?_toArray, List.getElem?_cons_succ, List.getElem?_cons_zero]; rfl) (by kernel_rfl) (by kernel_rfl) (by kernel_rfl) (fun _ _ _ h => h) (Or.inl ⟨by rfl, ?_⟩) (by assumption) ?_
          rotate_left
          · intro w hSw
            try dsimp only at hSw
            go_simp
            try with_reducible rfl
          try simp only [Act.put, List.setIfInBounds_toArray, List.set_cons_zero, List.set_cons_succ]
          refine wpAnyH_take (i := 10) (v := ?_) (by simp only [List.getElem?_toArray, List.getElem?_cons_succ, List.getElem?_cons_zero]; rfl) (by kernel_rfl) (by kernel_rfl) (by kernel_rfl) (fun _ _ _ h => h) (Or.inl ⟨by rfl, ?_⟩) (by assumption) ?_
          rotate_left
          · intro w hSw
            try dsimp only at hSw
            go_simp
            try with_reducible rfl
          try simp only [Act.put, List.setIfInBounds_toArray, List.set_cons_zero, List.set_cons_succ]
          refine wpAnyH_done (by kernel_rfl) ?_ _
          refine NoPanic.normal ?_
          go_wp2_with fail
          have hfz2 : w2.frozen? ⟨bg, n1 * 2 + 1, none⟩ = false ∧ w1.heap.size ≤ bg := by
            obtain ⟨g', cc', RR, e, hb', hg', _⟩ := O2.out.row (by simp)
            injection e with e
            injection e with e
            injection e with e
            subst e
            exact ⟨by simp [World.frozen?, hg'], hb'⟩
          have hfz := hfz2.1
          have HBG := Lib.hid hfz2.2
          clear hfz2
          go_region
          go_wp2_with fail
          have O3 := O2.out.setLast (by rw [HN1.out]; simp) (max t.2 s.2)
          rw [← HN1.out] at O3
          refine ⟨⟨k + 1, L' ++ [(t.1, max t.2 s.2)], by omega, by go_num, Lib.hid (MgI.wide HP.out M.out HSK.out (by simpa using G3.out.symm)), Lib.hid (by rw [HN1.out] at O3 ⊢; exact O3.drn 1), Lib.hid (BW.out.setCell (p := ⟨bg, n1 * 2 + 1, none⟩) HBG.out _).drew⟩, by simp [intOf]; omega⟩
    · obtain rfl : k = n := by omega
      go_wp2_with fail
      go_ret
      rw [HN.out] at M
      have e := mgI_done M.out HM.out
      subst e
      exact ⟨_, rfl, O.out.mono B1.out.size, B1.out.trans (B.out.mono B1.out.size)⟩
end Go.Proofs.YtnpeahbbcolfmaaGreatDoor
namespace Go.Proofs.YtnpeahbbcolfmaaGreatDoor
open Go.RowKit
set_option maxRecDepth 20000
end Go.Proofs.YtnpeahbbcolfmaaGreatDoor
namespace Go.Proofs.YtnpeahbbcolfmaaGreatDoor
open Go.RowKit
set_option maxRecDepth 20000
section
variable {l : List Sp} {k n : Nat} {s : Sp} (hs : l[k]? = some s)
include hs
end
/-- Two slices of the call's own that share no block. -/
structure TwoI (w wr : World) (v u : Value) (b a : List Sp) : Prop where
  below : Below w.heap.size w wr
  lo : SOwn wr w.heap.size v b
  hi : SOwn wr w.heap.size u a
  apart : ∀ j, v.ownBlock = some j → u.ownBlock ≠ some j
theorem TwoI.kb {w wr W : World} {v u : Value} {b a : List Sp} (H : TwoI w wr v u b a) (hb : Below wr.heap.size wr W) : TwoI w W v u b a := ⟨H.below.trans (hb.mono H.below.size), H.lo.kb hb, H.hi.kb hb, H.apart⟩
theorem TwoI.swap {w wr : World} {v u : Value} {b a : List Sp} (H : TwoI w wr v u b a) : TwoI w wr u v a b := ⟨H.below, H.hi, H.lo, fun j h1 h2 => H.apart j h2 h1⟩
theorem TwoI.push {w wr W : World} {v v' u : Value} {b b' a : List Sp} (H : TwoI w wr v u b a) (h1 : SOwn W w.heap.size v' b') (h2 : Only (fun j => v.ownBlock = some j) wr W) (h3 : ∀ j, v'.ownBlock = some j → v.ownBlock = some j ∨ wr.heap.size ≤ j) (h4 : Below w.heap.size wr W) : TwoI w W v' u b' a :=
  ⟨H.below.trans h4, h1, H.hi.kept h2 (fun k hk e => H.apart k e hk), fun j hj e => by
    rcases h3 j hj with h | h
    · exact H.apart j h e
    · have := (H.hi.lt j e).2
      omega⟩
end Go.Proofs.YtnpeahbbcolfmaaGreatDoor
namespace Go.Proofs.YtnpeahbbcolfmaaGreatDoor
open Go.RowKit
set_option maxRecDepth 20000
/-- What is taken so far, and what is left. -/
structure WoI (l : List Sp) (k : Nat) (A : List Sp) (lo : Int) : Prop where
  eq : wo topN 0 l = A ++ wo topN lo (l.drop k)
  lo0 : 0 ≤ lo
  le : lo ≤ topN
  len : A.length ≤ k
theorem WoI.start (l : List Sp) : WoI l 0 [] 0 := ⟨by simp, Int.le_refl _, by decide, Nat.le_refl _⟩
theorem spdrop_at {l : List Sp} {k : Nat} {s : Sp} (hs : l[k]? = some s) : l.drop k = s :: l.drop (k + 1) := by
  obtain ⟨h, e⟩ := List.getElem?_eq_some_iff.1 hs
  rw [List.drop_eq_getElem_cons h, e]
theorem WoI.gap {l A : List Sp} {k : Nat} {lo : Int} {s : Sp} (H : WoI l k A lo) (hs : l[k]? = some s) (c : lo < s.1) (h : s.2 + 1 ≤ topN) (h0 : 0 ≤ s.2 + 1) : WoI l (k + 1) (A ++ [(lo, s.1 - 1)]) (s.2 + 1) :=
  ⟨by rw [H.eq, spdrop_at hs]; simp [wo, c], h0, h, by have := H.len; simp; omega⟩
theorem WoI.none {l A : List Sp} {k : Nat} {lo : Int} {s : Sp} (H : WoI l k A lo) (hs : l[k]? = some s) (c : ¬ lo < s.1) (h : s.2 + 1 ≤ topN) (h0 : 0 ≤ s.2 + 1) : WoI l (k + 1) A (s.2 + 1) :=
  ⟨by rw [H.eq, spdrop_at hs]; simp [wo, c], h0, h, by have := H.len; omega⟩
theorem WoI.last {l A : List Sp} {lo : Int} (H : WoI l l.length A lo) : wo topN 0 l = A ++ [(lo, topN)] := by
  rw [H.eq, List.drop_length]
  unfold wo
  rw [if_pos H.le]
end Go.Proofs.YtnpeahbbcolfmaaGreatDoor
namespace Go.Proofs.YtnpeahbbcolfmaaGreatDoor
open Go.RowKit
set_option maxRecDepth 20000
end Go.Proofs.YtnpeahbbcolfmaaGreatDoor
namespace Go.Proofs.YtnpeahbbcolfmaaGreatDoor
open Go.RowKit
set_option maxRecDepth 20000
/-- What is found so far, and what is left of both. -/
structure BoI (a b A x y : List Sp) : Prop where
  nx : Nrm x
  ny : Nrm y
  nA : Nrm A
  has : ∀ z, (Has a z ∧ Has b z) ↔ Has A z ∨ (Has x z ∧ Has y z)
  low : ∀ z, Has A z → (∀ u, Has x u → z + 1 < u) ∨ (∀ u, Has y u → z + 1 < u)
  len : A.length + x.length + y.length ≤ a.length + b.length
theorem BoI.start {a b : List Sp} (ha : Nrm a) (hb : Nrm b) : BoI a b [] a b := ⟨ha, hb, trivial, fun z => by rw [has_nil]; simp, fun z h => (has_nil.1 h).elim, by simp⟩
theorem BoI.swap {a b A x y : List Sp} (H : BoI a b A x y) : BoI b a A y x :=
  ⟨H.ny, H.nx, H.nA, fun z => by rw [and_comm, H.has, and_comm (a := Has x z)], fun z h => (H.low z h).symm, by have := H.len; omega⟩
/-- The first span of x ends first. -/
theorem BoI.left {a b A x y : List Sp} {s t : Sp} (H : BoI a b A (s :: x) (t :: y)) (c : s.2 ≤ t.2) : BoI a b (if max s.1 t.1 ≤ min s.2 t.2 then A ++ [(max s.1 t.1, min s.2 t.2)] else A) x (t :: y) := by
  have hs := H.nx.mem s List.mem_cons_self
  have ht := H.ny.mem t List.mem_cons_self
  have key : ∀ z, (Has (s :: x) z ∧ Has (t :: y) z) ↔ (max s.1 t.1 ≤ z ∧ z ≤ min s.2 t.2) ∨ (Has x z ∧ Has (t :: y) z) := fun z => by
    rw [has_cons, has_cons]
    constructor
    · rintro ⟨h1 | h1, h2⟩
      · rcases h2 with h2 | h2
        · exact .inl (by omega)
        · have := H.ny.gap h2; omega
      · exact .inr ⟨h1, h2⟩
    · rintro (h1 | h1)
      · exact ⟨.inl (by omega), .inl (by omega)⟩
      · exact ⟨.inr h1.1, h1.2⟩
  by_cases hc : max s.1 t.1 ≤ min s.2 t.2
  · rw [if_pos hc]
    have hone : Nrm [((max s.1 t.1, min s.2 t.2) : Sp)] := nrm_one (by simp only; omega) hc
    refine ⟨H.nx.tail, H.ny, H.nA.app hone fun u hu v hv => ?_, fun z => ?_, fun z hz => ?_, by have := H.len; simp at this ⊢; omega⟩
    · obtain rfl : v = (max s.1 t.1, min s.2 t.2) := by simpa using hv
      have h1 := ((key (max s.1 t.1)).2 (.inl ⟨Int.le_refl _, hc⟩))
      rcases H.low u.2 (H.nA.hi hu) with h | h
      · exact h _ h1.1
      · exact h _ h1.2
    · rw [H.has, key, has_app, has_one, or_assoc]
      refine or_congr Iff.rfl (or_congr ⟨fun h => ⟨by omega, h⟩, fun h => h.2⟩ Iff.rfl)
    · rcases has_app.1 hz with hz | hz
      · rcases H.low z hz with h | h
        · exact .inl fun u hu => h u (has_cons.2 (.inr hu))
        · exact .inr h
      · rw [has_one] at hz
        simp only at hz
        exact .inl fun u hu => by have := H.nx.gap hu; omega
  · rw [if_neg hc]
    refine ⟨H.nx.tail, H.ny, H.nA, fun z => ?_, fun z hz => ?_, by have := H.len; simp at this ⊢; omega⟩
    · rw [H.has, key]
      refine or_congr Iff.rfl ⟨fun h => ?_, .inr⟩
      rcases h with h | h
      · omega
      · exact h
    · rcases H.low z hz with h | h
      · exact .inl fun u hu => h u (has_cons.2 (.inr hu))
      · exact .inr h
theorem BoI.right {a b A x y : List Sp} {s t : Sp} (H : BoI a b A (s :: x) (t :: y)) (c : t.2 ≤ s.2) : BoI a b (if max s.1 t.1 ≤ min s.2 t.2 then A ++ [(max s.1 t.1, min s.2 t.2)] else A) (s :: x) y := by
  have h := H.swap.left c
  rw [Int.max_comm t.1, Int.min_comm t.2] at h
  exact h.swap
/-- All but the first. -/
theorem SSeen.tail {w : World} {b o c : Nat} {s : Sp} {x : List Sp} (h : SSeen w (.slice (some ⟨b, o, none⟩) (x.length + 1) c) (s :: x)) : SSeen w (.slice (if c = 1 then some ⟨b, o, none⟩ else some ⟨b, o + 2, none⟩) x.length (c - 1)) x := by
  obtain ⟨p, c', e, hl, hs⟩ := h
  injection e with e1 e2 e3
  subst e1 e3
  simp only [List.length_cons] at hl
  refine ⟨_, _, rfl, by omega, fun j u hj => ?_⟩
  have hjl := (List.getElem?_eq_some_iff.1 hj).1
  obtain ⟨b', o', e, h1, h2⟩ := hs (j + 1) u (by simpa using hj)
  injection e with e
  injection e with e1 e2
  subst e1 e2
  rw [if_neg (by omega)]
  refine ⟨b, o + 2, rfl, ?_, ?_⟩
  · rw [show o + 2 + j * 2 = o + (j + 1) * 2 from by omega]; exact h1
  · rw [show o + 2 + j * 2 + 1 = o + (j + 1) * 2 + 1 from by omega]; exact h2
end Go.Proofs.YtnpeahbbcolfmaaGreatDoor
namespace Go.Proofs.YtnpeahbbcolfmaaGreatDoor
open Go.RowKit Go.Shelf Go.Lib
def Tryz.sgrow_ren : Go.Shelf.Ren := ⟨fun | 4 => 110 | n => n, fun | 22 => 46 | 25 => 51 | 3 => 3 | 4 => 4 | 9 => 9 | 20 => 20 | 0 => 0 | 2 => 3 | n => n, fun | n => n⟩
theorem Tryz.sgrow : Go.Proofs.Lays8.n4 Tryz.prog Tryz.sgrow_ren := {
  mixed := by kernel_rfl
  f4 := ⟨Tryz.f110.name, by decide, Tryz.func110.trans (congrArg some (by kernel_rfl))⟩
  t0 := Tryz.underlying0
  a0 := Tryz.isAgg0
  z0 := Tryz.sizeOf0
  v0 := Tryz.zeroValue0
  t3 := Tryz.underlying3
  a3 := Tryz.isAgg3
  z3 := Tryz.sizeOf3
  v3 := Tryz.zeroValue3
  t4 := Tryz.underlying4
  a4 := Tryz.isAgg4
  z4 := Tryz.sizeOf4
  v4 := Tryz.zeroValue4
  t9 := Tryz.underlying9
  a9 := Tryz.isAgg9
  z9 := Tryz.sizeOf9
  v9 := Tryz.zeroValue9
  t20 := Tryz.underlying20
  a20 := Tryz.isAgg20
  z20 := Tryz.sizeOf20
  v20 := Tryz.zeroValue20
  t22 := Tryz.underlying46
  a22 := Tryz.isAgg46
  z22 := Tryz.sizeOf46
  v22 := Tryz.zeroValue46 }

set_option maxRecDepth 20000
theorem run_append_none_c {w : World} (base : Nat) (t ty e : TypeId) (i : TypeInfo) (size c : Nat) (ht : Tryz.prog.underlying t = some (.slice e)) (hi : Tryz.prog.info? e = some i)
    (v : Value) (n : Nat) (xs : List Value) (hown : w.ownsRow base e size v n xs) :
    (Builtin.append_ #[t, t] ty #[v, .slice none 0 c]).run Tryz.prog w = .ok v w := by
  rcases hown.2 with ⟨rfl, rfl⟩ | ⟨g, cap, cur, rfl, _, _, hnc, _⟩
  · simp [Builtin.append_, run_underlying ht, sizeOf, typeInfo, hi, Builtin.lenOf, Builtin.firstCells]
  · simp [Builtin.append_, run_underlying ht, sizeOf, typeInfo, hi, Builtin.lenOf, Builtin.firstCells, hnc, storeCells]
theorem seen_fits {n m : Nat} (h : n + m ≤ 1000000) : n + m ≤ maxLen ∧ (n + m) * 16 ≤ 140737488355328 := by unfold maxLen; omega
/-- What append does with a slice of the call's own and one that is read. -/
theorem run_push_seen (w : World) (ty : TypeId) (B : Nat) (v u : Value) (l m : List Sp) (hown : SOwn w B v l) (hu : SSeen w u m) (hl : l.length + m.length ≤ 1000000) (hB : B ≤ w.heap.size) :
    ∃ p' c' w', (Builtin.append_ #[46, 46] ty #[v, u]).run Tryz.prog w = .ok (.slice p' (l.length + m.length) c') w' ∧ SOwn w' B (.slice p' (l.length + m.length) c') (l ++ m) ∧ Only (fun j => v.ownBlock = some j) w w' ∧ (∀ j, (Value.slice p' (l.length + m.length) c').ownBlock = some j → v.ownBlock = some j ∨ w.heap.size ≤ j) ∧ Below B w w' := by
  obtain ⟨i0, hi0, hz0, hz1, hz2⟩ := info_parts spinfo
  have hf := seen_fits hl
  obtain ⟨p, cap, rfl, hc, hs⟩ := hu
  cases p with
  | none =>
    have hm : m = [] := by
      cases m with
      | nil => rfl
      | cons s m => obtain ⟨_, _, e, _⟩ := hs 0 s rfl; cases e
    subst hm
    obtain ⟨p', c', rfl⟩ := hown.shape
    refine ⟨p', c', w, run_append_none_c B _ ty 51 i0 2 cap Tryz.underlying46 hi0 _ _ _ hown, by simpa using hown, ⟨rfl, rfl, rfl, Nat.le_refl _, fun _ _ _ => rfl⟩, fun j hj => .inl hj, Below.refl _ _⟩
  | some a =>
    have hnews : ∀ j u, (sps m)[j]? = some u → w.cell? (a.add j) = some u := fun j u hj => by
      have hjl := (List.getElem?_eq_some_iff.1 hj).1
      rw [sps_length] at hjl
      have hi : j / 2 < m.length := by omega
      obtain ⟨b, o, e, h1, h2⟩ := hs (j / 2) m[j / 2] (List.getElem?_eq_getElem hi)
      injection e with e
      subst e
      rw [Addr.add_lit]
      have hat := sps_at (l := m) (i := j / 2) (List.getElem?_eq_getElem hi)
      rcases Nat.mod_two_eq_zero_or_one j with h | h
      · have ej : j / 2 * 2 = j := by omega
        rw [ej] at h1 hat
        rw [h1, ← hj, hat.1]
      · have ej : j / 2 * 2 + 1 = j := by omega
        rw [Nat.add_assoc, ej] at h2
        rw [ej] at hat
        rw [h2, ← hj, hat.2]
    obtain ⟨v', w', hr, h2, h3, h4, h5⟩ := run_append_own_at (P := Tryz.prog) (w := w) B 46 ty 51 i0 _ 2 16 Tryz.underlying46 hi0 hz0 hz1 hz2 rfl (by decide) v l.length (sps l) hown a m.length cap (sps m) (sps_length m) hnews (sps_cell m) hf.1 hf.2 hB
    have hO : SOwn w' B v' (l ++ m) := by
      unfold SOwn
      rw [List.length_append, sps_app]
      exact h2
    obtain ⟨p', c', rfl⟩ := hO.shape
    rw [List.length_append] at hr hO h5
    have ho : Only (fun j => v.ownBlock = some j) w w' := (Only.refl _ w).grown h3 (fun k _ e => e)
    refine ⟨p', c', w', hr, hO, ho, fun j hj => ?_, ho.below hB (fun k hk => (hown.lt k hk).1)⟩
    rcases h5 with h5 | h5
    · rw [h5] at hj; exact .inl hj
    · rw [h5] at hj
      injection hj with hj
      exact .inr (by omega)
section
variable {ops : Array Oper} {rest : List Oper} {a : Act} {Q : Exit → Act → World → Prop} {o : Oper} {w : World}
theorem push_seen (hgd : o.guard = none) (s x : Operand) (ho : o.op = .call { callee := .builtin .append, args := #[s, x], argTypes := #[46, 46] })
    (B : Nat) (v u : Value) (l m : List Sp) (hs : a.eval s = v) (hown : SOwn w B v l) (hx : a.eval x = u) (hu : SSeen w u m) (hl : l.length + m.length ≤ 1000000) (hB : B ≤ w.heap.size)
    (h : ∀ p' c' w', SOwn w' B (.slice p' (l.length + m.length) c') (l ++ m) → Only (fun j => v.ownBlock = some j) w w' → (∀ j, (Value.slice p' (l.length + m.length) c').ownBlock = some j → v.ownBlock = some j ∨ w.heap.size ≤ j) → Below B w w' → wpList Tryz.prog ops Q rest (a.put o.dst (.slice p' (l.length + m.length) c')) w') :
    wpList Tryz.prog ops Q (o :: rest) a w := by
  refine wpList_plain hgd fun K hK => ?_
  obtain ⟨p', c', w', hr, h1, h2, h3, h4⟩ := run_push_seen w o.type B v u l m hown hu hl hB
  unfold Oper.wp execOp
  simp only [ho, resolve, invoke, builtin, Sem.run_bind, Sem.run_pure, Result.andThen_ok, List.map_toArray, List.map_cons, List.map_nil, hs, hx, hr]
  exact hK _ _ (h p' c' w' h1 h2 h3 h4)
end
/-- slices.Grow of nil. -/
theorem grow_to (w : World) (n : Nat) (hn : n ≤ 1000000) : Calls Tryz.prog 110 #[.slice none 0 0, .int .i64 n] w fun e w' => ∃ p c, e = .returned (.slice p 0 c) ∧ SOwn w' w.heap.size (.slice p 0 c) [] ∧ Below w.heap.size w w' := by
  by_cases h0 : n = 0
  · subst h0
    refine (Any8.slices_Grow_room Tryz.sgrow none 0 0 0 w (Nat.le_refl _) (by decide) (by decide) (by decide)).mono ?_
    rintro e w' ⟨rfl, rfl⟩
    exact ⟨_, _, rfl, SOwn.nil _ _, Below.refl _ _⟩
  · obtain ⟨i0, hi0, hz0, hz1, hz2⟩ := info_parts spinfo
    refine (Any8.slices_Grow_grow Tryz.sgrow i0 _ hi0 hz0 (by omega) none 0 0 n [] w (Nat.le_refl _) (by omega) (by rw [hz2]; omega) (by omega) (by simp) (fun _ => rfl) (fun a h => by cases h)).mono ?_
    rintro e w' ⟨rfl, rfl⟩
    refine ⟨_, _, rfl, ?_, ?_⟩
    · refine sown_mk (R := (Builtin.zeroCells #[.int .i64 0, .int .i64 0] (0 + n - 0) ++ Builtin.zeroCells #[.int .i64 0, .int .i64 0] (grownCap w (0 + n) 0 51 - (0 + n))).toList) rfl (Nat.le_refl _) ?_ (Nat.zero_le _) ?_ ?_
      · generalize hZ1 : Builtin.zeroCells #[.int .i64 0, .int .i64 0] (0 + n - 0) = Z1
        generalize hZ2 : Builtin.zeroCells #[.int .i64 0, .int .i64 0] (grownCap w (0 + n) 0 51 - (0 + n)) = Z2
        rw [show (sps [] ++ (Z1 ++ Z2).toList).toArray = #[] ++ Z1 ++ Z2 from by simp [sps], ← hZ1, ← hZ2]
        exact heap_alloc_last w.drew _
      · exact grownCap_le_maxLen w _ _ _ (by unfold maxLen; omega)
      · have h1 := grownCap_ge w (0 + n) 0 51
        have e : Tryz.sgrow_ren.t 25 = 51 := rfl
        rw [e]
        simp only [Array.length_toList, Array.size_append, size_zeroCells, List.length_nil]
        show (0 + n - 0) * 2 + (grownCap w (0 + n) 0 51 - (0 + n)) * 2 = _
        omega
    · exact (Below.refl _ w).drew.alloc (Nat.le_refl _) _
theorem cat_fits {a b n : Nat} (h : a + b ≤ 1000000) (hn : n = a + b) : wrap64 (a : Int) = a ∧ wrap64 ((a : Int) + b) = n ∧ ¬ (a : Int) < 0 ∧ ¬ (n : Int) < 0 := by unfold wrap64; omega
set_option maxHeartbeats 4000000 in
theorem concat_to (w : World) (g : Nat) (v u : Value) (a b : List Sp) (hg : w.heap[g]? = some (.cells #[v, u] 46 (0, 0))) (hv : SSeen w v a) (hu : SSeen w u b) (hl : a.length + b.length ≤ 1000000) :
    Calls Tryz.prog 90 #[.slice (some ⟨g, 0, none⟩) 2 2] w fun e w' => ∃ v', e = .returned v' ∧ SOwn w' w.heap.size v' (a ++ b) ∧ Below w.heap.size w w' := by
  obtain ⟨pa, ca, rfl⟩ := hv.form
  obtain ⟨pb, cb, rfl⟩ := hu.form
  obtain ⟨c1, c2⟩ := sp_cells hg
  have HG := Lib.hid hg
  have HV := Lib.hid hv
  have HU := Lib.hid hu
  obtain ⟨n, hn⟩ : ∃ n, n = a.length + b.length := ⟨_, rfl⟩
  obtain ⟨f1, f2, f3, f4⟩ := cat_fits hl hn
  have HL := Lib.hid hl
  have HLA : Hid (([] : List Sp).length + a.length ≤ 1000000) := Lib.hid (by simp; omega)
  have HGR := Lib.hid (grow_to w n (by omega))
  clear hg hv hu hl hn
  go_enter Tryz.func90, Tryz.ntmps90
  go_wp2_with fail
  refine wp_loop_rounds 3 ?_
  rw [rounds_succ]
  go_wp2_with fail
  rw [rounds_succ]
  go_wp2_with fail
  rw [rounds_succ]
  go_wp2_with fail
  refine HGR.out.mono ?_
  rintro e w1 ⟨p1, c1', rfl, o1, b1⟩
  have O1 := Lib.hid o1
  have B1 := Lib.hid b1
  obtain ⟨x1, x2⟩ := sp_cells ((b1.block g (Array.getElem?_eq_some_iff.1 HG.out).1).trans HG.out)
  clear o1 b1 c1 c2
  go_wp2_with fail
  refine wp_loop_rounds 3 ?_
  rw [rounds_succ]
  go_wp2_with (first
    | (at_builtin; refine push_seen (by rfl) (.tmp 31) (.tmp 32) (by rfl) w.heap.size _ _ [] a (by rfl) O1.out (by rfl) (HV.out.kb B1.out) HLA.out B1.out.size ?_; intro p2 c2 w2 own2 _ _ b2; have O2 := Lib.hid own2; have B2 := Lib.hid (B1.out.trans b2); obtain ⟨y1, y2⟩ := sp_cells ((B2.out.block g (Array.getElem?_eq_some_iff.1 HG.out).1).trans HG.out); clear own2 b2 x1 x2))
  have O2' : Hid (SOwn w2 w.heap.size (.slice p2 a.length c2) a) := Lib.hid (by simpa using O2.out)
  rw [rounds_succ]
  go_wp2_with (first
    | (at_builtin; refine push_seen (by rfl) (.tmp 31) (.tmp 32) (by rfl) w.heap.size _ _ a b (by rfl) O2'.out (by rfl) (HU.out.kb B2.out) HL.out B2.out.size ?_; intro p3 c3 w3 own3 _ _ b3; have O3 := Lib.hid own3; have B3 := Lib.hid (B2.out.trans b3); clear own3 b3 y1 y2))
  rw [rounds_succ]
  go_wp2_with fail
  go_ret
  exact ⟨_, rfl, O3.out, B3.out⟩
set_option maxHeartbeats 4000000 in
theorem union_to (w : World) (v u : Value) (a b : List Sp) (hv : SSeen w v a) (hu : SSeen w u b) (hl : a.length + b.length ≤ 1000000) (hta : Top topN a) (htb : Top topN b) :
    Calls Tryz.prog 49 #[v, u] w fun e w' => ∃ v', e = .returned v' ∧ SOwn w' w.heap.size v' (mk (a ++ b)) ∧ Below w.heap.size w w' := by
  have ht : Top topN (a ++ b) := fun s hs => (List.mem_append.1 hs).elim (hta s) (htb s)
  have HM := Lib.hid (fun W x (h : SSeen W x (a ++ b)) => make_to W x (a ++ b) h (by simpa using hl) ht)
  have b1 := (Below.refl w.heap.size w).alloc (Nat.le_refl _) (.cells #[v, u] 46)
  have hS : (w.heap.size ≤ w.heap.size) := Nat.le_refl _
  have HC := Lib.hid (concat_to (w.alloc (.cells #[v, u] 46)) w.heap.size v u a b (heap_alloc_last w _) (hv.kb b1) (hu.kb b1) hl)
  have B1 := Lib.hid b1
  obtain ⟨pa, ca, rfl⟩ := hv.form
  obtain ⟨pb, cb, rfl⟩ := hu.form
  clear hv hu hl hta htb ht b1 hS
  go_enter Tryz.func49, Tryz.ntmps49
  go_wp2_with fail
  refine HC.out.mono ?_
  rintro e w2 ⟨v2, rfl, o2, b2⟩
  have B2 := Lib.hid (B1.out.trans (b2.mono B1.out.size))
  have O2 := Lib.hid o2
  clear b2 o2
  go_wp2_with fail
  refine (HM.out w2 v2 O2.out.seen).mono ?_
  rintro e w3 ⟨v3, rfl, o3, b3⟩
  have B3 := Lib.hid (B2.out.trans (b3.mono B2.out.size))
  have O3 := Lib.hid (o3.mono B2.out.size)
  clear b3 o3
  go_wp2_with fail
  go_ret
  exact ⟨_, rfl, O3.out, B3.out⟩
end Go.Proofs.YtnpeahbbcolfmaaGreatDoor
namespace Go.Proofs.YtnpeahbbcolfmaaGreatDoor
open Go.RowKit
set_option maxRecDepth 20000
end Go.Proofs.YtnpeahbbcolfmaaGreatDoor
namespace Go.Proofs.YtnpeahbbcolfmaaGreatDoor
open Go.RowKit
set_option maxRecDepth 20000
/-- What the statements' sets hold. -/
structure OkSet (wild : Bool) (L : List Sp) : Prop where
  top : Top topN L
  small : wild = false → Top 100 L
theorem OkSet.nil (wild : Bool) : OkSet wild [] := ⟨fun s h => by simp at h, fun _ s h => by simp at h⟩
theorem OkSet.snoc {wild : Bool} {L : List Sp} {s : Sp} (h : OkSet wild L) (h1 : s.2 ≤ 100 ∨ (wild = true ∧ s.2 ≤ topN)) : OkSet wild (L ++ [s]) := by
  have ht : s.2 ≤ topN := by unfold topN at *; omega
  refine ⟨fun u hu => ?_, fun hw u hu => ?_⟩
  · rcases List.mem_append.1 hu with hu | hu
    · exact h.top u hu
    · obtain rfl : u = s := by simpa using hu
      exact ht
  · rcases List.mem_append.1 hu with hu | hu
    · exact h.small hw u hu
    · obtain rfl : u = s := by simpa using hu
      rcases h1 with h1 | h1
      · exact h1
      · rw [hw] at h1; cases h1.1
/-- The span at hand, in a block of its own, beside what is kept. -/
structure SetI (w W : World) (B0 : Nat) (a : Addr) (m m2 : Nat) (x y lo hi : Int) (v : Value) (L : List Sp) : Prop where
  bel : Below w.heap.size w W
  own : SOwn W w.heap.size v L
  blk : W.heap[B0]? = some (.cells #[.int .i64 lo, .int .i64 hi] 51 (0, 0))
  c1 : W.cell? (a.add m) = some (.int .i64 x)
  c2 : W.cell? (a.add m2) = some (.int .i64 y)
  ge : w.heap.size ≤ B0
  ne1 : a.block ≠ B0
  ne2 : ∀ j, v.ownBlock = some j → j ≠ B0
section
variable {w W : World} {B0 : Nat} {a : Addr} {m m2 : Nat} {x y lo hi u : Int} {v : Value} {L : List Sp}
theorem SetI.cells (H : SetI w W B0 a m m2 x y lo hi v L) : (W.cell? ⟨B0, 0, none⟩ = some (.int .i64 lo) ∧ W.cell? ⟨B0, 1, none⟩ = some (.int .i64 hi)) ∧ W.cell? (a.add m) = some (.int .i64 x) ∧ W.cell? (a.add m2) = some (.int .i64 y) := ⟨sp_cells H.blk, H.c1, H.c2⟩
end
end Go.Proofs.YtnpeahbbcolfmaaGreatDoor
namespace Go.Proofs.YtnpeahbbcolfmaaGreatDoor
open Go.RowKit
set_option maxRecDepth 20000
/-- A slice, its spans, a bound on their number. -/
structure Ent where
  v : Value
  l : List Sp
  n : Nat
/-- What is at hand in the world W; all that lay there at w lies as it lay. -/
structure Kp (w W : World) (xs : List Ent) : Prop where
  bel : Below w.heap.size w W
  ent : ∀ x ∈ xs, SSeen W x.v x.l ∧ x.l.length ≤ x.n ∧ Top topN x.l
theorem Kp.start (w : World) : Kp w w [] := ⟨Below.refl _ w, fun x h => by simp at h⟩
section
variable {w W W' : World} {xs : List Ent} {x y : Ent}
theorem Kp.next (K : Kp w W xs) (b : Below W.heap.size W W') : Kp w W' xs := ⟨K.bel.trans (b.mono K.bel.size), fun x h => ⟨(K.ent x h).1.kb b, (K.ent x h).2⟩⟩
theorem Kp.push (K : Kp w W xs) (h : SSeen W x.v x.l) (hn : x.l.length ≤ x.n) (ht : Top topN x.l) : Kp w W (x :: xs) :=
  ⟨K.bel, fun y hy => by
    rcases List.mem_cons.1 hy with rfl | hy
    · exact ⟨h, hn, ht⟩
    · exact K.ent y hy⟩
theorem Kp.at (K : Kp w W xs) {i : Nat} (h : xs[i]? = some x) : SSeen W x.v x.l ∧ x.l.length ≤ x.n ∧ Top topN x.l := K.ent x (List.mem_of_getElem? h)
end
end Go.Proofs.YtnpeahbbcolfmaaGreatDoor
namespace Go.Proofs.YtnpeahbbcolfmaaGreatDoor
open Go.RowKit
open Go.Maps
/-- The set of n numbers from low on. -/
def grp (low : Int) (n : Nat) : List Sp := if n = 0 then [] else [(low, low + n - 1)]
theorem grp_nrm {low : Int} (h : 0 ≤ low) (n : Nat) : Nrm (grp low n) := by
  unfold grp
  split
  · trivial
  · exact ⟨h, by simp only; omega, fun t ht => absurd ht (by simp), trivial⟩
theorem grp_mk {low : Int} (h : 0 ≤ low) (n : Nat) : mk [(low, low + n - 1)] = grp low n := (mk_eq (grp_nrm h n) fun x => by
  rw [has_one]
  unfold grp
  split
  · rename_i h0
    subst h0
    rw [has_nil]
    constructor
    · exact False.elim
    · rintro ⟨_, h1, h2⟩
      simp only at h1 h2
      omega
  · rw [has_one]).symm
theorem grp_top {low : Int} (h : low ≤ 2000000000000) {n : Nat} (hn : n ≤ 100000) : Top topN (grp low n) := fun s hs => by
  unfold grp at hs
  split at hs
  · cases hs
  · rw [List.mem_singleton.1 hs]
    unfold topN
    simp only
    omega
theorem sown_lower {w : World} {B B' : Nat} {v : Value} {l : List Sp} (h : SOwn w B v l) (hB : B' ≤ B) : SOwn w B' v l := by
  rcases h with ⟨h1, h2 | ⟨g, cap, cur, h3, h4, h5⟩⟩
  · exact ⟨h1, .inl h2⟩
  · exact ⟨h1, .inr ⟨g, cap, cur, h3, Nat.le_trans hB h4, h5⟩⟩
theorem grp_len (low : Int) (n : Nat) : (grp low n).length ≤ 1 := by unfold grp; split <;> simp
/-- All the numbers of m masters and n others. -/
def allOf (m n : Nat) : List Sp := mk (grp 0 m ++ grp split n)
theorem sseen_one (w : World) (y : Sp) (o : Nat) (ho : o = w.heap.size) : SSeen (w.alloc (.cells #[.int .i64 y.1, .int .i64 y.2] 51)) (.slice (some ⟨o, 0, none⟩) 1 1) [y] := by
  subst ho
  refine ⟨_, _, rfl, by simp, fun j s hj => ?_⟩
  obtain ⟨rfl, rfl⟩ : j = 0 ∧ y = s := by
    match j, hj with
    | 0, hj => exact ⟨rfl, by simpa using hj⟩
    | j + 1, hj => simp at hj
  have hb := heap_alloc_last w (.cells #[.int .i64 y.1, .int .i64 y.2] 51)
  exact ⟨_, _, rfl, by rw [cell_of_row _ _ _ _ _ _ hb]; rfl, by rw [cell_of_row _ _ _ _ _ _ hb]; rfl⟩
theorem grp_fits {low : Int} (h0 : 0 ≤ low) (h1 : low ≤ 2000000000000) {n : Nat} (hn : n ≤ 100000) : wrap64 (low + n) = low + n ∧ wrap64 (low + n - 1) = low + n - 1 ∧ low + n - 1 ≤ topN := by unfold wrap64 topN; omega
set_option maxHeartbeats 2000000 in
theorem group_to (w : World) (low : Int) (n : Nat) (h0 : 0 ≤ low) (h1 : low ≤ 2000000000000) (hn : n ≤ 100000) :
    Calls Tryz.prog 50 #[.int .i64 low, .int .i64 (n : Int)] w fun e w' => ∃ v', e = .returned v' ∧ SOwn w' w.heap.size v' (grp low n) ∧ Below w.heap.size w w' := by
  obtain ⟨f1, f2, f3⟩ := grp_fits h0 h1 hn
  obtain ⟨z, hz⟩ : ∃ z, z = low + n - 1 := ⟨_, rfl⟩
  obtain ⟨y, hy⟩ : ∃ y, y = low + n := ⟨_, rfl⟩
  have hw2 : wrap64 (y - 1) = z := by rw [hy, hz]; exact f2
  have hw1 : wrap64 (low + n) = y := by rw [hy]; exact f1
  have HM := Lib.hid (make_to (w.alloc (.cells #[.int .i64 low, .int .i64 z] 51)) (.slice (some ⟨w.heap.size, 0, none⟩) 1 1) [(low, z)] (sseen_one w (low, z) _ rfl) (by simp) (fun s hs => by rw [List.mem_singleton.1 hs, hz]; exact f3))
  have HZ : Hid (mk [(low, z)] = grp low n) := Lib.hid (by rw [hz]; exact grp_mk h0 n)
  have BA := Lib.hid (below_al11 w (.cells #[.int .i64 low, .int .i64 z] 51))
  clear hy hz f1 f2 f3 h0 h1 hn
  go_enter Tryz.func50, Tryz.ntmps50
  go_wp2_with fail
  refine HM.out.mono ?_
  rintro e w1 ⟨v1, rfl, o1, b1⟩
  rw [HZ.out] at o1
  have O1 := Lib.hid o1
  have B1 := Lib.hid b1
  obtain ⟨p1, c1, rfl⟩ := o1.shape
  clear o1 b1
  go_wp2_with fail
  go_ret
  exact ⟨_, rfl, sown_lower O1.out BA.out.size, BA.out.trans (B1.out.mono BA.out.size)⟩
theorem master_to (W : World) (i nb : Nat) (most : Int) (p : Option Addr) (n c : Nat) (ov : Value) (f : Key → Option Int) (H : IM W i nb most (.slice p n c) ov f) (hn : n ≤ 100000) :
    Calls Tryz.prog 16 #[ip i] W fun e w' => ∃ v', e = .returned v' ∧ SOwn w' W.heap.size v' (grp 0 n) ∧ Below W.heap.size W w' := by
  have h1 := H.c (k := 1) rfl
  have HG := Lib.hid (group_to W 0 n (by decide) (by decide) hn)
  clear H hn
  go_enter Tryz.func16, Tryz.ntmps16
  go_wp2_with fail
  refine HG.out.mono ?_
  rintro e w1 ⟨v1, rfl, o1, b1⟩
  have O1 := Lib.hid o1
  have B1 := Lib.hid b1
  obtain ⟨p1, c1, rfl⟩ := o1.shape
  clear o1 b1
  go_wp2_with fail
  go_ret
  exact ⟨_, rfl, O1.out, B1.out⟩
set_option maxRecDepth 20000 in
set_option maxHeartbeats 4000000 in
theorem all_to (W : World) (i nb : Nat) (most : Int) (p q : Option Addr) (n m c d : Nat) (f : Key → Option Int) (H : IM W i nb most (.slice p n c) (.slice q m d) f) (hn : n ≤ 100000) (hm : m ≤ 100000) :
    Calls Tryz.prog 15 #[ip i] W fun e w' => ∃ v', e = .returned v' ∧ SOwn w' W.heap.size v' (allOf n m) ∧ Below W.heap.size W w' := by
  have H0 := Lib.hid H
  have HN := Lib.hid hn
  have HMM := Lib.hid hm
  clear H hn hm
  go_enter Tryz.func15, Tryz.ntmps15
  go_wp2_with fail
  have bq : Below W.heap.size W W.drew := blw_qt _ 1 W
  have H1 := Lib.hid (H0.out.kb bq)
  have B1 := Lib.hid bq
  clear bq H0
  try simp only [List.append]
  refine wp_region_noPanic ?_
  refine wp_region_held_drew (S := (fun V => V.cell? ⟨i, 2, none⟩ = some (.slice q m d))) (by kernel_rfl) (H1.out.c (k := 2) rfl) (fun hHeld => ?_)
  generalize W.drew = w0 at *
  refine wpAnyH_take (i := 0) (v := ?_) (by simp only [List.getElem?_toArray, List.getElem?_cons_zero]; rfl) (by kernel_rfl) (by kernel_rfl) (by kernel_rfl) (fun _ _ _ h => h) (Or.inl ⟨by rfl, ?_⟩) (by assumption) ?_
  rotate_left
  · intro w hSw
    try dsimp only at hSw
    go_simp
    try with_reducible rfl
  try simp only [Act.put, List.setIfInBounds_toArray, List.set_cons_zero, List.set_cons_succ]
  refine wpAnyH_take (i := 2) (v := ?_) (by simp only [List.getElem?_toArray, List.getElem?_cons_succ, List.getElem?_cons_zero]; rfl) (by kernel_rfl) (by kernel_rfl) (by kernel_rfl) (fun _ _ _ h => h) (Or.inl ⟨by rfl, ?_⟩) (by assumption) ?_
  rotate_left
  · intro w hSw
    try dsimp only at hSw
    go_simp
    try with_reducible rfl
  try simp only [Act.put, List.setIfInBounds_toArray, List.set_cons_zero, List.set_cons_succ]
  refine wpAnyH_take (i := 3) (v := ?_) (by simp only [List.getElem?_toArray, List.getElem?_cons_succ, List.getElem?_cons_zero]; rfl) (by kernel_rfl) (by kernel_rfl) (by kernel_rfl) (fun _ _ _ h => h) (Or.inl ⟨by rfl, ?_⟩) (by assumption) ?_
  rotate_left
  · intro w hSw
    try dsimp only at hSw
    go_simp
    try with_reducible rfl
  try simp only [Act.put, List.setIfInBounds_toArray, List.set_cons_zero, List.set_cons_succ]
  refine wpAnyH_take (i := 4) (v := ?_) (by simp only [List.getElem?_toArray, List.getElem?_cons_succ, List.getElem?_cons_zero]; rfl) (by kernel_rfl) (by kernel_rfl) (by kernel_rfl) (fun _ _ _ h => h) (Or.inl ⟨by rfl, ?_⟩) (by assumption) ?_
  rotate_left
  · intro w hSw
    try dsimp only at hSw
    go_simp
    try with_reducible rfl
  try simp only [Act.put, List.setIfInBounds_toArray, List.set_cons_zero, List.set_cons_succ]
  refine wpAnyH_take (i := 5) (v := ?_) (by simp only [List.getElem?_toArray, List.getElem?_cons_succ, List.getElem?_cons_zero]; rfl) (by kernel_rfl) (by kernel_rfl) (by kernel_rfl) (fun _ _ _ h => h) (Or.inl ⟨by rfl, ?_⟩) (by assumption) ?_
  rotate_left
  · intro w hSw
    try dsimp only at hSw
    go_simp
    try with_reducible rfl
  try simp only [Act.put, List.setIfInBounds_toArray, List.set_cons_zero, List.set_cons_succ]
  refine wpAnyH_take (i := 6) (v := ?_) (by simp only [List.getElem?_toArray, List.getElem?_cons_succ, List.getElem?_cons_zero]; rfl) (by kernel_rfl) (by kernel_rfl) (by kernel_rfl) (fun _ _ _ h => h) (Or.inl ⟨by rfl, ?_⟩) (by assumption) ?_
  rotate_left
  · intro w hSw
    try dsimp only at hSw
    go_simp
    try with_reducible rfl
  try simp only [Act.put, List.setIfInBounds_toArray, List.set_cons_zero, List.set_cons_succ]
  refine wpAnyH_ready (rs := [1]) (by kernel_rfl) (by simp) ?_
  refine AllReadyH.cons (by simp only [List.getElem?_toArray, List.getElem?_cons_succ, List.getElem?_cons_zero]; rfl) (fun K hK => ?_) AllReadyH.nil
  go_simp
  refine (master_to w0 i nb most p n c _ f H1.out HN.out).mono ?_
  rintro e w1 ⟨v1, rfl, o1, b1⟩
  have O1 := Lib.hid o1.seen
  obtain ⟨p1, c1, rfl⟩ := o1.shape
  have H2 := Lib.hid (H1.out.kb b1)
  have B2 := Lib.hid (B1.out.trans (b1.mono B1.out.size))
  clear o1 b1 H1 B1
  go_wp2_with fail
  refine hK.out _ _ (H2.out.c (k := 2) rfl) (fun hHeld => ?_)
  clear hK K
  try simp only [Act.put, List.setIfInBounds_toArray, List.set_cons_zero, List.set_cons_succ]
  refine wpAnyH_ready (rs := [7]) (by kernel_rfl) (by simp) ?_
  refine AllReadyH.cons (by simp only [List.getElem?_toArray, List.getElem?_cons_succ, List.getElem?_cons_zero]; rfl) (fun K hK => ?_) AllReadyH.nil
  go_simp
  refine (group_to w1 1099511627776 m (by decide) (by decide) HMM.out).mono ?_
  rintro e w2 ⟨v2, rfl, o2, b2⟩
  have O2 := Lib.hid o2.seen
  obtain ⟨p2, c2, rfl⟩ := o2.shape
  have O3 := Lib.hid (O1.out.kb b2)
  have H3 := Lib.hid (H2.out.kb b2)
  have B3 := Lib.hid (B2.out.trans (b2.mono B2.out.size))
  clear o2 b2 H2 B2 O1
  go_wp2_with fail
  refine hK.out _ _ (H3.out.c (k := 2) rfl) (fun hHeld => ?_)
  clear hK K
  try simp only [Act.put, List.setIfInBounds_toArray, List.set_cons_zero, List.set_cons_succ]
  refine wpAnyH_ready (rs := [8]) (by kernel_rfl) (by simp) ?_
  refine AllReadyH.cons (by simp only [List.getElem?_toArray, List.getElem?_cons_succ, List.getElem?_cons_zero]; rfl) (fun K hK => ?_) AllReadyH.nil
  go_simp
  refine (union_to w2 _ _ (grp 0 n) (grp 1099511627776 m) O3.out O2.out (by have := grp_len 0 n; have := grp_len 1099511627776 m; omega) (grp_top (by decide) HN.out) (grp_top (by decide) HMM.out)).mono ?_
  rintro e w3 ⟨v3, rfl, o3, b3⟩
  have O4 := Lib.hid (sown_lower o3 B3.out.size)
  obtain ⟨p3, c3, rfl⟩ := o3.shape
  have H4 := Lib.hid (H3.out.kb b3)
  have B4 := Lib.hid (B3.out.trans (b3.mono B3.out.size))
  clear o3 b3 H3 B3 O2 O3
  go_wp2_with fail
  refine hK.out _ _ (H4.out.c (k := 2) rfl) (fun hHeld => ?_)
  clear hK K
  try simp only [Act.put, List.setIfInBounds_toArray, List.set_cons_zero, List.set_cons_succ]
  refine wpAnyH_take (i := 9) (v := ?_) (by simp only [List.getElem?_toArray, List.getElem?_cons_succ, List.getElem?_cons_zero]; rfl) (by kernel_rfl) (by kernel_rfl) (by kernel_rfl) (fun _ _ _ h => h) (Or.inl ⟨by rfl, ?_⟩) (by assumption) ?_
  rotate_left
  · intro w hSw
    try dsimp only at hSw
    go_simp
    try with_reducible rfl
  try simp only [Act.put, List.setIfInBounds_toArray, List.set_cons_zero, List.set_cons_succ]
  refine wpAnyH_done (by kernel_rfl) ?_ _
  refine NoPanic.normal ?_
  clear hHeld
  go_wp2_with fail
  go_ret
  exact ⟨_, rfl, O4.out, B4.out⟩
end Go.Proofs.YtnpeahbbcolfmaaGreatDoor
namespace Go.Proofs.YtnpeahbbcolfmaaGreatDoor
open Go.RowKit Go.Extern.Stop Go.Stop Go.Extern
open Go.Maps
theorem IA.lower {W : World} {B B' i nb : Nat} {most : Int} {mv ov : Value} {ms os : List Key} {f : Key → Option Int} (h : IA W B i nb most mv ov ms os f) (hB : B' ≤ B) : IA W B' i nb most mv ov ms os f :=
  ⟨h.cell, own_lower h.om hB, own_lower h.oo hB, h.mp, h.ap, ⟨Nat.le_trans hB h.lo.1, Nat.le_trans hB h.lo.2⟩⟩
theorem HSeen.some_lt {W : World} {v : Value} {E : List Key} (h : HSeen W v E) (h0 : E ≠ []) (h32 : H32 E) {b : Nat} (hb : sblk v = some b) : b < W.heap.size := by
  rcases h with ⟨_, h1⟩ | ⟨a, cap, rfl, _, h3⟩
  · exact absurd h1 h0
  · injection hb with hb
    subst hb
    have hl : 0 < (fl E).length := by
      rw [fl_length h32]
      have := List.length_pos_iff.2 h0
      omega
    have := World.block_lt_of_cell? _ _ (h3 0 _ (List.getElem?_eq_getElem hl))
    rwa [show a.add 0 = a by simp [Addr.add]] at this
theorem HSeen.keep0 {w w' : World} {v : Value} {E : List Key} {S : Nat → Prop} (h : HSeen w v E) (ho : Only S w w') (hb : E ≠ [] → ∀ b, sblk v = some b → ¬ S b) : HSeen w' v E := by
  by_cases h0 : E = []
  · subst h0
    rcases h with h1 | ⟨a, cap, rfl, h2, _⟩
    · exact .inl h1
    · exact .inr ⟨a, cap, rfl, h2, fun j u hj => by simp [fl] at hj⟩
  · exact h.keep ho (hb h0)
theorem fl_first {E : List Key} (h0 : E ≠ []) (h32 : H32 E) : ∃ n : Int, (fl E)[0]? = some (.int .u8 n) := by
  cases E with
  | nil => exact absurd rfl h0
  | cons h E =>
    have hh := h32 h List.mem_cons_self
    cases h with
    | nil => cases hh
    | cons b h => exact ⟨(b.toNat : Int), by simp [fl, us, nmb]⟩
/-- The graph's rows lie elsewhere than the numbers'. -/
def Fa (X : Lx) (mv ov : Value) : Prop := ∀ x ∈ X, x.2.2 ≠ [] → ∀ b, sblk x.2.1 = some b → mv.ownBlock ≠ some b ∧ ov.ownBlock ≠ some b
structure Jo (w W : World) (g bm i nb : Nat) (X : Lx) (most : Int) (mv ov : Value) (ms os : List Key) : Prop where
  k : Ks w W [] g bm X []
  a : IA W w.heap.size i nb most mv ov ms os (idn ms os)
  wf : Wf (gr X)
  inn : In13 (gr X) ms os
  ne : nb ≠ bm
  far : Fa X mv ov
section
variable {w W W' : World} {g bm i nb : Nat} {X : Lx} {most : Int} {mv ov : Value} {ms os : List Key}
theorem Jo.kb (h : Jo w W g bm i nb X most mv ov ms os) (k : Below W.heap.size W W') : Jo w W' g bm i nb X most mv ov ms os := ⟨h.k.kb k, h.a.kb k, h.wf, h.inn, h.ne, h.far⟩
theorem Jo.stay (h : Jo w W g bm i nb X most mv ov ms os) {V : World} (ho : Only (iS i nb mv ov) W V) : GA V g bm X := by
  refine ⟨(ho.block g (Array.getElem?_eq_some_iff.1 h.k.ga.cell).1 (h.a.off h.k.ga.cell (by decide) (by decide))).trans h.k.ga.cell, h.k.ga.at_.mp.kept ho ?_, fun x hx => ?_⟩
  · obtain ⟨es, c, hm⟩ := h.k.ga.at_.mp.ismap
    rintro (e | e | e | e)
    · rw [e, h.a.cell] at hm; cases hm
    · exact h.ne e.symm
    · exact own_nomap h.a.om hm e
    · exact own_nomap h.a.oo hm e
  · obtain ⟨h1, h2⟩ := h.k.ga.at_.seen x hx
    refine ⟨h1.keep0 ho fun h0 b hb => ?_, h2⟩
    obtain ⟨f1, f2⟩ := h.far x hx h0 b hb
    rintro (e | e | e | e)
    · subst e
      rcases h1 with ⟨_, h4⟩ | ⟨a, cap, h4, _, h3⟩
      · exact h0 h4
      · have hl : 0 < (fl x.2.2).length := by
          rw [fl_length h2]
          have := List.length_pos_iff.2 h0
          omega
        have h5 := h3 0 _ (List.getElem?_eq_getElem hl)
        rw [h4] at hb
        injection hb with hb
        have h5' := h5
        rw [show a.add 0 = a by simp [Addr.add]] at h5
        have h6 := World.cell?_spot h5
        obtain ⟨n1, hn1⟩ := fl_first h0 h2
        have hv1 : (fl x.2.2)[0]'hl = .int .u8 n1 := by
          have := List.getElem?_eq_getElem hl
          rw [hn1] at this
          injection this with this
          exact this.symm
        rw [hv1] at h5
        have e1 : a = ⟨a.block, a.off, none⟩ := by
          cases a with
          | mk p q r => simp only at h6 ⊢; rw [h6]
        rw [e1, hb, cell_of_row W b _ _ _ _ h.a.cell] at h5
        generalize a.off = j at h5
        match j, h5 with
        | 0, h5 => simp at h5
        | 1, h5 =>
          obtain ⟨p, n, c, e9, _⟩ := own_sh h.a.om
          simp [e9] at h5
        | 2, h5 =>
          obtain ⟨p, n, c, e9, _⟩ := own_sh h.a.oo
          simp [e9] at h5
        | 3, h5 => simp at h5
        | j + 4, h5 => simp at h5
    · subst e
      rcases h1 with ⟨_, h4⟩ | ⟨a, cap, h4, _, h3⟩
      · exact h0 h4
      · have hl : 0 < (fl x.2.2).length := by
          rw [fl_length h2]
          have := List.length_pos_iff.2 h0
          omega
        have h5 := h3 0 _ (List.getElem?_eq_getElem hl)
        rw [h4] at hb
        injection hb with hb
        rw [show a.add 0 = a by simp [Addr.add]] at h5
        obtain ⟨M, m1, _⟩ := h.a.mp
        obtain ⟨es, c, hm⟩ := m1.ismap
        exact cell_nomap h5 (by rw [hb]; exact hm)
    · exact f1 e
    · exact f2 e
theorem Jo.turn (h : Jo w W g bm i nb X most mv ov ms os) {ms' os' : List Key} (p : IPost W W' w.heap.size i nb most mv ov ms' os' (idn ms' os')) (hi : In13 (gr X) ms' os') :
    ∃ mv' ov', Jo w W' g bm i nb X most mv' ov' ms' os' ∧ Only (iS i nb mv ov) W W' ∧ iL W.heap.size mv ov mv' ov' := by
  obtain ⟨mv', ov', h1, h2, h3⟩ := p
  refine ⟨mv', ov', ⟨⟨h.a.below h2 h.k.bel (Nat.le_refl _), fun p hp => (by cases hp), h.stay h2, h.k.lo, fun p hp => (by cases hp)⟩, h1, h.wf, hi, h.ne, fun x hx h0 b hb => ?_⟩, h2, h3⟩
  have hlt := (h.k.ga.at_.seen x hx).1.some_lt h0 (h.k.ga.at_.seen x hx).2 hb
  obtain ⟨f1, f2⟩ := h.far x hx h0 b hb
  have key : ∀ {u : Value}, (mv'.ownBlock = u.ownBlock ∨ ov'.ownBlock = u.ownBlock) → u.ownBlock ≠ some b := fun hu e => by
    rcases h3 b (hu.imp (fun q => by rw [q, e]) (fun q => by rw [q, e])) with q | q | q
    · exact f1 q
    · exact f2 q
    · omega
  exact ⟨key (.inl rfl), key (.inr rfl)⟩
theorem Jo.grow (h : Jo w W g bm i nb X most mv ov ms os) {X' : Lx} (k' : Ks w W' [] g bm X' []) (ho : Only (fun j => j = bm) W W') (hf : FarX W.heap.size X X') (wf' : Wf (gr X')) (hg : ∀ x, (aget x (gr X)).isSome = true → (aget x (gr X')).isSome = true ∧ adj (gr X') x = adj (gr X) x) : Jo w W' g bm i nb X' most mv ov ms os := by
  obtain ⟨es, c, hm⟩ := h.k.ga.at_.mp.ismap
  refine ⟨k', h.a.keep ho (fun e => by rw [← e, h.a.cell] at hm; cases hm) h.ne (fun j hj e => own_nomap h.a.om hm (by rw [hj, e])) (fun j hj e => own_nomap h.a.oo hm (by rw [hj, e])), wf', h.inn.grow hg, h.ne, fun x hx h0 b hb => ?_⟩
  rcases hf x hx with h1 | h1
  · exact h.far x h1 h0 b hb
  · have := h1 b hb
    exact ⟨fun e => by have := own_lt h.a.om b e; omega, fun e => by have := own_lt h.a.oo b e; omega⟩
end
end Go.Proofs.YtnpeahbbcolfmaaGreatDoor
namespace Go.Proofs.YtnpeahbbcolfmaaGreatDoor
open Go.RowKit Go.Extern.Stop Go.Stop Go.Extern
open Go.Maps
/-- What the example is. -/
structure K13 (a b : Key) : Prop where
  la : a.length = 32
  lb : b.length = 32
  ba : Tryz.prog.built 31 [(0, .int .u8 1)] = some (hv a)
  bb : Tryz.prog.built 31 [(0, .int .u8 2)] = some (hv b)
  f1 : chk [] 2 [(a, []), (b, [a])] [] = none
  g1 : adds [] [(a, []), (b, [a])] = [(a, []), (b, [a])]
  ok : COk [(a, []), (b, [a])]
  m1 : mNew [(a, []), (b, [a])] 2 [] [] = []
  o1 : oNew [(a, []), (b, [a])] 2 [] [] [] [(a, []), (b, [a])] = [a, b]
  u2 : mUp [(a, []), (b, [a])] [] [a] = [a]
  o2 : oNew [(a, []), (b, [a])] 1 [] [a, b] [a] [] = [b]
  n1 : idn [a] [b] a = some 0
  n2 : idn [a] [b] b = some 1099511627776
theorem k13_f1 : chk [] 2 [(kn 1, []), (kn 2, [kn 1])] [] = none := by
  refine chk_fine.2 ⟨by decide, by decide, by decide, by decide, by decide, ?_, by decide⟩
  have hn : ¬ ∃ p ∈ [kn 1], Up (adj (addA [] [] [(kn 1, []), (kn 2, [kn 1])])) p (kn 2) := fun ⟨p, hp, h⟩ => by
    rw [List.mem_singleton.1 hp] at h
    exact no_up (by decide) (by decide) h
  rw [ck6, if_neg (fun ⟨p, hp, _⟩ => by cases hp), ck6, if_neg hn]
  rfl
theorem k13_w1 : wlk [(kn 1, []), (kn 2, [kn 1])] [kn 1, kn 2] = [kn 1, kn 2] := by
  have a2 : adj [(kn 1, []), (kn 2, [kn 1])] (kn 2) = [kn 1] := by decide
  have a1 : adj [(kn 1, []), (kn 2, [kn 1])] (kn 1) = [] := by decide
  obtain ⟨n1, v1⟩ : ∃ n, VL [(kn 1, []), (kn 2, [kn 1])] (fun _ => false) n [kn 1] (adj [(kn 1, []), (kn 2, [kn 1])] (kn 2)) [kn 1] := by rw [a2]; exact ⟨_, .skip (.inl (by decide)) (.nil _)⟩
  obtain ⟨n2, v2⟩ : ∃ n, VL [(kn 1, []), (kn 2, [kn 1])] (fun _ => false) n [] [kn 1, kn 2] [kn 1, kn 2] := ⟨_, .go (o1 := []) (by decide) rfl (by rw [a1]; exact .nil []) (.go (o := [kn 1]) (by decide) rfl v1 (.nil _))⟩
  refine (wlk_eq (N := n2) ?_).symm
  rw [show [kn 1, kn 2].filter (hasB [(kn 1, []), (kn 2, [kn 1])]) = [kn 1, kn 2] by decide]
  exact v2
theorem k13_w2 : wlk [(kn 1, []), (kn 2, [kn 1])] [kn 1] = [kn 1] := by
  have a1 : adj [(kn 1, []), (kn 2, [kn 1])] (kn 1) = [] := by decide
  obtain ⟨n2, v2⟩ : ∃ n, VL [(kn 1, []), (kn 2, [kn 1])] (fun _ => false) n [] [kn 1] [kn 1] := ⟨_, .go (o1 := []) (by decide) rfl (by rw [a1]; exact .nil []) (.nil _)⟩
  refine (wlk_eq (N := n2) ?_).symm
  rw [show [kn 1].filter (hasB [(kn 1, []), (kn 2, [kn 1])]) = [kn 1] by decide]
  exact v2
theorem k13_u2 : mUp [(kn 1, []), (kn 2, [kn 1])] [] [kn 1] = [kn 1] := by unfold mUp; rw [k13_w2]; decide
theorem k13 : K13 (kn 1) (kn 2) := by
  refine ⟨rfl, rfl, kn_built 1, kn_built 2, k13_f1, by decide, fun c hc => ?_, if_neg (by decide), ?_, k13_u2, ?_, by decide, by decide⟩
  · simp only [List.mem_cons, List.not_mem_nil, or_false] at hc
    rcases hc with rfl | rfl
    · exact ⟨rfl, H32.nil⟩
    · exact ⟨rfl, H32.one rfl⟩
  · unfold oNew
    rw [show mNew [(kn 1, []), (kn 2, [kn 1])] 2 [] [] = [] from if_neg (by decide)]
    unfold oUp
    rw [show ([] ++ List.map (fun x : Cm => x.1) [(kn 1, []), (kn 2, [kn 1])]) = [kn 1, kn 2] from rfl, k13_w1]
    decide
  · unfold oNew
    rw [show mNew [(kn 1, []), (kn 2, [kn 1])] 1 [] [kn 1] = [kn 1] from (if_pos rfl).trans k13_u2]
    unfold oUp
    rw [show ([kn 1] ++ List.map (fun x : Cm => x.1) []) = [kn 1] from rfl, k13_w2]
    decide
theorem Fine.add {G : Gr} {grp : Int} {cs : List Cm} {hs : List Key} (F : Fine G grp cs hs) : Fine G 2 cs [] := by
  refine ⟨?_, F.c2, F.c3, F.c4, rfl, F.c6, F.c7⟩
  have := F.bd
  unfold bnd at this ⊢
  simp only [Bool.and_eq_true] at this ⊢
  exact ⟨⟨rfl, this.1.2⟩, rfl⟩
theorem up_post {G : Gr} {w w' : World} {B i nb : Nat} {most : Int} {mv ov : Value} {ms os hs : List Key} {cs : List Cm} {grp : Int} {e : Ending} (h : UpPost G w w' B i nb most mv ov ms os hs cs grp e) (hf : ¬ (grp = 1 ∧ ((mUp G ms hs).length : Int) > most)) :
    e = .returned .nilIface ∧ IPost w w' B i nb most mv ov (mNew G grp ms hs) (oNew G grp ms os hs cs) (idn (mNew G grp ms hs) (oNew G grp ms os hs cs)) := by
  unfold UpPost at h
  rwa [if_neg hf] at h
theorem In13.new {G : Gr} (W : Wf G) {ms os : List Key} (h : In13 G ms os) (grp : Int) (hs : List Key) (cs : List Cm) : In13 G (mNew G grp ms hs) (oNew G grp ms os hs cs) := by
  unfold oNew mNew
  split
  · exact (h.upM W hs).upO W _
  · rw [h.oin]; exact h.upO W _
theorem ip_nn (i : Nat) (w : World) : (binOp .eql 24 (ip i) (.pointer none)).run Tryz.prog w = .ok (.bool false) w := by kernel_rfl
theorem IA.offn {W : World} {B i nb : Nat} {most : Int} {ms os : List Key} {f : Key → Option Int} (h : IA W B i nb most (.slice none 0 0) (.slice none 0 0) ms os f) {b : Nat} {cs : Array Value} {t : TypeId} {fz : Nat × Nat} (hb : W.heap[b]? = some (.cells cs t fz)) (h1 : t ≠ 94) : ¬ iS i nb (.slice none 0 0) (.slice none 0 0) b := fun hj => by
  rcases hj with rfl | rfl | hj | hj
  · rw [h.cell] at hb
    injection hb with hb
    injection hb with _ hb _
    exact h1 hb.symm
  · obtain ⟨M, m1, _⟩ := h.mp
    obtain ⟨es, c, hm⟩ := m1.ismap
    rw [hm] at hb; cases hb
  · cases hj
  · cases hj
theorem two_rows13 (W : World) (E : List Key) (C : Cv) : ((W.alloc (.cells (fl E).toArray 31)).alloc (.cells (cf C).toArray 34)).heap[W.heap.size]? = some (.cells (fl E).toArray 31 (0, 0)) ∧
    ((W.alloc (.cells (fl E).toArray 31)).alloc (.cells (cf C).toArray 34)).heap[W.heap.size + 1]? = some (.cells (cf C).toArray 34 (0, 0)) := by
  have hs1 : (W.alloc (.cells (fl E).toArray 31)).heap.size = W.heap.size + 1 := by simp
  have h2 := heap_alloc_last (W.alloc (.cells (fl E).toArray 31)) (.cells (cf C).toArray 34)
  rw [hs1] at h2
  exact ⟨(mild_below (below_al11 _ _)).cells (heap_alloc_last W _), h2⟩
/-- A literal of two commits, the second one on a row of hashes. -/
theorem lit_two (V : World) (r1 r2 : Nat) (a b : Key) (la : a.length = 32) (lb : b.length = 32) (h1 : V.heap[r1]? = some (.cells (fl [a]).toArray 31 (0, 0))) (h2 : V.heap[r2]? = some (.cells (cf [(a, .slice none 0 0), (b, .slice (some ⟨r1, 0, none⟩) 1 1)]).toArray 34 (0, 0))) :
    CSeen V (.slice (some ⟨r2, 0, none⟩) 2 2) [(a, []), (b, [a])] := by
  refine cseen_new h2 (by simp [la, lb]) rfl (fun i c d hc hd => ?_) 2 rfl
  match i, hc, hd with
  | 0, hc, hd =>
    simp only [List.getElem?_cons_zero, Option.some.injEq] at hc hd
    subst hc hd
    exact ⟨rfl, .inl ⟨rfl, rfl⟩⟩
  | 1, hc, hd =>
    simp only [List.getElem?_cons_zero, List.getElem?_cons_succ, Option.some.injEq] at hc hd
    subst hc hd
    exact ⟨rfl, hseen_new h1 1 rfl⟩
  | i + 2, hc, _ => simp at hc
set_option linter.unusedSimpArgs false in
set_option maxRecDepth 20000 in
set_option maxHeartbeats 8000000 in
attribute [local go_sem ↓] hld_open heq_open in
theorem known13_gen (a b : Key) (hk : K13 a b) (w : World) : Calls Tryz.prog 8 #[] w fun e w' => e = .returned (.bool true) ∧ Below w.heap.size w w' := by
  have HK := Lib.hid hk
  clear hk
  have hne := nn_iface
  have hnn := nn_nil
  go_enter Tryz.func8, Tryz.ntmps8
  go_wp2_with fail
  refine (new_to w).mono ?_
  rintro e w1 ⟨rfl, g1, b1⟩
  have K1 : Hid (Ks w w1 [] (w.heap.size + 1) w.heap.size [] []) := Lib.hid (Ks.mk b1 (fun _ h => nomatch h) g1 (Nat.le_refl _) (fun _ h => nomatch h))
  clear b1 g1
  generalize w.heap.size + 1 = g at *
  generalize hmb : w.heap.size = bm at K1
  have HMB := Lib.hid hmb
  clear hmb
  have hnp : ∀ w : World, (binOp .eql 22 (gp g) (.pointer none)).run Tryz.prog w = .ok (.bool false) w := fun w => by kernel_rfl
  go_wp2_with fail
  refine (idsnew_to w1 5 (by decide) (by decide)).mono ?_
  rintro e w2 ⟨rfl, i2, b2⟩
  have J2 : Hid (∃ i nb, i = w1.heap.size + 1 ∧ Jo w w2 g bm i nb [] 5 (.slice none 0 0) (.slice none 0 0) [] []) := Lib.hid ⟨_, _, rfl, ⟨K1.out.kb b2, (show (fun _ => none) = idn [] [] from rfl) ▸ i2.lower K1.out.bel.size, Wf.nil, In13.nil _, (fun e => by have := K1.out.ga.at_.mp.lt; omega), fun x hx => by cases hx⟩⟩
  clear i2 b2 K1
  obtain ⟨i, nb, hi, j2⟩ := J2.out
  rw [← hi]
  have J3 := Lib.hid j2
  have hin := ip_nn i
  clear J2 j2 hi
  go_wp2_with (first
    | (refine build_w (vals := #[(0, .int .u8 1)]) HK.out.ba ?hv ?hw ?_; (case hv => first | rfl | simp [Act.put, Act.eval]); (case hw => first | rfl | simp [Region.wanted, yielded]))
    | (refine build_w (vals := #[(0, .int .u8 2)]) HK.out.bb ?hv ?hw ?_; (case hv => first | rfl | simp [Act.put, Act.eval]); (case hw => first | rfl | simp [Region.wanted, yielded]))
    | (refine slice_w (E := [a]) (H32.one HK.out.la) rfl (by simp) (by simp) ?hv ?hw ?_; (case hv => first | rfl | simp [Act.put, Act.eval]); (case hw => first | rfl | simp [Region.wanted, yielded]))
    | (refine build_w (t := 34) (vals := #[(0, .agg (hv b)), (1, .slice (some ⟨w2.heap.size, 0, none⟩) 1 1)]) (built_commit b _ HK.out.lb rfl) ?hv ?hw ?_; (case hv => first | rfl | simp [Act.put, Act.eval]); (case hw => first | rfl | simp [Region.wanted, yielded]))
    | (refine build_w (t := 34) (vals := #[(0, .agg (hv a))]) (built_commit0 a HK.out.la) ?hv ?hw ?_; (case hv => first | rfl | simp [Act.put, Act.eval]); (case hw => first | rfl | simp [Region.wanted, yielded]))
    | (refine slicec_w (C := [(a, .slice none 0 0), (b, .slice (some ⟨w2.heap.size, 0, none⟩) 1 1)]) (by simp [HK.out.la, HK.out.lb]) rfl (by simp) (by simp) ?hv ?hw ?_; (case hv => first | rfl | simp [Act.put, Act.eval]); (case hw => first | rfl | simp [Region.wanted, yielded])))
  have tr := two_rows13 w2 [a] [(a, .slice none 0 0), (b, .slice (some ⟨w2.heap.size, 0, none⟩) 1 1)]
  have al3 := below_al11 ((w2.alloc (.cells (fl [a]).toArray 31)).alloc (.cells (cf [(a, .slice none 0 0), (b, .slice (some ⟨w2.heap.size, 0, none⟩) 1 1)]).toArray 34)) (.cells #[.slice (some ⟨w2.heap.size + 1, 0, none⟩) 2 2, .slice none 0 0, .int .i64 2] 37)
  have HR1 := Lib.hid ((mild_below al3).cells tr.1)
  have HR2 := Lib.hid ((mild_below al3).cells tr.2)
  have HR3 := Lib.hid (heap_alloc_last ((w2.alloc (.cells (fl [a]).toArray 31)).alloc (.cells (cf [(a, .slice none 0 0), (b, .slice (some ⟨w2.heap.size, 0, none⟩) 1 1)]).toArray 34)) (.cells #[.slice (some ⟨w2.heap.size + 1, 0, none⟩) 2 2, .slice none 0 0, .int .i64 2] 37))
  have HR3' : Hid ((((w2.alloc (.cells (fl [a]).toArray 31)).alloc (.cells (cf [(a, .slice none 0 0), (b, .slice (some ⟨w2.heap.size, 0, none⟩) 1 1)]).toArray 34)).alloc (.cells #[.slice (some ⟨w2.heap.size + 1, 0, none⟩) 2 2, .slice none 0 0, .int .i64 2] 37)).heap[w2.heap.size + 1 + 1]? = some (.cells #[.slice (some ⟨w2.heap.size + 1, 0, none⟩) 2 2, .slice none 0 0, .int .i64 2] 37 (0, 0))) := Lib.hid (by have := HR3.out; rwa [al_size, al_size] at this)
  have J4 := Lib.hid (((J3.out.kb (below_al11 w2 (.cells (fl [a]).toArray 31))).kb (below_al11 _ (.cells (cf [(a, .slice none 0 0), (b, .slice (some ⟨w2.heap.size, 0, none⟩) 1 1)]).toArray 34))).kb al3)
  clear tr al3 J3 HR3
  generalize (((w2.alloc (.cells (fl [a]).toArray 31)).alloc (.cells (cf [(a, .slice none 0 0), (b, .slice (some ⟨w2.heap.size, 0, none⟩) 1 1)]).toArray 34)).alloc (.cells #[.slice (some ⟨w2.heap.size + 1, 0, none⟩) 2 2, .slice none 0 0, .int .i64 2] 37)) = w3 at *
  generalize w2.heap.size + 1 + 1 = r3 at *
  generalize w2.heap.size + 1 = r2 at *
  generalize w2.heap.size = r1 at *
  refine (add_to w3 g bm [] (.slice (some ⟨r2, 0, none⟩) 2 2) [(a, []), (b, [a])] J4.out.k.ga Wf.nil (lit_two w3 r1 r2 a b HK.out.la HK.out.lb HR1.out HR2.out) HK.out.ok (by simp) (by simp)).mono ?_
  intro e w4 hp
  obtain ⟨x, X', rfl, k4, _, hX, o4, f4⟩ := J4.out.k.addedF hp
  rw [show gr ([] : Lx) = [] from rfl] at k4 hX
  have ex := k4.err _ List.mem_cons_self
  rw [HK.out.f1] at ex
  obtain rfl : x = .nilIface := ex
  have hX := hX HK.out.f1
  have hWf : Wf (gr X') := by rw [hX]; exact add_wf Wf.nil HK.out.ok (chk_fine.1 HK.out.f1)
  rw [HK.out.g1] at hX
  have md : Mild w3 w4 := mild_map J4.out.k.ga.at_.mp o4
  have J5 := Lib.hid (J4.out.grow k4.bare o4 f4 hWf (fun x hx => by have h0 : (none : Option (List Key)).isSome = true := hx; cases h0))
  have HX := Lib.hid hX
  have HR1 := Lib.hid (md.cells HR1.out)
  have HR2 := Lib.hid (md.cells HR2.out)
  have HR3 := Lib.hid (md.cells HR3'.out)
  have hr0 := cell_obj HR3.out 0 rfl
  have hr1 := cell_obj HR3.out 1 rfl
  have hr2 := cell_obj HR3.out 2 rfl
  clear hp k4 hX o4 f4 hWf md J4 HR3'
  have HUP := Lib.hid (iupdate_to w4 w.heap.size i nb 5 (.slice none 0 0) (.slice none 0 0) [] [] J5.out.a g bm X' (fun V ho => J5.out.stay ho) J5.out.wf J5.out.inn (.slice (some ⟨r2, 0, none⟩) 2 2) (.slice none 0 0) 2 [(a, []), (b, [a])] []
    (fun V ho => ⟨lit_two V r1 r2 a b HK.out.la HK.out.lb ((ho.block r1 (Array.getElem?_eq_some_iff.1 HR1.out).1 (J5.out.a.offn HR1.out (by decide))).trans HR1.out) ((ho.block r2 (Array.getElem?_eq_some_iff.1 HR2.out).1 (J5.out.a.offn HR2.out (by decide))).trans HR2.out), .inl ⟨rfl, rfl⟩⟩) HK.out.ok H32.nil (by simp) (by simp))
  go_wp2_with fail
  refine HUP.out.mono ?_
  intro e w5 hup
  obtain ⟨rfl, ip5⟩ := up_post hup (by simp)
  have hn5 := J5.out.inn.new J5.out.wf 2 [] [(a, []), (b, [a])]
  rw [HX.out, HK.out.m1, HK.out.o1] at ip5
  rw [HX.out, HK.out.m1, HK.out.o1, ← HX.out] at hn5
  obtain ⟨mv5, ov5, j6, _, _⟩ := J5.out.turn ip5 hn5
  have J6 := Lib.hid j6
  clear hup ip5 hn5 j6 hr0 hr1 hr2 HUP J5 HR1 HR2 HR3
  go_wp2_with (first
    | (refine build_w (vals := #[(0, .int .u8 1)]) HK.out.ba ?hv ?hw ?_; (case hv => first | rfl | simp [Act.put, Act.eval]); (case hw => first | rfl | simp [Region.wanted, yielded]))
    | (refine slice_w (E := [a]) (H32.one HK.out.la) rfl (by simp) (by simp) ?hv ?hw ?_; (case hv => first | rfl | simp [Act.put, Act.eval]); (case hw => first | rfl | simp [Region.wanted, yielded])))
  have HRW := Lib.hid (heap_alloc_last w5 (.cells (fl [a]).toArray 31))
  have HLT := Lib.hid (fun j hj => J6.out.a.lt j hj)
  have J7 := Lib.hid (J6.out.kb (below_al11 w5 (.cells (fl [a]).toArray 31)))
  clear J6
  generalize w5.alloc (.cells (fl [a]).toArray 31) = w6 at *
  generalize w5.heap.size = rb at *
  refine (iupdate_to w6 w.heap.size i nb 5 mv5 ov5 [] [a, b] J7.out.a g bm X' (fun V ho => J7.out.stay ho) J7.out.wf J7.out.inn (.slice none 0 0) (.slice (some ⟨rb, 0, none⟩) 1 1) 1 [] [a]
    (fun V ho => ⟨⟨none, 0, rfl, fun i c h => by simp at h⟩, hseen_new ((ho.block rb (Array.getElem?_eq_some_iff.1 HRW.out).1 (fun h => Nat.lt_irrefl _ (HLT.out rb h))).trans HRW.out) 1 rfl⟩) (fun c hc => by cases hc) (H32.one HK.out.la) (by simp) (by simp)).mono ?_
  intro e w7 hup
  obtain ⟨rfl, ip7⟩ := up_post hup (by rw [HX.out, HK.out.u2]; simp)
  have hn7 := J7.out.inn.new J7.out.wf 1 [a] []
  have hm7 : mNew [(a, []), (b, [a])] 1 [] [a] = [a] := (if_pos rfl).trans HK.out.u2
  rw [HX.out, hm7, HK.out.o2] at ip7
  rw [HX.out, hm7, HK.out.o2, ← HX.out] at hn7
  obtain ⟨mv7, ov7, j8, _, _⟩ := J7.out.turn ip7 hn7
  have J8 := Lib.hid j8
  obtain ⟨p7, n7, c7, rfl, e7⟩ := own_sh j8.a.om
  obtain ⟨q7, m7, d7, rfl, f7⟩ := own_sh j8.a.oo
  obtain rfl : n7 = 1 := e7
  obtain rfl : m7 = 1 := f7
  clear hup ip7 hn7 hm7 j8 J7 HRW HLT
  have HI1 := Lib.hid (fun (V : World) (k : Below w7.heap.size w7 V) => (by have h := id_to (J8.out.kb k).a.im a HK.out.la; rwa [HK.out.n1] at h : Calls Tryz.prog 14 #[ip i, .agg (hv a)] V fun e w' => e = .returned (.tuple #[.int .i64 ((some (0 : Int)).getD 0), .bool (some (0 : Int)).isSome]) ∧ Below V.heap.size V w'))
  have HI2 := Lib.hid (fun (V : World) (k : Below w7.heap.size w7 V) => (by have h := id_to (J8.out.kb k).a.im b HK.out.lb; rwa [HK.out.n2] at h : Calls Tryz.prog 14 #[ip i, .agg (hv b)] V fun e w' => e = .returned (.tuple #[.int .i64 ((some (1099511627776 : Int)).getD 0), .bool (some (1099511627776 : Int)).isSome]) ∧ Below V.heap.size V w'))
  go_wp2_with (first
    | (refine build_w (vals := #[(0, .int .u8 1)]) HK.out.ba ?hv ?hw ?_; (case hv => first | rfl | simp [Act.put, Act.eval]); (case hw => first | rfl | simp [Region.wanted, yielded])))
  refine (HI1.out w7 (Below.refl _ _)).mono ?_
  rintro e w8 ⟨rfl, b8⟩
  simp only [Option.getD_some, Option.isSome_some]
  have B8 := Lib.hid b8
  clear b8
  go_wp2_with (first
    | (refine build_w (vals := #[(0, .int .u8 2)]) HK.out.bb ?hv ?hw ?_; (case hv => first | rfl | simp [Act.put, Act.eval]); (case hw => first | rfl | simp [Region.wanted, yielded])))
  refine (HI2.out w8 B8.out).mono ?_
  rintro e w9 ⟨rfl, b9⟩
  simp only [Option.getD_some, Option.isSome_some]
  have B9 := Lib.hid (B8.out.trans (b9.mono B8.out.size))
  clear b9
  go_wp2_with fail
  refine (masters_to (J8.out.kb B9.out).a.im).mono ?_
  rintro e w10 ⟨rfl, rfl⟩
  go_wp2_with fail
  refine (others_to (J8.out.kb B9.out).a.im).mono ?_
  rintro e w11 ⟨rfl, rfl⟩
  go_wp2_with fail
  go_ret
  exact ⟨rfl, J8.out.k.bel.trans (B9.out.mono J8.out.k.bel.size)⟩
theorem known13_to (w : World) : Calls Tryz.prog 8 #[] w fun e w' => e = .returned (.bool true) ∧ Below w.heap.size w w' := known13_gen _ _ k13 w
end Go.Proofs.YtnpeahbbcolfmaaGreatDoor
namespace Go.Proofs.YtnpeahbbcolfmaaGreatDoor
open Go.RowKit Go.Extern.Stop Go.Stop Go.Extern
open Go.Maps
theorem hcontf_to (w : World) (v : Value) (E : List Key) (hv' : HSeen w v E) (h32 : H32 E) (hl : E.length ≤ 1000000) (P : World → Prop) (fv : Value) (D : Key → Bool) (hcb : Cb P fv D) (hP : ∀ V, Below w.heap.size w V → P V) (hno : ∀ x ∈ E, D x = false) :
    Calls Tryz.prog 46 #[v, fv] w fun e w' => e = .returned (.bool false) ∧ Below w.heap.size w w' := by
  have HI := Lib.hid (idf_to w v E hv' h32 hl P fv D hcb hP)
  obtain ⟨p, cap, rfl⟩ := hv'.shape
  obtain ⟨k, f, c, rfl, _, _⟩ := hcb
  have HNO := Lib.hid hno
  clear hv' h32 hl hP hno
  go_enter Tryz.func46, Tryz.ntmps46
  go_wp2_with fail
  refine HI.out.mono ?_
  rintro e w1 ⟨⟨r, rfl, hr⟩, b1⟩
  have B1 := Lib.hid b1
  obtain rfl : r = -1 := by
    rcases hr with ⟨h, _⟩ | ⟨k, _, ⟨x, hx, hd⟩, _⟩
    · exact h
    · rw [HNO.out x (List.mem_of_getElem? hx)] at hd; cases hd
  clear hr b1
  go_wp2_with fail
  go_ret
  exact ⟨rfl, B1.out⟩
/-- The numbers without some. -/
def cutf (S : List Key) (f : Key → Option Int) (y : Key) : Option Int := if y ∈ S then none else f y
theorem cutf_nil (f : Key → Option Int) : cutf [] f = f := by funext y; simp [cutf]
theorem cutf_snoc (S : List Key) (x : Key) (f : Key → Option Int) : (fun y => if y = x then none else cutf S f y) = cutf (S ++ [x]) f := by
  funext y
  unfold cutf
  by_cases h : y = x
  · simp [h]
  · simp [h]
theorem cutf_sup {S L : List Key} {f : Key → Option Int} (h : ∀ x, (f x).isSome = true → x ∈ L) : ∀ x, (cutf S f x).isSome = true → x ∈ L := fun x hx => by
  unfold cutf at hx
  split at hx
  · cases hx
  · exact h x hx
theorem cutf_other {ms os S : List Key} {x : Key} (hx : x ∈ os) (hm : x ∉ ms) : decide ((cutf S (idn ms os) x).getD 0 ≥ split) = out S x := by
  unfold cutf out
  by_cases h : x ∈ S
  · rw [if_pos h, decide_eq_true h]
    exact decide_eq_false (by show ¬ ((0 : Int) ≥ split); unfold split; omega)
  · rw [if_neg h, decide_eq_false h]
    obtain ⟨j, hj⟩ := idx_some hx
    rw [idn_o hm hj]
    exact decide_eq_true (by show split + (j : Int) ≥ split; omega)
theorem cutf_renum {ms os S : List Key} (hS : ∀ x ∈ ms, x ∉ S) (hap : ∀ x ∈ os, x ∉ ms) : renum (os.filter (out S)) (cutf S (idn ms os)) = idn ms (os.filter (out S)) := by
  funext h
  unfold renum
  cases hk : idx h (os.filter (out S)) with
  | some k =>
    have hm := List.mem_filter.1 (List.mem_of_getElem? (idx_get hk))
    rw [idn_o (hap h hm.1) hk]
  | none =>
    have hn := idx_none.1 hk
    unfold cutf
    by_cases h1 : h ∈ ms
    · obtain ⟨j, hj⟩ := idx_some h1
      rw [if_neg (hS h h1), idn_m hj, idn_m hj]
    · rw [idn_none.2 ⟨h1, hn⟩]
      by_cases h2 : h ∈ S
      · rw [if_pos h2]
      · rw [if_neg h2]
        exact idn_none.2 ⟨h1, fun h3 => hn (List.mem_filter.2 ⟨h3, by simp [out, h2]⟩)⟩
/-- What Strip leaves. -/
def StPost (G : Gr) (w w' : World) (B i nb : Nat) (most : Int) (mv ov : Value) (ms os l : List Key) (e : Ending) : Prop :=
  match l.find? (fun x => decide (x ∈ ms)) with
  | some x => ∃ ev, e = .returned ev ∧ ErrW w' ev (some (19, some x)) ∧ Below w.heap.size w w'
  | none => e = .returned .nilIface ∧ IPost w w' B i nb most mv ov ms (os.filter (out (descs G l))) (idn ms (os.filter (out (descs G l))))
theorem find_at {l : List Key} {D : Key → Bool} {k : Nat} {x : Key} (hx : l[k]? = some x) (hd : D x = true) (h : ∀ y ∈ l.take k, D y = false) : l.find? D = some x := by
  obtain ⟨hk, e⟩ := List.getElem?_eq_some_iff.1 hx
  have e2 : l = l.take k ++ (x :: l.drop (k + 1)) := by rw [← e, ← List.drop_eq_getElem_cons hk, List.take_append_drop]
  rw [e2, List.find?_append, List.find?_eq_none.2 (fun y hy => by rw [h y hy]; decide), List.find?_cons_of_pos hd]
  rfl
set_option linter.unusedSimpArgs false in
set_option maxRecDepth 20000 in
set_option maxHeartbeats 8000000 in
attribute [local go_sem ↓] hld_open in
theorem istrip_to (w : World) (B i nb : Nat) (most : Int) (mv ov : Value) (ms os : List Key) (H : IA w B i nb most mv ov ms os (idn ms os)) (g bm : Nat) (X : Lx) (hga : GA w g bm X) (HWf : Wf (gr X)) (hi : In13 (gr X) ms os)
    (v : Value) (l : List Key) (hv' : HSeen w v l) (h32 : H32 l) (hl : l.length ≤ 1000) :
    Calls Tryz.prog 11 #[ip i, gp g, v] w fun e w' => StPost (gr X) w w' B i nb most mv ov ms os l e := by
  have hnp : ∀ w : World, (binOp .eql 22 (gp g) (.pointer none)).run Tryz.prog w = .ok (.bool false) w := fun w => by kernel_rfl
  have hmf := hmf11
  have hml : ms.length ≤ 100000 := by have := hi.len HWf; omega
  have HID := Lib.hid (idf_to w v l hv' h32 (Nat.le_trans hl (by decide)) _ _ _ (ismaster_cb (i := i) (nb := nb) (most := most) (mv := mv) (ov := ov) (f := idn ms os)) (fun V b => (H.kb b).im))
  obtain ⟨pl, cl, rfl⟩ := hv'.shape
  obtain ⟨nl, hnl⟩ : ∃ nl, nl = l.length := ⟨_, rfl⟩
  rw [← hnl] at hv' HID ⊢
  have HM := Lib.hid (fun x => isM_idn (ms := ms) (os := os) hml x)
  have HA := Lib.hid H
  have HG := Lib.hid hga
  have HW := Lib.hid HWf
  have HI := Lib.hid hi
  have HV := Lib.hid hv'
  have H3 := Lib.hid h32
  have HL := Lib.hid hl
  have HN := Lib.hid hnl
  clear H hga HWf hi hv' h32 hl hml hnl
  go_enter Tryz.func11, Tryz.ntmps11
  go_wp2_with fail
  refine HID.out.mono ?_
  rintro e w1 ⟨⟨r, rfl, hr⟩, b1⟩
  have B1 := Lib.hid b1
  clear b1 HID
  rcases hr with ⟨rfl, hno⟩ | ⟨k, rfl, ⟨x, hx, hd⟩, hk⟩
  · have HNO : Hid (∀ y ∈ l, y ∉ ms) := Lib.hid (fun y hy hm => by have := hno y hy; rw [HM.out, decide_eq_true hm] at this; cases this)
    have HA1 := Lib.hid (HA.out.kb B1.out)
    clear hno
    go_wp2_with fail
    refine (descendants_to w1 g bm X _ l (HG.out.kb B1.out) (HV.out.mild (mild_below B1.out)) H3.out (Nat.le_trans HL.out (by decide)) HW.out.xlen HW.out.clo HW.out.parn).mono ?_
    rintro e w2 ⟨v2, rfl, o2, b2⟩
    obtain ⟨S, hS⟩ : ∃ S, S = descs (gr X) l := ⟨_, rfl⟩
    rw [← hS] at o2
    obtain ⟨ps, ns, cs, rfl, hns⟩ := own_sh o2
    have O2 := Lib.hid o2
    have HA2 := Lib.hid (HA1.out.kb b2)
    have B2 := Lib.hid (B1.out.trans (b2.mono B1.out.size))
    have HS := Lib.hid hS
    have HNS := Lib.hid hns
    have HSM : Hid (∀ y ∈ S, y ∉ ms) := Lib.hid (by rw [hS]; exact HI.out.nom HNO.out)
    have HSL : Hid (H32 S ∧ S.length ≤ 1000) := Lib.hid (by rw [hS]; exact ⟨sub_h32 HW.out (descs_sub _ _), Nat.le_trans (descs_len _ _) HW.out.few⟩)
    have HCF := Lib.hid (hcontf_to w2 (.slice ps ns cs) S (HSeen.own o2) HSL.out.1 (Nat.le_trans HSL.out.2 (by decide)) _ _ _ (ismaster_cb (i := i) (nb := nb) (most := most) (mv := mv) (ov := ov) (f := idn ms os)) (fun V b => (HA2.out.kb b).im) (fun y hy => by rw [HM.out]; exact decide_eq_false (HSM.out y hy)))
    have HB1 : Hid (w.heap.size ≤ w1.heap.size) := Lib.hid B1.out.size
    clear o2 b2 hS hns HA1 B1
    go_wp2_with fail
    refine HCF.out.mono ?_
    rintro e w3 ⟨rfl, b3⟩
    have HA3 := Lib.hid (HA2.out.kb b3)
    have O3 := Lib.hid (own_below O2.out b3)
    have B3 := Lib.hid (B2.out.trans (b3.mono B2.out.size))
    have NE3 : Hid (∀ j, (Value.slice ps ns cs).ownBlock = some j → ¬ iS i nb mv ov j) := Lib.hid (fun j hj h => by have h1 := own_from O2.out j hj; have h2 := HA.out.lt j h; have h3 := HB1.out; omega)
    clear b3 HCF HA2 O2 B2
    go_wp2_with fail
    go_loopw [36] (fun v36 wr => ∃ k : Nat, v36 = .int .i64 k ∧ k ≤ ns ∧ Hid (IA wr B i nb most mv ov ms os (cutf (S.take k) (idn ms os))) ∧ Hid (Only (iS i nb mv ov) w wr) ∧ Hid (HOwn wr w1.heap.size (.slice ps ns cs) S)) (fun v36 _ => ns - (intOf v36).toNat)
    case atStart => exact ⟨0, rfl, Nat.zero_le _, Lib.hid (by rw [List.take_zero, cutf_nil]; exact HA3.out), Lib.hid (Only.of_below (S := iS i nb mv ov) B3.out), O3⟩
    case round =>
      clear HA3 O3 B3
      obtain ⟨k, rfl, hk, HA, T, O⟩ := hrel
      by_cases hlt : k < ns
      · have hl1 : (k : Int) < ns := by omega
        obtain ⟨j1, j2, j3⟩ := next_fit hlt (by have := HSL.out.2; have := HNS.out; omega)
        have hkE : k < S.length := by rw [← HNS.out]; exact hlt
        obtain ⟨bb, o, c', e1, hrg⟩ := (HSeen.own O.out).at HSL.out.1 hkE
        injection e1 with e1 e2 e3
        subst e1
        have htk : S.take (k + 1) = S.take k ++ [S[k]] := List.take_succ_eq_append_getElem hkE
        obtain ⟨x, hx⟩ : ∃ x, x = S[k] := ⟨_, rfl⟩
        rw [← hx] at hrg htk
        have HX : Hid (x.length = 32) := Lib.hid (by rw [hx]; exact HSL.out.1.at hkE)
        have hld0 := hld_range HX.out hrg
        have st := hst_cells x HX.out wr
        have hks : (hv x).size = 32 := by rw [hv_size, HX.out]
        have AL := Lib.hid (below_al11 wr (.cells (hv x) 31))
        have HBX := Lib.hid (heap_alloc_last wr (.cells (hv x) 31))
        have HA4 := Lib.hid (HA.out.kb AL.out)
        have T4 : Hid (Only (iS i nb mv ov) w (wr.alloc (.cells (hv x) 31))) := Lib.hid (T.out.trans (Only.of_below (S := iS i nb mv ov) AL.out) (fun _ h => h) (fun _ _ h => h))
        have O4 := Lib.hid (own_below O.out AL.out)
        have HTK := Lib.hid htk
        have HLT := Lib.hid hlt
        have HJ := Lib.hid j1
        clear hx hrg htk hkE hk e2 e3 HA T O
        go_upto_region 12 with fail
        clear st hld0
        generalize wr.alloc (.cells (hv x) 31) = w4 at *
        generalize wr.heap.size = xb at *
        have bq : Below w4.heap.size w4 w4.drew := blw_qt _ 1 w4
        have HA5 := Lib.hid (HA4.out.kb bq)
        have HB5 := Lib.hid ((mild_below bq).cells HBX.out)
        have O5 := Lib.hid (own_below O4.out bq)
        have T5 : Hid (Only (iS i nb mv ov) w w4.drew) := Lib.hid (T4.out.trans (Only.of_below (S := iS i nb mv ov) bq) (fun _ h => h) (fun _ _ h => h))
        clear bq HA4 T4 O4 HBX
        go_wp2_with fail
        try simp only [List.append]
        refine wp_region_noPanic ?_
        refine wp_region_held_drew (S := (fun V => V.cell? ⟨i, 3, none⟩ = some (.map (some nb)) ∧ (hld ⟨xb, 0, none⟩).run Tryz.prog V = .ok (.agg (hv x)) V)) (by kernel_rfl) ⟨HA5.out.c (k := 3) rfl, hld_row HX.out HB5.out⟩ (fun hHeld => ?_)
        generalize w4.drew = cw at *
        obtain ⟨w6, hmu, h6, o6⟩ := HA5.out.dlt x HX.out 0
        rw [cutf_snoc, ← HTK.out] at h6
        have hmm : ∃ es cc, cw.heap[nb]? = some (.map es cc) := by obtain ⟨M, m1, _⟩ := HA5.out.mp; exact m1.ismap
        have HDL := Lib.hid hmu
        have HA6 := Lib.hid h6
        have HB6 := Lib.hid ((o6.block xb (Array.getElem?_eq_some_iff.1 HB5.out).1 (fun e => by obtain ⟨es, cc, hm⟩ := hmm; have h1 := HB5.out; rw [e, hm] at h1; cases h1)).trans HB5.out)
        have O6 := Lib.hid (own_keep O5.out o6 (fun j hj e => by obtain ⟨es, cc, hm⟩ := hmm; exact own_nomap O5.out hm (by rw [hj, e])))
        have T6 : Hid (Only (iS i nb mv ov) w w6) := Lib.hid (T5.out.trans o6 (fun _ h => h) (fun _ _ h => .inr (.inl h)))
        clear hmu h6 o6 hmm T5 HA5 O5
        refine wpAnyH_take (i := 0) (v := ?_) (by simp only [List.getElem?_toArray, List.getElem?_cons_zero]; rfl) (by kernel_rfl) (by kernel_rfl) (by kernel_rfl) (fun _ _ _ h => h) (Or.inl ⟨by rfl, ?_⟩) (by assumption) ?_
        rotate_left
        · intro w hSw
          try dsimp only at hSw
          go_simp
          try with_reducible rfl
        try simp only [Act.put, List.setIfInBounds_toArray, List.set_cons_zero, List.set_cons_succ]
        refine wpAnyH_take (i := 1) (v := ?_) (by simp only [List.getElem?_toArray, List.getElem?_cons_succ, List.getElem?_cons_zero]; rfl) (by kernel_rfl) (by kernel_rfl) (by kernel_rfl) (fun _ _ _ h => h) (Or.inl ⟨by rfl, ?_⟩) (by assumption) ?_
        rotate_left
        · intro w hSw
          try dsimp only at hSw
          go_simp
          try with_reducible rfl
        try simp only [Act.put, List.setIfInBounds_toArray, List.set_cons_zero, List.set_cons_succ]
        refine wpAnyH_take (i := 2) (v := ?_) (by simp only [List.getElem?_toArray, List.getElem?_cons_succ, List.getElem?_cons_zero]; rfl) (by kernel_rfl) (by kernel_rfl) (by kernel_rfl) (fun _ _ _ h => h) (Or.inl ⟨by rfl, ?_⟩) (by assumption) ?_
        rotate_left
        · intro w hSw
          try dsimp only at hSw
          go_simp
          try with_reducible rfl
        try simp only [Act.put, List.setIfInBounds_toArray, List.set_cons_zero, List.set_cons_succ]
        refine wpAnyH_take (i := 3) (v := ?_) (by simp only [List.getElem?_toArray, List.getElem?_cons_succ, List.getElem?_cons_zero]; rfl) (by kernel_rfl) (by kernel_rfl) (by kernel_rfl) (fun _ _ _ h => h) (Or.inl ⟨by rfl, ?_⟩) (by assumption) ?_
        rotate_left
        · intro w hSw
          try dsimp only at hSw
          go_simp
          try with_reducible rfl
        try simp only [Act.put, List.setIfInBounds_toArray, List.set_cons_zero, List.set_cons_succ]
        refine wpAnyH_take (i := 4) (v := ?_) (by simp only [List.getElem?_toArray, List.getElem?_cons_succ, List.getElem?_cons_zero]; rfl) (by kernel_rfl) (by kernel_rfl) (by kernel_rfl) (fun _ _ _ h => h) (Or.inl ⟨by rfl, ?_⟩) (by assumption) ?_
        rotate_left
        · intro w hSw
          try dsimp only at hSw
          go_simp
          try with_reducible rfl
        try simp only [Act.put, List.setIfInBounds_toArray, List.set_cons_zero, List.set_cons_succ]
        refine wpAnyH_ready (rs := [5]) (by kernel_rfl) (by simp) ?_
        refine AllReadyH.cons (by simp only [List.getElem?_toArray, List.getElem?_cons_succ, List.getElem?_cons_zero]; rfl) (fun K hK => ?_) AllReadyH.nil
        refine step_del (by rfl) (.tmp 43) (.tmp 44) (by rfl) (by rfl) (by rfl) HDL.out ?_
        refine hK.out _ _ ⟨HA6.out.c (k := 3) rfl, hld_row HX.out HB6.out⟩ (fun hHeld => ?_)
        clear hK K
        try simp only [Act.put, List.setIfInBounds_toArray, List.set_cons_zero, List.set_cons_succ]
        refine wpAnyH_done (by kernel_rfl) ?_ _
        refine NoPanic.normal ?_
        clear hHeld
        go_wp2_with fail
        refine ⟨⟨k + 1, by first | rw [HJ.out] | rfl, HLT.out, HA6, T6, O6⟩, ?_⟩
        first | exact meas_nv HLT.out HJ.out | exact meas_nw HLT.out
      · obtain rfl : k = ns := by omega
        have hl2 : ¬ (k : Int) < k := by omega
        rw [List.take_of_length_le (by rw [HNS.out]; exact Nat.le_refl _)] at HA
        have hlen := HI.out.len HW.out
        have HCG := Lib.hid (closegaps_to wr B i nb most mv ov ms os _ HA.out (out S) (fun x hx => cutf_other hx (HI.out.apart x hx)) (fun x hx => HI.out.h32 HW.out x (List.mem_append_right _ hx)) (by omega) (List.nodup_append.1 HI.out.nd).2.1 (ms ++ os) (cutf_sup idn_sup) (by rw [List.length_append]; omega))
        clear hlt hk hlen
        go_wp2_with fail
        refine HCG.out.mono ?_
        rintro e w9 ⟨rfl, mv', ov', h9, t9, l9⟩
        have H9 := Lib.hid h9
        have T9 := Lib.hid (T.out.trans t9 (fun _ h => h) (fun _ _ h => h))
        have L9 : Hid (iL w.heap.size mv ov mv' ov') := Lib.hid (fun j hj => (l9 j hj).imp id (fun h => h.imp id (fun h => Nat.le_trans T.out.size h)))
        clear h9 t9 l9 HCG
        go_wp2_with fail
        go_ret
        unfold StPost
        rw [List.find?_eq_none.2 (fun y hy => by rw [decide_eq_false (HNO.out y hy)]; decide)]
        refine ⟨rfl, mv', ov', ?_, T9.out, L9.out⟩
        have h := H9.out
        rw [cutf_renum (fun x hx hs => HSM.out x hs hx) HI.out.apart] at h
        rw [← HS.out]
        exact h
  · have hkl : k < nl := by rw [HN.out]; exact (List.getElem?_eq_some_iff.1 hx).1
    have hkE := (List.getElem?_eq_some_iff.1 hx).1
    obtain ⟨bb, o, c', e1, hrg⟩ := (HV.out.mild (mild_below B1.out)).at H3.out hkE
    injection e1 with e1 e2 e3
    subst e1
    rw [(List.getElem?_eq_some_iff.1 hx).2] at hrg
    have HX : Hid (x.length = 32) := Lib.hid (H3.out x (List.mem_of_getElem? hx))
    have HFD : Hid (l.find? (fun y => decide (y ∈ ms)) = some x) := Lib.hid (find_at (D := fun y => decide (y ∈ ms)) hx (by rw [← HM.out]; exact hd) (fun y hy => by rw [← HM.out]; exact hk y hy))
    have hld0 := hld_range HX.out hrg
    have hl1 : (k : Int) < nl := by omega
    have hl0 : (0 : Int) ≤ k := by omega
    have hge : (k : Int) ≥ 0 := by omega
    clear hx hd hk hkl hkE hrg e2 e3
    go_wp2_with fail
    refine (of_kind w1 x HX.out 19).mono ?_
    rintro e w2 ⟨ev, rfl, _, he, b2⟩
    have E2 := Lib.hid he
    have B2 := Lib.hid (B1.out.trans (b2.mono B1.out.size))
    clear he b2
    go_wp2_with fail
    go_ret
    unfold StPost
    rw [HFD.out]
    exact ⟨_, rfl, E2.out, B2.out⟩
end Go.Proofs.YtnpeahbbcolfmaaGreatDoor
namespace Go.Proofs.YtnpeahbbcolfmaaGreatDoor
open Go.RowKit Go.Extern.Stop Go.Stop Go.Extern
open Go.Maps
structure F13 (a b s n : Key) : Prop where
  ls : s.length = 32
  ln : n.length = 32
  bs : Tryz.prog.built 31 [(0, .int .u8 7)] = some (hv s)
  bn : Tryz.prog.built 31 [(0, .int .u8 9)] = some (hv n)
  m1 : (mUp [(a, []), (b, [a])] [] [b]).length = 2
  o3 : oNew [(a, []), (b, [a])] 1 [] [] [a] [(a, []), (b, [a])] = [b]
  e1 : [n, a].find? (fun x => decide (x ∈ [a])) = some a
  e2 : [b, s].find? (fun x => decide (x ∈ [a])) = none
  d1 : [b].filter (out (descs [(a, []), (b, [a])] [b, s])) = []
  h0 : atId [a] [] 0 = some a
  h1 : atId [a] [] 1099511627776 = none
  n3 : idn [a] [] b = none
theorem f13_v2 : ∃ n, VL [(kn 1, []), (kn 2, [kn 1])] (fun _ => false) n [] [kn 2] [kn 1, kn 2] := by
  have a2 : adj [(kn 1, []), (kn 2, [kn 1])] (kn 2) = [kn 1] := by decide
  have a1 : adj [(kn 1, []), (kn 2, [kn 1])] (kn 1) = [] := by decide
  obtain ⟨n1, v1⟩ : ∃ n, VL [(kn 1, []), (kn 2, [kn 1])] (fun _ => false) n [] (adj [(kn 1, []), (kn 2, [kn 1])] (kn 2)) [kn 1] := by rw [a2]; exact ⟨_, .go (o1 := []) (by decide) rfl (by rw [a1]; exact .nil []) (.nil _)⟩
  exact ⟨_, .go (o1 := [kn 1]) (by decide) rfl v1 (.nil _)⟩
theorem f13_w2 : wlk [(kn 1, []), (kn 2, [kn 1])] [kn 2] = [kn 1, kn 2] := by
  obtain ⟨n, v⟩ := f13_v2
  refine (wlk_eq (N := n) ?_).symm
  rw [show [kn 2].filter (hasB [(kn 1, []), (kn 2, [kn 1])]) = [kn 2] by decide]
  exact v
theorem f13_w3 : wlk [(kn 1, []), (kn 2, [kn 1])] [kn 1, kn 1, kn 2] = [kn 1, kn 2] := by
  have a2 : adj [(kn 1, []), (kn 2, [kn 1])] (kn 2) = [kn 1] := by decide
  have a1 : adj [(kn 1, []), (kn 2, [kn 1])] (kn 1) = [] := by decide
  obtain ⟨n1, v1⟩ : ∃ n, VL [(kn 1, []), (kn 2, [kn 1])] (fun _ => false) n [kn 1] (adj [(kn 1, []), (kn 2, [kn 1])] (kn 2)) [kn 1] := by rw [a2]; exact ⟨_, .skip (.inl (by decide)) (.nil _)⟩
  obtain ⟨n2, v2⟩ : ∃ n, VL [(kn 1, []), (kn 2, [kn 1])] (fun _ => false) n [] [kn 1, kn 1, kn 2] [kn 1, kn 2] := ⟨_, .go (o1 := []) (by decide) rfl (by rw [a1]; exact .nil []) (.skip (.inl (by decide)) (.go (o := [kn 1]) (by decide) rfl v1 (.nil _)))⟩
  refine (wlk_eq (N := n2) ?_).symm
  rw [show [kn 1, kn 1, kn 2].filter (hasB [(kn 1, []), (kn 2, [kn 1])]) = [kn 1, kn 1, kn 2] by decide]
  exact v2
theorem f13_d1 : [kn 2].filter (out (descs [(kn 1, []), (kn 2, [kn 1])] [kn 2, kn 7])) = [] := by
  have h : kn 2 ∈ descs [(kn 1, []), (kn 2, [kn 1])] [kn 2, kn 7] := descs_mem.2 ⟨kn 2, by simp, by decide, .refl _⟩
  simp [h]
theorem f13 : F13 (kn 1) (kn 2) (kn 7) (kn 9) := by
  refine ⟨rfl, rfl, kn_built 7, kn_built 9, ?_, ?_, by decide, by decide, f13_d1, by decide, by decide, by decide⟩
  · unfold mUp; rw [f13_w2]; decide
  · unfold oNew
    rw [show mNew [(kn 1, []), (kn 2, [kn 1])] 1 [] [kn 1] = [kn 1] from (if_pos rfl).trans k13_u2]
    unfold oUp
    rw [show ([kn 1] ++ List.map (fun x : Cm => x.1) [(kn 1, []), (kn 2, [kn 1])]) = [kn 1, kn 1, kn 2] from rfl, f13_w3]
    decide
theorem all_one : allOf 1 0 = [(0, 0)] := by
  unfold allOf
  rw [show grp 0 1 ++ grp split 0 = [(0, 0)] from rfl]
  exact mk_self (grp_nrm (low := 0) (by decide) 1)
/-- Rows of a request and what it holds. -/
theorem rows13 (W : World) (E F : List Key) (C : Cv) (o : Obj) : ((((W.alloc (.cells (fl E).toArray 31)).alloc (.cells (cf C).toArray 34)).alloc (.cells (fl F).toArray 31)).alloc o).heap[W.heap.size]? = some (.cells (fl E).toArray 31 (0, 0)) ∧
    ((((W.alloc (.cells (fl E).toArray 31)).alloc (.cells (cf C).toArray 34)).alloc (.cells (fl F).toArray 31)).alloc o).heap[W.heap.size + 1]? = some (.cells (cf C).toArray 34 (0, 0)) ∧
    ((((W.alloc (.cells (fl E).toArray 31)).alloc (.cells (cf C).toArray 34)).alloc (.cells (fl F).toArray 31)).alloc o).heap[W.heap.size + 1 + 1]? = some (.cells (fl F).toArray 31 (0, 0)) ∧
    ((((W.alloc (.cells (fl E).toArray 31)).alloc (.cells (cf C).toArray 34)).alloc (.cells (fl F).toArray 31)).alloc o).heap[W.heap.size + 1 + 1 + 1]? = some o := by
  obtain ⟨h1, h2⟩ := two_rows13 W E C
  have h3 := heap_alloc_last ((W.alloc (.cells (fl E).toArray 31)).alloc (.cells (cf C).toArray 34)) (.cells (fl F).toArray 31)
  have h4 := heap_alloc_last (((W.alloc (.cells (fl E).toArray 31)).alloc (.cells (cf C).toArray 34)).alloc (.cells (fl F).toArray 31)) o
  rw [al_size, al_size] at h3
  rw [al_size, al_size, al_size] at h4
  exact ⟨(mild_below (below_al11 _ _)).cells ((mild_below (below_al11 _ _)).cells h1), (mild_below (below_al11 _ _)).cells ((mild_below (below_al11 _ _)).cells h2), (mild_below (below_al11 _ _)).cells h3, h4⟩
theorem GA.keepR {W V : World} {g bm : Nat} {X : Lx} {S : Nat → Prop} (h : GA W g bm X) (ho : Only S W V) (h1 : ¬ S g) (h2 : ¬ S bm) (h3 : ∀ x ∈ X, x.2.2 ≠ [] → ∀ b, sblk x.2.1 = some b → ¬ S b) : GA V g bm X :=
  ⟨(ho.block g (Array.getElem?_eq_some_iff.1 h.cell).1 h1).trans h.cell, h.at_.mp.kept ho h2, fun x hx => ⟨(h.at_.seen x hx).1.keep0 ho (h3 x hx), (h.at_.seen x hx).2⟩⟩
/-- A store to a request of the law's own. -/
theorem Jo.req {w W V : World} {g bm i nb : Nat} {X : Lx} {most : Int} {mv ov : Value} {ms os : List Key} (h : Jo w W g bm i nb X most mv ov ms os) {r : Nat} {p q : Option Addr} {n c m d : Nat} {x : Int}
    (hr : W.heap[r]? = some (.cells #[.slice p n c, .slice q m d, .int .i64 x] 37 (0, 0))) (ho : Only (fun j => j = r) W V) (hlo : w.heap.size ≤ r) : Jo w V g bm i nb X most mv ov ms os := by
  have hoff : ¬ iS i nb mv ov r := h.a.off hr (by decide) (by decide)
  have hbm : bm ≠ r := fun e => by
    obtain ⟨es, c', hm⟩ := h.k.ga.at_.mp.ismap
    rw [e, hr] at hm; cases hm
  have hg : g ≠ r := fun e => by
    have := h.k.ga.cell
    rw [e, hr] at this
    injection this with this
    injection this with _ h2 _
    exact absurd h2 (by decide)
  refine ⟨⟨h.k.bel.trans (ho.below h.k.bel.size fun k hk => by rw [hk]; exact hlo), fun p hp => (by cases hp), h.k.ga.keepR ho hg hbm fun x hx h0 b hb e => ?_, h.k.lo, fun p hp => (by cases hp)⟩,
    h.a.keep ho (fun e => hoff (.inl e.symm)) (fun e => hoff (.inr (.inl e.symm))) (fun j hj e => hoff (.inr (.inr (.inl (by rw [← e]; exact hj))))) (fun j hj e => hoff (.inr (.inr (.inr (by rw [← e]; exact hj))))), h.wf, h.inn, h.ne, h.far⟩
  subst e
  obtain ⟨h1, h2⟩ := h.k.ga.at_.seen x hx
  rcases h1 with ⟨_, h4⟩ | ⟨a, cap, h4, _, h3⟩
  · exact h0 h4
  · have hl : 0 < (fl x.2.2).length := by
      rw [fl_length h2]
      have := List.length_pos_iff.2 h0
      omega
    have h5 := h3 0 _ (List.getElem?_eq_getElem hl)
    rw [h4] at hb
    injection hb with hb
    rw [show a.add 0 = a by simp [Addr.add]] at h5
    have h6 := World.cell?_spot h5
    obtain ⟨n1, hn1⟩ := fl_first h0 h2
    have hv1 : (fl x.2.2)[0]'hl = .int .u8 n1 := by
      have := List.getElem?_eq_getElem hl
      rw [hn1] at this
      injection this with this
      exact this.symm
    rw [hv1] at h5
    have e1 : a = ⟨a.block, a.off, none⟩ := by
      cases a with
      | mk p q r => simp only at h6 ⊢; rw [h6]
    rw [e1, hb, cell_of_row W b _ _ _ _ hr] at h5
    generalize a.off = j at h5
    match j, h5 with
    | 0, h5 => simp at h5
    | 1, h5 => simp at h5
    | 2, h5 => simp at h5
    | j + 3, h5 => simp at h5
theorem req_set {W : World} {r : Nat} {u v x : Value} {t : TypeId} (h : W.heap[r]? = some (.cells #[u, v, x] t (0, 0))) (y : Value) : (W.setCell ⟨r, 1, none⟩ y).heap[r]? = some (.cells #[u, y, x] t (0, 0)) ∧ Only (fun j => j = r) W (W.setCell ⟨r, 1, none⟩ y) :=
  ⟨cells_set (row := [_, _, _]) (j := 1) h y, (Only.refl (fun j => j = r) W).setCell (p := ⟨r, 1, none⟩) rfl y⟩
theorem up_full {G : Gr} {w w' : World} {B i nb : Nat} {most : Int} {mv ov : Value} {ms os hs : List Key} {cs : List Cm} {e : Ending} (h : UpPost G w w' B i nb most mv ov ms os hs cs 1 e) (hf : ((mUp G ms hs).length : Int) > most) :
    e = .returned (kind 13) ∧ Below w.heap.size w w' := by
  unfold UpPost at h
  rwa [if_pos ⟨rfl, hf⟩] at h
theorem st_some {G : Gr} {w w' : World} {B i nb : Nat} {most : Int} {mv ov : Value} {ms os l : List Key} {e : Ending} {x : Key} (h : StPost G w w' B i nb most mv ov ms os l e) (hf : l.find? (fun x => decide (x ∈ ms)) = some x) :
    ∃ ev, e = .returned ev ∧ ErrW w' ev (some (19, some x)) ∧ Below w.heap.size w w' := by
  unfold StPost at h
  rwa [hf] at h
theorem st_none {G : Gr} {w w' : World} {B i nb : Nat} {most : Int} {mv ov : Value} {ms os l : List Key} {e : Ending} (h : StPost G w w' B i nb most mv ov ms os l e) (hf : l.find? (fun x => decide (x ∈ ms)) = none) :
    e = .returned .nilIface ∧ IPost w w' B i nb most mv ov ms (os.filter (out (descs G l))) (idn ms (os.filter (out (descs G l)))) := by
  unfold StPost at h
  rwa [hf] at h
end Go.Proofs.YtnpeahbbcolfmaaGreatDoor
namespace Go.Proofs.YtnpeahbbcolfmaaGreatDoor
open Go.RowKit Go.Extern.Stop Go.Stop Go.Extern
open Go.Maps
theorem one_lit {q : Array Value} (h : Tryz.prog.built 31 [(0, .int .u8 1)] = some q) : (#[.int .u8 1, .int .u8 0, .int .u8 0, .int .u8 0, .int .u8 0, .int .u8 0, .int .u8 0, .int .u8 0, .int .u8 0, .int .u8 0, .int .u8 0, .int .u8 0, .int .u8 0, .int .u8 0, .int .u8 0, .int .u8 0, .int .u8 0, .int .u8 0, .int .u8 0, .int .u8 0, .int .u8 0, .int .u8 0, .int .u8 0, .int .u8 0, .int .u8 0, .int .u8 0, .int .u8 0, .int .u8 0, .int .u8 0, .int .u8 0, .int .u8 0, .int .u8 0] : Array Value) = q :=
  Option.some.inj ((show Tryz.prog.built 31 [(0, .int .u8 1)] = some #[.int .u8 1, .int .u8 0, .int .u8 0, .int .u8 0, .int .u8 0, .int .u8 0, .int .u8 0, .int .u8 0, .int .u8 0, .int .u8 0, .int .u8 0, .int .u8 0, .int .u8 0, .int .u8 0, .int .u8 0, .int .u8 0, .int .u8 0, .int .u8 0, .int .u8 0, .int .u8 0, .int .u8 0, .int .u8 0, .int .u8 0, .int .u8 0, .int .u8 0, .int .u8 0, .int .u8 0, .int .u8 0, .int .u8 0, .int .u8 0, .int .u8 0, .int .u8 0] by kernel_rfl).symm.trans h)
theorem sown_one {W : World} {B : Nat} {v : Value} {y : Sp} (h : SOwn W B v [y]) : ∃ b o c, v = .slice (some ⟨b, o, none⟩) 1 c ∧ SSeen W v [y] := by
  have hs := h.seen
  obtain ⟨p, c, rfl, _, h0⟩ := id hs
  obtain ⟨b, o, rfl, _, _⟩ := h0 0 y rfl
  exact ⟨b, o, c, rfl, hs⟩
theorem sseen_c {W : World} {b o c : Nat} {y : Sp} (h : SSeen W (.slice (some ⟨b, o, none⟩) 1 c) [y]) : W.cell? ⟨b, o, none⟩ = some (.int .i64 y.1) ∧ W.cell? ⟨b, o + 1, none⟩ = some (.int .i64 y.2) := by
  obtain ⟨p, c', e, _, h0⟩ := h
  obtain ⟨b', o', rfl, h1, h2⟩ := h0 0 y rfl
  injection e with e
  injection e with e
  injection e with e1 e2
  subst e1 e2
  exact ⟨by simpa using h1, by simpa using h2⟩
theorem errw_only {w W V : World} {g bm i nb : Nat} {X : Lx} {most : Int} {mv ov : Value} {ms os : List Key} (J : Jo w W g bm i nb X most mv ov ms os) {v : Value} {k : Int} {x : Key} (h : ErrW W v (some (k, some x))) (ho : Only (iS i nb mv ov) W V) : ErrW V v (some (k, some x)) := by
  obtain ⟨h1, p, h2, h3⟩ := h
  exact ⟨h1, p, h2, (ho.block p (Array.getElem?_eq_some_iff.1 h3.1).1 (J.a.off h3.1 (by decide) (by decide))).trans h3.1, h3.2⟩
set_option linter.unusedSimpArgs false in
set_option maxRecDepth 20000 in
set_option maxHeartbeats 16000000 in
attribute [local go_sem ↓] hld_open heq_open in
theorem idsknown_gen (a b s n9 : Key) (hk : K13 a b) (hf : F13 a b s n9) (w : World) (hg : Glob w) : Calls Tryz.prog 3 #[] w fun e w' => e = .returned (.bool true) ∧ Below w.heap.size w w' := by
  have HG := Lib.hid hg
  have HK := Lib.hid hk
  have HF := Lib.hid hf
  clear hk hf hg
  have hne := nn_iface
  have hnn := nn_nil
  go_enter Tryz.func3, Tryz.ntmps3
  go_wp2_with fail
  refine (new_to w).mono ?_
  rintro e w1 ⟨rfl, g1, b1⟩
  have K1 : Hid (Ks w w1 [] (w.heap.size + 1) w.heap.size [] []) := Lib.hid (Ks.mk b1 (fun _ h => nomatch h) g1 (Nat.le_refl _) (fun _ h => nomatch h))
  clear b1 g1
  generalize w.heap.size + 1 = g at *
  generalize hmb : w.heap.size = bm at K1
  have HMB := Lib.hid hmb
  clear hmb
  have hnp : ∀ w : World, (binOp .eql 22 (gp g) (.pointer none)).run Tryz.prog w = .ok (.bool false) w := fun w => by kernel_rfl
  go_wp2_with fail
  refine (idsnew_bad w1 0 (.inl (by decide))).mono ?_
  rintro e wx ⟨rfl, hwx⟩
  rw [hwx]
  clear hwx wx
  go_wp2_with fail
  refine (idsnew_bad w1 601 (.inr (by decide))).mono ?_
  rintro e wx ⟨rfl, hwx⟩
  rw [hwx]
  clear hwx wx
  go_wp2_with fail
  refine (idsnew_to w1 1 (by decide) (by decide)).mono ?_
  rintro e w2 ⟨rfl, i2, b2⟩
  have J2 : Hid (∃ i nb, i = w1.heap.size + 1 ∧ Jo w w2 g bm i nb [] 1 (.slice none 0 0) (.slice none 0 0) [] []) := Lib.hid ⟨_, _, rfl, ⟨K1.out.kb b2, (show (fun _ => none) = idn [] [] from rfl) ▸ i2.lower K1.out.bel.size, Wf.nil, In13.nil _, (fun e => by have := K1.out.ga.at_.mp.lt; omega), fun x hx => by cases hx⟩⟩
  clear i2 b2 K1
  obtain ⟨i, nb, hi, j2⟩ := J2.out
  rw [← hi]
  have J2' := Lib.hid j2
  have hin := ip_nn i
  clear J2 j2 hi
  have HKN := Lib.hid (known13_to w2)
  go_wp2_with fail
  refine HKN.out.mono ?_
  rintro e w3 ⟨rfl, b3⟩
  have J3 := Lib.hid (J2'.out.kb b3)
  have hlo := J3.out.k.bel.size
  clear b3 J2' HKN
  go_wp2_with (first
    | (refine build_w (vals := #[(0, .int .u8 1)]) HK.out.ba ?hv ?hw ?_; (case hv => first | rfl | simp [Act.put, Act.eval]); (case hw => first | rfl | simp [Region.wanted, yielded]))
    | (refine build_w (vals := #[(0, .int .u8 2)]) HK.out.bb ?hv ?hw ?_; (case hv => first | rfl | simp [Act.put, Act.eval]); (case hw => first | rfl | simp [Region.wanted, yielded]))
    | (refine slice_w (E := [a]) (H32.one HK.out.la) rfl (by simp) (by simp) ?hv ?hw ?_; (case hv => first | rfl | simp [Act.put, Act.eval]); (case hw => first | rfl | simp [Region.wanted, yielded]))
    | (refine slice_w (E := [b]) (H32.one HK.out.lb) rfl (by simp) (by simp) ?hv ?hw ?_; (case hv => first | rfl | simp [Act.put, Act.eval]); (case hw => first | rfl | simp [Region.wanted, yielded]))
    | (refine build_w (t := 34) (vals := #[(0, .agg (hv b)), (1, .slice (some ⟨w3.heap.size, 0, none⟩) 1 1)]) (built_commit b _ HK.out.lb rfl) ?hv ?hw ?_; (case hv => first | rfl | simp [Act.put, Act.eval]); (case hw => first | rfl | simp [Region.wanted, yielded]))
    | (refine build_w (t := 34) (vals := #[(0, .agg (hv a))]) (built_commit0 a HK.out.la) ?hv ?hw ?_; (case hv => first | rfl | simp [Act.put, Act.eval]); (case hw => first | rfl | simp [Region.wanted, yielded]))
    | (refine slicec_w (C := [(a, .slice none 0 0), (b, .slice (some ⟨w3.heap.size, 0, none⟩) 1 1)]) (by simp [HK.out.la, HK.out.lb]) rfl (by simp) (by simp) ?hv ?hw ?_; (case hv => first | rfl | simp [Act.put, Act.eval]); (case hw => first | rfl | simp [Region.wanted, yielded])))
  have tr := rows13 w3 [a] [b] [(a, .slice none 0 0), (b, .slice (some ⟨w3.heap.size, 0, none⟩) 1 1)] (.cells #[.slice (some ⟨w3.heap.size + 1, 0, none⟩) 2 2, .slice (some ⟨w3.heap.size + 1 + 1, 0, none⟩) 1 1, .int .i64 1] 37)
  have HR1 := Lib.hid tr.1
  have HR2 := Lib.hid tr.2.1
  have HR3 := Lib.hid tr.2.2.1
  have HR4 := Lib.hid tr.2.2.2
  have J4 := Lib.hid ((((J3.out.kb (below_al11 w3 (.cells (fl [a]).toArray 31))).kb (below_al11 _ (.cells (cf [(a, .slice none 0 0), (b, .slice (some ⟨w3.heap.size, 0, none⟩) 1 1)]).toArray 34))).kb (below_al11 _ (.cells (fl [b]).toArray 31))).kb (below_al11 _ (.cells #[.slice (some ⟨w3.heap.size + 1, 0, none⟩) 2 2, .slice (some ⟨w3.heap.size + 1 + 1, 0, none⟩) 1 1, .int .i64 1] 37)))
  clear tr J3
  generalize (((w3.alloc (.cells (fl [a]).toArray 31)).alloc (.cells (cf [(a, .slice none 0 0), (b, .slice (some ⟨w3.heap.size, 0, none⟩) 1 1)]).toArray 34)).alloc (.cells (fl [b]).toArray 31)).alloc (.cells #[.slice (some ⟨w3.heap.size + 1, 0, none⟩) 2 2, .slice (some ⟨w3.heap.size + 1 + 1, 0, none⟩) 1 1, .int .i64 1] 37) = w4 at *
  have hr4 : w.heap.size ≤ w3.heap.size + 1 + 1 + 1 := by omega
  have HLO := Lib.hid hr4
  clear hr4 hlo
  generalize w3.heap.size + 1 + 1 + 1 = r4 at *
  generalize w3.heap.size + 1 + 1 = r3 at *
  generalize w3.heap.size + 1 = r2 at *
  generalize w3.heap.size = r1 at *
  refine (add_to w4 g bm [] (.slice (some ⟨r2, 0, none⟩) 2 2) [(a, []), (b, [a])] J4.out.k.ga Wf.nil (lit_two w4 r1 r2 a b HK.out.la HK.out.lb HR1.out HR2.out) HK.out.ok (by simp) (by simp)).mono ?_
  intro e w5 hp
  obtain ⟨x, X', rfl, k5, _, hX, o5, f5⟩ := J4.out.k.addedF hp
  rw [show gr ([] : Lx) = [] from rfl] at k5 hX
  have ex := k5.err _ List.mem_cons_self
  rw [HK.out.f1] at ex
  obtain rfl : x = .nilIface := ex
  have hX := hX HK.out.f1
  have hWf : Wf (gr X') := by rw [hX]; exact add_wf Wf.nil HK.out.ok (chk_fine.1 HK.out.f1)
  rw [HK.out.g1] at hX
  have md : Mild w4 w5 := mild_map J4.out.k.ga.at_.mp o5
  have J5 := Lib.hid (J4.out.grow k5.bare o5 f5 hWf (fun x hx => by have h0 : (none : Option (List Key)).isSome = true := hx; cases h0))
  have HX := Lib.hid hX
  have HR1 := Lib.hid (md.cells HR1.out)
  have HR2 := Lib.hid (md.cells HR2.out)
  have HR3 := Lib.hid (md.cells HR3.out)
  have HR4 := Lib.hid (md.cells HR4.out)
  have hr0 := cell_obj HR4.out 0 rfl
  have hr1 := cell_obj HR4.out 1 rfl
  have hr2 := cell_obj HR4.out 2 rfl
  clear hp k5 hX o5 f5 hWf md J4
  have HUP := Lib.hid (iupdate_to w5 w.heap.size i nb 1 (.slice none 0 0) (.slice none 0 0) [] [] J5.out.a g bm X' (fun V ho => J5.out.stay ho) J5.out.wf J5.out.inn (.slice (some ⟨r2, 0, none⟩) 2 2) (.slice (some ⟨r3, 0, none⟩) 1 1) 1 [(a, []), (b, [a])] [b]
    (fun V ho => ⟨lit_two V r1 r2 a b HK.out.la HK.out.lb ((ho.block r1 (Array.getElem?_eq_some_iff.1 HR1.out).1 (J5.out.a.offn HR1.out (by decide))).trans HR1.out) ((ho.block r2 (Array.getElem?_eq_some_iff.1 HR2.out).1 (J5.out.a.offn HR2.out (by decide))).trans HR2.out), hseen_new ((ho.block r3 (Array.getElem?_eq_some_iff.1 HR3.out).1 (J5.out.a.offn HR3.out (by decide))).trans HR3.out) 1 rfl⟩) HK.out.ok (H32.one HK.out.lb) (by simp) (by simp))
  go_wp2_with fail
  refine HUP.out.mono ?_
  intro e w6 hup
  obtain ⟨rfl, b6⟩ := up_full hup (by rw [HX.out, HF.out.m1]; decide)
  have HR1 := Lib.hid ((mild_below b6).cells HR1.out)
  have HR2 := Lib.hid ((mild_below b6).cells HR2.out)
  have HR4 := Lib.hid ((mild_below b6).cells HR4.out)
  have J6 := Lib.hid (J5.out.kb b6)
  have AL := below_al11 w6 (.cells (fl [a]).toArray 31)
  have HR5 := Lib.hid (heap_alloc_last w6 (.cells (fl [a]).toArray 31))
  have HA1 := Lib.hid ((mild_below AL).cells HR1.out)
  have HA2 := Lib.hid ((mild_below AL).cells HR2.out)
  have HA4 := Lib.hid ((mild_below AL).cells HR4.out)
  have JA := Lib.hid (J6.out.kb AL)
  have hq1 := cell_obj HA4.out 1 rfl
  have hfz : (w6.alloc (.cells (fl [a]).toArray 31)).frozen? ⟨r4, 1, none⟩ = false := by simp [World.frozen?, HA4.out]
  clear hup b6 hr0 hr1 hr2 HUP J5 HR1 HR2 HR3 HR4 AL J6
  go_upto_region 11 with (first
    | (refine build_w (vals := #[(0, .int .u8 1)]) HK.out.ba ?hv ?hw ?_; (case hv => first | rfl | simp [Act.put, Act.eval]); (case hw => first | rfl | simp [Region.wanted, yielded]))
    | (refine slice_w (E := [a]) (H32.one HK.out.la) rfl (by simp) (by simp) ?hv ?hw ?_; (case hv => first | rfl | simp [Act.put, Act.eval]); (case hw => first | rfl | simp [Region.wanted, yielded])))
  have sq := req_set HA4.out (.slice (some ⟨w6.heap.size, 0, none⟩) 1 1)
  have HS1 := Lib.hid ((sq.2.block r1 (Array.getElem?_eq_some_iff.1 HA1.out).1 (fun e => by have h1 := HA1.out; rw [e, HA4.out] at h1; injection h1 with h1; injection h1 with _ h2 _; exact absurd h2 (by decide))).trans HA1.out)
  have HS2 := Lib.hid ((sq.2.block r2 (Array.getElem?_eq_some_iff.1 HA2.out).1 (fun e => by have h1 := HA2.out; rw [e, HA4.out] at h1; injection h1 with h1; injection h1 with _ h2 _; exact absurd h2 (by decide))).trans HA2.out)
  have HS5 := Lib.hid ((sq.2.block w6.heap.size (Array.getElem?_eq_some_iff.1 HR5.out).1 (fun e => by have h1 := HR5.out; rw [e, HA4.out] at h1; injection h1 with h1; injection h1 with _ h2 _; exact absurd h2 (by decide))).trans HR5.out)
  have HS4 := Lib.hid sq.1
  have J7 := Lib.hid (JA.out.req HA4.out sq.2 HLO.out)
  clear sq HA1 HA2 HA4 HR5 JA hq1 hfz
  generalize (w6.alloc (.cells (fl [a]).toArray 31)).setCell ⟨r4, 1, none⟩ (.slice (some ⟨w6.heap.size, 0, none⟩) 1 1) = w7 at *
  generalize w6.heap.size = r5 at *
  have hr0 := cell_obj HS4.out 0 rfl
  have hr1 := cell_obj HS4.out 1 rfl
  have hr2 := cell_obj HS4.out 2 rfl
  have HUP := Lib.hid (iupdate_to w7 w.heap.size i nb 1 (.slice none 0 0) (.slice none 0 0) [] [] J7.out.a g bm X' (fun V ho => J7.out.stay ho) J7.out.wf J7.out.inn (.slice (some ⟨r2, 0, none⟩) 2 2) (.slice (some ⟨r5, 0, none⟩) 1 1) 1 [(a, []), (b, [a])] [a]
    (fun V ho => ⟨lit_two V r1 r2 a b HK.out.la HK.out.lb ((ho.block r1 (Array.getElem?_eq_some_iff.1 HS1.out).1 (J7.out.a.offn HS1.out (by decide))).trans HS1.out) ((ho.block r2 (Array.getElem?_eq_some_iff.1 HS2.out).1 (J7.out.a.offn HS2.out (by decide))).trans HS2.out), hseen_new ((ho.block r5 (Array.getElem?_eq_some_iff.1 HS5.out).1 (J7.out.a.offn HS5.out (by decide))).trans HS5.out) 1 rfl⟩) HK.out.ok (H32.one HK.out.la) (by simp) (by simp))
  go_wp2_with fail
  refine HUP.out.mono ?_
  intro e w8 hup
  obtain ⟨rfl, ip8⟩ := up_post hup (by rw [HX.out, HK.out.u2]; simp)
  have hn8 := J7.out.inn.new J7.out.wf 1 [a] [(a, []), (b, [a])]
  have hm8 : mNew [(a, []), (b, [a])] 1 [] [a] = [a] := (if_pos rfl).trans HK.out.u2
  rw [HX.out, hm8, HF.out.o3] at ip8
  rw [HX.out, hm8, HF.out.o3, ← HX.out] at hn8
  obtain ⟨mv8, ov8, j8, _, _⟩ := J7.out.turn ip8 hn8
  have J8 := Lib.hid j8
  clear hup ip8 hn8 hm8 j8 J7 hr0 hr1 hr2 HUP HS1 HS2 HS4 HS5
  go_wp2_with (first
    | (refine build_w (vals := #[(0, .int .u8 9)]) HF.out.bn ?hv ?hw ?_; (case hv => first | rfl | simp [Act.put, Act.eval]); (case hw => first | rfl | simp [Region.wanted, yielded]))
    | (refine build_w (vals := #[(0, .int .u8 1)]) HK.out.ba ?hv ?hw ?_; (case hv => first | rfl | simp [Act.put, Act.eval]); (case hw => first | rfl | simp [Region.wanted, yielded]))
    | (refine slice_w (E := [n9, a]) (h32_two HF.out.ln HK.out.la) rfl (by simp) (by simp) ?hv ?hw ?_; (case hv => first | rfl | simp [Act.put, Act.eval]); (case hw => first | rfl | simp [Region.wanted, yielded])))
  have RW := heap_alloc_last w8 (.cells (fl [n9, a]).toArray 31)
  have J9 := Lib.hid (J8.out.kb (below_al11 w8 (.cells (fl [n9, a]).toArray 31)))
  have HST := Lib.hid (istrip_to (w8.alloc (.cells (fl [n9, a]).toArray 31)) w.heap.size i nb 1 mv8 ov8 [a] [b] J9.out.a g bm X' J9.out.k.ga J9.out.wf J9.out.inn _ [n9, a] (hseen_new RW 2 rfl) (h32_two HF.out.ln HK.out.la) (by simp))
  clear RW J8
  generalize w8.alloc (.cells (fl [n9, a]).toArray 31) = w9 at *
  generalize w8.heap.size = r9 at *
  refine HST.out.mono ?_
  intro e w10 hst
  obtain ⟨ev, rfl, er, b10⟩ := st_some hst HF.out.e1
  have ER := Lib.hid er
  obtain ⟨_, pe, rfl, _⟩ := er
  have J10 := Lib.hid (J9.out.kb b10)
  clear hst b10 J9 HST
  have HWH := Lib.hid (whose_to w10 (whv pe) (some (19, some a)) (HG.out.kb J10.out.k.bel) ER.out)
  go_wp2_with fail
  refine HWH.out.mono ?_
  rintro e w11 ⟨rfl, b11⟩
  rw [show whoH (some (19, some a)) = a from rfl, show whoB (some (19, some a)) = true from rfl]
  have J11 := Lib.hid (J10.out.kb b11)
  have E11 := Lib.hid (ER.out.kb b11)
  clear b11 J10 ER HWH
  have hks : (hv a).size = 32 := by rw [hv_size, HK.out.la]
  have st := hst_cells a HK.out.la w11
  go_upto_region 14 with fail
  have RA := Lib.hid (heap_alloc_last w11 (.cells (hv a) 31))
  have HLT := Lib.hid (fun j hj => J11.out.a.lt j hj)
  have J12 := Lib.hid (J11.out.kb (below_al11 w11 (.cells (hv a) 31)))
  have E12 := Lib.hid (E11.out.kb (below_al11 w11 (.cells (hv a) 31)))
  clear J11 E11 st
  generalize w11.alloc (.cells (hv a) 31) = w12 at *
  generalize w11.heap.size = ra at *
  go_wp2_with (first
    | (refine build_w (vals := #[(0, .int .u8 7)]) HF.out.bs ?hv ?hw ?_; (case hv => first | rfl | simp [Act.put, Act.eval]); (case hw => first | rfl | simp [Region.wanted, yielded]))
    | (refine build_w (vals := #[(0, .int .u8 2)]) HK.out.bb ?hv ?hw ?_; (case hv => first | rfl | simp [Act.put, Act.eval]); (case hw => first | rfl | simp [Region.wanted, yielded]))
    | (refine slice_w (E := [b, s]) (h32_two HK.out.lb HF.out.ls) rfl (by simp) (by simp) ?hv ?hw ?_; (case hv => first | rfl | simp [Act.put, Act.eval]); (case hw => first | rfl | simp [Region.wanted, yielded])))
  have RW := heap_alloc_last w12 (.cells (fl [b, s]).toArray 31)
  have AL := below_al11 w12 (.cells (fl [b, s]).toArray 31)
  have J13 := Lib.hid (J12.out.kb AL)
  have E13 := Lib.hid (E12.out.kb AL)
  have RA := Lib.hid ((mild_below AL).cells RA.out)
  have HST := Lib.hid (istrip_to (w12.alloc (.cells (fl [b, s]).toArray 31)) w.heap.size i nb 1 mv8 ov8 [a] [b] J13.out.a g bm X' J13.out.k.ga J13.out.wf J13.out.inn _ [b, s] (hseen_new RW 2 rfl) (h32_two HK.out.lb HF.out.ls) (by simp))
  clear RW AL J12 E12
  generalize w12.alloc (.cells (fl [b, s]).toArray 31) = w13 at *
  generalize w12.heap.size = r13 at *
  refine HST.out.mono ?_
  intro e w14 hst
  obtain ⟨rfl, ip14⟩ := st_none hst HF.out.e2
  have hn14 := J13.out.inn.strip [b, s]
  rw [HX.out, HF.out.d1] at ip14
  rw [HX.out, HF.out.d1, ← HX.out] at hn14
  obtain ⟨mv14, ov14, j14, ho, _⟩ := J13.out.turn ip14 hn14
  have E14 := Lib.hid (errw_only J13.out E13.out ho)
  have RA := Lib.hid ((ho.block ra (Array.getElem?_eq_some_iff.1 RA.out).1 (fun h => Nat.lt_irrefl _ (HLT.out ra h))).trans RA.out)
  obtain ⟨p4, n4, c4, rfl, e4⟩ := own_sh j14.a.om
  obtain ⟨q4, m4, d4, rfl, f4⟩ := own_sh j14.a.oo
  obtain rfl : n4 = 1 := e4
  obtain rfl : m4 = 0 := f4
  have J14 := Lib.hid j14
  clear hst ip14 hn14 ho j14 J13 E13 HST HLT
  have HH0 := Lib.hid (idhash_to w14 w.heap.size i nb 1 _ _ [a] [] _ J14.out.a (H32.one HK.out.la) H32.nil (by simp) 0 (by decide) (by decide))
  rw [HF.out.h0] at HH0
  simp only [Option.getD_some, Option.isSome_some] at HH0
  go_wp2_with fail
  refine HH0.out.mono ?_
  rintro e w15 ⟨rfl, bb⟩
  have J15 := Lib.hid (J14.out.kb bb)
  have E15 := Lib.hid (E14.out.kb bb)
  have RA := Lib.hid ((mild_below bb).cells RA.out)
  clear bb J14 E14 HH0
  have st := hst_cells a HK.out.la w15
  go_upto_region 16 with fail
  have RB := Lib.hid (heap_alloc_last w15 (.cells (hv a) 31))
  have AL := below_al11 w15 (.cells (hv a) 31)
  have J16 := Lib.hid (J15.out.kb AL)
  have E16 := Lib.hid (E15.out.kb AL)
  have RA := Lib.hid ((mild_below AL).cells RA.out)
  clear AL J15 E15 st
  generalize w15.alloc (.cells (hv a) 31) = w16 at *
  generalize w15.heap.size = rb at *
  have HH1 := Lib.hid (idhash_to w16 w.heap.size i nb 1 _ _ [a] [] _ J16.out.a (H32.one HK.out.la) H32.nil (by simp) 1099511627776 (by decide) (by decide))
  obtain ⟨zz, hzz⟩ : ∃ z, z = hz := ⟨_, rfl⟩
  have hz32 : zz.length = 32 := by rw [hzz]; rfl
  rw [HF.out.h1, ← hzz] at HH1
  simp only [Option.getD_none, Option.isSome_none] at HH1
  clear hzz
  go_wp2_with fail
  refine HH1.out.mono ?_
  rintro e w17 ⟨rfl, bb⟩
  have J17 := Lib.hid (J16.out.kb bb)
  have E17 := Lib.hid (E16.out.kb bb)
  have RA := Lib.hid ((mild_below bb).cells RA.out)
  have RB := Lib.hid ((mild_below bb).cells RB.out)
  clear bb J16 E16 HH1
  have st := hst_cells zz hz32 w17
  have hkz : (hv zz).size = 32 := by rw [hv_size, hz32]
  go_upto_region 17 with fail
  have AL := below_al11 w17 (.cells (hv zz) 31)
  have J18 := Lib.hid (J17.out.kb AL)
  have E18 := Lib.hid (E17.out.kb AL)
  have RA := Lib.hid ((mild_below AL).cells RA.out)
  have RB := Lib.hid ((mild_below AL).cells RB.out)
  clear AL J17 E17 st
  generalize w17.alloc (.cells (hv zz) 31) = w18 at *
  have HID := Lib.hid (id_to J18.out.a.im b HK.out.lb)
  rw [HF.out.n3] at HID
  simp only [Option.getD_none, Option.isSome_none] at HID
  go_wp2_with (first
    | (refine build_w (vals := #[(0, .int .u8 2)]) HK.out.bb ?hv ?hw ?_; (case hv => first | rfl | simp [Act.put, Act.eval]); (case hw => first | rfl | simp [Region.wanted, yielded])))
  refine HID.out.mono ?_
  rintro e w19 ⟨rfl, bb⟩
  have J19 := Lib.hid (J18.out.kb bb)
  have E19 := Lib.hid (E18.out.kb bb)
  have RA := Lib.hid ((mild_below bb).cells RA.out)
  have RB := Lib.hid ((mild_below bb).cells RB.out)
  clear bb J18 E18 HID
  go_wp2_with fail
  refine (all_to w19 i nb 1 p4 q4 1 0 c4 d4 _ J19.out.a.im (by decide) (by decide)).mono ?_
  rintro e w20 ⟨v20, rfl, o20, bb⟩
  rw [all_one] at o20
  obtain ⟨b20, k20, c20, rfl, s20⟩ := sown_one o20
  have SA := Lib.hid s20
  have J20 := Lib.hid (J19.out.kb bb)
  have E20 := Lib.hid (E19.out.kb bb)
  have RA := Lib.hid ((mild_below bb).cells RA.out)
  have RB := Lib.hid ((mild_below bb).cells RB.out)
  clear bb o20 s20 J19 E19
  go_wp2_with fail
  refine (master_to w20 i nb 1 p4 1 c4 _ _ J20.out.a.im (by decide)).mono ?_
  rintro e w21 ⟨v21, rfl, o21, bb⟩
  rw [show grp 0 1 = [(0, 0)] from rfl] at o21
  obtain ⟨b21, k21, c21, rfl, s21⟩ := sown_one o21
  have J21 := Lib.hid (J20.out.kb bb)
  have E21 := Lib.hid (E20.out.kb bb)
  have RA := Lib.hid ((mild_below bb).cells RA.out)
  have RB := Lib.hid ((mild_below bb).cells RB.out)
  have SA := Lib.hid (SA.out.kb bb)
  clear bb o21 s21 J20 E20
  go_wp2_with fail
  refine (kind_to w21 (kind 1) (some (1, none)) (HG.out.kb J21.out.k.bel) (rfl) (fun k o h => by injection h with h; injection h with h _; rw [← h]; decide)).mono ?_
  rintro e w22 ⟨rfl, bb⟩
  rw [show kindOf (some (1, none)) = 1 from rfl]
  have J22 := Lib.hid (J21.out.kb bb)
  have E22 := Lib.hid (E21.out.kb bb)
  have RA := Lib.hid ((mild_below bb).cells RA.out)
  have RB := Lib.hid ((mild_below bb).cells RB.out)
  have SA := Lib.hid (SA.out.kb bb)
  clear bb J21 E21
  go_wp2_with fail
  refine (kind_to w22 (kind 1) (some (1, none)) (HG.out.kb J22.out.k.bel) (rfl) (fun k o h => by injection h with h; injection h with h _; rw [← h]; decide)).mono ?_
  rintro e w23 ⟨rfl, bb⟩
  rw [show kindOf (some (1, none)) = 1 from rfl]
  have J23 := Lib.hid (J22.out.kb bb)
  have E23 := Lib.hid (E22.out.kb bb)
  have RA := Lib.hid ((mild_below bb).cells RA.out)
  have RB := Lib.hid ((mild_below bb).cells RB.out)
  have SA := Lib.hid (SA.out.kb bb)
  clear bb J22 E22
  go_wp2_with fail
  refine (kind_to w23 (kind 13) (some (13, none)) (HG.out.kb J23.out.k.bel) (rfl) (fun k o h => by injection h with h; injection h with h _; rw [← h]; decide)).mono ?_
  rintro e w24 ⟨rfl, bb⟩
  rw [show kindOf (some (13, none)) = 13 from rfl]
  have J24 := Lib.hid (J23.out.kb bb)
  have E24 := Lib.hid (E23.out.kb bb)
  have RA := Lib.hid ((mild_below bb).cells RA.out)
  have RB := Lib.hid ((mild_below bb).cells RB.out)
  have SA := Lib.hid (SA.out.kb bb)
  clear bb J23 E23
  go_wp2_with fail
  refine (kind_to w24 (whv pe) (some (19, some a)) (HG.out.kb J24.out.k.bel) (E24.out) (fun k o h => by injection h with h; injection h with h _; rw [← h]; decide)).mono ?_
  rintro e w25 ⟨rfl, bb⟩
  rw [show kindOf (some (19, some a)) = 19 from rfl]
  have J25 := Lib.hid (J24.out.kb bb)
  have E25 := Lib.hid (E24.out.kb bb)
  have RA := Lib.hid ((mild_below bb).cells RA.out)
  have RB := Lib.hid ((mild_below bb).cells RB.out)
  have SA := Lib.hid (SA.out.kb bb)
  clear bb J24 E24
  have la1 := hld_row HK.out.la RA.out
  have la2 := hld_row HK.out.la RB.out
  have he3 := heq_hv HK.out.la HK.out.la w25
  rw [decide_eq_true rfl] at he3
  have HL := one_lit HK.out.ba
  have he4 : (heqS (hv a) #[.int .u8 1, .int .u8 0, .int .u8 0, .int .u8 0, .int .u8 0, .int .u8 0, .int .u8 0, .int .u8 0, .int .u8 0, .int .u8 0, .int .u8 0, .int .u8 0, .int .u8 0, .int .u8 0, .int .u8 0, .int .u8 0, .int .u8 0, .int .u8 0, .int .u8 0, .int .u8 0, .int .u8 0, .int .u8 0, .int .u8 0, .int .u8 0, .int .u8 0, .int .u8 0, .int .u8 0, .int .u8 0, .int .u8 0, .int .u8 0, .int .u8 0, .int .u8 0]).run Tryz.prog w25 = .ok (.bool true) w25 := by rw [HL]; exact he3
  clear HL
  have hgd := heq_guard
  obtain ⟨cs1, cs2⟩ := sseen_c SA.out
  go_wp2_with (first
    | (refine build_w (vals := #[(0, .int .u8 1)]) HK.out.ba ?hv ?hw ?_; (case hv => first | rfl | simp [Act.put, Act.eval]); (case hw => first | rfl | simp [Region.wanted, yielded])))
  refine (others_to J25.out.a.im).mono ?_
  rintro e w26 ⟨rfl, rfl⟩
  go_wp2_with fail
  go_ret
  exact ⟨rfl, J25.out.k.bel⟩
theorem idsknown_walk (w : World) (hg : Glob w) : Calls Tryz.prog 3 #[] w fun e w' => e = .returned (.bool true) ∧ Below w.heap.size w w' := idsknown_gen _ _ _ _ k13 f13 w hg
end Go.Proofs.YtnpeahbbcolfmaaGreatDoor
namespace Go.Proofs.YtnpeahbbcolfmaaGreatDoor
open Go.ChangeShapes Go.WideShapes Go.RowKit
theorem et : Tryz.prog.globalNamed "errors.errorType" = some 0 := by kernel_rfl
theorem rt : (Tryz.prog.cutTypes.find? (·.1 == "internal/reflectlite.rtype")).map (·.2) = some 174 := by kernel_rfl
theorem oneRow : ((List.range 260).filter fun t => Tryz.prog.rowNamed t [101, 114, 114, 111, 114]) = [26] := by kernel_rfl
theorem tsize : Tryz.prog.types.size = 260 := by kernel_rfl

/-- What the condition gives a walk: the variable's one cell. -/
theorem glob_of_laid {W : World} (h : laidMetH Tryz.prog [("errors.errorType", Rows.laid_errors_errorType)] W) : Glob W := by
  have h' : laidMet Tryz.prog [] W ∧ handlesMet Tryz.prog [("errors.errorType", Rows.laid_errors_errorType)] W := h
  obtain ⟨name, u, ty, e1, e2, e3, e4, e5⟩ := h'.2 _ (List.mem_singleton.2 rfl)
  have en : name = [101, 114, 114, 111, 114] := (Option.some.inj e1).symm
  subst en
  obtain rfl := Option.some.inj (rt.symm.trans e2)
  have hm : ty ∈ (List.range 260).filter fun t => Tryz.prog.rowNamed t [101, 114, 114, 111, 114] := List.mem_filter.2 ⟨List.mem_range.2 (by rw [← tsize]; exact e3), e4⟩
  rw [oneRow] at hm
  obtain rfl := List.mem_singleton.1 hm
  have hh : typeHandle Tryz.prog 26 = hd 26 := by kernel_rfl
  rw [hh] at e5
  unfold Glob
  simpa using World.var?_cell et e5 0

/-- A world that meets the condition: the settled one, the variable's cell laid. -/
noncomputable def laidWorld (os : Os) : World :=
  let w0 := World.holding Tryz.prog os ⟨#[], #[], []⟩
  { w0 with heap := w0.heap.modify 0 fun
      | .cells _ t frozen => .cells #[.iface 174 (.agg #[hd 26])] t frozen
      | o => o }
theorem laidWorld_met (os : Os) (args : Array Value) : laidMetH Tryz.prog [("errors.errorType", Rows.laid_errors_errorType)] ((laidWorld os).forCall (fun _ _ => 0) ⟨#[], args, []⟩).memory :=
  laidMetH_of_parts (laidMet_nil _ _) (by kernel_rfl)

/-- The frame: the listed variables, the sizes, and every variable's shape handed to the walk. -/
theorem handed_and_shaped {H : Type} {enc : TypeId × Value → H} {a : Assume} {C : Checked} {os : Os} {f : FuncId} {fn : Func} {s : ChangeSpec} {conds : List PathCond} {apart fresh handsOn again : Bool} {X : World → Array Value → Prop}
    (hX : ∀ (w w' : World) (args : Array Value), w.heap = w'.heap → X w args → X w' args)
    (own : ownKnob C.prog.godebug = none) (started : os.Started) (noInit : C.prog.inits.idxOf? f = none) (hfn : C.prog.funcs[f]? = some fn)
    (witness : ∃ (w : World) (tape : Tape) (i : Input), w.os = os ∧ (w.forCall tape i).Shaped C.prog ∧ i.vars = [] ∧ Input.okWide C.prog (w.forCall tape i) .any w.heap.size f i ∧
      ((s.pre enc C.prog fn conds apart (w.forCall tape i).memory i.args ∧ X (w.forCall tape i).memory i.args) ∧ sizedMet enc C.prog fn (OpenSpec.ofChange s) apart (w.forCall tape i).memory i.args) ∧ a.holds C.prog (lone (Frame.enter C.prog f i.args .normal) [] (w.forCall tape i)))
    (contract : ∀ (W : World) (base : Nat) (args : Array Value) (ds gs : List (DataW H)) (before : List MemPlace),
      (∀ (j : Nat) t v, fn.params[j]? = some t → args[j]? = some v → Value.okWide C.prog W .any base t v) →
      DataW.Whole enc C.prog fn.params.toList s.vars apart W args.toList ds gs before →
      (DataW.weightsEach C.prog (fn.params.toList ++ s.plain.varTypes C.prog) (ds ++ gs)).all (· ≤ reachBytes) = true → X W args → W.ShapedOpen C.prog →
      Calls C.prog f args W fun e W' => ∃ v, e = .returned v ∧ s.post enc C.prog fn apart fresh handsOn again W args v W') :
    ReturnsInHanded a C os f .any (fun w args => (s.pre enc C.prog fn conds apart w args ∧ X w args) ∧ sizedMet enc C.prog fn (OpenSpec.ofChange s) apart w args) (s.post enc C.prog fn apart fresh handsOn again) := by
  refine returnsInHanded_of_calls own started noInit witness ?_
  intro w tape i _ hsh _ hok hpre _
  obtain ⟨_, _, _, fn', hfn', _, _, _, _, hval⟩ := hok
  obtain rfl : fn' = fn := Option.some.inj (hfn'.symm.trans hfn)
  obtain ⟨⟨⟨ds, gs, before, hw, _⟩, hx⟩, hz⟩ := hpre
  refine (contract (w.forCall tape i) w.heap.size i.args ds gs before hval (DataW.Whole.of_heap (w' := w.forCall tape i) (by rfl) hw) (hz.weights hw) (hX _ _ _ (by rfl) hx) hsh).mono fun e W' ⟨v, he, hp⟩ => ?_
  subst he
  exact ChangeSpec.post_blind hp
end Go.Proofs.YtnpeahbbcolfmaaGreatDoor
namespace Go.Proofs.YtnpeahbbcolfmaaGreatDoor.idsKnownP
open Go.ChangeShapes Go.WideShapes Go.ChangeAt Go.RowKit
open Go.ChangeMaps (open_string shut_string)
theorem own : ownKnob Tryz.prog.godebug = none := by kernel_rfl

set_option maxRecDepth 100000 in
theorem lifted (os : Os) (started : os.Started) (H : Type) (enc : TypeId × Value → H) :
    ReturnsInHanded {} Tryz.checked os 3 .any (fun w args => (Rows.idsKnownSpec.pre enc Tryz.prog Tryz.f3 [] false w args ∧ laidMetH Tryz.prog [("errors.errorType", Rows.laid_errors_errorType)] w) ∧ sizedMet enc Tryz.prog Tryz.f3 (OpenSpec.ofChange Rows.idsKnownSpec) false w args)
      (Rows.idsKnownSpec.post enc Tryz.prog Tryz.f3 false true false false) := by
  refine handed_and_shaped (C := Tryz.checked) (X := fun w _ => laidMetH Tryz.prog [("errors.errorType", Rows.laid_errors_errorType)] w) (fun _ _ _ hh h => h.of_heap hh) own started (by kernel_rfl) Tryz.func3
    (ChangeSpec.witness_at (enc := enc) (C := Tryz.checked) (os := os) (X := fun w _ => laidMetH Tryz.prog [("errors.errorType", Rows.laid_errors_errorType)] w) false (laidWorld os) #[] 8 rfl (by kernel_rfl) (by kernel_rfl) (by kernel_rfl) (by kernel_rfl) (by kernel_rfl) (laidWorld_met os _)) ?_
  intro W base args ds gs before hval0 hW hsz0 hL hsh
  have hsz : (DataW.weightsEach Tryz.prog (Tryz.f3.params.toList ++ Rows.idsKnownSpec.plain.varTypes Tryz.prog) (ds ++ gs)).all (· ≤ reachBytes) = true := hsz0
  clear hsz0
  have hW' := hW
  obtain ⟨p, q, hA0, hV, rfl, hfz, hnd⟩ := hW
  have hg := glob_of_laid hL
  have hA : DataW.TrodAll enc Tryz.prog W 0 (fun _ => true) true Tryz.f3.params.toList args.toList ds p := hA0
  rw [Tryz.params3] at hA hsz
  obtain ⟨hargs, rfl, rfl⟩ := trodAll_none hA
  subst hargs
  obtain ⟨rfl, rfl⟩ := trodVars_none hV
  clear hA0 hval0
  refine (idsknown_walk W hg).mono fun e W' ⟨he, bel⟩ => ?_
  subst he
  exact ⟨_, rfl, _, _, _, [], _, [], hW', trodAll_mk1 (shut_bool Tryz.underlying4 _), trodAll_mk0, rfl, bel.frame _, fun h => by cases h⟩

theorem over : Rows.idsKnownRow.holds Tryz.pinned (OpenSpec.ofChange Rows.idsKnownSpec) :=
  OpenClaim.holds_of_wide 3 Tryz.f3 rfl rfl rfl rfl rfl rfl rfl ⟨rfl, rfl, rfl, rfl, rfl⟩ rfl rfl rfl rfl rfl (by kernel_rfl) Tryz.func3 (by kernel_rfl)
    (of_decide_eq_true (by kernel_rfl)) (by unfold Func.isWrapper; first | (rw [if_pos (by decide +kernel)]; kernel_rfl) | (rw [if_neg (by decide +kernel)]; exact ⟨rfl, rfl⟩))
    (fun os started H enc _ => lifted os started H enc)

theorem proved : Rows.IdsKnownCardSaid :=
  Claim7.holds_tied_plain_at .later [] [.handle] true Rows.idsKnownCard.stood.harness true over (fun _ h => by cases h) (by kernel_rfl) (fun _ h => by cases h) idsKnown_row_tie rfl ⟨rfl, rfl⟩ (by kernel_rfl) rfl
    (fun f fn hf hfn => by
      obtain rfl : f = 3 := Option.some.inj ((show Tryz.prog.funcNamed "taproot/taprootlaw13.IdsKnown" = some 3 by kernel_rfl).symm.trans hf) |>.symm
      obtain rfl : fn = Tryz.f3 := (Option.some.inj (Tryz.func3.symm.trans hfn)).symm
      exact ⟨by kernel_rfl, fun j t ht => by
        have hb : (Tryz.f3.params.toList.all fun t => !(Tryz.prog.wantsStandIn t)) = true := by kernel_rfl
        have := List.all_eq_true.1 hb t (Array.mem_toList_iff.2 (Array.mem_of_getElem? ht))
        exact (by simpa using this : Tryz.prog.wantsStandIn t = false)⟩)
    (by kernel_rfl)
#print axioms proved
end Go.Proofs.YtnpeahbbcolfmaaGreatDoor.idsKnownP
