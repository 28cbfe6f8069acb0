/- A part (4 of 5) of what is needed to prove: IdsStrips returns true, whatever the memory holds and whatever the schedule is. No condition. -/
import Derived.Test.YtnpeahbbcolfmaaGreatDoorZs3
set_option linter.unusedSimpArgs false
set_option linter.unusedVariables false
namespace Go.Proofs.YtnpeahbbcolfmaaGreatDoor
open Go.RowKit
open Go.Maps
theorem idn_msnoc {ms os : List Key} {x : Key} (hx : x ∉ ms) : put1 (idn ms os) x (ms.length : Int) = idn (ms ++ [x]) os := by
  funext h
  unfold put1 idn
  rw [idx_snoc]
  by_cases e : h = x
  · subst e
    rw [if_pos rfl, idx_none.2 hx]
    simp
  · rw [if_neg e, if_neg (Ne.symm e)]
    simp
theorem idn_osnoc {ms os : List Key} {x : Key} (hm : x ∉ ms) (hx : x ∉ os) : put1 (idn ms os) x (split + (os.length : Int)) = idn ms (os ++ [x]) := by
  funext h
  unfold put1 idn
  rw [idx_snoc]
  by_cases e : h = x
  · subst e
    rw [if_pos rfl, idx_none.2 hm, idx_none.2 hx]
    simp
  · rw [if_neg e, if_neg (Ne.symm e)]
    simp
theorem idn_sup {ms os : List Key} : ∀ x, (idn ms os x).isSome = true → x ∈ ms ++ os := fun x hx => by
  by_cases h : x ∈ ms ++ os
  · exact h
  · have : idn ms os x = none := idn_none.2 ⟨fun h1 => h (List.mem_append_left _ h1), fun h1 => h (List.mem_append_right _ h1)⟩
    rw [this] at hx; cases hx
theorem isM_idn {ms os : List Key} (hl : ms.length ≤ 100000) (x : Key) : isM (idn ms os) x = decide (x ∈ ms) := by
  unfold isM
  cases hk : idx x ms with
  | some k =>
    have h1 := idx_lt hk
    rw [idn_m hk]
    simp only [List.mem_of_getElem? (idx_get hk), decide_true]
    exact decide_eq_true (by unfold split; omega)
  | none =>
    have hn := idx_none.1 hk
    rw [decide_eq_false hn]
    cases h2 : idx x os with
    | none => rw [idn_none.2 ⟨hn, idx_none.1 h2⟩]
    | some j => rw [idn_o hn h2]; exact decide_eq_false (by unfold split; omega)
theorem other_idn {ms os : List Key} (hl : ms.length ≤ 100000) {x : Key} (hx : x ∈ os) : decide ((idn ms os x).getD 0 ≥ split) = out ms x := by
  cases hk : idx x ms with
  | some k =>
    have h1 := idx_lt hk
    rw [idn_m hk]
    simp only [out, List.mem_of_getElem? (idx_get hk), decide_true, Bool.not_true]
    exact decide_eq_false (by show ¬ ((k : Int) ≥ split); unfold split; omega)
  | none =>
    have hn := idx_none.1 hk
    obtain ⟨j, hj⟩ := idx_some hx
    rw [idn_o hn hj]
    simp only [out, hn, decide_false, Bool.not_false]
    exact decide_eq_true (by show split + (j : Int) ≥ split; omega)
theorem renum_idn {ms os : List Key} : renum (oIn ms os) (idn ms os) = idn ms (oIn ms os) := by
  funext h
  unfold renum
  cases hk : idx h (oIn ms os) with
  | some k =>
    have hm := List.mem_of_getElem? (idx_get hk)
    have h1 := (List.mem_filter.1 hm).2
    simp at h1
    rw [idn_o h1 hk]
  | none =>
    have hn := idx_none.1 hk
    cases h2 : idx h ms with
    | some k => rw [idn_m h2, idn_m h2]
    | none =>
      have h3 := idx_none.1 h2
      rw [idn_none.2 ⟨h3, fun h4 => hn (List.mem_filter.2 ⟨h4, by simp [h3]⟩)⟩, idn_none.2 ⟨h3, hn⟩]
theorem IA.isl {W : World} {B i nb : Nat} {most : Int} {mv ov : Value} {ms os : List Key} {f : Key → Option Int} (h : IA W B i nb most mv ov ms os f) : ∃ p n c, mv = .slice p n c ∧ n = ms.length := own_sh h.om
/-- What raise leaves. -/
def RaPost (w0 w' : World) (B i nb : Nat) (most : Int) (mv ov : Value) (ms os R : List Key) (e : Ending) : Prop :=
  if (ms.length + R.length : Nat) > most then e = .returned (kind 13) ∧ Below w0.heap.size w0 w'
  else e = .returned .nilIface ∧ IPost w0 w' B i nb most mv ov (ms ++ R) (oIn (ms ++ R) os) (idn (ms ++ R) (oIn (ms ++ R) os))
set_option linter.unusedSimpArgs false in
set_option maxRecDepth 20000 in
set_option maxHeartbeats 8000000 in
attribute [local go_sem ↓] hld_open in
theorem iraise_to (w0 w : World) (b0 : Below w0.heap.size w0 w) (B i nb : Nat) (most : Int) (mv ov : Value) (ms os : List Key) (H : IA w0 B i nb most mv ov ms os (idn ms os)) (v : Value) (l : List Key) (ho : HOwn w w0.heap.size v l) (hn : l.Nodup) (h32 : H32 l) (hl : l.length ≤ 1000)
    (hnd : (ms ++ os).Nodup) (h32o : H32 os) (hlm : ms.length + os.length ≤ 1000) :
    Calls Tryz.prog 38 #[ip i, v] w fun e w' => RaPost w0 w' B i nb most mv ov ms os (l.filter (out ms)) e := by
  obtain ⟨pm, nm, cm, rfl, hnm⟩ := H.isl
  have hB : B ≤ w0.heap.size := Nat.le_trans H.lo.1 (Nat.le_of_lt (Array.getElem?_eq_some_iff.1 H.cell).1)
  have HBB := Lib.hid hB
  have H0 := Lib.hid H
  have B0 := Lib.hid b0
  have HW := Lib.hid (H.kb b0)
  have HLM := Lib.hid hlm
  have HND := Lib.hid hnd
  have H3O := Lib.hid h32o
  have HNM := Lib.hid hnm
  have HDF := Lib.hid (hdelf_to w w0.heap.size v l ho h32 (Nat.le_trans hl (by decide)) _ _ _ (ismaster_cb (i := i) (nb := nb) (most := most) (mv := .slice pm nm cm) (ov := ov) (f := idn ms os)) (fun V t => (H.kb (b0.trans (t.below b0.size fun j hj => own_from ho j hj))).im))
  have HF : Hid ((l.filter fun x => !(isM (idn ms os) x)) = l.filter (out ms)) := Lib.hid (List.filter_congr fun x _ => by rw [isM_idn (by omega)])
  obtain ⟨R, hR⟩ : ∃ R, R = l.filter (out ms) := ⟨_, rfl⟩
  rw [HF.out, ← hR] at HDF
  rw [← hR]
  have HRF : Hid (R.Nodup ∧ H32 R ∧ R.length ≤ 1000 ∧ ∀ x ∈ R, x ∉ ms) := Lib.hid ⟨by rw [hR]; exact hn.filter _, fun x hx => h32 x (by rw [hR] at hx; exact (List.mem_filter.1 hx).1), by rw [hR]; exact Nat.le_trans (List.length_filter_le _ _) hl, fun x hx => by rw [hR] at hx; have := (List.mem_filter.1 hx).2; simpa using this⟩
  have OW := Lib.hid (fun (V : World) (t : Only (fun j => v.ownBlock = some j) w V) => b0.trans (t.below b0.size fun j hj => own_from ho j hj))
  obtain ⟨sm, hsm⟩ : ∃ sm, sm = ms.length + R.length := ⟨_, rfl⟩
  have HSM := Lib.hid hsm
  obtain ⟨q, hq⟩ : ∃ q, q = decide (most < (sm : Int)) := ⟨_, rfl⟩
  have HQ := Lib.hid hq
  have hmf := hmf11
  clear b0 H ho hn h32 hl hnd h32o hlm hR HF hnm hB hq hsm
  go_enter Tryz.func38, Tryz.ntmps38
  go_wp2_with fail
  refine HDF.out.mono ?_
  rintro e w2 ⟨v2, rfl, o2, t2, l2⟩
  have B2 := Lib.hid (OW.out w2 t2)
  obtain ⟨pr, nr, cr, rfl, hnr⟩ := own_sh o2
  have O2 := Lib.hid o2
  have HNR := Lib.hid hnr
  have HA2 := Lib.hid (H0.out.kb B2.out)
  clear o2 t2 l2 hnr HDF OW HW B0
  have bq : Below w2.heap.size w2 w2.drew := blw_qt _ 1 w2
  have HA3 := Lib.hid (HA2.out.kb bq)
  have O3 := Lib.hid (own_below O2.out bq)
  have B3 := Lib.hid (B2.out.trans (bq.mono B2.out.size))
  have hsum : IntKind.i64.wrap ((nm : Int) + (nr : Int)) = (sm : Int) := by rw [HSM.out, ← HNM.out, ← HNR.out, IntWalk.i64_in _ (by have := HLM.out; have := HRF.out.2.2.1; have := HNM.out; have := HNR.out; omega)]; omega
  have hqq := HQ.out.symm
  clear bq HA2 O2 B2
  go_upto_region 2 with fail
  try simp only [List.append]
  refine wp_region_noPanic ?_
  refine wp_region_held_drew (S := (fun V => V.cell? ⟨i, 1, none⟩ = some (.slice pm nm cm) ∧ V.cell? ⟨i, 0, none⟩ = some (.int .i64 most))) (by kernel_rfl) ⟨HA3.out.c (k := 1) rfl, HA3.out.c (k := 0) rfl⟩ (fun hHeld => ?_)
  generalize w2.drew = w3 at *
  refine wpAnyH_take (i := 0) (v := ?_) (by simp only [List.getElem?_toArray, List.getElem?_cons_zero]; rfl) (by kernel_rfl) (by kernel_rfl) (by kernel_rfl) (fun _ _ _ h => h) (Or.inl ⟨by rfl, ?_⟩) (by assumption) ?_
  rotate_left
  · intro w hSw
    try dsimp only at hSw
    go_simp
    try with_reducible rfl
  try simp only [Act.put, List.setIfInBounds_toArray, List.set_cons_zero, List.set_cons_succ]
  refine wpAnyH_take (i := 1) (v := ?_) (by simp only [List.getElem?_toArray, List.getElem?_cons_succ, List.getElem?_cons_zero]; rfl) (by kernel_rfl) (by kernel_rfl) (by kernel_rfl) (fun _ _ _ h => h) (Or.inl ⟨by rfl, ?_⟩) (by assumption) ?_
  rotate_left
  · intro w hSw
    try dsimp only at hSw
    go_simp
    try with_reducible rfl
  try simp only [Act.put, List.setIfInBounds_toArray, List.set_cons_zero, List.set_cons_succ]
  refine wpAnyH_take (i := 2) (v := ?_) (by simp only [List.getElem?_toArray, List.getElem?_cons_succ, List.getElem?_cons_zero]; rfl) (by kernel_rfl) (by kernel_rfl) (by kernel_rfl) (fun _ _ _ h => h) (Or.inl ⟨by rfl, ?_⟩) (by assumption) ?_
  rotate_left
  · intro w hSw
    try dsimp only at hSw
    go_simp
    try with_reducible rfl
  try simp only [Act.put, List.setIfInBounds_toArray, List.set_cons_zero, List.set_cons_succ]
  refine wpAnyH_take (i := 3) (v := ?_) (by simp only [List.getElem?_toArray, List.getElem?_cons_succ, List.getElem?_cons_zero]; rfl) (by kernel_rfl) (by kernel_rfl) (by kernel_rfl) (fun _ _ _ h => h) (Or.inl ⟨by rfl, ?_⟩) (by assumption) ?_
  rotate_left
  · intro w hSw
    try dsimp only at hSw
    go_simp
    try with_reducible rfl
  try simp only [Act.put, List.setIfInBounds_toArray, List.set_cons_zero, List.set_cons_succ]
  refine wpAnyH_take (i := 4) (v := ?_) (by simp only [List.getElem?_toArray, List.getElem?_cons_succ, List.getElem?_cons_zero]; rfl) (by kernel_rfl) (by kernel_rfl) (by kernel_rfl) (fun _ _ _ h => h) (Or.inl ⟨by rfl, ?_⟩) (by assumption) ?_
  rotate_left
  · intro w hSw
    try dsimp only at hSw
    go_simp
    try with_reducible rfl
  try simp only [Act.put, List.setIfInBounds_toArray, List.set_cons_zero, List.set_cons_succ]
  refine wpAnyH_take (i := 5) (v := ?_) (by simp only [List.getElem?_toArray, List.getElem?_cons_succ, List.getElem?_cons_zero]; rfl) (by kernel_rfl) (by kernel_rfl) (by kernel_rfl) (fun _ _ _ h => h) (Or.inl ⟨by rfl, ?_⟩) (by assumption) ?_
  rotate_left
  · intro w hSw
    try dsimp only at hSw
    go_simp
    try with_reducible rfl
  try simp only [Act.put, List.setIfInBounds_toArray, List.set_cons_zero, List.set_cons_succ]
  refine wpAnyH_take (i := 6) (v := ?_) (by simp only [List.getElem?_toArray, List.getElem?_cons_succ, List.getElem?_cons_zero]; rfl) (by kernel_rfl) (by kernel_rfl) (by kernel_rfl) (fun _ _ _ h => h) (Or.inl ⟨by rfl, ?_⟩) (by assumption) ?_
  rotate_left
  · intro w hSw
    try dsimp only at hSw
    go_simp
    try with_reducible rfl
  try simp only [Act.put, List.setIfInBounds_toArray, List.set_cons_zero, List.set_cons_succ]
  refine wpAnyH_take (i := 7) (v := (.int .i64 (sm : Int))) (by simp only [List.getElem?_toArray, List.getElem?_cons_succ, List.getElem?_cons_zero]; rfl) (by kernel_rfl) (by kernel_rfl) (by kernel_rfl) (fun _ _ _ h => h) (Or.inl ⟨by rfl, ?_⟩) (by assumption) ?_
  · intro w hSw
    try dsimp only at hSw
    go_simp
  try simp only [Act.put, List.setIfInBounds_toArray, List.set_cons_zero, List.set_cons_succ]
  refine wpAnyH_take (i := 8) (v := ?_) (by simp only [List.getElem?_toArray, List.getElem?_cons_succ, List.getElem?_cons_zero]; rfl) (by kernel_rfl) (by kernel_rfl) (by kernel_rfl) (fun _ _ _ h => h) (Or.inl ⟨by rfl, ?_⟩) (by assumption) ?_
  rotate_left
  · intro w hSw
    try dsimp only at hSw
    go_simp
    try with_reducible rfl
  try simp only [Act.put, List.setIfInBounds_toArray, List.set_cons_zero, List.set_cons_succ]
  refine wpAnyH_take (i := 9) (v := ?_) (by simp only [List.getElem?_toArray, List.getElem?_cons_succ, List.getElem?_cons_zero]; rfl) (by kernel_rfl) (by kernel_rfl) (by kernel_rfl) (fun _ _ _ h => h) (Or.inl ⟨by rfl, ?_⟩) (by assumption) ?_
  rotate_left
  · intro w hSw
    try dsimp only at hSw
    go_simp
    try with_reducible rfl
  try simp only [Act.put, List.setIfInBounds_toArray, List.set_cons_zero, List.set_cons_succ]
  refine wpAnyH_take (i := 10) (v := ?_) (by simp only [List.getElem?_toArray, List.getElem?_cons_succ, List.getElem?_cons_zero]; rfl) (by kernel_rfl) (by kernel_rfl) (by kernel_rfl) (fun _ _ _ h => h) (Or.inl ⟨by rfl, ?_⟩) (by assumption) ?_
  rotate_left
  · intro w hSw
    try dsimp only at hSw
    go_simp
    try with_reducible rfl
  try simp only [Act.put, List.setIfInBounds_toArray, List.set_cons_zero, List.set_cons_succ]
  refine wpAnyH_take (i := 11) (v := ?_) (by simp only [List.getElem?_toArray, List.getElem?_cons_succ, List.getElem?_cons_zero]; rfl) (by kernel_rfl) (by kernel_rfl) (by kernel_rfl) (fun _ _ _ h => h) (Or.inl ⟨by rfl, ?_⟩) (by assumption) ?_
  rotate_left
  · intro w hSw
    try dsimp only at hSw
    go_simp
    try with_reducible rfl
  try simp only [Act.put, List.setIfInBounds_toArray, List.set_cons_zero, List.set_cons_succ]
  refine wpAnyH_take (i := 12) (v := (.bool q)) (by simp only [List.getElem?_toArray, List.getElem?_cons_succ, List.getElem?_cons_zero]; rfl) (by kernel_rfl) (by kernel_rfl) (by kernel_rfl) (fun _ _ _ h => h) (Or.inl ⟨by rfl, ?_⟩) (by assumption) ?_
  · intro w hSw
    try dsimp only at hSw
    go_simp
  try simp only [Act.put, List.setIfInBounds_toArray, List.set_cons_zero, List.set_cons_succ]
  refine wpAnyH_done (by kernel_rfl) ?_ _
  refine NoPanic.normal ?_
  clear hHeld hsum hqq
  cases q with
  | true =>
    go_wp2_with fail
    go_ret
    unfold RaPost
    rw [if_pos (by have := of_decide_eq_true HQ.out.symm; rw [HSM.out] at this; exact this)]
    exact ⟨rfl, B3.out⟩
  | false =>
    have HQF : Hid (¬ ((ms.length + R.length : Nat) : Int) > most) := Lib.hid (by have := of_decide_eq_false HQ.out.symm; rw [HSM.out] at this; exact this)
    clear HQ
    go_wp2_with fail
    have NE3 : Hid (∀ j, (Value.slice pr nr cr).ownBlock = some j → (Value.slice pm nm cm).ownBlock ≠ some j ∧ ov.ownBlock ≠ some j) := Lib.hid (fun j hj => ⟨fun e => by have h1 := own_from O3.out j hj; have h2 := own_lt H0.out.om j e; omega, fun e => by have h1 := own_from O3.out j hj; have h2 := own_lt H0.out.oo j e; omega⟩)
    go_loopw [28] (fun v28 wr => ∃ k : Nat, v28 = .int .i64 k ∧ k ≤ nr ∧ Hid (∃ pk nk ck, IA wr B i nb most (.slice pk nk ck) ov (ms ++ R.take k) os (idn (ms ++ R.take k) os) ∧ Only (iS i nb (.slice pm nm cm) ov) w0 wr ∧ iL w0.heap.size (.slice pm nm cm) ov (.slice pk nk ck) ov ∧ ∀ j, (Value.slice pr nr cr).ownBlock = some j → (Value.slice pk nk ck).ownBlock ≠ some j ∧ ov.ownBlock ≠ some j) ∧ Hid (HOwn wr w0.heap.size (.slice pr nr cr) R)) (fun v28 _ => nr - (intOf v28).toNat)
    case atStart => exact ⟨0, rfl, Nat.zero_le _, Lib.hid ⟨pm, nm, cm, by rw [List.take_zero, List.append_nil]; exact HA3.out, Only.of_below (S := iS i nb (.slice pm nm cm) ov) B3.out, iL.refl _ _ _, NE3.out⟩, O3⟩
    case round =>
      clear HA3 O3 B3 NE3
      obtain ⟨k, rfl, hk, HE, HO⟩ := hrel
      obtain ⟨pk, nk, ck, ha, t, ll, ne⟩ := HE.out
      have HA := Lib.hid ha
      have T := Lib.hid t
      have LL := Lib.hid ll
      have NE := Lib.hid ne
      obtain ⟨p9, c9, e9⟩ := own_shape ha.om
      have HNK : Hid (nk = ms.length + k) := Lib.hid (by
        injection e9 with _ e9 _
        rw [e9, List.length_append, List.length_take]
        have := HNR.out
        omega)
      clear ha t ll ne HE e9
      by_cases hlt : k < nr
      · have hl1 : (k : Int) < nr := by omega
        obtain ⟨j1, j2, j3⟩ := next_fit hlt (by have := HRF.out.2.2.1; have := HNR.out; omega)
        have hkE : k < R.length := by rw [← HNR.out]; exact hlt
        obtain ⟨bb, o, c', e1, hrg⟩ := (HSeen.own HO.out).at HRF.out.2.1 hkE
        injection e1 with e1 e2 e3
        subst e1
        have htk : R.take (k + 1) = R.take k ++ [R[k]] := List.take_succ_eq_append_getElem hkE
        have hat : R[k]? = some R[k] := List.getElem?_eq_getElem hkE
        obtain ⟨x, hx⟩ : ∃ x, x = R[k] := ⟨_, rfl⟩
        rw [← hx] at hrg htk hat
        have HX : Hid (x.length = 32) := Lib.hid (by rw [hx]; exact HRF.out.2.1.at hkE)
        have HNI : Hid (x ∉ ms ++ R.take k) := Lib.hid (fun hm => by
          rcases List.mem_append.1 hm with hm | hm
          · exact HRF.out.2.2.2 x (List.mem_of_getElem? hat) hm
          · obtain ⟨j, hj, hjk⟩ := idx_take hm
            have := idx_at HRF.out.1 hat
            rw [hj] at this
            injection this with this
            omega)
        have hld0 := hld_range HX.out hrg
        have st := hst_cells x HX.out wr
        have hks : (hv x).size = 32 := by rw [hv_size, HX.out]
        have AL := Lib.hid (below_al11 wr (.cells (hv x) 31))
        have HBX := Lib.hid (heap_alloc_last wr (.cells (hv x) 31))
        have HA4 := Lib.hid (HA.out.kb AL.out)
        have T4 : Hid (Only (iS i nb (.slice pm nm cm) ov) w0 (wr.alloc (.cells (hv x) 31))) := Lib.hid (T.out.trans (Only.of_below (S := iS i nb (.slice pm nm cm) ov) AL.out) (fun _ h => h) (fun _ _ h => h))
        have HO4 := Lib.hid (own_below HO.out AL.out)
        have XB : Hid (∀ j, (Value.slice pk nk ck).ownBlock = some j → j ≠ wr.heap.size) := Lib.hid (fun j hj e => by have := own_lt HA.out.om j hj; omega)
        have HTK : Hid (ms ++ R.take (k + 1) = (ms ++ R.take k) ++ [x]) := Lib.hid (by rw [htk, List.append_assoc])
        have HLT := Lib.hid hlt
        have HJ := Lib.hid j1
        clear hx hrg htk hat hkE hk e2 e3 HA T HO
        go_upto_region 7 with fail
        clear st hld0
        generalize wr.alloc (.cells (hv x) 31) = w4 at *
        generalize wr.heap.size = xb at *
        have bq : Below w4.heap.size w4 w4.drew := blw_qt _ 1 w4
        have HA5 := Lib.hid (HA4.out.kb bq)
        have HB5 := Lib.hid ((mild_below bq).cells HBX.out)
        have HO5 := Lib.hid (own_below HO4.out bq)
        have T5 : Hid (Only (iS i nb (.slice pm nm cm) ov) w0 w4.drew) := Lib.hid (T4.out.trans (Only.of_below (S := iS i nb (.slice pm nm cm) ov) bq) (fun _ h => h) (fun _ _ h => h))
        clear bq HA4 T4 HO4 HBX
        go_wp2_with fail
        try simp only [List.append]
        refine wp_region_noPanic ?_
        refine wp_region_held_drew (S := (fun V => V.cell? ⟨i, 1, none⟩ = some (.slice pk nk ck) ∧ V.cell? ⟨i, 3, none⟩ = some (.map (some nb)) ∧ (hld ⟨xb, 0, none⟩).run Tryz.prog V = .ok (.agg (hv x)) V)) (by kernel_rfl) ⟨HA5.out.c (k := 1) rfl, HA5.out.c (k := 3) rfl, hld_row HX.out HB5.out⟩ (fun hHeld => ?_)
        generalize w4.drew = cw at *
        obtain ⟨w6, hmu, h6, o6⟩ := HA5.out.upd x HX.out (nk : Int) ((ms ++ R.take k) ++ os) idn_sup (by simp only [List.length_append, List.length_take]; have := HLM.out; have := HRF.out.2.2.1; omega)
        have hp := idn_msnoc (os := os) HNI.out
        rw [show ((ms ++ R.take k).length : Int) = (nk : Int) from by rw [HNK.out, List.length_append, List.length_take]; have := HNR.out; have := HLT.out; omega] at hp
        rw [hp, ← HTK.out] at h6
        have hmm : ∃ es cc, cw.heap[nb]? = some (.map es cc) := by obtain ⟨M, m1, _⟩ := HA5.out.mp; exact m1.ismap
        have HMU := Lib.hid hmu
        have HA6 := Lib.hid h6
        have HB6 := Lib.hid ((o6.block xb (Array.getElem?_eq_some_iff.1 HB5.out).1 (fun e => by obtain ⟨es, cc, hm⟩ := hmm; have h1 := HB5.out; rw [e, hm] at h1; cases h1)).trans HB5.out)
        have HO6 := Lib.hid (own_keep HO5.out o6 (fun j hj e => by obtain ⟨es, cc, hm⟩ := hmm; exact own_nomap HO5.out hm (by rw [hj, e])))
        have T6 : Hid (Only (iS i nb (.slice pm nm cm) ov) w0 w6) := Lib.hid (T5.out.trans o6 (fun _ h => h) (fun _ _ h => .inr (.inl h)))
        clear hmu h6 o6 hp hmm T5 HA5 HO5
        refine wpAnyH_take (i := 0) (v := ?_) (by simp only [List.getElem?_toArray, List.getElem?_cons_zero]; rfl) (by kernel_rfl) (by kernel_rfl) (by kernel_rfl) (fun _ _ _ h => h) (Or.inl ⟨by rfl, ?_⟩) (by assumption) ?_
        rotate_left
        · intro w hSw
          try dsimp only at hSw
          go_simp
          try with_reducible rfl
        try simp only [Act.put, List.setIfInBounds_toArray, List.set_cons_zero, List.set_cons_succ]
        refine wpAnyH_take (i := 1) (v := ?_) (by simp only [List.getElem?_toArray, List.getElem?_cons_succ, List.getElem?_cons_zero]; rfl) (by kernel_rfl) (by kernel_rfl) (by kernel_rfl) (fun _ _ _ h => h) (Or.inl ⟨by rfl, ?_⟩) (by assumption) ?_
        rotate_left
        · intro w hSw
          try dsimp only at hSw
          go_simp
          try with_reducible rfl
        try simp only [Act.put, List.setIfInBounds_toArray, List.set_cons_zero, List.set_cons_succ]
        refine wpAnyH_take (i := 2) (v := ?_) (by simp only [List.getElem?_toArray, List.getElem?_cons_succ, List.getElem?_cons_zero]; rfl) (by kernel_rfl) (by kernel_rfl) (by kernel_rfl) (fun _ _ _ h => h) (Or.inl ⟨by rfl, ?_⟩) (by assumption) ?_
        rotate_left
        · intro w hSw
          try dsimp only at hSw
          go_simp
          try with_reducible rfl
        try simp only [Act.put, List.setIfInBounds_toArray, List.set_cons_zero, List.set_cons_succ]
        refine wpAnyH_take (i := 3) (v := ?_) (by simp only [List.getElem?_toArray, List.getElem?_cons_succ, List.getElem?_cons_zero]; rfl) (by kernel_rfl) (by kernel_rfl) (by kernel_rfl) (fun _ _ _ h => h) (Or.inl ⟨by rfl, ?_⟩) (by assumption) ?_
        rotate_left
        · intro w hSw
          try dsimp only at hSw
          go_simp
          try with_reducible rfl
        try simp only [Act.put, List.setIfInBounds_toArray, List.set_cons_zero, List.set_cons_succ]
        refine wpAnyH_take (i := 4) (v := ?_) (by simp only [List.getElem?_toArray, List.getElem?_cons_succ, List.getElem?_cons_zero]; rfl) (by kernel_rfl) (by kernel_rfl) (by kernel_rfl) (fun _ _ _ h => h) (Or.inl ⟨by rfl, ?_⟩) (by assumption) ?_
        rotate_left
        · intro w hSw
          try dsimp only at hSw
          go_simp
          try with_reducible rfl
        try simp only [Act.put, List.setIfInBounds_toArray, List.set_cons_zero, List.set_cons_succ]
        refine wpAnyH_take (i := 5) (v := ?_) (by simp only [List.getElem?_toArray, List.getElem?_cons_succ, List.getElem?_cons_zero]; rfl) (by kernel_rfl) (by kernel_rfl) (by kernel_rfl) (fun _ _ _ h => h) (Or.inl ⟨by rfl, ?_⟩) (by assumption) ?_
        rotate_left
        · intro w hSw
          try dsimp only at hSw
          go_simp
          try with_reducible rfl
        try simp only [Act.put, List.setIfInBounds_toArray, List.set_cons_zero, List.set_cons_succ]
        refine wpAnyH_take (i := 6) (v := ?_) (by simp only [List.getElem?_toArray, List.getElem?_cons_succ, List.getElem?_cons_zero]; rfl) (by kernel_rfl) (by kernel_rfl) (by kernel_rfl) (fun _ _ _ h => h) (Or.inl ⟨by rfl, ?_⟩) (by assumption) ?_
        rotate_left
        · intro w hSw
          try dsimp only at hSw
          go_simp
          try with_reducible rfl
        try simp only [Act.put, List.setIfInBounds_toArray, List.set_cons_zero, List.set_cons_succ]
        refine wpAnyH_take (i := 7) (v := ?_) (by simp only [List.getElem?_toArray, List.getElem?_cons_succ, List.getElem?_cons_zero]; rfl) (by kernel_rfl) (by kernel_rfl) (by kernel_rfl) (fun _ _ _ h => h) (Or.inl ⟨by rfl, ?_⟩) (by assumption) ?_
        rotate_left
        · intro w hSw
          try dsimp only at hSw
          go_simp
          try with_reducible rfl
        try simp only [Act.put, List.setIfInBounds_toArray, List.set_cons_zero, List.set_cons_succ]
        refine wpAnyH_take (i := 8) (v := ?_) (by simp only [List.getElem?_toArray, List.getElem?_cons_succ, List.getElem?_cons_zero]; rfl) (by kernel_rfl) (by kernel_rfl) (by kernel_rfl) (fun _ _ _ h => h) (Or.inl ⟨by rfl, ?_⟩) (by assumption) ?_
        rotate_left
        · intro w hSw
          try dsimp only at hSw
          go_simp
          try with_reducible rfl
        try simp only [Act.put, List.setIfInBounds_toArray, List.set_cons_zero, List.set_cons_succ]
        refine wpAnyH_take (i := 9) (v := ?_) (by simp only [List.getElem?_toArray, List.getElem?_cons_succ, List.getElem?_cons_zero]; rfl) (by kernel_rfl) (by kernel_rfl) (by kernel_rfl) (fun _ _ _ h => h) (Or.inl ⟨by rfl, ?_⟩) (by assumption) ?_
        rotate_left
        · intro w hSw
          try dsimp only at hSw
          go_simp
          try with_reducible rfl
        try simp only [Act.put, List.setIfInBounds_toArray, List.set_cons_zero, List.set_cons_succ]
        refine wpAnyH_ready (rs := [10]) (by kernel_rfl) (by simp) ?_
        refine AllReadyH.cons (by simp only [List.getElem?_toArray, List.getElem?_cons_succ, List.getElem?_cons_zero]; rfl) (fun K hK => ?_) AllReadyH.nil
        refine step_upd rfl _ _ _ rfl (by rfl) (by rfl) (by rfl) HMU.out ?_
        refine hK.out _ _ ⟨HA6.out.c (k := 1) rfl, HA6.out.c (k := 3) rfl, hld_row HX.out HB6.out⟩ (fun hHeld => ?_)
        clear hK K
        try simp only [Act.put, List.setIfInBounds_toArray, List.set_cons_zero, List.set_cons_succ]
        refine wpAnyH_done (by kernel_rfl) ?_ _
        refine NoPanic.normal ?_
        clear hHeld HMU HB5
        have BW : Hid (Below w6.heap.size w6 w6.drew) := Lib.hid (blw_qt _ 1 w6)
        have HC := Lib.hid (fun (V : World) (k : Below w6.heap.size w6 V) => (HA6.out.kb k).c (k := 1) rfl)
        have HLD := Lib.hid (fun (V : World) (k : Below w6.heap.size w6 V) => hld_row (w := V) HX.out ((mild_below k).cells HB6.out))
        go_wp2_with fail
        try simp only [List.append]
        refine wp_region_noPanic ?_
        refine wp_region_held_drew (S := (fun V => (hld ⟨xb, 0, none⟩).run Tryz.prog V = .ok (.agg (hv x)) V)) (by kernel_rfl) (HLD.out _ BW.out) (fun hHeld => ?_)
        generalize w6.drew = cw at *
        refine wpAnyH_take (i := 0) (v := ?_) (by simp only [List.getElem?_toArray, List.getElem?_cons_zero]; rfl) (by kernel_rfl) (by kernel_rfl) (by kernel_rfl) (fun _ _ _ h => h) (Or.inl ⟨by rfl, ?_⟩) (by assumption) ?_
        rotate_left
        · intro w hSw
          try dsimp only at hSw
          go_simp
          try with_reducible rfl
        try simp only [Act.put, List.setIfInBounds_toArray, List.set_cons_zero, List.set_cons_succ]
        refine wpAnyH_take (i := 1) (v := ?_) (by simp only [List.getElem?_toArray, List.getElem?_cons_succ, List.getElem?_cons_zero]; rfl) (by kernel_rfl) (by kernel_rfl) (by kernel_rfl) (fun _ _ _ h => h) (Or.inl ⟨by rfl, ?_⟩) (by assumption) ?_
        rotate_left
        · intro w hSw
          try dsimp only at hSw
          go_simp
          try with_reducible rfl
        try simp only [Act.put, List.setIfInBounds_toArray, List.set_cons_zero, List.set_cons_succ]
        refine wpAnyH_take (i := 2) (v := ?_) (by simp only [List.getElem?_toArray, List.getElem?_cons_succ, List.getElem?_cons_zero]; rfl) (by kernel_rfl) (by kernel_rfl) (by kernel_rfl) (fun _ _ _ h => h) (Or.inl ⟨by rfl, ?_⟩) (by assumption) ?_
        rotate_left
        · intro w hSw
          try dsimp only at hSw
          go_simp
          try with_reducible rfl
        try simp only [Act.put, List.setIfInBounds_toArray, List.set_cons_zero, List.set_cons_succ]
        refine wpAnyH_take (i := 3) (v := ?_) (by simp only [List.getElem?_toArray, List.getElem?_cons_succ, List.getElem?_cons_zero]; rfl) (by kernel_rfl) (by kernel_rfl) (by kernel_rfl) (fun _ _ _ h => h) (Or.inl ⟨by rfl, ?_⟩) (by assumption) ?_
        rotate_left
        · intro w hSw
          try dsimp only at hSw
          go_simp
          try with_reducible rfl
        try simp only [Act.put, List.setIfInBounds_toArray, List.set_cons_zero, List.set_cons_succ]
        refine wpAnyH_take (i := 5) (v := ?_) (by simp only [List.getElem?_toArray, List.getElem?_cons_succ, List.getElem?_cons_zero]; rfl) (by kernel_rfl) (by kernel_rfl) (by kernel_rfl) (fun _ _ _ h => h) (Or.inl ⟨by rfl, ?_⟩) (by assumption) ?_
        rotate_left
        · intro w hSw
          try dsimp only at hSw
          go_simp
          try with_reducible rfl
        try simp only [Act.put, List.setIfInBounds_toArray, List.set_cons_zero, List.set_cons_succ]
        refine wpAnyH_ready (rs := [4, 6]) (by kernel_rfl) (by simp) ?_
        refine (AllReadyH.cons (by simp only [List.getElem?_toArray, List.getElem?_cons_succ, List.getElem?_cons_zero]; rfl) (fun K hK => ?_) (AllReadyH.cons (by simp only [List.getElem?_toArray, List.getElem?_cons_succ, List.getElem?_cons_zero]; rfl) (fun K hK => ?_) AllReadyH.nil))
        · have hc := HC.out cw BW.out
          go_simp
          clear hc
          refine hK.out _ _ (HLD.out _ BW.out) (fun hHeld => ?_)
          clear hK K
          try simp only [Act.put, List.setIfInBounds_toArray, List.set_cons_zero, List.set_cons_succ]
          refine wpAnyH_ready (rs := [6]) (by kernel_rfl) (by simp) ?_
          refine (AllReadyH.cons (by simp only [List.getElem?_toArray, List.getElem?_cons_succ, List.getElem?_cons_zero]; rfl) (fun K hK => ?_) AllReadyH.nil)
          refine step_sl1 x HX.out (by rfl) (by rfl) ?_
          have HN := Lib.hid (heap_alloc_last cw (.cells (hv x) 31))
          have BW := Lib.hid (BW.out.trans ((below_al11 cw (.cells (hv x) 31)).mono BW.out.size))
          generalize cw.alloc (.cells (hv x) 31) = cx at *
          generalize cw.heap.size = nb7 at *
          rename World => cw
          refine hK.out _ _ (HLD.out _ BW.out) (fun hHeld => ?_)
          clear hK K
          try simp only [Act.put, List.setIfInBounds_toArray, List.set_cons_zero, List.set_cons_succ]
          refine wpAnyH_ready (rs := [7]) (by kernel_rfl) (by simp) ?_
          refine (AllReadyH.cons (by simp only [List.getElem?_toArray, List.getElem?_cons_succ, List.getElem?_cons_zero]; rfl) (fun K hK => ?_) AllReadyH.nil)
          have OW7 := Lib.hid (own_below HA6.out.om BW.out)
          have CW7 := Lib.hid ((mild_below BW.out).cells HA6.out.cell)
          have HBW := Lib.hid ((mild_below BW.out).cells HB6.out)
          have HOW := Lib.hid (own_below HO6.out BW.out)
          refine step_pushh rfl _ _ rfl B (.slice pk nk ck) (ms ++ R.take k) nb7 x HX.out (by rfl) OW7.out (by rfl) HN.out (by simp only [List.length_append, List.length_take]; have := HLM.out; have := HRF.out.2.2.1; omega) (Nat.le_trans HBB.out (Nat.le_trans T6.out.size BW.out.size)) (nk + 1) (by simp only [List.length_append, List.length_take]; have := HNK.out; have := HNR.out; have := HLT.out; omega) ?_
          intro p7 c7 cx o7 oth7 loc7
          have o7' : HOwn cx B (.slice p7 (nk + 1) c7) (ms ++ R.take (k + 1)) := by rw [HTK.out]; exact o7
          obtain ⟨h8, t8, l8⟩ := HA6.out.pushM BW.out o7' oth7 loc7
          have HA8 := Lib.hid h8
          have T8 := Lib.hid t8
          have L8 := Lib.hid l8
          have C7 := Lib.hid ((oth7.block i (Array.getElem?_eq_some_iff.1 CW7.out).1 (fun e => own_apart OW7.out CW7.out (by decide) e)).trans CW7.out)
          have HB7 := Lib.hid ((oth7.block xb (Array.getElem?_eq_some_iff.1 HBW.out).1 (fun e => XB.out xb e rfl)).trans HBW.out)
          have HO7 := Lib.hid (own_keep HOW.out oth7 (fun j hj e => (NE.out j hj).1 e))
          have NE8 : Hid (∀ j, (Value.slice (some ⟨bb, o, none⟩) nr cr).ownBlock = some j → (Value.slice p7 (nk + 1) c7).ownBlock ≠ some j ∧ ov.ownBlock ≠ some j) := Lib.hid (fun j hj => ⟨fun e => by
            rcases loc7 j e with h9 | h9
            · exact (NE.out j hj).1 h9
            · have := own_lt HOW.out j hj; omega, (NE.out j hj).2⟩)
          clear o7 o7' oth7 loc7 h8 t8 l8 OW7 CW7 HBW HOW BW HN
          rename World => cw
          refine hK.out _ _ (hld_row HX.out HB7.out) (fun hHeld => ?_)
          clear hK K
          try simp only [Act.put, List.setIfInBounds_toArray, List.set_cons_zero, List.set_cons_succ]
          refine wpAnyH_take (i := 8) (v := ?_) (by simp only [List.getElem?_toArray, List.getElem?_cons_succ, List.getElem?_cons_zero]; rfl) (by kernel_rfl) (by kernel_rfl) (by kernel_rfl) (fun _ _ _ h => h) (Or.inl ⟨by rfl, ?_⟩) (by assumption) ?_
          rotate_left
          · intro w hSw
            try dsimp only at hSw
            go_simp
            try with_reducible rfl
          try simp only [Act.put, List.setIfInBounds_toArray, List.set_cons_zero, List.set_cons_succ]
          refine wpAnyH_take (i := 9) (v := ?_) (by simp only [List.getElem?_toArray, List.getElem?_cons_succ, List.getElem?_cons_zero]; rfl) (by kernel_rfl) (by kernel_rfl) (by kernel_rfl) (fun _ _ _ h => h) (Or.inl ⟨by rfl, ?_⟩) (by assumption) ?_
          rotate_left
          · intro w hSw
            try dsimp only at hSw
            go_simp
            try with_reducible rfl
          try simp only [Act.put, List.setIfInBounds_toArray, List.set_cons_zero, List.set_cons_succ]
          refine wpAnyH_ready (rs := [10]) (by kernel_rfl) (by simp) ?_
          refine (AllReadyH.cons (by simp only [List.getElem?_toArray, List.getElem?_cons_succ, List.getElem?_cons_zero]; rfl) (fun K hK => ?_) AllReadyH.nil)
          have hc := cell_obj C7.out 1 rfl
          have hf : cw.frozen? ⟨i, 1, none⟩ = false := frozen_of_row _ _ _ _ _ C7.out
          have OS : Only (fun j => j = i) cw (cw.setCell ⟨i, 1, none⟩ (.slice p7 (nk + 1) c7)) := (Only.refl (fun j => j = i) cw).setCell (p := ⟨i, 1, none⟩) rfl _
          have HB8 := Lib.hid ((OS.block xb (Array.getElem?_eq_some_iff.1 HB7.out).1 (fun e => by have h1 := HB7.out; rw [e, C7.out] at h1; injection h1 with h1; injection h1 with _ h1 _; revert h1; decide)).trans HB7.out)
          have HO8 := Lib.hid (own_keep HO7.out OS (fun j hj e => own_apart HO7.out C7.out (by decide) (by rw [hj, e])))
          go_simp
          clear hc hf OS C7 HB7 HO7
          refine hK.out _ _ (hld_row HX.out HB8.out) (fun hHeld => ?_)
          clear hK K
          try simp only [Act.put, List.setIfInBounds_toArray, List.set_cons_zero, List.set_cons_succ]
          refine wpAnyH_done (by kernel_rfl) ?_ _
          refine NoPanic.normal ?_
          clear hHeld
          generalize cw.setCell ⟨i, 1, none⟩ (.slice p7 (nk + 1) c7) = w8 at *
          go_wp2_with fail
          refine ⟨⟨k + 1, by first | rw [HJ.out] | rfl, HLT.out, Lib.hid ⟨p7, nk + 1, c7, HA8.out, iS.trans T6.out T8.out LL.out, LL.out.trans L8.out T6.out.size, NE8.out⟩, HO8⟩, ?_⟩
          first | exact meas_nv HLT.out HJ.out | exact meas_nw HLT.out
        · refine step_sl1 x HX.out (by rfl) (by rfl) ?_
          have HN := Lib.hid (heap_alloc_last cw (.cells (hv x) 31))
          have BW := Lib.hid (BW.out.trans ((below_al11 cw (.cells (hv x) 31)).mono BW.out.size))
          generalize cw.alloc (.cells (hv x) 31) = cx at *
          generalize cw.heap.size = nb7 at *
          rename World => cw
          refine hK.out _ _ (HLD.out _ BW.out) (fun hHeld => ?_)
          clear hK K
          try simp only [Act.put, List.setIfInBounds_toArray, List.set_cons_zero, List.set_cons_succ]
          refine wpAnyH_ready (rs := [4]) (by kernel_rfl) (by simp) ?_
          refine (AllReadyH.cons (by simp only [List.getElem?_toArray, List.getElem?_cons_succ, List.getElem?_cons_zero]; rfl) (fun K hK => ?_) AllReadyH.nil)
          have hc := HC.out cw BW.out
          go_simp
          clear hc
          refine hK.out _ _ (HLD.out _ BW.out) (fun hHeld => ?_)
          clear hK K
          try simp only [Act.put, List.setIfInBounds_toArray, List.set_cons_zero, List.set_cons_succ]
          refine wpAnyH_ready (rs := [7]) (by kernel_rfl) (by simp) ?_
          refine (AllReadyH.cons (by simp only [List.getElem?_toArray, List.getElem?_cons_succ, List.getElem?_cons_zero]; rfl) (fun K hK => ?_) AllReadyH.nil)
          have OW7 := Lib.hid (own_below HA6.out.om BW.out)
          have CW7 := Lib.hid ((mild_below BW.out).cells HA6.out.cell)
          have HBW := Lib.hid ((mild_below BW.out).cells HB6.out)
          have HOW := Lib.hid (own_below HO6.out BW.out)
          refine step_pushh rfl _ _ rfl B (.slice pk nk ck) (ms ++ R.take k) nb7 x HX.out (by rfl) OW7.out (by rfl) HN.out (by simp only [List.length_append, List.length_take]; have := HLM.out; have := HRF.out.2.2.1; omega) (Nat.le_trans HBB.out (Nat.le_trans T6.out.size BW.out.size)) (nk + 1) (by simp only [List.length_append, List.length_take]; have := HNK.out; have := HNR.out; have := HLT.out; omega) ?_
          intro p7 c7 cx o7 oth7 loc7
          have o7' : HOwn cx B (.slice p7 (nk + 1) c7) (ms ++ R.take (k + 1)) := by rw [HTK.out]; exact o7
          obtain ⟨h8, t8, l8⟩ := HA6.out.pushM BW.out o7' oth7 loc7
          have HA8 := Lib.hid h8
          have T8 := Lib.hid t8
          have L8 := Lib.hid l8
          have C7 := Lib.hid ((oth7.block i (Array.getElem?_eq_some_iff.1 CW7.out).1 (fun e => own_apart OW7.out CW7.out (by decide) e)).trans CW7.out)
          have HB7 := Lib.hid ((oth7.block xb (Array.getElem?_eq_some_iff.1 HBW.out).1 (fun e => XB.out xb e rfl)).trans HBW.out)
          have HO7 := Lib.hid (own_keep HOW.out oth7 (fun j hj e => (NE.out j hj).1 e))
          have NE8 : Hid (∀ j, (Value.slice (some ⟨bb, o, none⟩) nr cr).ownBlock = some j → (Value.slice p7 (nk + 1) c7).ownBlock ≠ some j ∧ ov.ownBlock ≠ some j) := Lib.hid (fun j hj => ⟨fun e => by
            rcases loc7 j e with h9 | h9
            · exact (NE.out j hj).1 h9
            · have := own_lt HOW.out j hj; omega, (NE.out j hj).2⟩)
          clear o7 o7' oth7 loc7 h8 t8 l8 OW7 CW7 HBW HOW BW HN
          rename World => cw
          refine hK.out _ _ (hld_row HX.out HB7.out) (fun hHeld => ?_)
          clear hK K
          try simp only [Act.put, List.setIfInBounds_toArray, List.set_cons_zero, List.set_cons_succ]
          refine wpAnyH_take (i := 8) (v := ?_) (by simp only [List.getElem?_toArray, List.getElem?_cons_succ, List.getElem?_cons_zero]; rfl) (by kernel_rfl) (by kernel_rfl) (by kernel_rfl) (fun _ _ _ h => h) (Or.inl ⟨by rfl, ?_⟩) (by assumption) ?_
          rotate_left
          · intro w hSw
            try dsimp only at hSw
            go_simp
            try with_reducible rfl
          try simp only [Act.put, List.setIfInBounds_toArray, List.set_cons_zero, List.set_cons_succ]
          refine wpAnyH_take (i := 9) (v := ?_) (by simp only [List.getElem?_toArray, List.getElem?_cons_succ, List.getElem?_cons_zero]; rfl) (by kernel_rfl) (by kernel_rfl) (by kernel_rfl) (fun _ _ _ h => h) (Or.inl ⟨by rfl, ?_⟩) (by assumption) ?_
          rotate_left
          · intro w hSw
            try dsimp only at hSw
            go_simp
            try with_reducible rfl
          try simp only [Act.put, List.setIfInBounds_toArray, List.set_cons_zero, List.set_cons_succ]
          refine wpAnyH_ready (rs := [10]) (by kernel_rfl) (by simp) ?_
          refine (AllReadyH.cons (by simp only [List.getElem?_toArray, List.getElem?_cons_succ, List.getElem?_cons_zero]; rfl) (fun K hK => ?_) AllReadyH.nil)
          have hc := cell_obj C7.out 1 rfl
          have hf : cw.frozen? ⟨i, 1, none⟩ = false := frozen_of_row _ _ _ _ _ C7.out
          have OS : Only (fun j => j = i) cw (cw.setCell ⟨i, 1, none⟩ (.slice p7 (nk + 1) c7)) := (Only.refl (fun j => j = i) cw).setCell (p := ⟨i, 1, none⟩) rfl _
          have HB8 := Lib.hid ((OS.block xb (Array.getElem?_eq_some_iff.1 HB7.out).1 (fun e => by have h1 := HB7.out; rw [e, C7.out] at h1; injection h1 with h1; injection h1 with _ h1 _; revert h1; decide)).trans HB7.out)
          have HO8 := Lib.hid (own_keep HO7.out OS (fun j hj e => own_apart HO7.out C7.out (by decide) (by rw [hj, e])))
          go_simp
          clear hc hf OS C7 HB7 HO7
          refine hK.out _ _ (hld_row HX.out HB8.out) (fun hHeld => ?_)
          clear hK K
          try simp only [Act.put, List.setIfInBounds_toArray, List.set_cons_zero, List.set_cons_succ]
          refine wpAnyH_done (by kernel_rfl) ?_ _
          refine NoPanic.normal ?_
          clear hHeld
          generalize cw.setCell ⟨i, 1, none⟩ (.slice p7 (nk + 1) c7) = w8 at *
          go_wp2_with fail
          refine ⟨⟨k + 1, by first | rw [HJ.out] | rfl, HLT.out, Lib.hid ⟨p7, nk + 1, c7, HA8.out, iS.trans T6.out T8.out LL.out, LL.out.trans L8.out T6.out.size, NE8.out⟩, HO8⟩, ?_⟩
          first | exact meas_nv HLT.out HJ.out | exact meas_nw HLT.out
      · obtain rfl : k = nr := by omega
        have hl2 : ¬ (k : Int) < k := by omega
        have HTE : Hid (R.take k = R) := Lib.hid (List.take_of_length_le (by rw [HNR.out]; exact Nat.le_refl _))
        rw [HTE.out] at HA
        have hlr : ms.length + R.length ≤ 100000 := by have := HLM.out; have := HRF.out.2.2.1; omega
        have HCG := Lib.hid (closegaps_to wr B i nb most _ ov (ms ++ R) os _ HA.out (out (ms ++ R)) (fun x hx => other_idn (by rw [List.length_append]; exact hlr) hx) H3O.out (by have := HLM.out; omega) (List.nodup_append.1 HND.out).2.1 ((ms ++ R) ++ os) idn_sup (by simp only [List.length_append]; have := HLM.out; have := HRF.out.2.2.1; omega))
        clear hlt hk hlr
        go_wp2_with fail
        refine HCG.out.mono ?_
        rintro e w9 ⟨rfl, mv', ov', h9, t9, l9⟩
        have H9 := Lib.hid h9
        have T9 := Lib.hid (iS.trans T.out t9 LL.out)
        have L9 := Lib.hid (LL.out.trans l9 T.out.size)
        clear h9 t9 l9 HCG
        go_wp2_with fail
        go_ret
        unfold RaPost
        rw [if_neg (by have := HQF.out; omega)]
        refine ⟨rfl, mv', ov', ?_, T9.out, L9.out⟩
        have h := H9.out
        rw [show os.filter (out (ms ++ R)) = oIn (ms ++ R) os from rfl, renum_idn] at h
        exact h
end Go.Proofs.YtnpeahbbcolfmaaGreatDoor
namespace Go.Proofs.YtnpeahbbcolfmaaGreatDoor
open Go.RowKit
open Go.Maps
/-- The others so far. -/
abbrev oAt (ms os l : List Key) (k : Nat) : List Key := os ++ (l.take k).filter (out (ms ++ os))
theorem oAt_next {ms os l : List Key} {k : Nat} {x : Key} (hx : l[k]? = some x) : oAt ms os l (k + 1) = oAt ms os l k ++ (if x ∈ ms ++ os then [] else [x]) := by
  unfold oAt
  rw [take_flt hx, List.append_assoc]
  by_cases h : x ∈ ms ++ os
  · simp only [out, h, decide_true, Bool.not_true, if_true, Bool.false_eq_true, if_false]
  · simp only [out, h, decide_false, Bool.not_false, if_true, if_false]
theorem oAt_mem {ms os l : List Key} {k : Nat} {x : Key} (hn : l.Nodup) (hx : l[k]? = some x) : (idn ms (oAt ms os l k) x).isSome = decide (x ∈ ms ++ os) := by
  have hnt : x ∉ l.take k := fun hm => by
    obtain ⟨j, hj, hjk⟩ := idx_take hm
    have := idx_at hn hx
    rw [hj] at this
    injection this with this
    omega
  by_cases h : x ∈ ms ++ os
  · rw [decide_eq_true h]
    cases hi : idn ms (oAt ms os l k) x with
    | some n => rfl
    | none =>
      obtain ⟨h1, h2⟩ := idn_none.1 hi
      rcases List.mem_append.1 h with h | h
      · exact absurd h h1
      · exact absurd (List.mem_append_left _ h) h2
  · rw [decide_eq_false h]
    have : idn ms (oAt ms os l k) x = none := idn_none.2 ⟨fun h1 => h (List.mem_append_left _ h1), fun h1 => by
      rcases List.mem_append.1 h1 with h1 | h1
      · exact h (List.mem_append_right _ h1)
      · exact hnt (List.mem_filter.1 h1).1⟩
    rw [this]; rfl
theorem oAt_len {ms os l : List Key} {k : Nat} : (oAt ms os l k).length ≤ os.length + l.length := by
  unfold oAt
  rw [List.length_append]
  have h1 := List.length_filter_le (out (ms ++ os)) (l.take k)
  rw [List.length_take] at h1
  omega
set_option linter.unusedSimpArgs false in
set_option maxRecDepth 20000 in
set_option maxHeartbeats 8000000 in
attribute [local go_sem ↓] hld_open in
theorem iadd_to (w0 w : World) (b0 : Below w0.heap.size w0 w) (B i nb : Nat) (most : Int) (mv ov : Value) (ms os : List Key) (H : IA w0 B i nb most mv ov ms os (idn ms os)) (v : Value) (l : List Key) (ho : HOwn w w0.heap.size v l) (hn : l.Nodup) (h32 : H32 l) (hl : l.length ≤ 1000)
    (hlm : ms.length + os.length ≤ 1000) :
    Calls Tryz.prog 40 #[ip i, v] w fun e w' => e = .returned (.tuple #[]) ∧ IPost w0 w' B i nb most mv ov ms (os ++ l.filter (out (ms ++ os))) (idn ms (os ++ l.filter (out (ms ++ os)))) := by
  obtain ⟨pm, nm, cm, rfl, hnm⟩ := own_sh H.oo
  have hB : B ≤ w0.heap.size := Nat.le_trans H.lo.1 (Nat.le_of_lt (Array.getElem?_eq_some_iff.1 H.cell).1)
  obtain ⟨pr, nr, cr, rfl, hnr⟩ := own_sh ho
  have HBB := Lib.hid hB
  have H0 := Lib.hid H
  have HA3 := Lib.hid (H.kb b0)
  have HLM := Lib.hid hlm
  have HNR := Lib.hid hnr
  have O3 := Lib.hid ho
  have B3 := Lib.hid b0
  have HRF : Hid (l.Nodup ∧ H32 l ∧ l.length ≤ 1000) := Lib.hid ⟨hn, h32, hl⟩
  have NE3 : Hid (∀ j, (Value.slice pr nr cr).ownBlock = some j → mv.ownBlock ≠ some j ∧ (Value.slice pm nm cm).ownBlock ≠ some j) := Lib.hid (fun j hj => ⟨fun e => by have h1 := own_from ho j hj; have h2 := own_lt H.om j e; omega, fun e => by have h1 := own_from ho j hj; have h2 := own_lt H.oo j e; omega⟩)
  clear b0 H ho hn h32 hl hlm hnm hB hnr
  go_enter Tryz.func40, Tryz.ntmps40
  go_wp2_with fail
  go_loopw [10] (fun v10 wr => ∃ k : Nat, v10 = .int .i64 k ∧ k ≤ nr ∧ Hid (∃ pk nk ck, IA wr B i nb most mv (.slice pk nk ck) ms (oAt ms os l k) (idn ms (oAt ms os l k)) ∧ Only (iS i nb mv (.slice pm nm cm)) w0 wr ∧ iL w0.heap.size mv (.slice pm nm cm) mv (.slice pk nk ck) ∧ ∀ j, (Value.slice pr nr cr).ownBlock = some j → mv.ownBlock ≠ some j ∧ (Value.slice pk nk ck).ownBlock ≠ some j) ∧ Hid (HOwn wr w0.heap.size (.slice pr nr cr) l)) (fun v10 _ => nr - (intOf v10).toNat)
  case atStart => exact ⟨0, rfl, Nat.zero_le _, Lib.hid ⟨pm, nm, cm, by simp only [oAt, List.take_zero, List.filter_nil, List.append_nil]; exact HA3.out, Only.of_below (S := iS i nb mv (.slice pm nm cm)) B3.out, iL.refl _ _ _, NE3.out⟩, O3⟩
  case round =>
    clear HA3 O3 B3 NE3
    obtain ⟨k, rfl, hk, HE, HO⟩ := hrel
    obtain ⟨pk, nk, ck, ha, t, ll, ne⟩ := HE.out
    have HA := Lib.hid ha
    have T := Lib.hid t
    have LL := Lib.hid ll
    have NE := Lib.hid ne
    obtain ⟨p9, c9, e9⟩ := own_shape ha.oo
    have HNK : Hid (nk = (oAt ms os l k).length) := Lib.hid (by
      injection e9 with _ e9 _)
    clear ha t ll ne HE e9
    by_cases hlt : k < nr
    · have hl1 : (k : Int) < nr := by omega
      obtain ⟨j1, j2, j3⟩ := next_fit hlt (by have := HRF.out.2.2; have := HNR.out; omega)
      have hkE : k < l.length := by rw [← HNR.out]; exact hlt
      obtain ⟨bb, o, c', e1, hrg⟩ := (HSeen.own HO.out).at HRF.out.2.1 hkE
      injection e1 with e1 e2 e3
      subst e1
      have hat : l[k]? = some l[k] := List.getElem?_eq_getElem hkE
      obtain ⟨x, hx⟩ : ∃ x, x = l[k] := ⟨_, rfl⟩
      rw [← hx] at hrg hat
      have HX : Hid (x.length = 32) := Lib.hid (by rw [hx]; exact HRF.out.2.1.at hkE)
      have HAT := Lib.hid hat
      have hld0 := hld_range HX.out hrg
      have st := hst_cells x HX.out wr
      have hks : (hv x).size = 32 := by rw [hv_size, HX.out]
      have AL := Lib.hid (below_al11 wr (.cells (hv x) 31))
      have HBX := Lib.hid (heap_alloc_last wr (.cells (hv x) 31))
      have HA4 := Lib.hid (HA.out.kb AL.out)
      have T4 : Hid (Only (iS i nb mv (.slice pm nm cm)) w0 (wr.alloc (.cells (hv x) 31))) := Lib.hid (T.out.trans (Only.of_below (S := iS i nb mv (.slice pm nm cm)) AL.out) (fun _ h => h) (fun _ _ h => h))
      have HO4 := Lib.hid (own_below HO.out AL.out)
      have XB : Hid (∀ j, (Value.slice pk nk ck).ownBlock = some j → j ≠ wr.heap.size) := Lib.hid (fun j hj e => by have := own_lt HA.out.oo j hj; omega)
      have HLT := Lib.hid hlt
      have HJ := Lib.hid j1
      clear hx hrg hat hkE hk e2 e3 HA T HO
      go_upto_region 3 with fail
      clear st hld0
      generalize wr.alloc (.cells (hv x) 31) = w4 at *
      generalize wr.heap.size = xb at *
      have bq : Below w4.heap.size w4 w4.drew := blw_qt _ 1 w4
      have HA5 := Lib.hid (HA4.out.kb bq)
      have HB5 := Lib.hid ((mild_below bq).cells HBX.out)
      have HO5 := Lib.hid (own_below HO4.out bq)
      have T5 : Hid (Only (iS i nb mv (.slice pm nm cm)) w0 w4.drew) := Lib.hid (T4.out.trans (Only.of_below (S := iS i nb mv (.slice pm nm cm)) bq) (fun _ h => h) (fun _ _ h => h))
      obtain ⟨d, hd⟩ : ∃ d, d = (idn ms (oAt ms os l k) x).getD 0 := ⟨_, rfl⟩
      obtain ⟨ok, hok⟩ : ∃ ok, ok = decide (x ∈ ms ++ os) := ⟨_, rfl⟩
      have hlk := HA5.out.im.lookOk x HX.out
      rw [← hd, oAt_mem HRF.out.1 HAT.out, ← hok] at hlk
      have HLK := Lib.hid hlk
      have HOK := Lib.hid hok
      clear bq HA4 T4 HO4 HBX hlk hd hok
      go_wp2_with fail
      try simp only [List.append]
      refine wp_region_noPanic ?_
      refine wp_region_held_drew (S := (fun V => V.cell? ⟨i, 3, none⟩ = some (.map (some nb)) ∧ (hld ⟨xb, 0, none⟩).run Tryz.prog V = .ok (.agg (hv x)) V ∧ (Instr.lookup 92 (.map (some nb)) (.agg (hv x)) true).run Tryz.prog V = .ok (.tuple #[.int .i64 d, .bool ok]) V)) (by kernel_rfl) ⟨HA5.out.c (k := 3) rfl, hld_row HX.out HB5.out, HLK.out⟩ (fun hHeld => ?_)
      generalize w4.drew = w5 at *
      refine wpAnyH_take (i := 0) (v := ?_) (by simp only [List.getElem?_toArray, List.getElem?_cons_zero]; rfl) (by kernel_rfl) (by kernel_rfl) (by kernel_rfl) (fun _ _ _ h => h) (Or.inl ⟨by rfl, ?_⟩) (by assumption) ?_
      rotate_left
      · intro w hSw
        try dsimp only at hSw
        go_simp
        try with_reducible rfl
      try simp only [Act.put, List.setIfInBounds_toArray, List.set_cons_zero, List.set_cons_succ]
      refine wpAnyH_take (i := 1) (v := ?_) (by simp only [List.getElem?_toArray, List.getElem?_cons_succ, List.getElem?_cons_zero]; rfl) (by kernel_rfl) (by kernel_rfl) (by kernel_rfl) (fun _ _ _ h => h) (Or.inl ⟨by rfl, ?_⟩) (by assumption) ?_
      rotate_left
      · intro w hSw
        try dsimp only at hSw
        go_simp
        try with_reducible rfl
      try simp only [Act.put, List.setIfInBounds_toArray, List.set_cons_zero, List.set_cons_succ]
      refine wpAnyH_take (i := 2) (v := ?_) (by simp only [List.getElem?_toArray, List.getElem?_cons_succ, List.getElem?_cons_zero]; rfl) (by kernel_rfl) (by kernel_rfl) (by kernel_rfl) (fun _ _ _ h => h) (Or.inl ⟨by rfl, ?_⟩) (by assumption) ?_
      rotate_left
      · intro w hSw
        try dsimp only at hSw
        go_simp
        try with_reducible rfl
      try simp only [Act.put, List.setIfInBounds_toArray, List.set_cons_zero, List.set_cons_succ]
      refine wpAnyH_take (i := 3) (v := ?_) (by simp only [List.getElem?_toArray, List.getElem?_cons_succ, List.getElem?_cons_zero]; rfl) (by kernel_rfl) (by kernel_rfl) (by kernel_rfl) (fun _ _ _ h => h) (Or.inl ⟨by rfl, ?_⟩) (by assumption) ?_
      rotate_left
      · intro w hSw
        try dsimp only at hSw
        go_simp
        try with_reducible rfl
      try simp only [Act.put, List.setIfInBounds_toArray, List.set_cons_zero, List.set_cons_succ]
      refine wpAnyH_take (i := 4) (v := ?_) (by simp only [List.getElem?_toArray, List.getElem?_cons_succ, List.getElem?_cons_zero]; rfl) (by kernel_rfl) (by kernel_rfl) (by kernel_rfl) (fun _ _ _ h => h) (Or.inl ⟨by rfl, ?_⟩) (by assumption) ?_
      rotate_left
      · intro w hSw
        try dsimp only at hSw
        go_simp
        try with_reducible rfl
      try simp only [Act.put, List.setIfInBounds_toArray, List.set_cons_zero, List.set_cons_succ]
      refine wpAnyH_take (i := 5) (v := ?_) (by simp only [List.getElem?_toArray, List.getElem?_cons_succ, List.getElem?_cons_zero]; rfl) (by kernel_rfl) (by kernel_rfl) (by kernel_rfl) (fun _ _ _ h => h) (Or.inl ⟨by rfl, ?_⟩) (by assumption) ?_
      rotate_left
      · intro w hSw
        try dsimp only at hSw
        go_simp
        try with_reducible rfl
      try simp only [Act.put, List.setIfInBounds_toArray, List.set_cons_zero, List.set_cons_succ]
      refine wpAnyH_take (i := 6) (v := ?_) (by simp only [List.getElem?_toArray, List.getElem?_cons_succ, List.getElem?_cons_zero]; rfl) (by kernel_rfl) (by kernel_rfl) (by kernel_rfl) (fun _ _ _ h => h) (Or.inl ⟨by rfl, ?_⟩) (by assumption) ?_
      rotate_left
      · intro w hSw
        try dsimp only at hSw
        go_simp
        try with_reducible rfl
      try simp only [Act.put, List.setIfInBounds_toArray, List.set_cons_zero, List.set_cons_succ]
      refine wpAnyH_take (i := 7) (v := ?_) (by simp only [List.getElem?_toArray, List.getElem?_cons_succ, List.getElem?_cons_zero]; rfl) (by kernel_rfl) (by kernel_rfl) (by kernel_rfl) (fun _ _ _ h => h) (Or.inl ⟨by rfl, ?_⟩) (by assumption) ?_
      rotate_left
      · intro w hSw
        try dsimp only at hSw
        go_simp
        try with_reducible rfl
      try simp only [Act.put, List.setIfInBounds_toArray, List.set_cons_zero, List.set_cons_succ]
      refine wpAnyH_take (i := 8) (v := ?_) (by simp only [List.getElem?_toArray, List.getElem?_cons_succ, List.getElem?_cons_zero]; rfl) (by kernel_rfl) (by kernel_rfl) (by kernel_rfl) (fun _ _ _ h => h) (Or.inl ⟨by rfl, ?_⟩) (by assumption) ?_
      rotate_left
      · intro w hSw
        try dsimp only at hSw
        go_simp
        try with_reducible rfl
      try simp only [Act.put, List.setIfInBounds_toArray, List.set_cons_zero, List.set_cons_succ]
      refine wpAnyH_take (i := 9) (v := ?_) (by simp only [List.getElem?_toArray, List.getElem?_cons_succ, List.getElem?_cons_zero]; rfl) (by kernel_rfl) (by kernel_rfl) (by kernel_rfl) (fun _ _ _ h => h) (Or.inl ⟨by rfl, ?_⟩) (by assumption) ?_
      rotate_left
      · intro w hSw
        try dsimp only at hSw
        go_simp
        try with_reducible rfl
      try simp only [Act.put, List.setIfInBounds_toArray, List.set_cons_zero, List.set_cons_succ]
      refine wpAnyH_take (i := 10) (v := ?_) (by simp only [List.getElem?_toArray, List.getElem?_cons_succ, List.getElem?_cons_zero]; rfl) (by kernel_rfl) (by kernel_rfl) (by kernel_rfl) (fun _ _ _ h => h) (Or.inl ⟨by rfl, ?_⟩) (by assumption) ?_
      rotate_left
      · intro w hSw
        try dsimp only at hSw
        go_simp
        try with_reducible rfl
      try simp only [Act.put, List.setIfInBounds_toArray, List.set_cons_zero, List.set_cons_succ]
      refine wpAnyH_done (by kernel_rfl) ?_ _
      refine NoPanic.normal ?_
      clear hHeld HLK
      cases ok with
      | true =>
        have HNX : Hid (oAt ms os l (k + 1) = oAt ms os l k) := Lib.hid (by rw [oAt_next HAT.out, if_pos (of_decide_eq_true HOK.out.symm), List.append_nil])
        go_wp2_with fail
        refine ⟨⟨k + 1, by first | rw [HJ.out] | rfl, HLT.out, Lib.hid ⟨pk, nk, ck, by rw [HNX.out]; exact HA5.out, T5.out, LL.out, NE.out⟩, HO5⟩, ?_⟩
        first | exact meas_nv HLT.out HJ.out | exact meas_nw HLT.out
      | false =>
        have hnm := of_decide_eq_false HOK.out.symm
        have HNX : Hid (oAt ms os l (k + 1) = oAt ms os l k ++ [x]) := Lib.hid (by rw [oAt_next HAT.out, if_neg hnm])
        have hsn := oAt_mem HRF.out.1 HAT.out (ms := ms) (os := os)
        rw [decide_eq_false hnm] at hsn
        obtain ⟨hn1, hn2⟩ := idn_none.1 (Option.not_isSome_iff_eq_none.1 (by rw [hsn]; decide))
        have hp := idn_osnoc hn1 hn2
        rw [← HNK.out, ← HNX.out] at hp
        have HP := Lib.hid hp
        have HWR : Hid (IntKind.i64.wrap (1099511627776 + (nk : Int)) = split + (nk : Int)) := Lib.hid (IntWalk.i64_in _ (by have h1 := oAt_len (ms := ms) (os := os) (l := l) (k := k); have := HNK.out; have := HLM.out; have := HRF.out.2.2; omega))
        clear hnm hsn hn1 hn2 hp
        have bq : Below w5.heap.size w5 w5.drew := blw_qt _ 1 w5
        have HA6 := Lib.hid (HA5.out.kb bq)
        have HB6 := Lib.hid ((mild_below bq).cells HB5.out)
        have HO6 := Lib.hid (own_below HO5.out bq)
        have T6 : Hid (Only (iS i nb mv (.slice pm nm cm)) w0 w5.drew) := Lib.hid (T5.out.trans (Only.of_below (S := iS i nb mv (.slice pm nm cm)) bq) (fun _ h => h) (fun _ _ h => h))
        clear bq HA5 T5 HO5 HB5
        go_wp2_with fail
        try simp only [List.append]
        refine wp_region_noPanic ?_
        refine wp_region_held_drew (S := (fun V => V.cell? ⟨i, 2, none⟩ = some (.slice pk nk ck) ∧ V.cell? ⟨i, 3, none⟩ = some (.map (some nb)) ∧ (hld ⟨xb, 0, none⟩).run Tryz.prog V = .ok (.agg (hv x)) V)) (by kernel_rfl) ⟨HA6.out.c (k := 2) rfl, HA6.out.c (k := 3) rfl, hld_row HX.out HB6.out⟩ (fun hHeld => ?_)
        generalize w5.drew = cw at *
        obtain ⟨w6, hmu, h6, o6⟩ := HA6.out.upd x HX.out (split + (nk : Int)) (ms ++ oAt ms os l k) idn_sup (by have h1 := oAt_len (ms := ms) (os := os) (l := l) (k := k); rw [List.length_append]; have := HLM.out; have := HRF.out.2.2; omega)
        rw [HP.out] at h6
        have hmm : ∃ es cc, cw.heap[nb]? = some (.map es cc) := by obtain ⟨M, m1, _⟩ := HA6.out.mp; exact m1.ismap
        have HMU := Lib.hid hmu
        have HA7 := Lib.hid h6
        have HB7m := Lib.hid ((o6.block xb (Array.getElem?_eq_some_iff.1 HB6.out).1 (fun e => by obtain ⟨es, cc, hm⟩ := hmm; have h1 := HB6.out; rw [e, hm] at h1; cases h1)).trans HB6.out)
        have HO7m := Lib.hid (own_keep HO6.out o6 (fun j hj e => by obtain ⟨es, cc, hm⟩ := hmm; exact own_nomap HO6.out hm (by rw [hj, e])))
        have T7 : Hid (Only (iS i nb mv (.slice pm nm cm)) w0 w6) := Lib.hid (T6.out.trans o6 (fun _ h => h) (fun _ _ h => .inr (.inl h)))
        clear hmu h6 o6 hmm T6 HA6 HO6
        refine wpAnyH_take (i := 0) (v := ?_) (by simp only [List.getElem?_toArray, List.getElem?_cons_zero]; rfl) (by kernel_rfl) (by kernel_rfl) (by kernel_rfl) (fun _ _ _ h => h) (Or.inl ⟨by rfl, ?_⟩) (by assumption) ?_
        rotate_left
        · intro w hSw
          try dsimp only at hSw
          go_simp
          try with_reducible rfl
        try simp only [Act.put, List.setIfInBounds_toArray, List.set_cons_zero, List.set_cons_succ]
        refine wpAnyH_take (i := 1) (v := ?_) (by simp only [List.getElem?_toArray, List.getElem?_cons_succ, List.getElem?_cons_zero]; rfl) (by kernel_rfl) (by kernel_rfl) (by kernel_rfl) (fun _ _ _ h => h) (Or.inl ⟨by rfl, ?_⟩) (by assumption) ?_
        rotate_left
        · intro w hSw
          try dsimp only at hSw
          go_simp
          try with_reducible rfl
        try simp only [Act.put, List.setIfInBounds_toArray, List.set_cons_zero, List.set_cons_succ]
        refine wpAnyH_take (i := 2) (v := ?_) (by simp only [List.getElem?_toArray, List.getElem?_cons_succ, List.getElem?_cons_zero]; rfl) (by kernel_rfl) (by kernel_rfl) (by kernel_rfl) (fun _ _ _ h => h) (Or.inl ⟨by rfl, ?_⟩) (by assumption) ?_
        rotate_left
        · intro w hSw
          try dsimp only at hSw
          go_simp
          try with_reducible rfl
        try simp only [Act.put, List.setIfInBounds_toArray, List.set_cons_zero, List.set_cons_succ]
        refine wpAnyH_take (i := 3) (v := ?_) (by simp only [List.getElem?_toArray, List.getElem?_cons_succ, List.getElem?_cons_zero]; rfl) (by kernel_rfl) (by kernel_rfl) (by kernel_rfl) (fun _ _ _ h => h) (Or.inl ⟨by rfl, ?_⟩) (by assumption) ?_
        rotate_left
        · intro w hSw
          try dsimp only at hSw
          go_simp
          try with_reducible rfl
        try simp only [Act.put, List.setIfInBounds_toArray, List.set_cons_zero, List.set_cons_succ]
        refine wpAnyH_take (i := 4) (v := ?_) (by simp only [List.getElem?_toArray, List.getElem?_cons_succ, List.getElem?_cons_zero]; rfl) (by kernel_rfl) (by kernel_rfl) (by kernel_rfl) (fun _ _ _ h => h) (Or.inl ⟨by rfl, ?_⟩) (by assumption) ?_
        rotate_left
        · intro w hSw
          try dsimp only at hSw
          go_simp
          try with_reducible rfl
        try simp only [Act.put, List.setIfInBounds_toArray, List.set_cons_zero, List.set_cons_succ]
        refine wpAnyH_take (i := 5) (v := ?_) (by simp only [List.getElem?_toArray, List.getElem?_cons_succ, List.getElem?_cons_zero]; rfl) (by kernel_rfl) (by kernel_rfl) (by kernel_rfl) (fun _ _ _ h => h) (Or.inl ⟨by rfl, ?_⟩) (by assumption) ?_
        rotate_left
        · intro w hSw
          try dsimp only at hSw
          go_simp
          try with_reducible rfl
        try simp only [Act.put, List.setIfInBounds_toArray, List.set_cons_zero, List.set_cons_succ]
        refine wpAnyH_take (i := 6) (v := ?_) (by simp only [List.getElem?_toArray, List.getElem?_cons_succ, List.getElem?_cons_zero]; rfl) (by kernel_rfl) (by kernel_rfl) (by kernel_rfl) (fun _ _ _ h => h) (Or.inl ⟨by rfl, ?_⟩) (by assumption) ?_
        rotate_left
        · intro w hSw
          try dsimp only at hSw
          go_simp
          try with_reducible rfl
        try simp only [Act.put, List.setIfInBounds_toArray, List.set_cons_zero, List.set_cons_succ]
        refine wpAnyH_take (i := 7) (v := ?_) (by simp only [List.getElem?_toArray, List.getElem?_cons_succ, List.getElem?_cons_zero]; rfl) (by kernel_rfl) (by kernel_rfl) (by kernel_rfl) (fun _ _ _ h => h) (Or.inl ⟨by rfl, ?_⟩) (by assumption) ?_
        rotate_left
        · intro w hSw
          try dsimp only at hSw
          go_simp
          try with_reducible rfl
        try simp only [Act.put, List.setIfInBounds_toArray, List.set_cons_zero, List.set_cons_succ]
        refine wpAnyH_take (i := 8) (v := ?_) (by simp only [List.getElem?_toArray, List.getElem?_cons_succ, List.getElem?_cons_zero]; rfl) (by kernel_rfl) (by kernel_rfl) (by kernel_rfl) (fun _ _ _ h => h) (Or.inl ⟨by rfl, ?_⟩) (by assumption) ?_
        rotate_left
        · intro w hSw
          try dsimp only at hSw
          go_simp
          try with_reducible rfl
        try simp only [Act.put, List.setIfInBounds_toArray, List.set_cons_zero, List.set_cons_succ]
        refine wpAnyH_take (i := 9) (v := ?_) (by simp only [List.getElem?_toArray, List.getElem?_cons_succ, List.getElem?_cons_zero]; rfl) (by kernel_rfl) (by kernel_rfl) (by kernel_rfl) (fun _ _ _ h => h) (Or.inl ⟨by rfl, ?_⟩) (by assumption) ?_
        rotate_left
        · intro w hSw
          try dsimp only at hSw
          go_simp
          try with_reducible rfl
        try simp only [Act.put, List.setIfInBounds_toArray, List.set_cons_zero, List.set_cons_succ]
        refine wpAnyH_take (i := 10) (v := ?_) (by simp only [List.getElem?_toArray, List.getElem?_cons_succ, List.getElem?_cons_zero]; rfl) (by kernel_rfl) (by kernel_rfl) (by kernel_rfl) (fun _ _ _ h => h) (Or.inl ⟨by rfl, ?_⟩) (by assumption) ?_
        rotate_left
        · intro w hSw
          try dsimp only at hSw
          go_simp
          try with_reducible rfl
        try simp only [Act.put, List.setIfInBounds_toArray, List.set_cons_zero, List.set_cons_succ]
        refine wpAnyH_ready (rs := [11]) (by kernel_rfl) (by simp) ?_
        refine AllReadyH.cons (by simp only [List.getElem?_toArray, List.getElem?_cons_succ, List.getElem?_cons_zero]; rfl) (fun K hK => ?_) AllReadyH.nil
        refine step_upd rfl _ _ _ rfl (by rfl) (by rfl) (by show Value.int .i64 (IntKind.i64.wrap (1099511627776 + (nk : Int))) = _; rw [HWR.out]) HMU.out ?_
        refine hK.out _ _ ⟨HA7.out.c (k := 2) rfl, HA7.out.c (k := 3) rfl, hld_row HX.out HB7m.out⟩ (fun hHeld => ?_)
        clear hK K
        try simp only [Act.put, List.setIfInBounds_toArray, List.set_cons_zero, List.set_cons_succ]
        refine wpAnyH_done (by kernel_rfl) ?_ _
        refine NoPanic.normal ?_
        clear hHeld HMU HB6
        have BW : Hid (Below w6.heap.size w6 w6.drew) := Lib.hid (blw_qt _ 1 w6)
        have HC := Lib.hid (fun (V : World) (k : Below w6.heap.size w6 V) => (HA7.out.kb k).c (k := 2) rfl)
        have HLD := Lib.hid (fun (V : World) (k : Below w6.heap.size w6 V) => hld_row (w := V) HX.out ((mild_below k).cells HB7m.out))
        go_wp2_with fail
        try simp only [List.append]
        refine wp_region_noPanic ?_
        refine wp_region_held_drew (S := (fun V => (hld ⟨xb, 0, none⟩).run Tryz.prog V = .ok (.agg (hv x)) V)) (by kernel_rfl) (HLD.out _ BW.out) (fun hHeld => ?_)
        generalize w6.drew = cw at *
        refine wpAnyH_take (i := 0) (v := ?_) (by simp only [List.getElem?_toArray, List.getElem?_cons_zero]; rfl) (by kernel_rfl) (by kernel_rfl) (by kernel_rfl) (fun _ _ _ h => h) (Or.inl ⟨by rfl, ?_⟩) (by assumption) ?_
        rotate_left
        · intro w hSw
          try dsimp only at hSw
          go_simp
          try with_reducible rfl
        try simp only [Act.put, List.setIfInBounds_toArray, List.set_cons_zero, List.set_cons_succ]
        refine wpAnyH_take (i := 1) (v := ?_) (by simp only [List.getElem?_toArray, List.getElem?_cons_succ, List.getElem?_cons_zero]; rfl) (by kernel_rfl) (by kernel_rfl) (by kernel_rfl) (fun _ _ _ h => h) (Or.inl ⟨by rfl, ?_⟩) (by assumption) ?_
        rotate_left
        · intro w hSw
          try dsimp only at hSw
          go_simp
          try with_reducible rfl
        try simp only [Act.put, List.setIfInBounds_toArray, List.set_cons_zero, List.set_cons_succ]
        refine wpAnyH_take (i := 2) (v := ?_) (by simp only [List.getElem?_toArray, List.getElem?_cons_succ, List.getElem?_cons_zero]; rfl) (by kernel_rfl) (by kernel_rfl) (by kernel_rfl) (fun _ _ _ h => h) (Or.inl ⟨by rfl, ?_⟩) (by assumption) ?_
        rotate_left
        · intro w hSw
          try dsimp only at hSw
          go_simp
          try with_reducible rfl
        try simp only [Act.put, List.setIfInBounds_toArray, List.set_cons_zero, List.set_cons_succ]
        refine wpAnyH_take (i := 3) (v := ?_) (by simp only [List.getElem?_toArray, List.getElem?_cons_succ, List.getElem?_cons_zero]; rfl) (by kernel_rfl) (by kernel_rfl) (by kernel_rfl) (fun _ _ _ h => h) (Or.inl ⟨by rfl, ?_⟩) (by assumption) ?_
        rotate_left
        · intro w hSw
          try dsimp only at hSw
          go_simp
          try with_reducible rfl
        try simp only [Act.put, List.setIfInBounds_toArray, List.set_cons_zero, List.set_cons_succ]
        refine wpAnyH_take (i := 5) (v := ?_) (by simp only [List.getElem?_toArray, List.getElem?_cons_succ, List.getElem?_cons_zero]; rfl) (by kernel_rfl) (by kernel_rfl) (by kernel_rfl) (fun _ _ _ h => h) (Or.inl ⟨by rfl, ?_⟩) (by assumption) ?_
        rotate_left
        · intro w hSw
          try dsimp only at hSw
          go_simp
          try with_reducible rfl
        try simp only [Act.put, List.setIfInBounds_toArray, List.set_cons_zero, List.set_cons_succ]
        refine wpAnyH_ready (rs := [4, 6]) (by kernel_rfl) (by simp) ?_
        refine (AllReadyH.cons (by simp only [List.getElem?_toArray, List.getElem?_cons_succ, List.getElem?_cons_zero]; rfl) (fun K hK => ?_) (AllReadyH.cons (by simp only [List.getElem?_toArray, List.getElem?_cons_succ, List.getElem?_cons_zero]; rfl) (fun K hK => ?_) AllReadyH.nil))
        · have hc := HC.out cw BW.out
          go_simp
          clear hc
          refine hK.out _ _ (HLD.out _ BW.out) (fun hHeld => ?_)
          clear hK K
          try simp only [Act.put, List.setIfInBounds_toArray, List.set_cons_zero, List.set_cons_succ]
          refine wpAnyH_ready (rs := [6]) (by kernel_rfl) (by simp) ?_
          refine (AllReadyH.cons (by simp only [List.getElem?_toArray, List.getElem?_cons_succ, List.getElem?_cons_zero]; rfl) (fun K hK => ?_) AllReadyH.nil)
          refine step_sl1 x HX.out (by rfl) (by rfl) ?_
          have HN := Lib.hid (heap_alloc_last cw (.cells (hv x) 31))
          have BW := Lib.hid (BW.out.trans ((below_al11 cw (.cells (hv x) 31)).mono BW.out.size))
          generalize cw.alloc (.cells (hv x) 31) = cx at *
          generalize cw.heap.size = nb7 at *
          rename World => cw
          refine hK.out _ _ (HLD.out _ BW.out) (fun hHeld => ?_)
          clear hK K
          try simp only [Act.put, List.setIfInBounds_toArray, List.set_cons_zero, List.set_cons_succ]
          refine wpAnyH_ready (rs := [7]) (by kernel_rfl) (by simp) ?_
          refine (AllReadyH.cons (by simp only [List.getElem?_toArray, List.getElem?_cons_succ, List.getElem?_cons_zero]; rfl) (fun K hK => ?_) AllReadyH.nil)
          have OW7 := Lib.hid (own_below HA7.out.oo BW.out)
          have CW7 := Lib.hid ((mild_below BW.out).cells HA7.out.cell)
          have HBW := Lib.hid ((mild_below BW.out).cells HB7m.out)
          have HOW := Lib.hid (own_below HO7m.out BW.out)
          refine step_pushh rfl _ _ rfl B (.slice pk nk ck) (oAt ms os l k) nb7 x HX.out (by rfl) OW7.out (by rfl) HN.out (by have h1 := oAt_len (ms := ms) (os := os) (l := l) (k := k); have := HLM.out; have := HRF.out.2.2; omega) (Nat.le_trans HBB.out (Nat.le_trans T7.out.size BW.out.size)) (nk + 1) (by rw [HNK.out]) ?_
          intro p7 c7 cx o7 oth7 loc7
          have o7' : HOwn cx B (.slice p7 (nk + 1) c7) (oAt ms os l (k + 1)) := by rw [HNX.out]; exact o7
          obtain ⟨h8, t8, l8⟩ := HA7.out.pushO BW.out o7' oth7 loc7
          have HA8 := Lib.hid h8
          have T8 := Lib.hid t8
          have L8 := Lib.hid l8
          have C7 := Lib.hid ((oth7.block i (Array.getElem?_eq_some_iff.1 CW7.out).1 (fun e => own_apart OW7.out CW7.out (by decide) e)).trans CW7.out)
          have HB7 := Lib.hid ((oth7.block xb (Array.getElem?_eq_some_iff.1 HBW.out).1 (fun e => XB.out xb e rfl)).trans HBW.out)
          have HO7 := Lib.hid (own_keep HOW.out oth7 (fun j hj e => (NE.out j hj).2 e))
          have NE8 : Hid (∀ j, (Value.slice (some ⟨bb, o, none⟩) nr cr).ownBlock = some j → mv.ownBlock ≠ some j ∧ (Value.slice p7 (nk + 1) c7).ownBlock ≠ some j) := Lib.hid (fun j hj => ⟨(NE.out j hj).1, fun e => by
            rcases loc7 j e with h9 | h9
            · exact (NE.out j hj).2 h9
            · have := own_lt HOW.out j hj; omega⟩)
          clear o7 o7' oth7 loc7 h8 t8 l8 OW7 CW7 HBW HOW BW HN
          rename World => cw
          refine hK.out _ _ (hld_row HX.out HB7.out) (fun hHeld => ?_)
          clear hK K
          try simp only [Act.put, List.setIfInBounds_toArray, List.set_cons_zero, List.set_cons_succ]
          refine wpAnyH_take (i := 8) (v := ?_) (by simp only [List.getElem?_toArray, List.getElem?_cons_succ, List.getElem?_cons_zero]; rfl) (by kernel_rfl) (by kernel_rfl) (by kernel_rfl) (fun _ _ _ h => h) (Or.inl ⟨by rfl, ?_⟩) (by assumption) ?_
          rotate_left
          · intro w hSw
            try dsimp only at hSw
            go_simp
            try with_reducible rfl
          try simp only [Act.put, List.setIfInBounds_toArray, List.set_cons_zero, List.set_cons_succ]
          refine wpAnyH_take (i := 9) (v := ?_) (by simp only [List.getElem?_toArray, List.getElem?_cons_succ, List.getElem?_cons_zero]; rfl) (by kernel_rfl) (by kernel_rfl) (by kernel_rfl) (fun _ _ _ h => h) (Or.inl ⟨by rfl, ?_⟩) (by assumption) ?_
          rotate_left
          · intro w hSw
            try dsimp only at hSw
            go_simp
            try with_reducible rfl
          try simp only [Act.put, List.setIfInBounds_toArray, List.set_cons_zero, List.set_cons_succ]
          refine wpAnyH_ready (rs := [10]) (by kernel_rfl) (by simp) ?_
          refine (AllReadyH.cons (by simp only [List.getElem?_toArray, List.getElem?_cons_succ, List.getElem?_cons_zero]; rfl) (fun K hK => ?_) AllReadyH.nil)
          have hc := cell_obj C7.out 2 rfl
          have hf : cw.frozen? ⟨i, 2, none⟩ = false := frozen_of_row _ _ _ _ _ C7.out
          have OS : Only (fun j => j = i) cw (cw.setCell ⟨i, 2, none⟩ (.slice p7 (nk + 1) c7)) := (Only.refl (fun j => j = i) cw).setCell (p := ⟨i, 2, none⟩) rfl _
          have HB8 := Lib.hid ((OS.block xb (Array.getElem?_eq_some_iff.1 HB7.out).1 (fun e => by have h1 := HB7.out; rw [e, C7.out] at h1; injection h1 with h1; injection h1 with _ h1 _; revert h1; decide)).trans HB7.out)
          have HO8 := Lib.hid (own_keep HO7.out OS (fun j hj e => own_apart HO7.out C7.out (by decide) (by rw [hj, e])))
          go_simp
          clear hc hf OS C7 HB7 HO7
          refine hK.out _ _ (hld_row HX.out HB8.out) (fun hHeld => ?_)
          clear hK K
          try simp only [Act.put, List.setIfInBounds_toArray, List.set_cons_zero, List.set_cons_succ]
          refine wpAnyH_done (by kernel_rfl) ?_ _
          refine NoPanic.normal ?_
          clear hHeld
          generalize cw.setCell ⟨i, 2, none⟩ (.slice p7 (nk + 1) c7) = w8 at *
          go_wp2_with fail
          refine ⟨⟨k + 1, by first | rw [HJ.out] | rfl, HLT.out, Lib.hid ⟨p7, nk + 1, c7, HA8.out, iS.trans T7.out T8.out LL.out, LL.out.trans L8.out T7.out.size, NE8.out⟩, HO8⟩, ?_⟩
          first | exact meas_nv HLT.out HJ.out | exact meas_nw HLT.out
        · refine step_sl1 x HX.out (by rfl) (by rfl) ?_
          have HN := Lib.hid (heap_alloc_last cw (.cells (hv x) 31))
          have BW := Lib.hid (BW.out.trans ((below_al11 cw (.cells (hv x) 31)).mono BW.out.size))
          generalize cw.alloc (.cells (hv x) 31) = cx at *
          generalize cw.heap.size = nb7 at *
          rename World => cw
          refine hK.out _ _ (HLD.out _ BW.out) (fun hHeld => ?_)
          clear hK K
          try simp only [Act.put, List.setIfInBounds_toArray, List.set_cons_zero, List.set_cons_succ]
          refine wpAnyH_ready (rs := [4]) (by kernel_rfl) (by simp) ?_
          refine (AllReadyH.cons (by simp only [List.getElem?_toArray, List.getElem?_cons_succ, List.getElem?_cons_zero]; rfl) (fun K hK => ?_) AllReadyH.nil)
          have hc := HC.out cw BW.out
          go_simp
          clear hc
          refine hK.out _ _ (HLD.out _ BW.out) (fun hHeld => ?_)
          clear hK K
          try simp only [Act.put, List.setIfInBounds_toArray, List.set_cons_zero, List.set_cons_succ]
          refine wpAnyH_ready (rs := [7]) (by kernel_rfl) (by simp) ?_
          refine (AllReadyH.cons (by simp only [List.getElem?_toArray, List.getElem?_cons_succ, List.getElem?_cons_zero]; rfl) (fun K hK => ?_) AllReadyH.nil)
          have OW7 := Lib.hid (own_below HA7.out.oo BW.out)
          have CW7 := Lib.hid ((mild_below BW.out).cells HA7.out.cell)
          have HBW := Lib.hid ((mild_below BW.out).cells HB7m.out)
          have HOW := Lib.hid (own_below HO7m.out BW.out)
          refine step_pushh rfl _ _ rfl B (.slice pk nk ck) (oAt ms os l k) nb7 x HX.out (by rfl) OW7.out (by rfl) HN.out (by have h1 := oAt_len (ms := ms) (os := os) (l := l) (k := k); have := HLM.out; have := HRF.out.2.2; omega) (Nat.le_trans HBB.out (Nat.le_trans T7.out.size BW.out.size)) (nk + 1) (by rw [HNK.out]) ?_
          intro p7 c7 cx o7 oth7 loc7
          have o7' : HOwn cx B (.slice p7 (nk + 1) c7) (oAt ms os l (k + 1)) := by rw [HNX.out]; exact o7
          obtain ⟨h8, t8, l8⟩ := HA7.out.pushO BW.out o7' oth7 loc7
          have HA8 := Lib.hid h8
          have T8 := Lib.hid t8
          have L8 := Lib.hid l8
          have C7 := Lib.hid ((oth7.block i (Array.getElem?_eq_some_iff.1 CW7.out).1 (fun e => own_apart OW7.out CW7.out (by decide) e)).trans CW7.out)
          have HB7 := Lib.hid ((oth7.block xb (Array.getElem?_eq_some_iff.1 HBW.out).1 (fun e => XB.out xb e rfl)).trans HBW.out)
          have HO7 := Lib.hid (own_keep HOW.out oth7 (fun j hj e => (NE.out j hj).2 e))
          have NE8 : Hid (∀ j, (Value.slice (some ⟨bb, o, none⟩) nr cr).ownBlock = some j → mv.ownBlock ≠ some j ∧ (Value.slice p7 (nk + 1) c7).ownBlock ≠ some j) := Lib.hid (fun j hj => ⟨(NE.out j hj).1, fun e => by
            rcases loc7 j e with h9 | h9
            · exact (NE.out j hj).2 h9
            · have := own_lt HOW.out j hj; omega⟩)
          clear o7 o7' oth7 loc7 h8 t8 l8 OW7 CW7 HBW HOW BW HN
          rename World => cw
          refine hK.out _ _ (hld_row HX.out HB7.out) (fun hHeld => ?_)
          clear hK K
          try simp only [Act.put, List.setIfInBounds_toArray, List.set_cons_zero, List.set_cons_succ]
          refine wpAnyH_take (i := 8) (v := ?_) (by simp only [List.getElem?_toArray, List.getElem?_cons_succ, List.getElem?_cons_zero]; rfl) (by kernel_rfl) (by kernel_rfl) (by kernel_rfl) (fun _ _ _ h => h) (Or.inl ⟨by rfl, ?_⟩) (by assumption) ?_
          rotate_left
          · intro w hSw
            try dsimp only at hSw
            go_simp
            try with_reducible rfl
          try simp only [Act.put, List.setIfInBounds_toArray, List.set_cons_zero, List.set_cons_succ]
          refine wpAnyH_take (i := 9) (v := ?_) (by simp only [List.getElem?_toArray, List.getElem?_cons_succ, List.getElem?_cons_zero]; rfl) (by kernel_rfl) (by kernel_rfl) (by kernel_rfl) (fun _ _ _ h => h) (Or.inl ⟨by rfl, ?_⟩) (by assumption) ?_
          rotate_left
          · intro w hSw
            try dsimp only at hSw
            go_simp
            try with_reducible rfl
          try simp only [Act.put, List.setIfInBounds_toArray, List.set_cons_zero, List.set_cons_succ]
          refine wpAnyH_ready (rs := [10]) (by kernel_rfl) (by simp) ?_
          refine (AllReadyH.cons (by simp only [List.getElem?_toArray, List.getElem?_cons_succ, List.getElem?_cons_zero]; rfl) (fun K hK => ?_) AllReadyH.nil)
          have hc := cell_obj C7.out 2 rfl
          have hf : cw.frozen? ⟨i, 2, none⟩ = false := frozen_of_row _ _ _ _ _ C7.out
          have OS : Only (fun j => j = i) cw (cw.setCell ⟨i, 2, none⟩ (.slice p7 (nk + 1) c7)) := (Only.refl (fun j => j = i) cw).setCell (p := ⟨i, 2, none⟩) rfl _
          have HB8 := Lib.hid ((OS.block xb (Array.getElem?_eq_some_iff.1 HB7.out).1 (fun e => by have h1 := HB7.out; rw [e, C7.out] at h1; injection h1 with h1; injection h1 with _ h1 _; revert h1; decide)).trans HB7.out)
          have HO8 := Lib.hid (own_keep HO7.out OS (fun j hj e => own_apart HO7.out C7.out (by decide) (by rw [hj, e])))
          go_simp
          clear hc hf OS C7 HB7 HO7
          refine hK.out _ _ (hld_row HX.out HB8.out) (fun hHeld => ?_)
          clear hK K
          try simp only [Act.put, List.setIfInBounds_toArray, List.set_cons_zero, List.set_cons_succ]
          refine wpAnyH_done (by kernel_rfl) ?_ _
          refine NoPanic.normal ?_
          clear hHeld
          generalize cw.setCell ⟨i, 2, none⟩ (.slice p7 (nk + 1) c7) = w8 at *
          go_wp2_with fail
          refine ⟨⟨k + 1, by first | rw [HJ.out] | rfl, HLT.out, Lib.hid ⟨p7, nk + 1, c7, HA8.out, iS.trans T7.out T8.out LL.out, LL.out.trans L8.out T7.out.size, NE8.out⟩, HO8⟩, ?_⟩
          first | exact meas_nv HLT.out HJ.out | exact meas_nw HLT.out
    · obtain rfl : k = nr := by omega
      have hl2 : ¬ (k : Int) < k := by omega
      have HTE : Hid (oAt ms os l k = os ++ l.filter (out (ms ++ os))) := Lib.hid (by unfold oAt; rw [List.take_of_length_le (by rw [HNR.out]; exact Nat.le_refl _)])
      rw [HTE.out] at HA
      clear hlt hk
      go_wp2_with fail
      refine bodyPost_end (results_none rfl _ _ _) rfl ?_
      exact ⟨rfl, _, _, HA.out, T.out, LL.out⟩
end Go.Proofs.YtnpeahbbcolfmaaGreatDoor
namespace Go.Proofs.YtnpeahbbcolfmaaGreatDoor
open Go.RowKit
open Go.Maps
theorem IA.off {W : World} {B i nb : Nat} {most : Int} {mv ov : Value} {ms os : List Key} {f : Key → Option Int} (h : IA W B i nb most mv ov ms os f) {b : Nat} {cs : Array Value} {t : TypeId} {fz : Nat × Nat} (hb : W.heap[b]? = some (.cells cs t fz)) (h1 : t ≠ 94) (h2 : t ≠ 31) : ¬ iS i nb mv ov b := fun hj => by
  rcases hj with rfl | rfl | hj | hj
  · rw [h.cell] at hb
    injection hb with hb
    injection hb with _ hb _
    exact h1 hb.symm
  · obtain ⟨M, m1, _⟩ := h.mp
    obtain ⟨es, c, hm⟩ := m1.ismap
    rw [hm] at hb; cases hb
  · exact own_apart h.om hb h2 hj
  · exact own_apart h.oo hb h2 hj
theorem IA.lt {W : World} {B i nb : Nat} {most : Int} {mv ov : Value} {ms os : List Key} {f : Key → Option Int} (h : IA W B i nb most mv ov ms os f) : ∀ j, iS i nb mv ov j → j < W.heap.size := fun j hj => by
  rcases hj with rfl | rfl | hj | hj
  · exact (Array.getElem?_eq_some_iff.1 h.cell).1
  · obtain ⟨M, m1, _⟩ := h.mp
    exact m1.lt
  · exact own_lt h.om j hj
  · exact own_lt h.oo j hj
noncomputable def mNew (G : Gr) (grp : Int) (ms hs : List Key) : List Key := if grp = 1 then mUp G ms hs else ms
noncomputable def oNew (G : Gr) (grp : Int) (ms os hs : List Key) (cs : List Cm) : List Key := oUp G (mNew G grp ms hs) (oIn (mNew G grp ms hs) os) (hs ++ cs.map (·.1))
/-- What Update leaves. -/
def UpPost (G : Gr) (w w' : World) (B i nb : Nat) (most : Int) (mv ov : Value) (ms os hs : List Key) (cs : List Cm) (grp : Int) (e : Ending) : Prop :=
  if grp = 1 ∧ ((mUp G ms hs).length : Int) > most then e = .returned (kind 13) ∧ Below w.heap.size w w'
  else e = .returned .nilIface ∧ IPost w w' B i nb most mv ov (mNew G grp ms hs) (oNew G grp ms os hs cs) (idn (mNew G grp ms hs) (oNew G grp ms os hs cs))
set_option linter.unusedSimpArgs false in
set_option maxRecDepth 20000 in
set_option maxHeartbeats 8000000 in
attribute [local go_sem ↓] hld_open in
theorem iupdate_to (w : World) (B i nb : Nat) (most : Int) (mv ov : Value) (ms os : List Key) (H : IA w B i nb most mv ov ms os (idn ms os)) (g bm : Nat) (X : Lx) (hga : ∀ V, Only (iS i nb mv ov) w V → GA V g bm X) (HWf : Wf (gr X)) (hi : In13 (gr X) ms os)
    (vc vh : Value) (grp : Int) (cs : List Cm) (hs : List Key) (hfar : ∀ V, Only (iS i nb mv ov) w V → CSeen V vc cs ∧ HSeen V vh hs) (hok : COk cs) (h32 : H32 hs) (hcl : cs.length ≤ 1000) (hhl : hs.length ≤ 1000) :
    Calls Tryz.prog 10 #[ip i, gp g, .agg #[vc, vh, .int .i64 grp]] w fun e w' => UpPost (gr X) w w' B i nb most mv ov ms os hs cs grp e := by
  obtain ⟨pc, cc, rfl, _⟩ := id (hfar w (Only.refl _ _)).1
  obtain ⟨ph, ch, rfl⟩ := (hfar w (Only.refl _ _)).2.shape
  obtain ⟨lc, hlc⟩ : ∃ lc, lc = cs.length := ⟨_, rfl⟩
  obtain ⟨lh, hlh⟩ : ∃ lh, lh = hs.length := ⟨_, rfl⟩
  rw [← hlc, ← hlh] at hfar ⊢
  have hnp : ∀ w : World, (binOp .eql 22 (gp g) (.pointer none)).run Tryz.prog w = .ok (.bool false) w := fun w => by kernel_rfl
  have hne := nn_iface
  have hnn := nn_nil
  have AL := below_al11 w (.cells #[.slice pc lc cc, .slice ph lh ch, .int .i64 grp] 37)
  have HRq := Lib.hid (heap_alloc_last w (.cells #[.slice pc lc cc, .slice ph lh ch, .int .i64 grp] 37))
  have HAq := Lib.hid (H.kb AL)
  have HGA := Lib.hid hga
  have HW := Lib.hid HWf
  have HI := Lib.hid hi
  have HF := Lib.hid hfar
  have HOK := Lib.hid hok
  have HH32 := Lib.hid h32
  have HC32 : Hid (H32 (cs.map (·.1))) := Lib.hid (fun x hx => by obtain ⟨c, hc, rfl⟩ := List.mem_map.1 hx; exact (hok c hc).1)
  have HCL := Lib.hid hcl
  have HHL := Lib.hid hhl
  have BA := Lib.hid AL
  clear H hga HWf hi hfar hok h32 hcl hhl hlc hlh AL
  go_enter Tryz.func10, Tryz.ntmps10
  go_upto_region 1 with fail
  generalize w.alloc (.cells #[.slice pc lc cc, .slice ph lh ch, .int .i64 grp] 37) = w0 at *
  generalize hrb : w.heap.size = rb at HRq
  clear hrb
  have TQ : Hid (Only (iS i nb mv ov) w w0) := Lib.hid (Only.of_below (S := iS i nb mv ov) BA.out)
  have HGq := Lib.hid (HGA.out w0 TQ.out)
  have hr0 := cell_obj HRq.out 0 rfl
  have hr1 := cell_obj HRq.out 1 rfl
  have hr2 := cell_obj HRq.out 2 rfl
  by_cases hg1 : grp = 1
  · subst hg1
    have HWK := Lib.hid (walk_to w0 g bm X HGq.out HW.out (.slice ph lh ch) hs (HF.out w0 TQ.out).2 HH32.out (Nat.le_trans HHL.out (by decide)) .nilFunc (fun _ => false) (Dn.none w0))
    go_wp2_with fail
    refine HWK.out.mono ?_
    rintro e w1 ⟨v1, l1, rfl, o1, ⟨N1, vl1⟩, b1⟩
    obtain rfl := wlk_eq vl1
    obtain ⟨p1, n1, c1, rfl, hn1⟩ := own_sh o1
    clear hn1
    have HRA := Lib.hid (iraise_to w0 w1 b1 B i nb most mv ov ms os HAq.out _ _ o1 (wlk_nd HW.out _) (wlk_h32 HW.out _) (wlk_len HW.out _) HI.out.nd (fun x hx => HI.out.h32 HW.out x (List.mem_append_right _ hx)) (HI.out.len HW.out))
    clear HWK o1 vl1 hr0 hr1 hr2
    go_wp2_with fail
    refine HRA.out.mono ?_
    intro e w2 hra
    unfold RaPost at hra
    have hml : (mUp (gr X) ms hs).length = ms.length + ((wlk (gr X) hs).filter (out ms)).length := by unfold mUp; rw [List.length_append]
    have HML := Lib.hid hml
    clear HRA hml b1
    split at hra
    · rename_i hfull
      have HFU := Lib.hid hfull
      obtain ⟨rfl, b2⟩ := hra
      have B2 := Lib.hid (BA.out.trans (b2.mono BA.out.size))
      clear hfull b2
      go_wp2_with fail
      go_ret
      unfold UpPost
      rw [if_pos ⟨rfl, by rw [HML.out]; exact HFU.out⟩]
      exact ⟨rfl, B2.out⟩
    · rename_i hfull
      have HFU := Lib.hid hfull
      obtain ⟨rfl, mv2, ov2, h2, t2, l2⟩ := hra
      obtain ⟨ms2, hms2⟩ : ∃ m, m = mUp (gr X) ms hs := ⟨_, rfl⟩
      obtain ⟨os2, hos2⟩ : ∃ m, m = oIn ms2 os := ⟨_, rfl⟩
      rw [show ms ++ (wlk (gr X) hs).filter (out ms) = ms2 from hms2.symm, ← hos2] at h2
      have HI2 : Hid (In13 (gr X) ms2 os2) := Lib.hid (by rw [hos2, hms2]; exact HI.out.upM HW.out hs)
      have HA2 := Lib.hid h2
      have T2 : Hid (Only (iS i nb mv ov) w w2) := Lib.hid (TQ.out.trans t2 (fun _ h => h) (fun _ _ h => h))
      have L2 : Hid (iL w.heap.size mv ov mv2 ov2) := Lib.hid (fun j hj => (l2 j hj).imp id (fun h => h.imp id (fun h => Nat.le_trans BA.out.size h)))
      have HR2 := Lib.hid ((t2.block rb (Array.getElem?_eq_some_iff.1 HRq.out).1 (HAq.out.off HRq.out (by decide) (by decide))).trans HRq.out)
      have HG2 := Lib.hid (HGA.out w2 T2.out)
      have HC2 := Lib.hid (HF.out w2 T2.out).1
      have HH2 := Lib.hid (HF.out w2 T2.out).2
      have HMS := Lib.hid hms2
      have HOS := Lib.hid hos2
      clear hfull h2 t2 l2 hms2 hos2 HAq HRq HGq TQ
      go_wp2_with fail
      have bq : Below w2.heap.size w2 w2.drew := blw_qt _ 1 w2
      have HA3 := Lib.hid (HA2.out.kb bq)
      have HR3 := Lib.hid ((mild_below bq).cells HR2.out)
      have HG3 := Lib.hid (HG2.out.kb bq)
      have HC3 := Lib.hid (HC2.out.kb bq)
      have HH3 := Lib.hid (HH2.out.mild (mild_below bq))
      have T3 := Lib.hid (T2.out.trans (Only.of_below (S := iS i nb mv ov) bq) (fun _ h => h) (fun _ _ h => h))
      clear bq HA2 HR2 HG2 HC2 HH2 T2
      go_wp2_with fail
      try simp only [List.append]
      refine wp_region_noPanic ?_
      refine wp_region_held_drew (S := (fun V => V.cell? ⟨rb, 0, none⟩ = some (.slice pc lc cc) ∧ V.cell? ⟨rb, 1, none⟩ = some (.slice ph lh ch))) (by kernel_rfl) ⟨cell_obj HR3.out 0 rfl, cell_obj HR3.out 1 rfl⟩ (fun hHeld => ?_)
      generalize w2.drew = w3 at *
      refine wpAnyH_take (i := 0) (v := ?_) (by simp only [List.getElem?_toArray, List.getElem?_cons_zero]; rfl) (by kernel_rfl) (by kernel_rfl) (by kernel_rfl) (fun _ _ _ h => h) (Or.inl ⟨by rfl, ?_⟩) (by assumption) ?_
      rotate_left
      · intro w hSw
        try dsimp only at hSw
        go_simp
        try with_reducible rfl
      try simp only [Act.put, List.setIfInBounds_toArray, List.set_cons_zero, List.set_cons_succ]
      refine wpAnyH_take (i := 1) (v := ?_) (by simp only [List.getElem?_toArray, List.getElem?_cons_succ, List.getElem?_cons_zero]; rfl) (by kernel_rfl) (by kernel_rfl) (by kernel_rfl) (fun _ _ _ h => h) (Or.inl ⟨by rfl, ?_⟩) (by assumption) ?_
      rotate_left
      · intro w hSw
        try dsimp only at hSw
        go_simp
        try with_reducible rfl
      try simp only [Act.put, List.setIfInBounds_toArray, List.set_cons_zero, List.set_cons_succ]
      refine wpAnyH_take (i := 2) (v := ?_) (by simp only [List.getElem?_toArray, List.getElem?_cons_succ, List.getElem?_cons_zero]; rfl) (by kernel_rfl) (by kernel_rfl) (by kernel_rfl) (fun _ _ _ h => h) (Or.inl ⟨by rfl, ?_⟩) (by assumption) ?_
      rotate_left
      · intro w hSw
        try dsimp only at hSw
        go_simp
        try with_reducible rfl
      try simp only [Act.put, List.setIfInBounds_toArray, List.set_cons_zero, List.set_cons_succ]
      refine wpAnyH_take (i := 3) (v := ?_) (by simp only [List.getElem?_toArray, List.getElem?_cons_succ, List.getElem?_cons_zero]; rfl) (by kernel_rfl) (by kernel_rfl) (by kernel_rfl) (fun _ _ _ h => h) (Or.inl ⟨by rfl, ?_⟩) (by assumption) ?_
      rotate_left
      · intro w hSw
        try dsimp only at hSw
        go_simp
        try with_reducible rfl
      try simp only [Act.put, List.setIfInBounds_toArray, List.set_cons_zero, List.set_cons_succ]
      refine wpAnyH_take (i := 4) (v := ?_) (by simp only [List.getElem?_toArray, List.getElem?_cons_succ, List.getElem?_cons_zero]; rfl) (by kernel_rfl) (by kernel_rfl) (by kernel_rfl) (fun _ _ _ h => h) (Or.inl ⟨by rfl, ?_⟩) (by assumption) ?_
      rotate_left
      · intro w hSw
        try dsimp only at hSw
        go_simp
        try with_reducible rfl
      try simp only [Act.put, List.setIfInBounds_toArray, List.set_cons_zero, List.set_cons_succ]
      refine wpAnyH_take (i := 5) (v := ?_) (by simp only [List.getElem?_toArray, List.getElem?_cons_succ, List.getElem?_cons_zero]; rfl) (by kernel_rfl) (by kernel_rfl) (by kernel_rfl) (fun _ _ _ h => h) (Or.inl ⟨by rfl, ?_⟩) (by assumption) ?_
      rotate_left
      · intro w hSw
        try dsimp only at hSw
        go_simp
        try with_reducible rfl
      try simp only [Act.put, List.setIfInBounds_toArray, List.set_cons_zero, List.set_cons_succ]
      refine wpAnyH_ready (rs := [6]) (by kernel_rfl) (by simp) ?_
      refine AllReadyH.cons (by simp only [List.getElem?_toArray, List.getElem?_cons_succ, List.getElem?_cons_zero]; rfl) (fun K hK => ?_) AllReadyH.nil
      go_simp
      refine (named_to w3 _ cs HC3.out HOK.out (Nat.le_trans HCL.out (by decide))).mono ?_
      rintro e w4 ⟨v4, rfl, o4, b4⟩
      obtain ⟨p4, n4, c4, rfl, hn4⟩ := own_sh o4
      clear hn4
      have HA4 := Lib.hid (HA3.out.kb b4)
      have HR4 := Lib.hid ((mild_below b4).cells HR3.out)
      have HG4 := Lib.hid (HG3.out.kb b4)
      have HH4 := Lib.hid (HH3.out.mild (mild_below b4))
      have HN4 := Lib.hid (HSeen.own o4)
      have T4 := Lib.hid (T3.out.trans (Only.of_below (S := iS i nb mv ov) b4) (fun _ h => h) (fun _ _ h => h))
      clear o4 b4 HA3 HR3 HG3 HC3 HH3 T3
      go_wp2_with fail
      refine hK.out _ _ ⟨cell_obj HR4.out 0 rfl, cell_obj HR4.out 1 rfl⟩ (fun hHeld => ?_)
      clear hK K
      try simp only [Act.put, List.setIfInBounds_toArray, List.set_cons_zero, List.set_cons_succ]
      have AL := below_al11 w4 (.cells #[.slice ph lh ch, .slice p4 n4 c4] 32)
      have HB5 := Lib.hid (heap_alloc_last w4 (.cells #[.slice ph lh ch, .slice p4 n4 c4] 32))
      have HA5 := Lib.hid (HA4.out.kb AL)
      have HR5 := Lib.hid ((mild_below AL).cells HR4.out)
      have HG5 := Lib.hid (HG4.out.kb AL)
      have HH5 := Lib.hid (HH4.out.mild (mild_below AL))
      have HN5 := Lib.hid (HN4.out.mild (mild_below AL))
      have T5 := Lib.hid (T4.out.trans (Only.of_below (S := iS i nb mv ov) AL) (fun _ h => h) (fun _ _ h => h))
      clear AL HA4 HR4 HG4 HH4 HN4 T4
      refine wpAnyH_ready (rs := [7]) (by kernel_rfl) (by simp) ?_
      refine AllReadyH.cons (by simp only [List.getElem?_toArray, List.getElem?_cons_succ, List.getElem?_cons_zero]; rfl) (fun K hK => ?_) AllReadyH.nil
      go_simp
      generalize w4.alloc (.cells #[.slice ph lh ch, .slice p4 n4 c4] 32) = w5 at *
      generalize w4.heap.size = gb at *
      refine hK.out _ _ ⟨cell_obj HR5.out 0 rfl, cell_obj HR5.out 1 rfl⟩ (fun hHeld => ?_)
      clear hK K
      try simp only [Act.put, List.setIfInBounds_toArray, List.set_cons_zero, List.set_cons_succ]
      refine wpAnyH_ready (rs := [8]) (by kernel_rfl) (by simp) ?_
      refine AllReadyH.cons (by simp only [List.getElem?_toArray, List.getElem?_cons_succ, List.getElem?_cons_zero]; rfl) (fun K hK => ?_) AllReadyH.nil
      go_simp
      refine (hconcat_to w5 gb _ _ hs (cs.map (·.1)) HB5.out HH5.out HN5.out HH32.out HC32.out (by rw [List.length_map]; have := HCL.out; have := HHL.out; omega)).mono ?_
      rintro e w6 ⟨v6, rfl, o6, b6⟩
      obtain ⟨p6, n6, c6, rfl, hn6⟩ := own_sh o6
      clear hn6
      have HA6 := Lib.hid (HA5.out.kb b6)
      have HR6 := Lib.hid ((mild_below b6).cells HR5.out)
      have HG6 := Lib.hid (HG5.out.kb b6)
      have HN6 := Lib.hid (HSeen.own o6)
      have T6 := Lib.hid (T5.out.trans (Only.of_below (S := iS i nb mv ov) b6) (fun _ h => h) (fun _ _ h => h))
      clear o6 b6 HA5 HR5 HG5 HH5 HN5 T5 HB5
      go_wp2_with fail
      refine hK.out _ _ ⟨cell_obj HR6.out 0 rfl, cell_obj HR6.out 1 rfl⟩ (fun hHeld => ?_)
      clear hK K
      try simp only [Act.put, List.setIfInBounds_toArray, List.set_cons_zero, List.set_cons_succ]
      refine wpAnyH_ready (rs := [9]) (by kernel_rfl) (by simp) ?_
      refine AllReadyH.cons (by simp only [List.getElem?_toArray, List.getElem?_cons_succ, List.getElem?_cons_zero]; rfl) (fun K hK => ?_) AllReadyH.nil
      go_simp
      refine (walk_to w6 g bm X HG6.out HW.out _ (hs ++ cs.map (·.1)) HN6.out (HH32.out.app HC32.out) (by rw [List.length_append, List.length_map]; have := HCL.out; have := HHL.out; omega) .nilFunc (fun _ => false) (Dn.none w6)).mono ?_
      rintro e w7 ⟨v7, l7, rfl, o7, ⟨N7, vl7⟩, b7⟩
      obtain rfl := wlk_eq vl7
      obtain ⟨p7, n7, c7, rfl, hn7⟩ := own_sh o7
      clear hn7
      have HR7 := Lib.hid ((mild_below b7).cells HR6.out)
      have HAD := Lib.hid (iadd_to w6 w7 b7 B i nb most mv2 ov2 ms2 os2 HA6.out _ _ o7 (wlk_nd HW.out _) (wlk_h32 HW.out _) (wlk_len HW.out _) (HI2.out.len HW.out))
      have HA7 := Lib.hid (HA6.out.kb b7)
      clear o7 b7 vl7 HG6 HN6
      go_wp2_with fail
      refine hK.out _ _ ⟨cell_obj HR7.out 0 rfl, cell_obj HR7.out 1 rfl⟩ (fun hHeld => ?_)
      clear hK K
      try simp only [Act.put, List.setIfInBounds_toArray, List.set_cons_zero, List.set_cons_succ]
      refine wpAnyH_ready (rs := [10]) (by kernel_rfl) (by simp) ?_
      refine AllReadyH.cons (by simp only [List.getElem?_toArray, List.getElem?_cons_succ, List.getElem?_cons_zero]; rfl) (fun K hK => ?_) AllReadyH.nil
      go_simp
      refine HAD.out.mono ?_
      rintro e w8 ⟨rfl, mv8, ov8, h8, t8, l8⟩
      have HA8 := Lib.hid h8
      have T8 := Lib.hid (iS.trans T6.out t8 L2.out)
      have L8 := Lib.hid (L2.out.trans l8 T6.out.size)
      have HR8 : Hid (w8.heap[rb]? = some (.cells #[.slice pc lc cc, .slice ph lh ch, .int .i64 1] 37 (0, 0))) := Lib.hid ((t8.block rb (Array.getElem?_eq_some_iff.1 HR6.out).1 (HA6.out.off HR6.out (by decide) (by decide))).trans HR6.out)
      clear h8 t8 l8 HAD
      go_wp2_with fail
      refine hK.out _ _ ⟨cell_obj HR8.out 0 rfl, cell_obj HR8.out 1 rfl⟩ (fun hHeld => ?_)
      clear hK K
      try simp only [Act.put, List.setIfInBounds_toArray, List.set_cons_zero, List.set_cons_succ]
      refine wpAnyH_done (by kernel_rfl) ?_ _
      refine NoPanic.normal ?_
      clear hHeld
      go_wp2_with fail
      go_ret
      unfold UpPost
      rw [if_neg (by rintro ⟨_, h⟩; have := HFU.out; rw [HML.out] at h; omega)]
      refine ⟨rfl, mv8, ov8, ?_, T8.out, L8.out⟩
      have e1 : mNew (gr X) 1 ms hs = ms2 := by rw [HMS.out]; exact if_pos rfl
      unfold oNew
      rw [e1, ← HOS.out]
      exact HA8.out
  · have HG1 := Lib.hid hg1
    have HIO : Hid (oIn ms os = os) := Lib.hid HI.out.oin
    have HI2 := HI
    have HA2 := HAq
    have T2 := TQ
    have L2 : Hid (iL w.heap.size mv ov mv ov) := Lib.hid (iL.refl _ _ _)
    have HR2 := HRq
    have HG2 := HGq
    have HC2 := Lib.hid (HF.out w0 TQ.out).1
    have HH2 := Lib.hid (HF.out w0 TQ.out).2
    have hge : (grp == 1) = false := by simp [hg1]
    clear hg1 HAq HRq HGq TQ
    go_wp2_with fail
    clear hr0 hr1 hr2 hge
    have bq : Below w0.heap.size w0 w0.drew := blw_qt _ 1 w0
    have HA3 := Lib.hid (HA2.out.kb bq)
    have HR3 := Lib.hid ((mild_below bq).cells HR2.out)
    have HG3 := Lib.hid (HG2.out.kb bq)
    have HC3 := Lib.hid (HC2.out.kb bq)
    have HH3 := Lib.hid (HH2.out.mild (mild_below bq))
    have T3 := Lib.hid (T2.out.trans (Only.of_below (S := iS i nb mv ov) bq) (fun _ h => h) (fun _ _ h => h))
    clear bq HA2 HR2 HG2 HC2 HH2 T2
    go_wp2_with fail
    try simp only [List.append]
    refine wp_region_noPanic ?_
    refine wp_region_held_drew (S := (fun V => V.cell? ⟨rb, 0, none⟩ = some (.slice pc lc cc) ∧ V.cell? ⟨rb, 1, none⟩ = some (.slice ph lh ch))) (by kernel_rfl) ⟨cell_obj HR3.out 0 rfl, cell_obj HR3.out 1 rfl⟩ (fun hHeld => ?_)
    generalize w0.drew = w3 at *
    refine wpAnyH_take (i := 0) (v := ?_) (by simp only [List.getElem?_toArray, List.getElem?_cons_zero]; rfl) (by kernel_rfl) (by kernel_rfl) (by kernel_rfl) (fun _ _ _ h => h) (Or.inl ⟨by rfl, ?_⟩) (by assumption) ?_
    rotate_left
    · intro w hSw
      try dsimp only at hSw
      go_simp
      try with_reducible rfl
    try simp only [Act.put, List.setIfInBounds_toArray, List.set_cons_zero, List.set_cons_succ]
    refine wpAnyH_take (i := 1) (v := ?_) (by simp only [List.getElem?_toArray, List.getElem?_cons_succ, List.getElem?_cons_zero]; rfl) (by kernel_rfl) (by kernel_rfl) (by kernel_rfl) (fun _ _ _ h => h) (Or.inl ⟨by rfl, ?_⟩) (by assumption) ?_
    rotate_left
    · intro w hSw
      try dsimp only at hSw
      go_simp
      try with_reducible rfl
    try simp only [Act.put, List.setIfInBounds_toArray, List.set_cons_zero, List.set_cons_succ]
    refine wpAnyH_take (i := 2) (v := ?_) (by simp only [List.getElem?_toArray, List.getElem?_cons_succ, List.getElem?_cons_zero]; rfl) (by kernel_rfl) (by kernel_rfl) (by kernel_rfl) (fun _ _ _ h => h) (Or.inl ⟨by rfl, ?_⟩) (by assumption) ?_
    rotate_left
    · intro w hSw
      try dsimp only at hSw
      go_simp
      try with_reducible rfl
    try simp only [Act.put, List.setIfInBounds_toArray, List.set_cons_zero, List.set_cons_succ]
    refine wpAnyH_take (i := 3) (v := ?_) (by simp only [List.getElem?_toArray, List.getElem?_cons_succ, List.getElem?_cons_zero]; rfl) (by kernel_rfl) (by kernel_rfl) (by kernel_rfl) (fun _ _ _ h => h) (Or.inl ⟨by rfl, ?_⟩) (by assumption) ?_
    rotate_left
    · intro w hSw
      try dsimp only at hSw
      go_simp
      try with_reducible rfl
    try simp only [Act.put, List.setIfInBounds_toArray, List.set_cons_zero, List.set_cons_succ]
    refine wpAnyH_take (i := 4) (v := ?_) (by simp only [List.getElem?_toArray, List.getElem?_cons_succ, List.getElem?_cons_zero]; rfl) (by kernel_rfl) (by kernel_rfl) (by kernel_rfl) (fun _ _ _ h => h) (Or.inl ⟨by rfl, ?_⟩) (by assumption) ?_
    rotate_left
    · intro w hSw
      try dsimp only at hSw
      go_simp
      try with_reducible rfl
    try simp only [Act.put, List.setIfInBounds_toArray, List.set_cons_zero, List.set_cons_succ]
    refine wpAnyH_take (i := 5) (v := ?_) (by simp only [List.getElem?_toArray, List.getElem?_cons_succ, List.getElem?_cons_zero]; rfl) (by kernel_rfl) (by kernel_rfl) (by kernel_rfl) (fun _ _ _ h => h) (Or.inl ⟨by rfl, ?_⟩) (by assumption) ?_
    rotate_left
    · intro w hSw
      try dsimp only at hSw
      go_simp
      try with_reducible rfl
    try simp only [Act.put, List.setIfInBounds_toArray, List.set_cons_zero, List.set_cons_succ]
    refine wpAnyH_ready (rs := [6]) (by kernel_rfl) (by simp) ?_
    refine AllReadyH.cons (by simp only [List.getElem?_toArray, List.getElem?_cons_succ, List.getElem?_cons_zero]; rfl) (fun K hK => ?_) AllReadyH.nil
    go_simp
    refine (named_to w3 _ cs HC3.out HOK.out (Nat.le_trans HCL.out (by decide))).mono ?_
    rintro e w4 ⟨v4, rfl, o4, b4⟩
    obtain ⟨p4, n4, c4, rfl, hn4⟩ := own_sh o4
    clear hn4
    have HA4 := Lib.hid (HA3.out.kb b4)
    have HR4 := Lib.hid ((mild_below b4).cells HR3.out)
    have HG4 := Lib.hid (HG3.out.kb b4)
    have HH4 := Lib.hid (HH3.out.mild (mild_below b4))
    have HN4 := Lib.hid (HSeen.own o4)
    have T4 := Lib.hid (T3.out.trans (Only.of_below (S := iS i nb mv ov) b4) (fun _ h => h) (fun _ _ h => h))
    clear o4 b4 HA3 HR3 HG3 HC3 HH3 T3
    go_wp2_with fail
    refine hK.out _ _ ⟨cell_obj HR4.out 0 rfl, cell_obj HR4.out 1 rfl⟩ (fun hHeld => ?_)
    clear hK K
    try simp only [Act.put, List.setIfInBounds_toArray, List.set_cons_zero, List.set_cons_succ]
    have AL := below_al11 w4 (.cells #[.slice ph lh ch, .slice p4 n4 c4] 32)
    have HB5 := Lib.hid (heap_alloc_last w4 (.cells #[.slice ph lh ch, .slice p4 n4 c4] 32))
    have HA5 := Lib.hid (HA4.out.kb AL)
    have HR5 := Lib.hid ((mild_below AL).cells HR4.out)
    have HG5 := Lib.hid (HG4.out.kb AL)
    have HH5 := Lib.hid (HH4.out.mild (mild_below AL))
    have HN5 := Lib.hid (HN4.out.mild (mild_below AL))
    have T5 := Lib.hid (T4.out.trans (Only.of_below (S := iS i nb mv ov) AL) (fun _ h => h) (fun _ _ h => h))
    clear AL HA4 HR4 HG4 HH4 HN4 T4
    refine wpAnyH_ready (rs := [7]) (by kernel_rfl) (by simp) ?_
    refine AllReadyH.cons (by simp only [List.getElem?_toArray, List.getElem?_cons_succ, List.getElem?_cons_zero]; rfl) (fun K hK => ?_) AllReadyH.nil
    go_simp
    generalize w4.alloc (.cells #[.slice ph lh ch, .slice p4 n4 c4] 32) = w5 at *
    generalize w4.heap.size = gb at *
    refine hK.out _ _ ⟨cell_obj HR5.out 0 rfl, cell_obj HR5.out 1 rfl⟩ (fun hHeld => ?_)
    clear hK K
    try simp only [Act.put, List.setIfInBounds_toArray, List.set_cons_zero, List.set_cons_succ]
    refine wpAnyH_ready (rs := [8]) (by kernel_rfl) (by simp) ?_
    refine AllReadyH.cons (by simp only [List.getElem?_toArray, List.getElem?_cons_succ, List.getElem?_cons_zero]; rfl) (fun K hK => ?_) AllReadyH.nil
    go_simp
    refine (hconcat_to w5 gb _ _ hs (cs.map (·.1)) HB5.out HH5.out HN5.out HH32.out HC32.out (by rw [List.length_map]; have := HCL.out; have := HHL.out; omega)).mono ?_
    rintro e w6 ⟨v6, rfl, o6, b6⟩
    obtain ⟨p6, n6, c6, rfl, hn6⟩ := own_sh o6
    clear hn6
    have HA6 := Lib.hid (HA5.out.kb b6)
    have HR6 := Lib.hid ((mild_below b6).cells HR5.out)
    have HG6 := Lib.hid (HG5.out.kb b6)
    have HN6 := Lib.hid (HSeen.own o6)
    have T6 := Lib.hid (T5.out.trans (Only.of_below (S := iS i nb mv ov) b6) (fun _ h => h) (fun _ _ h => h))
    clear o6 b6 HA5 HR5 HG5 HH5 HN5 T5 HB5
    go_wp2_with fail
    refine hK.out _ _ ⟨cell_obj HR6.out 0 rfl, cell_obj HR6.out 1 rfl⟩ (fun hHeld => ?_)
    clear hK K
    try simp only [Act.put, List.setIfInBounds_toArray, List.set_cons_zero, List.set_cons_succ]
    refine wpAnyH_ready (rs := [9]) (by kernel_rfl) (by simp) ?_
    refine AllReadyH.cons (by simp only [List.getElem?_toArray, List.getElem?_cons_succ, List.getElem?_cons_zero]; rfl) (fun K hK => ?_) AllReadyH.nil
    go_simp
    refine (walk_to w6 g bm X HG6.out HW.out _ (hs ++ cs.map (·.1)) HN6.out (HH32.out.app HC32.out) (by rw [List.length_append, List.length_map]; have := HCL.out; have := HHL.out; omega) .nilFunc (fun _ => false) (Dn.none w6)).mono ?_
    rintro e w7 ⟨v7, l7, rfl, o7, ⟨N7, vl7⟩, b7⟩
    obtain rfl := wlk_eq vl7
    obtain ⟨p7, n7, c7, rfl, hn7⟩ := own_sh o7
    clear hn7
    have HR7 := Lib.hid ((mild_below b7).cells HR6.out)
    have HAD := Lib.hid (iadd_to w6 w7 b7 B i nb most mv ov ms os HA6.out _ _ o7 (wlk_nd HW.out _) (wlk_h32 HW.out _) (wlk_len HW.out _) (HI2.out.len HW.out))
    have HA7 := Lib.hid (HA6.out.kb b7)
    clear o7 b7 vl7 HG6 HN6
    go_wp2_with fail
    refine hK.out _ _ ⟨cell_obj HR7.out 0 rfl, cell_obj HR7.out 1 rfl⟩ (fun hHeld => ?_)
    clear hK K
    try simp only [Act.put, List.setIfInBounds_toArray, List.set_cons_zero, List.set_cons_succ]
    refine wpAnyH_ready (rs := [10]) (by kernel_rfl) (by simp) ?_
    refine AllReadyH.cons (by simp only [List.getElem?_toArray, List.getElem?_cons_succ, List.getElem?_cons_zero]; rfl) (fun K hK => ?_) AllReadyH.nil
    go_simp
    refine HAD.out.mono ?_
    rintro e w8 ⟨rfl, mv8, ov8, h8, t8, l8⟩
    have HA8 := Lib.hid h8
    have T8 := Lib.hid (iS.trans T6.out t8 L2.out)
    have L8 := Lib.hid (L2.out.trans l8 T6.out.size)
    have HR8 : Hid (w8.heap[rb]? = some (.cells #[.slice pc lc cc, .slice ph lh ch, .int .i64 grp] 37 (0, 0))) := Lib.hid ((t8.block rb (Array.getElem?_eq_some_iff.1 HR6.out).1 (HA6.out.off HR6.out (by decide) (by decide))).trans HR6.out)
    clear h8 t8 l8 HAD
    go_wp2_with fail
    refine hK.out _ _ ⟨cell_obj HR8.out 0 rfl, cell_obj HR8.out 1 rfl⟩ (fun hHeld => ?_)
    clear hK K
    try simp only [Act.put, List.setIfInBounds_toArray, List.set_cons_zero, List.set_cons_succ]
    refine wpAnyH_done (by kernel_rfl) ?_ _
    refine NoPanic.normal ?_
    clear hHeld
    go_wp2_with fail
    go_ret
    unfold UpPost
    rw [if_neg (fun h => HG1.out h.1)]
    refine ⟨rfl, mv8, ov8, ?_, T8.out, L8.out⟩
    have e1 : mNew (gr X) grp ms hs = ms := if_neg HG1.out
    unfold oNew
    rw [e1, HIO.out]
    exact HA8.out
end Go.Proofs.YtnpeahbbcolfmaaGreatDoor
namespace Go.Proofs.YtnpeahbbcolfmaaGreatDoor
open Go.RowKit
open Go.Maps
theorem idh_fin {w : World} {b : Nat} (hb : b = w.heap.size) (x : Key) (hx : x.length = 32) (W : World) (k : Below w.heap.size w W) (ht : W.there b 0 32) :
    (hld ⟨b, 0, none⟩).run Tryz.prog (W.setCells b 0 (hv x).toList) = .ok (.agg (hv x)) (W.setCells b 0 (hv x).toList) ∧ Below w.heap.size w (W.setCells b 0 (hv x).toList) :=
  ⟨load_back hx ht, k.trans ((Only.setCells (S := fun j => j = b) (b := b) rfl _ 0 (Only.refl _ W)).below k.size fun j hj => by rw [hj, hb]; exact Nat.le_refl _)⟩
set_option linter.unusedSimpArgs false in
set_option maxRecDepth 20000 in
set_option maxHeartbeats 8000000 in
attribute [local go_sem ↓] hld_open in
theorem idhash_to (w : World) (B i nb : Nat) (most : Int) (mv ov : Value) (ms os : List Key) (f : Key → Option Int) (H : IA w B i nb most mv ov ms os f) (hm : H32 ms) (ho : H32 os) (hl : ms.length + os.length ≤ 1000) (n : Int) (h0 : -4611686018427387904 ≤ n) (h1 : n ≤ 4611686018427387904) :
    Calls Tryz.prog 13 #[ip i, .int .i64 n] w fun e w' => e = .returned (.tuple #[.agg (hv ((atId ms os n).getD hz)), .bool (atId ms os n).isSome]) ∧ Below w.heap.size w w' := by
  obtain ⟨pm, nm, cm, rfl, hnm⟩ := own_sh H.om
  obtain ⟨po, no, co, rfl, hno⟩ := own_sh H.oo
  have BA := Lib.hid (below_al11 w (.cells hzer 31))
  have HZ := Lib.hid (heap_alloc_last w (.cells hzer 31))
  have HA := Lib.hid (H.kb BA.out)
  have HM := Lib.hid hm
  have HO := Lib.hid ho
  have HNM := Lib.hid hnm
  have HNO := Lib.hid hno
  have HL := Lib.hid hl
  have HT0 : Hid ((w.alloc (.cells hzer 31)).there w.heap.size 0 32) := Lib.hid (there32 (q := hzer) rfl HZ.out)
  have FIN := Lib.hid (fun (x : Key) (hx : x.length = 32) => idh_fin (w := w) rfl x hx (w.alloc (.cells hzer 31)) BA.out HT0.out)
  have c1 : (w.alloc (.cells hzer 31)).cell? ⟨i, 1, none⟩ = some (.slice pm nm cm) := HA.out.c rfl
  have c2 : (w.alloc (.cells hzer 31)).cell? ⟨i, 2, none⟩ = some (.slice po no co) := HA.out.c rfl
  have hzl : (#[.int .u8 0, .int .u8 0, .int .u8 0, .int .u8 0, .int .u8 0, .int .u8 0, .int .u8 0, .int .u8 0, .int .u8 0, .int .u8 0, .int .u8 0, .int .u8 0, .int .u8 0, .int .u8 0, .int .u8 0, .int .u8 0, .int .u8 0, .int .u8 0, .int .u8 0, .int .u8 0, .int .u8 0, .int .u8 0, .int .u8 0, .int .u8 0, .int .u8 0, .int .u8 0, .int .u8 0, .int .u8 0, .int .u8 0, .int .u8 0, .int .u8 0, .int .u8 0] : Array Value) = hzer := rfl
  have H0 := Lib.hid h0
  have H1 := Lib.hid h1
  clear H hm ho hnm hno hl h0 h1
  by_cases hA : 0 ≤ n ∧ n < nm
  · obtain ⟨k, rfl⟩ : ∃ k : Nat, n = k := ⟨n.toNat, by omega⟩
    have hkm : k < ms.length := by have := HNM.out; omega
    obtain ⟨b, o, c', e1, hrg⟩ := (HSeen.own HA.out.om).at HM.out hkm
    injection e1 with e1 e2 e3
    subst e1
    have hat : atId ms os (k : Int) = some ms[k] := by
      unfold atId
      rw [if_pos (by omega)]
      simp
    obtain ⟨x, hx⟩ : ∃ x, x = ms[k] := ⟨_, rfl⟩
    rw [← hx] at hrg hat
    have hx32 : x.length = 32 := by rw [hx]; exact HM.out.at hkm
    have hld0 := hld_range hx32 hrg
    have HX := Lib.hid hx32
    have hk1 : (k : Int) < nm := by omega
    have hk0 : (0 : Int) ≤ k := by omega
    rw [hat]
    simp only [Option.getD_some, Option.isSome_some]
    clear hx hrg hat hkm hx32 e2 e3 hA
    go_enter Tryz.func13, Tryz.ntmps13
    go_upto_region 1 with fail
    try rw [hzl]
    generalize w.alloc (.cells hzer 31) = w0 at *
    have HT : Hid (w0.there w.heap.size 0 (hv x).size) := Lib.hid (by rw [hv_size, HX.out]; exact HT0.out)
    go_wp2_with (refine store_to HT.out (hinfo (hv x) (by rw [hv_size, HX.out])) (hv_one _) ?hx ?hy ?_; (case hx => rfl); (case hy => simp [Act.eval]))
    refine bodyPost_ret (v := .tuple #[.agg (hv x), .bool true]) ?_ rfl ⟨rfl, (FIN.out x HX.out).2⟩
    have hl := (FIN.out x HX.out).1
    generalize w0.setCells w.heap.size 0 (hv x).toList = W3 at hl ⊢
    simp only [results, Tryz.results13]
    simp [hl, asAddr, hld_open]
  · by_cases hB : n ≥ 1099511627776 ∧ n - 1099511627776 < no
    · obtain ⟨k, hk⟩ : ∃ k : Nat, n = 1099511627776 + k := ⟨(n - 1099511627776).toNat, by omega⟩
      have hko : k < os.length := by have := HNO.out; omega
      obtain ⟨b, o, c', e1, hrg⟩ := (HSeen.own HA.out.oo).at HO.out hko
      injection e1 with e1 e2 e3
      subst e1
      have hat : atId ms os n = some os[k] := by
        unfold atId split
        rw [if_neg (by have := HNM.out; omega), if_pos (by omega)]
        rw [show (n - 1099511627776).toNat = k by omega]
        exact List.getElem?_eq_getElem hko
      obtain ⟨x, hx⟩ : ∃ x, x = os[k] := ⟨_, rfl⟩
      rw [← hx] at hrg hat
      have hx32 : x.length = 32 := by rw [hx]; exact HO.out.at hko
      have hld0 := hld_range hx32 hrg
      have HX := Lib.hid hx32
      have d1 : n ≥ 0 := by omega
      have d2 : ¬ n < nm := by omega
      have d3 : n ≥ 1099511627776 := by omega
      have hw : IntKind.i64.wrap (n - 1099511627776) = (k : Int) := by rw [IntWalk.i64_in _ (by have := H1.out; have := H0.out; omega)]; omega
      have hw2 : wrap64 (n - 1099511627776) = (k : Int) := by unfold wrap64; have := H1.out; omega
      have d4 : (k : Int) < no := by omega
      have hk0 : (0 : Int) ≤ k := by omega
      rw [hat]
      simp only [Option.getD_some, Option.isSome_some]
      clear hx hrg hat hko hx32 e2 e3 hA hB hk
      go_enter Tryz.func13, Tryz.ntmps13
      go_upto_region 1 with fail
      try rw [hzl]
      generalize w.alloc (.cells hzer 31) = w0 at *
      have HT : Hid (w0.there w.heap.size 0 (hv x).size) := Lib.hid (by rw [hv_size, HX.out]; exact HT0.out)
      go_wp2_with (refine store_to HT.out (hinfo (hv x) (by rw [hv_size, HX.out])) (hv_one _) ?hx ?hy ?_; (case hx => rfl); (case hy => simp [Act.eval]))
      refine bodyPost_ret (v := .tuple #[.agg (hv x), .bool true]) ?_ rfl ⟨rfl, (FIN.out x HX.out).2⟩
      have hl := (FIN.out x HX.out).1
      generalize w0.setCells w.heap.size 0 (hv x).toList = W3 at hl ⊢
      simp only [results, Tryz.results13]
      simp [hl, asAddr, hld_open]
    · have hat : atId ms os n = none := by
        unfold atId split
        rw [if_neg (by have := HNM.out; omega), if_neg (by have := HNO.out; omega)]
      rw [hat]
      simp only [Option.getD_none, Option.isSome_none]
      have HT : Hid ((w.alloc (.cells hzer 31)).there w.heap.size 0 hzer.size) := Lib.hid HT0.out
      have cases3 : (¬ n ≥ 0 ∧ ¬ n ≥ 1099511627776) ∨ (n ≥ 0 ∧ ¬ n < nm ∧ ¬ n ≥ 1099511627776) ∨ (n ≥ 0 ∧ ¬ n < nm ∧ n ≥ 1099511627776 ∧ ¬ (n - 1099511627776) < no) := by omega
      clear hat hA hB
      rcases cases3 with ⟨d1, d2⟩ | ⟨d1, d2, d3⟩ | ⟨d1, d2, d3, d4⟩
      · go_enter Tryz.func13, Tryz.ntmps13
        go_upto_region 1 with fail
        try rw [hzl]
        generalize w.alloc (.cells hzer 31) = w0 at *
        go_wp2_with (refine build_to (vals := #[]) hbuilt ?hv ?_; (case hv => simp); refine store_to HT.out (hinfo hzer rfl) (hv_one hz) ?hx ?hy ?_; (case hx => rfl); (case hy => rfl))
        refine bodyPost_ret (v := .tuple #[.agg hzer, .bool false]) ?_ rfl ⟨rfl, (FIN.out hz rfl).2⟩
        have hl := (FIN.out hz rfl).1
        rw [hz_hv] at hl
        generalize w0.setCells w.heap.size 0 hzer.toList = W3 at hl ⊢
        simp only [results, Tryz.results13]
        simp [hl, asAddr, hld_open]
      · go_enter Tryz.func13, Tryz.ntmps13
        go_upto_region 1 with fail
        try rw [hzl]
        generalize w.alloc (.cells hzer 31) = w0 at *
        go_wp2_with (refine build_to (vals := #[]) hbuilt ?hv ?_; (case hv => simp); refine store_to HT.out (hinfo hzer rfl) (hv_one hz) ?hx ?hy ?_; (case hx => rfl); (case hy => rfl))
        refine bodyPost_ret (v := .tuple #[.agg hzer, .bool false]) ?_ rfl ⟨rfl, (FIN.out hz rfl).2⟩
        have hl := (FIN.out hz rfl).1
        rw [hz_hv] at hl
        generalize w0.setCells w.heap.size 0 hzer.toList = W3 at hl ⊢
        simp only [results, Tryz.results13]
        simp [hl, asAddr, hld_open]
      · obtain ⟨k, hk⟩ : ∃ k : Int, k = n - 1099511627776 := ⟨_, rfl⟩
        have hw2 : wrap64 (n - 1099511627776) = k := by unfold wrap64; have := H1.out; omega
        have d5 : ¬ k < no := by omega
        clear hk d4
        go_enter Tryz.func13, Tryz.ntmps13
        go_upto_region 1 with fail
        try rw [hzl]
        generalize w.alloc (.cells hzer 31) = w0 at *
        go_wp2_with (refine build_to (vals := #[]) hbuilt ?hv ?_; (case hv => simp); refine store_to HT.out (hinfo hzer rfl) (hv_one hz) ?hx ?hy ?_; (case hx => rfl); (case hy => rfl))
        refine bodyPost_ret (v := .tuple #[.agg hzer, .bool false]) ?_ rfl ⟨rfl, (FIN.out hz rfl).2⟩
        have hl := (FIN.out hz rfl).1
        rw [hz_hv] at hl
        generalize w0.setCells w.heap.size 0 hzer.toList = W3 at hl ⊢
        simp only [results, Tryz.results13]
        simp [hl, asAddr, hld_open]
end Go.Proofs.YtnpeahbbcolfmaaGreatDoor
namespace Go.Proofs.YtnpeahbbcolfmaaGreatDoor
open Go.RowKit
open Go.Maps
theorem atId_m {ms os : List Key} {k : Nat} (h : k < ms.length) : atId ms os (k : Int) = some ms[k] := by
  unfold atId
  rw [if_pos (by omega)]
  simp
theorem atId_o {ms os : List Key} {k : Nat} (hl : ms.length ≤ 100000) (h : k < os.length) : atId ms os (1099511627776 + (k : Int)) = some os[k] := by
  unfold atId split
  rw [if_neg (by omega), if_pos (by omega)]
  rw [show (1099511627776 + (k : Int) - 1099511627776).toNat = k by omega]
  exact List.getElem?_eq_getElem h
set_option linter.unusedSimpArgs false in
set_option maxRecDepth 20000 in
set_option maxHeartbeats 8000000 in
attribute [local go_sem ↓] hld_open in
theorem listed_to (w : World) (B i nb : Nat) (most : Int) (mv ov : Value) (ms os : List Key) (f : Key → Option Int) (H : IA w B i nb most mv ov ms os f) (hm : H32 ms) (ho : H32 os) (hl : ms.length + os.length ≤ 1000) :
    Calls Tryz.prog 32 #[ip i] w fun e w' => ∃ v', e = .returned v' ∧ HOwn w' w.heap.size v' (ms ++ os) ∧ Below w.heap.size w w' := by
  obtain ⟨pm, nm, cm, rfl, hnm⟩ := own_sh H.om
  obtain ⟨po, no, co, rfl, hno⟩ := own_sh H.oo
  have HA := Lib.hid H
  have HM := Lib.hid hm
  have HO := Lib.hid ho
  have HNM := Lib.hid hnm
  have HNO := Lib.hid hno
  have HL := Lib.hid hl
  clear H hm ho hnm hno hl
  go_enter Tryz.func32, Tryz.ntmps32
  go_wp2_with fail
  go_loopw [3, 4] (fun v3 v4 wr => ∃ (q : Option Addr) (m c k : Nat), v3 = .slice q m c ∧ v4 = .int .i64 k ∧ k ≤ nm ∧ Hid (HOwn wr w.heap.size (.slice q m c) (ms.take k)) ∧ Hid (Below w.heap.size w wr)) (fun _ v4 _ => nm - (intOf v4).toNat)
  case atStart => exact ⟨none, 0, 0, 0, rfl, rfl, Nat.zero_le _, Lib.hid (by rw [List.take_zero]; exact World.ownsRow_nil _ _ _ _), Lib.hid (Below.refl _ _)⟩
  case round =>
    obtain ⟨q, m, c, k, rfl, rfl, hk, OL, BB⟩ := hrel
    have HMA := Lib.hid (masters_to (HA.out.kb BB.out).im)
    go_wp2_with fail
    refine HMA.out.mono ?_
    rintro e w1 ⟨rfl, rfl⟩
    clear HMA
    by_cases hlt : k < nm
    · have hl1 : (k : Int) < nm := by omega
      obtain ⟨j1, j2, j3⟩ := next_fit hlt (by have := HNM.out; have := HL.out; omega)
      have hkE : k < ms.length := by rw [← HNM.out]; exact hlt
      have htk : ms.take (k + 1) = ms.take k ++ [ms[k]] := List.take_succ_eq_append_getElem hkE
      have HH := Lib.hid (idhash_to w1 B i nb most _ _ ms os f (HA.out.kb BB.out) HM.out HO.out HL.out (k : Int) (by omega) (by have := HNM.out; have := HL.out; omega))
      rw [atId_m hkE] at HH
      simp only [Option.getD_some, Option.isSome_some] at HH
      obtain ⟨x, hx⟩ : ∃ x, x = ms[k] := ⟨_, rfl⟩
      rw [← hx] at HH htk
      have HX : Hid (x.length = 32) := Lib.hid (by rw [hx]; exact HM.out.at hkE)
      have HTL : Hid ((ms.take k).length = k) := Lib.hid (by rw [List.length_take]; omega)
      have HTK := Lib.hid htk
      have HLT := Lib.hid hlt
      have HJ := Lib.hid j1
      clear hx htk hkE hk hlt
      go_wp2_with fail
      refine HH.out.mono ?_
      rintro e w2 ⟨rfl, b2⟩
      have st := hst_cells x HX.out w2
      have hks : (hv x).size = 32 := by rw [hv_size, HX.out]
      have AL := Lib.hid (below_al11 w2 (.cells (hv x) 31))
      have HBX := Lib.hid (heap_alloc_last w2 (.cells (hv x) 31))
      have B3 := Lib.hid ((BB.out.trans (b2.mono BB.out.size)).trans (AL.out.mono (Nat.le_trans BB.out.size b2.size)))
      have O3 := Lib.hid (own_below (own_below OL.out b2) AL.out)
      clear b2 HH OL BB
      go_upto_region 6 with fail
      clear st
      generalize w2.alloc (.cells (hv x) 31) = w3 at *
      generalize w2.heap.size = xb at *
      have hld3 := hld_row HX.out HBX.out
      have AL4 := Lib.hid (below_al11 w3 (.cells (hv x) 31))
      have B4 := Lib.hid (B3.out.trans (AL4.out.mono B3.out.size))
      have O4 := Lib.hid (own_below O3.out AL4.out)
      have HN4 := Lib.hid (heap_alloc_last w3 (.cells (hv x) 31))
      clear B3 O3 AL
      go_wp2_with (first
        | (at_builtin; refine push_loc rfl (.tmp 22) (.tmp 24) rfl w.heap.size (.slice q m c) (ms.take k) w3.heap.size x HX.out rfl O4.out rfl (by have := range_row HN4.out; rwa [hv_list] at this) (by have := HTL.out; have := HLT.out; have := HNM.out; have := HL.out; omega) B4.out.size ?_; intro v8 w8 o8 oth8 loc8; have O8 := Lib.hid o8; have B8 := Lib.hid (B4.out.trans (oth8.below B4.out.size (fun k hk => own_from O4.out k hk))); clear o8 oth8 loc8)
        | (refine build_one x HX.out rfl ?_))
      obtain ⟨q8, m8, c8, hv8, hn8⟩ := own_sh O8.out
      subst hv8
      clear hn8
      refine ⟨⟨q8, m8, c8, k + 1, rfl, congrArg _ (by first | rw [HJ.out] | rfl), HLT.out, Lib.hid (by rw [HTK.out]; exact O8.out), B8⟩, ?_⟩
      first | exact meas_nv HLT.out HJ.out | exact meas_nw HLT.out
    · obtain rfl : k = nm := by omega
      have hl2 : ¬ (k : Int) < k := by omega
      have O0 : Hid (HOwn w1 w.heap.size (.slice q m c) (ms ++ os.take 0)) := Lib.hid (by
        have h := OL.out
        rw [List.take_of_length_le (by rw [HNM.out]; exact Nat.le_refl _)] at h
        rw [List.take_zero, List.append_nil]; exact h)
      have BB0 := BB
      clear hlt hk OL BB
      go_wp2_with fail
      go_loopw [3, 7] (fun v3 v7 wr => ∃ (q : Option Addr) (m c k : Nat), v3 = .slice q m c ∧ v7 = .int .i64 k ∧ k ≤ no ∧ Hid (HOwn wr w.heap.size (.slice q m c) (ms ++ os.take k)) ∧ Hid (Below w.heap.size w wr)) (fun _ v7 _ => no - (intOf v7).toNat)
      case atStart => exact ⟨q, m, c, 0, rfl, rfl, Nat.zero_le _, O0, BB0⟩
      case round =>
        clear O0 BB0
        rename_i kk w1old
        obtain ⟨q, m, c, j, rfl, rfl, hk, OL, BB⟩ := hrel
        have HMA := Lib.hid (others_to (HA.out.kb BB.out).im)
        go_wp2_with fail
        refine HMA.out.mono ?_
        rintro e w5 ⟨rfl, rfl⟩
        clear HMA
        by_cases hlt : j < no
        · have hl1 : (j : Int) < no := by omega
          obtain ⟨j1, j2, j3⟩ := next_fit hlt (by have := HNO.out; have := HL.out; omega)
          have hkE : j < os.length := by rw [← HNO.out]; exact hlt
          have htk : os.take (j + 1) = os.take j ++ [os[j]] := List.take_succ_eq_append_getElem hkE
          have HH := Lib.hid (idhash_to w5 B i nb most _ _ ms os f (HA.out.kb BB.out) HM.out HO.out HL.out (1099511627776 + (j : Int)) (by omega) (by have := HNO.out; have := HL.out; omega))
          rw [atId_o (by have := HL.out; omega) hkE] at HH
          simp only [Option.getD_some, Option.isSome_some] at HH
          obtain ⟨x, hx⟩ : ∃ x, x = os[j] := ⟨_, rfl⟩
          rw [← hx] at HH htk
          have HX : Hid (x.length = 32) := Lib.hid (by rw [hx]; exact HO.out.at hkE)
          have HTL : Hid ((ms ++ os.take j).length ≤ 1000) := Lib.hid (by rw [List.length_append, List.length_take]; have := HL.out; omega)
          have HTK : Hid (ms ++ os.take (j + 1) = (ms ++ os.take j) ++ [x]) := Lib.hid (by rw [htk, List.append_assoc])
          have hwr : wrap64 (1099511627776 + (j : Int)) = 1099511627776 + (j : Int) := by unfold wrap64; have := HNO.out; have := HL.out; omega
          have hwr2 : IntKind.i64.wrap (1099511627776 + (j : Int)) = 1099511627776 + (j : Int) := IntWalk.i64_in _ (by have := HNO.out; have := HL.out; omega)
          have HLT := Lib.hid hlt
          have HJ := Lib.hid j1
          clear hx htk hkE hk hlt
          go_wp2_with fail
          refine HH.out.mono ?_
          rintro e w2 ⟨rfl, b2⟩
          have st := hst_cells x HX.out w2
          have hks : (hv x).size = 32 := by rw [hv_size, HX.out]
          have AL := Lib.hid (below_al11 w2 (.cells (hv x) 31))
          have HBX := Lib.hid (heap_alloc_last w2 (.cells (hv x) 31))
          have B3 := Lib.hid ((BB.out.trans (b2.mono BB.out.size)).trans (AL.out.mono (Nat.le_trans BB.out.size b2.size)))
          have O3 := Lib.hid (own_below (own_below OL.out b2) AL.out)
          clear b2 HH OL BB hwr hwr2
          go_upto_region 11 with fail
          clear st
          generalize w2.alloc (.cells (hv x) 31) = w3 at *
          generalize w2.heap.size = xb at *
          have hld3 := hld_row HX.out HBX.out
          have AL4 := Lib.hid (below_al11 w3 (.cells (hv x) 31))
          have B4 := Lib.hid (B3.out.trans (AL4.out.mono B3.out.size))
          have O4 := Lib.hid (own_below O3.out AL4.out)
          have HN4 := Lib.hid (heap_alloc_last w3 (.cells (hv x) 31))
          clear B3 O3 AL
          go_wp2_with (first
            | (at_builtin; refine push_loc rfl (.tmp 39) (.tmp 41) rfl w.heap.size (.slice q m c) (ms ++ os.take j) w3.heap.size x HX.out rfl O4.out rfl (by have := range_row HN4.out; rwa [hv_list] at this) (by have := HTL.out; omega) B4.out.size ?_; intro v8 w8 o8 oth8 loc8; have O8 := Lib.hid o8; have B8 := Lib.hid (B4.out.trans (oth8.below B4.out.size (fun k hk => own_from O4.out k hk))); clear o8 oth8 loc8)
            | (refine build_one x HX.out rfl ?_))
          obtain ⟨q8, m8, c8, hv8, hn8⟩ := own_sh O8.out
          subst hv8
          clear hn8
          refine ⟨⟨q8, m8, c8, j + 1, rfl, congrArg _ (by first | rw [HJ.out] | rfl), HLT.out, Lib.hid (by rw [HTK.out]; exact O8.out), B8⟩, ?_⟩
          first | exact meas_nv HLT.out HJ.out | exact meas_nw HLT.out
        · obtain rfl : j = no := by omega
          have hl2 : ¬ (j : Int) < j := by omega
          clear hlt hk
          go_wp2_with fail
          go_ret
          refine ⟨_, rfl, ?_, BB.out⟩
          have h := OL.out
          rwa [List.take_of_length_le (by rw [HNO.out]; exact Nat.le_refl _)] at h
end Go.Proofs.YtnpeahbbcolfmaaGreatDoor
namespace Go.Proofs.YtnpeahbbcolfmaaGreatDoor
open Go.RowKit Go.Extern.Stop Go.Stop Go.Extern
open Go.Maps
theorem IA.lower {W : World} {B B' i nb : Nat} {most : Int} {mv ov : Value} {ms os : List Key} {f : Key → Option Int} (h : IA W B i nb most mv ov ms os f) (hB : B' ≤ B) : IA W B' i nb most mv ov ms os f :=
  ⟨h.cell, own_lower h.om hB, own_lower h.oo hB, h.mp, h.ap, ⟨Nat.le_trans hB h.lo.1, Nat.le_trans hB h.lo.2⟩⟩
theorem HSeen.some_lt {W : World} {v : Value} {E : List Key} (h : HSeen W v E) (h0 : E ≠ []) (h32 : H32 E) {b : Nat} (hb : sblk v = some b) : b < W.heap.size := by
  rcases h with ⟨_, h1⟩ | ⟨a, cap, rfl, _, h3⟩
  · exact absurd h1 h0
  · injection hb with hb
    subst hb
    have hl : 0 < (fl E).length := by
      rw [fl_length h32]
      have := List.length_pos_iff.2 h0
      omega
    have := World.block_lt_of_cell? _ _ (h3 0 _ (List.getElem?_eq_getElem hl))
    rwa [show a.add 0 = a by simp [Addr.add]] at this
theorem HSeen.keep0 {w w' : World} {v : Value} {E : List Key} {S : Nat → Prop} (h : HSeen w v E) (ho : Only S w w') (hb : E ≠ [] → ∀ b, sblk v = some b → ¬ S b) : HSeen w' v E := by
  by_cases h0 : E = []
  · subst h0
    rcases h with h1 | ⟨a, cap, rfl, h2, _⟩
    · exact .inl h1
    · exact .inr ⟨a, cap, rfl, h2, fun j u hj => by simp [fl] at hj⟩
  · exact h.keep ho (hb h0)
theorem fl_first {E : List Key} (h0 : E ≠ []) (h32 : H32 E) : ∃ n : Int, (fl E)[0]? = some (.int .u8 n) := by
  cases E with
  | nil => exact absurd rfl h0
  | cons h E =>
    have hh := h32 h List.mem_cons_self
    cases h with
    | nil => cases hh
    | cons b h => exact ⟨(b.toNat : Int), by simp [fl, us, nmb]⟩
/-- The graph's rows lie elsewhere than the numbers'. -/
def Fa (X : Lx) (mv ov : Value) : Prop := ∀ x ∈ X, x.2.2 ≠ [] → ∀ b, sblk x.2.1 = some b → mv.ownBlock ≠ some b ∧ ov.ownBlock ≠ some b
structure Jo (w W : World) (g bm i nb : Nat) (X : Lx) (most : Int) (mv ov : Value) (ms os : List Key) : Prop where
  k : Ks w W [] g bm X []
  a : IA W w.heap.size i nb most mv ov ms os (idn ms os)
  wf : Wf (gr X)
  inn : In13 (gr X) ms os
  ne : nb ≠ bm
  far : Fa X mv ov
section
variable {w W W' : World} {g bm i nb : Nat} {X : Lx} {most : Int} {mv ov : Value} {ms os : List Key}
theorem Jo.kb (h : Jo w W g bm i nb X most mv ov ms os) (k : Below W.heap.size W W') : Jo w W' g bm i nb X most mv ov ms os := ⟨h.k.kb k, h.a.kb k, h.wf, h.inn, h.ne, h.far⟩
theorem Jo.stay (h : Jo w W g bm i nb X most mv ov ms os) {V : World} (ho : Only (iS i nb mv ov) W V) : GA V g bm X := by
  refine ⟨(ho.block g (Array.getElem?_eq_some_iff.1 h.k.ga.cell).1 (h.a.off h.k.ga.cell (by decide) (by decide))).trans h.k.ga.cell, h.k.ga.at_.mp.kept ho ?_, fun x hx => ?_⟩
  · obtain ⟨es, c, hm⟩ := h.k.ga.at_.mp.ismap
    rintro (e | e | e | e)
    · rw [e, h.a.cell] at hm; cases hm
    · exact h.ne e.symm
    · exact own_nomap h.a.om hm e
    · exact own_nomap h.a.oo hm e
  · obtain ⟨h1, h2⟩ := h.k.ga.at_.seen x hx
    refine ⟨h1.keep0 ho fun h0 b hb => ?_, h2⟩
    obtain ⟨f1, f2⟩ := h.far x hx h0 b hb
    rintro (e | e | e | e)
    · subst e
      rcases h1 with ⟨_, h4⟩ | ⟨a, cap, h4, _, h3⟩
      · exact h0 h4
      · have hl : 0 < (fl x.2.2).length := by
          rw [fl_length h2]
          have := List.length_pos_iff.2 h0
          omega
        have h5 := h3 0 _ (List.getElem?_eq_getElem hl)
        rw [h4] at hb
        injection hb with hb
        have h5' := h5
        rw [show a.add 0 = a by simp [Addr.add]] at h5
        have h6 := World.cell?_spot h5
        obtain ⟨n1, hn1⟩ := fl_first h0 h2
        have hv1 : (fl x.2.2)[0]'hl = .int .u8 n1 := by
          have := List.getElem?_eq_getElem hl
          rw [hn1] at this
          injection this with this
          exact this.symm
        rw [hv1] at h5
        have e1 : a = ⟨a.block, a.off, none⟩ := by
          cases a with
          | mk p q r => simp only at h6 ⊢; rw [h6]
        rw [e1, hb, cell_of_row W b _ _ _ _ h.a.cell] at h5
        generalize a.off = j at h5
        match j, h5 with
        | 0, h5 => simp at h5
        | 1, h5 =>
          obtain ⟨p, n, c, e9, _⟩ := own_sh h.a.om
          simp [e9] at h5
        | 2, h5 =>
          obtain ⟨p, n, c, e9, _⟩ := own_sh h.a.oo
          simp [e9] at h5
        | 3, h5 => simp at h5
        | j + 4, h5 => simp at h5
    · subst e
      rcases h1 with ⟨_, h4⟩ | ⟨a, cap, h4, _, h3⟩
      · exact h0 h4
      · have hl : 0 < (fl x.2.2).length := by
          rw [fl_length h2]
          have := List.length_pos_iff.2 h0
          omega
        have h5 := h3 0 _ (List.getElem?_eq_getElem hl)
        rw [h4] at hb
        injection hb with hb
        rw [show a.add 0 = a by simp [Addr.add]] at h5
        obtain ⟨M, m1, _⟩ := h.a.mp
        obtain ⟨es, c, hm⟩ := m1.ismap
        exact cell_nomap h5 (by rw [hb]; exact hm)
    · exact f1 e
    · exact f2 e
theorem Jo.turn (h : Jo w W g bm i nb X most mv ov ms os) {ms' os' : List Key} (p : IPost W W' w.heap.size i nb most mv ov ms' os' (idn ms' os')) (hi : In13 (gr X) ms' os') :
    ∃ mv' ov', Jo w W' g bm i nb X most mv' ov' ms' os' ∧ Only (iS i nb mv ov) W W' ∧ iL W.heap.size mv ov mv' ov' := by
  obtain ⟨mv', ov', h1, h2, h3⟩ := p
  refine ⟨mv', ov', ⟨⟨h.a.below h2 h.k.bel (Nat.le_refl _), fun p hp => (by cases hp), h.stay h2, h.k.lo, fun p hp => (by cases hp)⟩, h1, h.wf, hi, h.ne, fun x hx h0 b hb => ?_⟩, h2, h3⟩
  have hlt := (h.k.ga.at_.seen x hx).1.some_lt h0 (h.k.ga.at_.seen x hx).2 hb
  obtain ⟨f1, f2⟩ := h.far x hx h0 b hb
  have key : ∀ {u : Value}, (mv'.ownBlock = u.ownBlock ∨ ov'.ownBlock = u.ownBlock) → u.ownBlock ≠ some b := fun hu e => by
    rcases h3 b (hu.imp (fun q => by rw [q, e]) (fun q => by rw [q, e])) with q | q | q
    · exact f1 q
    · exact f2 q
    · omega
  exact ⟨key (.inl rfl), key (.inr rfl)⟩
theorem Jo.grow (h : Jo w W g bm i nb X most mv ov ms os) {X' : Lx} (k' : Ks w W' [] g bm X' []) (ho : Only (fun j => j = bm) W W') (hf : FarX W.heap.size X X') (wf' : Wf (gr X')) (hg : ∀ x, (aget x (gr X)).isSome = true → (aget x (gr X')).isSome = true ∧ adj (gr X') x = adj (gr X) x) : Jo w W' g bm i nb X' most mv ov ms os := by
  obtain ⟨es, c, hm⟩ := h.k.ga.at_.mp.ismap
  refine ⟨k', h.a.keep ho (fun e => by rw [← e, h.a.cell] at hm; cases hm) h.ne (fun j hj e => own_nomap h.a.om hm (by rw [hj, e])) (fun j hj e => own_nomap h.a.oo hm (by rw [hj, e])), wf', h.inn.grow hg, h.ne, fun x hx h0 b hb => ?_⟩
  rcases hf x hx with h1 | h1
  · exact h.far x h1 h0 b hb
  · have := h1 b hb
    exact ⟨fun e => by have := own_lt h.a.om b e; omega, fun e => by have := own_lt h.a.oo b e; omega⟩
end
end Go.Proofs.YtnpeahbbcolfmaaGreatDoor
namespace Go.Proofs.YtnpeahbbcolfmaaGreatDoor
open Go.RowKit Go.Extern.Stop Go.Stop Go.Extern
open Go.Maps
/-- What the example is. -/
structure K13 (a b : Key) : Prop where
  la : a.length = 32
  lb : b.length = 32
  ba : Tryz.prog.built 31 [(0, .int .u8 1)] = some (hv a)
  bb : Tryz.prog.built 31 [(0, .int .u8 2)] = some (hv b)
  f1 : chk [] 2 [(a, []), (b, [a])] [] = none
  g1 : adds [] [(a, []), (b, [a])] = [(a, []), (b, [a])]
  ok : COk [(a, []), (b, [a])]
  m1 : mNew [(a, []), (b, [a])] 2 [] [] = []
  o1 : oNew [(a, []), (b, [a])] 2 [] [] [] [(a, []), (b, [a])] = [a, b]
  u2 : mUp [(a, []), (b, [a])] [] [a] = [a]
  o2 : oNew [(a, []), (b, [a])] 1 [] [a, b] [a] [] = [b]
  n1 : idn [a] [b] a = some 0
  n2 : idn [a] [b] b = some 1099511627776
theorem k13_f1 : chk [] 2 [(kn 1, []), (kn 2, [kn 1])] [] = none := by
  refine chk_fine.2 ⟨by decide, by decide, by decide, by decide, by decide, ?_, by decide⟩
  have hn : ¬ ∃ p ∈ [kn 1], Up (adj (addA [] [] [(kn 1, []), (kn 2, [kn 1])])) p (kn 2) := fun ⟨p, hp, h⟩ => by
    rw [List.mem_singleton.1 hp] at h
    exact no_up (by decide) (by decide) h
  rw [ck6, if_neg (fun ⟨p, hp, _⟩ => by cases hp), ck6, if_neg hn]
  rfl
theorem k13_w1 : wlk [(kn 1, []), (kn 2, [kn 1])] [kn 1, kn 2] = [kn 1, kn 2] := by
  have a2 : adj [(kn 1, []), (kn 2, [kn 1])] (kn 2) = [kn 1] := by decide
  have a1 : adj [(kn 1, []), (kn 2, [kn 1])] (kn 1) = [] := by decide
  obtain ⟨n1, v1⟩ : ∃ n, VL [(kn 1, []), (kn 2, [kn 1])] (fun _ => false) n [kn 1] (adj [(kn 1, []), (kn 2, [kn 1])] (kn 2)) [kn 1] := by rw [a2]; exact ⟨_, .skip (.inl (by decide)) (.nil _)⟩
  obtain ⟨n2, v2⟩ : ∃ n, VL [(kn 1, []), (kn 2, [kn 1])] (fun _ => false) n [] [kn 1, kn 2] [kn 1, kn 2] := ⟨_, .go (o1 := []) (by decide) rfl (by rw [a1]; exact .nil []) (.go (o := [kn 1]) (by decide) rfl v1 (.nil _))⟩
  refine (wlk_eq (N := n2) ?_).symm
  rw [show [kn 1, kn 2].filter (hasB [(kn 1, []), (kn 2, [kn 1])]) = [kn 1, kn 2] by decide]
  exact v2
theorem k13_w2 : wlk [(kn 1, []), (kn 2, [kn 1])] [kn 1] = [kn 1] := by
  have a1 : adj [(kn 1, []), (kn 2, [kn 1])] (kn 1) = [] := by decide
  obtain ⟨n2, v2⟩ : ∃ n, VL [(kn 1, []), (kn 2, [kn 1])] (fun _ => false) n [] [kn 1] [kn 1] := ⟨_, .go (o1 := []) (by decide) rfl (by rw [a1]; exact .nil []) (.nil _)⟩
  refine (wlk_eq (N := n2) ?_).symm
  rw [show [kn 1].filter (hasB [(kn 1, []), (kn 2, [kn 1])]) = [kn 1] by decide]
  exact v2
theorem k13_u2 : mUp [(kn 1, []), (kn 2, [kn 1])] [] [kn 1] = [kn 1] := by unfold mUp; rw [k13_w2]; decide
theorem k13 : K13 (kn 1) (kn 2) := by
  refine ⟨rfl, rfl, kn_built 1, kn_built 2, k13_f1, by decide, fun c hc => ?_, if_neg (by decide), ?_, k13_u2, ?_, by decide, by decide⟩
  · simp only [List.mem_cons, List.not_mem_nil, or_false] at hc
    rcases hc with rfl | rfl
    · exact ⟨rfl, H32.nil⟩
    · exact ⟨rfl, H32.one rfl⟩
  · unfold oNew
    rw [show mNew [(kn 1, []), (kn 2, [kn 1])] 2 [] [] = [] from if_neg (by decide)]
    unfold oUp
    rw [show ([] ++ List.map (fun x : Cm => x.1) [(kn 1, []), (kn 2, [kn 1])]) = [kn 1, kn 2] from rfl, k13_w1]
    decide
  · unfold oNew
    rw [show mNew [(kn 1, []), (kn 2, [kn 1])] 1 [] [kn 1] = [kn 1] from (if_pos rfl).trans k13_u2]
    unfold oUp
    rw [show ([kn 1] ++ List.map (fun x : Cm => x.1) []) = [kn 1] from rfl, k13_w2]
    decide
theorem Fine.add {G : Gr} {grp : Int} {cs : List Cm} {hs : List Key} (F : Fine G grp cs hs) : Fine G 2 cs [] := by
  refine ⟨?_, F.c2, F.c3, F.c4, rfl, F.c6, F.c7⟩
  have := F.bd
  unfold bnd at this ⊢
  simp only [Bool.and_eq_true] at this ⊢
  exact ⟨⟨rfl, this.1.2⟩, rfl⟩
theorem up_post {G : Gr} {w w' : World} {B i nb : Nat} {most : Int} {mv ov : Value} {ms os hs : List Key} {cs : List Cm} {grp : Int} {e : Ending} (h : UpPost G w w' B i nb most mv ov ms os hs cs grp e) (hf : ¬ (grp = 1 ∧ ((mUp G ms hs).length : Int) > most)) :
    e = .returned .nilIface ∧ IPost w w' B i nb most mv ov (mNew G grp ms hs) (oNew G grp ms os hs cs) (idn (mNew G grp ms hs) (oNew G grp ms os hs cs)) := by
  unfold UpPost at h
  rwa [if_neg hf] at h
theorem In13.new {G : Gr} (W : Wf G) {ms os : List Key} (h : In13 G ms os) (grp : Int) (hs : List Key) (cs : List Cm) : In13 G (mNew G grp ms hs) (oNew G grp ms os hs cs) := by
  unfold oNew mNew
  split
  · exact (h.upM W hs).upO W _
  · rw [h.oin]; exact h.upO W _
theorem ip_nn (i : Nat) (w : World) : (binOp .eql 24 (ip i) (.pointer none)).run Tryz.prog w = .ok (.bool false) w := by kernel_rfl
theorem IA.offn {W : World} {B i nb : Nat} {most : Int} {ms os : List Key} {f : Key → Option Int} (h : IA W B i nb most (.slice none 0 0) (.slice none 0 0) ms os f) {b : Nat} {cs : Array Value} {t : TypeId} {fz : Nat × Nat} (hb : W.heap[b]? = some (.cells cs t fz)) (h1 : t ≠ 94) : ¬ iS i nb (.slice none 0 0) (.slice none 0 0) b := fun hj => by
  rcases hj with rfl | rfl | hj | hj
  · rw [h.cell] at hb
    injection hb with hb
    injection hb with _ hb _
    exact h1 hb.symm
  · obtain ⟨M, m1, _⟩ := h.mp
    obtain ⟨es, c, hm⟩ := m1.ismap
    rw [hm] at hb; cases hb
  · cases hj
  · cases hj
theorem two_rows13 (W : World) (E : List Key) (C : Cv) : ((W.alloc (.cells (fl E).toArray 31)).alloc (.cells (cf C).toArray 34)).heap[W.heap.size]? = some (.cells (fl E).toArray 31 (0, 0)) ∧
    ((W.alloc (.cells (fl E).toArray 31)).alloc (.cells (cf C).toArray 34)).heap[W.heap.size + 1]? = some (.cells (cf C).toArray 34 (0, 0)) := by
  have hs1 : (W.alloc (.cells (fl E).toArray 31)).heap.size = W.heap.size + 1 := by simp
  have h2 := heap_alloc_last (W.alloc (.cells (fl E).toArray 31)) (.cells (cf C).toArray 34)
  rw [hs1] at h2
  exact ⟨(mild_below (below_al11 _ _)).cells (heap_alloc_last W _), h2⟩
/-- A literal of two commits, the second one on a row of hashes. -/
theorem lit_two (V : World) (r1 r2 : Nat) (a b : Key) (la : a.length = 32) (lb : b.length = 32) (h1 : V.heap[r1]? = some (.cells (fl [a]).toArray 31 (0, 0))) (h2 : V.heap[r2]? = some (.cells (cf [(a, .slice none 0 0), (b, .slice (some ⟨r1, 0, none⟩) 1 1)]).toArray 34 (0, 0))) :
    CSeen V (.slice (some ⟨r2, 0, none⟩) 2 2) [(a, []), (b, [a])] := by
  refine cseen_new h2 (by simp [la, lb]) rfl (fun i c d hc hd => ?_) 2 rfl
  match i, hc, hd with
  | 0, hc, hd =>
    simp only [List.getElem?_cons_zero, Option.some.injEq] at hc hd
    subst hc hd
    exact ⟨rfl, .inl ⟨rfl, rfl⟩⟩
  | 1, hc, hd =>
    simp only [List.getElem?_cons_zero, List.getElem?_cons_succ, Option.some.injEq] at hc hd
    subst hc hd
    exact ⟨rfl, hseen_new h1 1 rfl⟩
  | i + 2, hc, _ => simp at hc
set_option linter.unusedSimpArgs false in
set_option maxRecDepth 20000 in
set_option maxHeartbeats 8000000 in
attribute [local go_sem ↓] hld_open heq_open in
theorem known13_gen (a b : Key) (hk : K13 a b) (w : World) : Calls Tryz.prog 8 #[] w fun e w' => e = .returned (.bool true) ∧ Below w.heap.size w w' := by
  have HK := Lib.hid hk
  clear hk
  have hne := nn_iface
  have hnn := nn_nil
  go_enter Tryz.func8, Tryz.ntmps8
  go_wp2_with fail
  refine (new_to w).mono ?_
  rintro e w1 ⟨rfl, g1, b1⟩
  have K1 : Hid (Ks w w1 [] (w.heap.size + 1) w.heap.size [] []) := Lib.hid (Ks.mk b1 (fun _ h => nomatch h) g1 (Nat.le_refl _) (fun _ h => nomatch h))
  clear b1 g1
  generalize w.heap.size + 1 = g at *
  generalize hmb : w.heap.size = bm at K1
  have HMB := Lib.hid hmb
  clear hmb
  have hnp : ∀ w : World, (binOp .eql 22 (gp g) (.pointer none)).run Tryz.prog w = .ok (.bool false) w := fun w => by kernel_rfl
  go_wp2_with fail
  refine (idsnew_to w1 5 (by decide) (by decide)).mono ?_
  rintro e w2 ⟨rfl, i2, b2⟩
  have J2 : Hid (∃ i nb, i = w1.heap.size + 1 ∧ Jo w w2 g bm i nb [] 5 (.slice none 0 0) (.slice none 0 0) [] []) := Lib.hid ⟨_, _, rfl, ⟨K1.out.kb b2, (show (fun _ => none) = idn [] [] from rfl) ▸ i2.lower K1.out.bel.size, Wf.nil, In13.nil _, (fun e => by have := K1.out.ga.at_.mp.lt; omega), fun x hx => by cases hx⟩⟩
  clear i2 b2 K1
  obtain ⟨i, nb, hi, j2⟩ := J2.out
  rw [← hi]
  have J3 := Lib.hid j2
  have hin := ip_nn i
  clear J2 j2 hi
  go_wp2_with (first
    | (refine build_w (vals := #[(0, .int .u8 1)]) HK.out.ba ?hv ?hw ?_; (case hv => first | rfl | simp [Act.put, Act.eval]); (case hw => first | rfl | simp [Region.wanted, yielded]))
    | (refine build_w (vals := #[(0, .int .u8 2)]) HK.out.bb ?hv ?hw ?_; (case hv => first | rfl | simp [Act.put, Act.eval]); (case hw => first | rfl | simp [Region.wanted, yielded]))
    | (refine slice_w (E := [a]) (H32.one HK.out.la) rfl (by simp) (by simp) ?hv ?hw ?_; (case hv => first | rfl | simp [Act.put, Act.eval]); (case hw => first | rfl | simp [Region.wanted, yielded]))
    | (refine build_w (t := 34) (vals := #[(0, .agg (hv b)), (1, .slice (some ⟨w2.heap.size, 0, none⟩) 1 1)]) (built_commit b _ HK.out.lb rfl) ?hv ?hw ?_; (case hv => first | rfl | simp [Act.put, Act.eval]); (case hw => first | rfl | simp [Region.wanted, yielded]))
    | (refine build_w (t := 34) (vals := #[(0, .agg (hv a))]) (built_commit0 a HK.out.la) ?hv ?hw ?_; (case hv => first | rfl | simp [Act.put, Act.eval]); (case hw => first | rfl | simp [Region.wanted, yielded]))
    | (refine slicec_w (C := [(a, .slice none 0 0), (b, .slice (some ⟨w2.heap.size, 0, none⟩) 1 1)]) (by simp [HK.out.la, HK.out.lb]) rfl (by simp) (by simp) ?hv ?hw ?_; (case hv => first | rfl | simp [Act.put, Act.eval]); (case hw => first | rfl | simp [Region.wanted, yielded])))
  have tr := two_rows13 w2 [a] [(a, .slice none 0 0), (b, .slice (some ⟨w2.heap.size, 0, none⟩) 1 1)]
  have al3 := below_al11 ((w2.alloc (.cells (fl [a]).toArray 31)).alloc (.cells (cf [(a, .slice none 0 0), (b, .slice (some ⟨w2.heap.size, 0, none⟩) 1 1)]).toArray 34)) (.cells #[.slice (some ⟨w2.heap.size + 1, 0, none⟩) 2 2, .slice none 0 0, .int .i64 2] 37)
  have HR1 := Lib.hid ((mild_below al3).cells tr.1)
  have HR2 := Lib.hid ((mild_below al3).cells tr.2)
  have HR3 := Lib.hid (heap_alloc_last ((w2.alloc (.cells (fl [a]).toArray 31)).alloc (.cells (cf [(a, .slice none 0 0), (b, .slice (some ⟨w2.heap.size, 0, none⟩) 1 1)]).toArray 34)) (.cells #[.slice (some ⟨w2.heap.size + 1, 0, none⟩) 2 2, .slice none 0 0, .int .i64 2] 37))
  have HR3' : Hid ((((w2.alloc (.cells (fl [a]).toArray 31)).alloc (.cells (cf [(a, .slice none 0 0), (b, .slice (some ⟨w2.heap.size, 0, none⟩) 1 1)]).toArray 34)).alloc (.cells #[.slice (some ⟨w2.heap.size + 1, 0, none⟩) 2 2, .slice none 0 0, .int .i64 2] 37)).heap[w2.heap.size + 1 + 1]? = some (.cells #[.slice (some ⟨w2.heap.size + 1, 0, none⟩) 2 2, .slice none 0 0, .int .i64 2] 37 (0, 0))) := Lib.hid (by have := HR3.out; rwa [al_size, al_size] at this)
  have J4 := Lib.hid (((J3.out.kb (below_al11 w2 (.cells (fl [a]).toArray 31))).kb (below_al11 _ (.cells (cf [(a, .slice none 0 0), (b, .slice (some ⟨w2.heap.size, 0, none⟩) 1 1)]).toArray 34))).kb al3)
  clear tr al3 J3 HR3
  generalize (((w2.alloc (.cells (fl [a]).toArray 31)).alloc (.cells (cf [(a, .slice none 0 0), (b, .slice (some ⟨w2.heap.size, 0, none⟩) 1 1)]).toArray 34)).alloc (.cells #[.slice (some ⟨w2.heap.size + 1, 0, none⟩) 2 2, .slice none 0 0, .int .i64 2] 37)) = w3 at *
  generalize w2.heap.size + 1 + 1 = r3 at *
  generalize w2.heap.size + 1 = r2 at *
  generalize w2.heap.size = r1 at *
  refine (add_to w3 g bm [] (.slice (some ⟨r2, 0, none⟩) 2 2) [(a, []), (b, [a])] J4.out.k.ga Wf.nil (lit_two w3 r1 r2 a b HK.out.la HK.out.lb HR1.out HR2.out) HK.out.ok (by simp) (by simp)).mono ?_
  intro e w4 hp
  obtain ⟨x, X', rfl, k4, _, hX, o4, f4⟩ := J4.out.k.addedF hp
  rw [show gr ([] : Lx) = [] from rfl] at k4 hX
  have ex := k4.err _ List.mem_cons_self
  rw [HK.out.f1] at ex
  obtain rfl : x = .nilIface := ex
  have hX := hX HK.out.f1
  have hWf : Wf (gr X') := by rw [hX]; exact add_wf Wf.nil HK.out.ok (chk_fine.1 HK.out.f1)
  rw [HK.out.g1] at hX
  have md : Mild w3 w4 := mild_map J4.out.k.ga.at_.mp o4
  have J5 := Lib.hid (J4.out.grow k4.bare o4 f4 hWf (fun x hx => by have h0 : (none : Option (List Key)).isSome = true := hx; cases h0))
  have HX := Lib.hid hX
  have HR1 := Lib.hid (md.cells HR1.out)
  have HR2 := Lib.hid (md.cells HR2.out)
  have HR3 := Lib.hid (md.cells HR3'.out)
  have hr0 := cell_obj HR3.out 0 rfl
  have hr1 := cell_obj HR3.out 1 rfl
  have hr2 := cell_obj HR3.out 2 rfl
  clear hp k4 hX o4 f4 hWf md J4 HR3'
  have HUP := Lib.hid (iupdate_to w4 w.heap.size i nb 5 (.slice none 0 0) (.slice none 0 0) [] [] J5.out.a g bm X' (fun V ho => J5.out.stay ho) J5.out.wf J5.out.inn (.slice (some ⟨r2, 0, none⟩) 2 2) (.slice none 0 0) 2 [(a, []), (b, [a])] []
    (fun V ho => ⟨lit_two V r1 r2 a b HK.out.la HK.out.lb ((ho.block r1 (Array.getElem?_eq_some_iff.1 HR1.out).1 (J5.out.a.offn HR1.out (by decide))).trans HR1.out) ((ho.block r2 (Array.getElem?_eq_some_iff.1 HR2.out).1 (J5.out.a.offn HR2.out (by decide))).trans HR2.out), .inl ⟨rfl, rfl⟩⟩) HK.out.ok H32.nil (by simp) (by simp))
  go_wp2_with fail
  refine HUP.out.mono ?_
  intro e w5 hup
  obtain ⟨rfl, ip5⟩ := up_post hup (by simp)
  have hn5 := J5.out.inn.new J5.out.wf 2 [] [(a, []), (b, [a])]
  rw [HX.out, HK.out.m1, HK.out.o1] at ip5
  rw [HX.out, HK.out.m1, HK.out.o1, ← HX.out] at hn5
  obtain ⟨mv5, ov5, j6, _, _⟩ := J5.out.turn ip5 hn5
  have J6 := Lib.hid j6
  clear hup ip5 hn5 j6 hr0 hr1 hr2 HUP J5 HR1 HR2 HR3
  go_wp2_with (first
    | (refine build_w (vals := #[(0, .int .u8 1)]) HK.out.ba ?hv ?hw ?_; (case hv => first | rfl | simp [Act.put, Act.eval]); (case hw => first | rfl | simp [Region.wanted, yielded]))
    | (refine slice_w (E := [a]) (H32.one HK.out.la) rfl (by simp) (by simp) ?hv ?hw ?_; (case hv => first | rfl | simp [Act.put, Act.eval]); (case hw => first | rfl | simp [Region.wanted, yielded])))
  have HRW := Lib.hid (heap_alloc_last w5 (.cells (fl [a]).toArray 31))
  have HLT := Lib.hid (fun j hj => J6.out.a.lt j hj)
  have J7 := Lib.hid (J6.out.kb (below_al11 w5 (.cells (fl [a]).toArray 31)))
  clear J6
  generalize w5.alloc (.cells (fl [a]).toArray 31) = w6 at *
  generalize w5.heap.size = rb at *
  refine (iupdate_to w6 w.heap.size i nb 5 mv5 ov5 [] [a, b] J7.out.a g bm X' (fun V ho => J7.out.stay ho) J7.out.wf J7.out.inn (.slice none 0 0) (.slice (some ⟨rb, 0, none⟩) 1 1) 1 [] [a]
    (fun V ho => ⟨⟨none, 0, rfl, fun i c h => by simp at h⟩, hseen_new ((ho.block rb (Array.getElem?_eq_some_iff.1 HRW.out).1 (fun h => Nat.lt_irrefl _ (HLT.out rb h))).trans HRW.out) 1 rfl⟩) (fun c hc => by cases hc) (H32.one HK.out.la) (by simp) (by simp)).mono ?_
  intro e w7 hup
  obtain ⟨rfl, ip7⟩ := up_post hup (by rw [HX.out, HK.out.u2]; simp)
  have hn7 := J7.out.inn.new J7.out.wf 1 [a] []
  have hm7 : mNew [(a, []), (b, [a])] 1 [] [a] = [a] := (if_pos rfl).trans HK.out.u2
  rw [HX.out, hm7, HK.out.o2] at ip7
  rw [HX.out, hm7, HK.out.o2, ← HX.out] at hn7
  obtain ⟨mv7, ov7, j8, _, _⟩ := J7.out.turn ip7 hn7
  have J8 := Lib.hid j8
  obtain ⟨p7, n7, c7, rfl, e7⟩ := own_sh j8.a.om
  obtain ⟨q7, m7, d7, rfl, f7⟩ := own_sh j8.a.oo
  obtain rfl : n7 = 1 := e7
  obtain rfl : m7 = 1 := f7
  clear hup ip7 hn7 hm7 j8 J7 HRW HLT
  have HI1 := Lib.hid (fun (V : World) (k : Below w7.heap.size w7 V) => (by have h := id_to (J8.out.kb k).a.im a HK.out.la; rwa [HK.out.n1] at h : Calls Tryz.prog 14 #[ip i, .agg (hv a)] V fun e w' => e = .returned (.tuple #[.int .i64 ((some (0 : Int)).getD 0), .bool (some (0 : Int)).isSome]) ∧ Below V.heap.size V w'))
  have HI2 := Lib.hid (fun (V : World) (k : Below w7.heap.size w7 V) => (by have h := id_to (J8.out.kb k).a.im b HK.out.lb; rwa [HK.out.n2] at h : Calls Tryz.prog 14 #[ip i, .agg (hv b)] V fun e w' => e = .returned (.tuple #[.int .i64 ((some (1099511627776 : Int)).getD 0), .bool (some (1099511627776 : Int)).isSome]) ∧ Below V.heap.size V w'))
  go_wp2_with (first
    | (refine build_w (vals := #[(0, .int .u8 1)]) HK.out.ba ?hv ?hw ?_; (case hv => first | rfl | simp [Act.put, Act.eval]); (case hw => first | rfl | simp [Region.wanted, yielded])))
  refine (HI1.out w7 (Below.refl _ _)).mono ?_
  rintro e w8 ⟨rfl, b8⟩
  simp only [Option.getD_some, Option.isSome_some]
  have B8 := Lib.hid b8
  clear b8
  go_wp2_with (first
    | (refine build_w (vals := #[(0, .int .u8 2)]) HK.out.bb ?hv ?hw ?_; (case hv => first | rfl | simp [Act.put, Act.eval]); (case hw => first | rfl | simp [Region.wanted, yielded])))
  refine (HI2.out w8 B8.out).mono ?_
  rintro e w9 ⟨rfl, b9⟩
  simp only [Option.getD_some, Option.isSome_some]
  have B9 := Lib.hid (B8.out.trans (b9.mono B8.out.size))
  clear b9
  go_wp2_with fail
  refine (masters_to (J8.out.kb B9.out).a.im).mono ?_
  rintro e w10 ⟨rfl, rfl⟩
  go_wp2_with fail
  refine (others_to (J8.out.kb B9.out).a.im).mono ?_
  rintro e w11 ⟨rfl, rfl⟩
  go_wp2_with fail
  go_ret
  exact ⟨rfl, J8.out.k.bel.trans (B9.out.mono J8.out.k.bel.size)⟩
theorem known13_to (w : World) : Calls Tryz.prog 8 #[] w fun e w' => e = .returned (.bool true) ∧ Below w.heap.size w w' := known13_gen _ _ k13 w
end Go.Proofs.YtnpeahbbcolfmaaGreatDoor
namespace Go.Proofs.YtnpeahbbcolfmaaGreatDoor
open Go.RowKit Go.Extern.Stop Go.Stop Go.Extern
open Go.Maps
theorem hcontf_to (w : World) (v : Value) (E : List Key) (hv' : HSeen w v E) (h32 : H32 E) (hl : E.length ≤ 1000000) (P : World → Prop) (fv : Value) (D : Key → Bool) (hcb : Cb P fv D) (hP : ∀ V, Below w.heap.size w V → P V) (hno : ∀ x ∈ E, D x = false) :
    Calls Tryz.prog 46 #[v, fv] w fun e w' => e = .returned (.bool false) ∧ Below w.heap.size w w' := by
  have HI := Lib.hid (idf_to w v E hv' h32 hl P fv D hcb hP)
  obtain ⟨p, cap, rfl⟩ := hv'.shape
  obtain ⟨k, f, c, rfl, _, _⟩ := hcb
  have HNO := Lib.hid hno
  clear hv' h32 hl hP hno
  go_enter Tryz.func46, Tryz.ntmps46
  go_wp2_with fail
  refine HI.out.mono ?_
  rintro e w1 ⟨⟨r, rfl, hr⟩, b1⟩
  have B1 := Lib.hid b1
  obtain rfl : r = -1 := by
    rcases hr with ⟨h, _⟩ | ⟨k, _, ⟨x, hx, hd⟩, _⟩
    · exact h
    · rw [HNO.out x (List.mem_of_getElem? hx)] at hd; cases hd
  clear hr b1
  go_wp2_with fail
  go_ret
  exact ⟨rfl, B1.out⟩
/-- The numbers without some. -/
def cutf (S : List Key) (f : Key → Option Int) (y : Key) : Option Int := if y ∈ S then none else f y
theorem cutf_nil (f : Key → Option Int) : cutf [] f = f := by funext y; simp [cutf]
theorem cutf_snoc (S : List Key) (x : Key) (f : Key → Option Int) : (fun y => if y = x then none else cutf S f y) = cutf (S ++ [x]) f := by
  funext y
  unfold cutf
  by_cases h : y = x
  · simp [h]
  · simp [h]
theorem cutf_sup {S L : List Key} {f : Key → Option Int} (h : ∀ x, (f x).isSome = true → x ∈ L) : ∀ x, (cutf S f x).isSome = true → x ∈ L := fun x hx => by
  unfold cutf at hx
  split at hx
  · cases hx
  · exact h x hx
theorem cutf_other {ms os S : List Key} {x : Key} (hx : x ∈ os) (hm : x ∉ ms) : decide ((cutf S (idn ms os) x).getD 0 ≥ split) = out S x := by
  unfold cutf out
  by_cases h : x ∈ S
  · rw [if_pos h, decide_eq_true h]
    exact decide_eq_false (by show ¬ ((0 : Int) ≥ split); unfold split; omega)
  · rw [if_neg h, decide_eq_false h]
    obtain ⟨j, hj⟩ := idx_some hx
    rw [idn_o hm hj]
    exact decide_eq_true (by show split + (j : Int) ≥ split; omega)
theorem cutf_renum {ms os S : List Key} (hS : ∀ x ∈ ms, x ∉ S) (hap : ∀ x ∈ os, x ∉ ms) : renum (os.filter (out S)) (cutf S (idn ms os)) = idn ms (os.filter (out S)) := by
  funext h
  unfold renum
  cases hk : idx h (os.filter (out S)) with
  | some k =>
    have hm := List.mem_filter.1 (List.mem_of_getElem? (idx_get hk))
    rw [idn_o (hap h hm.1) hk]
  | none =>
    have hn := idx_none.1 hk
    unfold cutf
    by_cases h1 : h ∈ ms
    · obtain ⟨j, hj⟩ := idx_some h1
      rw [if_neg (hS h h1), idn_m hj, idn_m hj]
    · rw [idn_none.2 ⟨h1, hn⟩]
      by_cases h2 : h ∈ S
      · rw [if_pos h2]
      · rw [if_neg h2]
        exact idn_none.2 ⟨h1, fun h3 => hn (List.mem_filter.2 ⟨h3, by simp [out, h2]⟩)⟩
/-- What Strip leaves. -/
def StPost (G : Gr) (w w' : World) (B i nb : Nat) (most : Int) (mv ov : Value) (ms os l : List Key) (e : Ending) : Prop :=
  match l.find? (fun x => decide (x ∈ ms)) with
  | some x => ∃ ev, e = .returned ev ∧ ErrW w' ev (some (19, some x)) ∧ Below w.heap.size w w'
  | none => e = .returned .nilIface ∧ IPost w w' B i nb most mv ov ms (os.filter (out (descs G l))) (idn ms (os.filter (out (descs G l))))
theorem find_at {l : List Key} {D : Key → Bool} {k : Nat} {x : Key} (hx : l[k]? = some x) (hd : D x = true) (h : ∀ y ∈ l.take k, D y = false) : l.find? D = some x := by
  obtain ⟨hk, e⟩ := List.getElem?_eq_some_iff.1 hx
  have e2 : l = l.take k ++ (x :: l.drop (k + 1)) := by rw [← e, ← List.drop_eq_getElem_cons hk, List.take_append_drop]
  rw [e2, List.find?_append, List.find?_eq_none.2 (fun y hy => by rw [h y hy]; decide), List.find?_cons_of_pos hd]
  rfl
set_option linter.unusedSimpArgs false in
set_option maxRecDepth 20000 in
set_option maxHeartbeats 8000000 in
attribute [local go_sem ↓] hld_open in
theorem istrip_to (w : World) (B i nb : Nat) (most : Int) (mv ov : Value) (ms os : List Key) (H : IA w B i nb most mv ov ms os (idn ms os)) (g bm : Nat) (X : Lx) (hga : GA w g bm X) (HWf : Wf (gr X)) (hi : In13 (gr X) ms os)
    (v : Value) (l : List Key) (hv' : HSeen w v l) (h32 : H32 l) (hl : l.length ≤ 1000) :
    Calls Tryz.prog 11 #[ip i, gp g, v] w fun e w' => StPost (gr X) w w' B i nb most mv ov ms os l e := by
  have hnp : ∀ w : World, (binOp .eql 22 (gp g) (.pointer none)).run Tryz.prog w = .ok (.bool false) w := fun w => by kernel_rfl
  have hmf := hmf11
  have hml : ms.length ≤ 100000 := by have := hi.len HWf; omega
  have HID := Lib.hid (idf_to w v l hv' h32 (Nat.le_trans hl (by decide)) _ _ _ (ismaster_cb (i := i) (nb := nb) (most := most) (mv := mv) (ov := ov) (f := idn ms os)) (fun V b => (H.kb b).im))
  obtain ⟨pl, cl, rfl⟩ := hv'.shape
  obtain ⟨nl, hnl⟩ : ∃ nl, nl = l.length := ⟨_, rfl⟩
  rw [← hnl] at hv' HID ⊢
  have HM := Lib.hid (fun x => isM_idn (ms := ms) (os := os) hml x)
  have HA := Lib.hid H
  have HG := Lib.hid hga
  have HW := Lib.hid HWf
  have HI := Lib.hid hi
  have HV := Lib.hid hv'
  have H3 := Lib.hid h32
  have HL := Lib.hid hl
  have HN := Lib.hid hnl
  clear H hga HWf hi hv' h32 hl hml hnl
  go_enter Tryz.func11, Tryz.ntmps11
  go_wp2_with fail
  refine HID.out.mono ?_
  rintro e w1 ⟨⟨r, rfl, hr⟩, b1⟩
  have B1 := Lib.hid b1
  clear b1 HID
  rcases hr with ⟨rfl, hno⟩ | ⟨k, rfl, ⟨x, hx, hd⟩, hk⟩
  · have HNO : Hid (∀ y ∈ l, y ∉ ms) := Lib.hid (fun y hy hm => by have := hno y hy; rw [HM.out, decide_eq_true hm] at this; cases this)
    have HA1 := Lib.hid (HA.out.kb B1.out)
    clear hno
    go_wp2_with fail
    refine (descendants_to w1 g bm X _ l (HG.out.kb B1.out) (HV.out.mild (mild_below B1.out)) H3.out (Nat.le_trans HL.out (by decide)) HW.out.xlen HW.out.clo HW.out.parn).mono ?_
    rintro e w2 ⟨v2, rfl, o2, b2⟩
    obtain ⟨S, hS⟩ : ∃ S, S = descs (gr X) l := ⟨_, rfl⟩
    rw [← hS] at o2
    obtain ⟨ps, ns, cs, rfl, hns⟩ := own_sh o2
    have O2 := Lib.hid o2
    have HA2 := Lib.hid (HA1.out.kb b2)
    have B2 := Lib.hid (B1.out.trans (b2.mono B1.out.size))
    have HS := Lib.hid hS
    have HNS := Lib.hid hns
    have HSM : Hid (∀ y ∈ S, y ∉ ms) := Lib.hid (by rw [hS]; exact HI.out.nom HNO.out)
    have HSL : Hid (H32 S ∧ S.length ≤ 1000) := Lib.hid (by rw [hS]; exact ⟨sub_h32 HW.out (descs_sub _ _), Nat.le_trans (descs_len _ _) HW.out.few⟩)
    have HCF := Lib.hid (hcontf_to w2 (.slice ps ns cs) S (HSeen.own o2) HSL.out.1 (Nat.le_trans HSL.out.2 (by decide)) _ _ _ (ismaster_cb (i := i) (nb := nb) (most := most) (mv := mv) (ov := ov) (f := idn ms os)) (fun V b => (HA2.out.kb b).im) (fun y hy => by rw [HM.out]; exact decide_eq_false (HSM.out y hy)))
    have HB1 : Hid (w.heap.size ≤ w1.heap.size) := Lib.hid B1.out.size
    clear o2 b2 hS hns HA1 B1
    go_wp2_with fail
    refine HCF.out.mono ?_
    rintro e w3 ⟨rfl, b3⟩
    have HA3 := Lib.hid (HA2.out.kb b3)
    have O3 := Lib.hid (own_below O2.out b3)
    have B3 := Lib.hid (B2.out.trans (b3.mono B2.out.size))
    have NE3 : Hid (∀ j, (Value.slice ps ns cs).ownBlock = some j → ¬ iS i nb mv ov j) := Lib.hid (fun j hj h => by have h1 := own_from O2.out j hj; have h2 := HA.out.lt j h; have h3 := HB1.out; omega)
    clear b3 HCF HA2 O2 B2
    go_wp2_with fail
    go_loopw [36] (fun v36 wr => ∃ k : Nat, v36 = .int .i64 k ∧ k ≤ ns ∧ Hid (IA wr B i nb most mv ov ms os (cutf (S.take k) (idn ms os))) ∧ Hid (Only (iS i nb mv ov) w wr) ∧ Hid (HOwn wr w1.heap.size (.slice ps ns cs) S)) (fun v36 _ => ns - (intOf v36).toNat)
    case atStart => exact ⟨0, rfl, Nat.zero_le _, Lib.hid (by rw [List.take_zero, cutf_nil]; exact HA3.out), Lib.hid (Only.of_below (S := iS i nb mv ov) B3.out), O3⟩
    case round =>
      clear HA3 O3 B3
      obtain ⟨k, rfl, hk, HA, T, O⟩ := hrel
      by_cases hlt : k < ns
      · have hl1 : (k : Int) < ns := by omega
        obtain ⟨j1, j2, j3⟩ := next_fit hlt (by have := HSL.out.2; have := HNS.out; omega)
        have hkE : k < S.length := by rw [← HNS.out]; exact hlt
        obtain ⟨bb, o, c', e1, hrg⟩ := (HSeen.own O.out).at HSL.out.1 hkE
        injection e1 with e1 e2 e3
        subst e1
        have htk : S.take (k + 1) = S.take k ++ [S[k]] := List.take_succ_eq_append_getElem hkE
        obtain ⟨x, hx⟩ : ∃ x, x = S[k] := ⟨_, rfl⟩
        rw [← hx] at hrg htk
        have HX : Hid (x.length = 32) := Lib.hid (by rw [hx]; exact HSL.out.1.at hkE)
        have hld0 := hld_range HX.out hrg
        have st := hst_cells x HX.out wr
        have hks : (hv x).size = 32 := by rw [hv_size, HX.out]
        have AL := Lib.hid (below_al11 wr (.cells (hv x) 31))
        have HBX := Lib.hid (heap_alloc_last wr (.cells (hv x) 31))
        have HA4 := Lib.hid (HA.out.kb AL.out)
        have T4 : Hid (Only (iS i nb mv ov) w (wr.alloc (.cells (hv x) 31))) := Lib.hid (T.out.trans (Only.of_below (S := iS i nb mv ov) AL.out) (fun _ h => h) (fun _ _ h => h))
        have O4 := Lib.hid (own_below O.out AL.out)
        have HTK := Lib.hid htk
        have HLT := Lib.hid hlt
        have HJ := Lib.hid j1
        clear hx hrg htk hkE hk e2 e3 HA T O
        go_upto_region 12 with fail
        clear st hld0
        generalize wr.alloc (.cells (hv x) 31) = w4 at *
        generalize wr.heap.size = xb at *
        have bq : Below w4.heap.size w4 w4.drew := blw_qt _ 1 w4
        have HA5 := Lib.hid (HA4.out.kb bq)
        have HB5 := Lib.hid ((mild_below bq).cells HBX.out)
        have O5 := Lib.hid (own_below O4.out bq)
        have T5 : Hid (Only (iS i nb mv ov) w w4.drew) := Lib.hid (T4.out.trans (Only.of_below (S := iS i nb mv ov) bq) (fun _ h => h) (fun _ _ h => h))
        clear bq HA4 T4 O4 HBX
        go_wp2_with fail
        try simp only [List.append]
        refine wp_region_noPanic ?_
        refine wp_region_held_drew (S := (fun V => V.cell? ⟨i, 3, none⟩ = some (.map (some nb)) ∧ (hld ⟨xb, 0, none⟩).run Tryz.prog V = .ok (.agg (hv x)) V)) (by kernel_rfl) ⟨HA5.out.c (k := 3) rfl, hld_row HX.out HB5.out⟩ (fun hHeld => ?_)
        generalize w4.drew = cw at *
        obtain ⟨w6, hmu, h6, o6⟩ := HA5.out.dlt x HX.out 0
        rw [cutf_snoc, ← HTK.out] at h6
        have hmm : ∃ es cc, cw.heap[nb]? = some (.map es cc) := by obtain ⟨M, m1, _⟩ := HA5.out.mp; exact m1.ismap
        have HDL := Lib.hid hmu
        have HA6 := Lib.hid h6
        have HB6 := Lib.hid ((o6.block xb (Array.getElem?_eq_some_iff.1 HB5.out).1 (fun e => by obtain ⟨es, cc, hm⟩ := hmm; have h1 := HB5.out; rw [e, hm] at h1; cases h1)).trans HB5.out)
        have O6 := Lib.hid (own_keep O5.out o6 (fun j hj e => by obtain ⟨es, cc, hm⟩ := hmm; exact own_nomap O5.out hm (by rw [hj, e])))
        have T6 : Hid (Only (iS i nb mv ov) w w6) := Lib.hid (T5.out.trans o6 (fun _ h => h) (fun _ _ h => .inr (.inl h)))
        clear hmu h6 o6 hmm T5 HA5 O5
        refine wpAnyH_take (i := 0) (v := ?_) (by simp only [List.getElem?_toArray, List.getElem?_cons_zero]; rfl) (by kernel_rfl) (by kernel_rfl) (by kernel_rfl) (fun _ _ _ h => h) (Or.inl ⟨by rfl, ?_⟩) (by assumption) ?_
        rotate_left
        · intro w hSw
          try dsimp only at hSw
          go_simp
          try with_reducible rfl
        try simp only [Act.put, List.setIfInBounds_toArray, List.set_cons_zero, List.set_cons_succ]
        refine wpAnyH_take (i := 1) (v := ?_) (by simp only [List.getElem?_toArray, List.getElem?_cons_succ, List.getElem?_cons_zero]; rfl) (by kernel_rfl) (by kernel_rfl) (by kernel_rfl) (fun _ _ _ h => h) (Or.inl ⟨by rfl, ?_⟩) (by assumption) ?_
        rotate_left
        · intro w hSw
          try dsimp only at hSw
          go_simp
          try with_reducible rfl
        try simp only [Act.put, List.setIfInBounds_toArray, List.set_cons_zero, List.set_cons_succ]
        refine wpAnyH_take (i := 2) (v := ?_) (by simp only [List.getElem?_toArray, List.getElem?_cons_succ, List.getElem?_cons_zero]; rfl) (by kernel_rfl) (by kernel_rfl) (by kernel_rfl) (fun _ _ _ h => h) (Or.inl ⟨by rfl, ?_⟩) (by assumption) ?_
        rotate_left
        · intro w hSw
          try dsimp only at hSw
          go_simp
          try with_reducible rfl
        try simp only [Act.put, List.setIfInBounds_toArray, List.set_cons_zero, List.set_cons_succ]
        refine wpAnyH_take (i := 3) (v := ?_) (by simp only [List.getElem?_toArray, List.getElem?_cons_succ, List.getElem?_cons_zero]; rfl) (by kernel_rfl) (by kernel_rfl) (by kernel_rfl) (fun _ _ _ h => h) (Or.inl ⟨by rfl, ?_⟩) (by assumption) ?_
        rotate_left
        · intro w hSw
          try dsimp only at hSw
          go_simp
          try with_reducible rfl
        try simp only [Act.put, List.setIfInBounds_toArray, List.set_cons_zero, List.set_cons_succ]
        refine wpAnyH_take (i := 4) (v := ?_) (by simp only [List.getElem?_toArray, List.getElem?_cons_succ, List.getElem?_cons_zero]; rfl) (by kernel_rfl) (by kernel_rfl) (by kernel_rfl) (fun _ _ _ h => h) (Or.inl ⟨by rfl, ?_⟩) (by assumption) ?_
        rotate_left
        · intro w hSw
          try dsimp only at hSw
          go_simp
          try with_reducible rfl
        try simp only [Act.put, List.setIfInBounds_toArray, List.set_cons_zero, List.set_cons_succ]
        refine wpAnyH_ready (rs := [5]) (by kernel_rfl) (by simp) ?_
        refine AllReadyH.cons (by simp only [List.getElem?_toArray, List.getElem?_cons_succ, List.getElem?_cons_zero]; rfl) (fun K hK => ?_) AllReadyH.nil
        refine step_del (by rfl) (.tmp 43) (.tmp 44) (by rfl) (by rfl) (by rfl) HDL.out ?_
        refine hK.out _ _ ⟨HA6.out.c (k := 3) rfl, hld_row HX.out HB6.out⟩ (fun hHeld => ?_)
        clear hK K
        try simp only [Act.put, List.setIfInBounds_toArray, List.set_cons_zero, List.set_cons_succ]
        refine wpAnyH_done (by kernel_rfl) ?_ _
        refine NoPanic.normal ?_
        clear hHeld
        go_wp2_with fail
        refine ⟨⟨k + 1, by first | rw [HJ.out] | rfl, HLT.out, HA6, T6, O6⟩, ?_⟩
        first | exact meas_nv HLT.out HJ.out | exact meas_nw HLT.out
      · obtain rfl : k = ns := by omega
        have hl2 : ¬ (k : Int) < k := by omega
        rw [List.take_of_length_le (by rw [HNS.out]; exact Nat.le_refl _)] at HA
        have hlen := HI.out.len HW.out
        have HCG := Lib.hid (closegaps_to wr B i nb most mv ov ms os _ HA.out (out S) (fun x hx => cutf_other hx (HI.out.apart x hx)) (fun x hx => HI.out.h32 HW.out x (List.mem_append_right _ hx)) (by omega) (List.nodup_append.1 HI.out.nd).2.1 (ms ++ os) (cutf_sup idn_sup) (by rw [List.length_append]; omega))
        clear hlt hk hlen
        go_wp2_with fail
        refine HCG.out.mono ?_
        rintro e w9 ⟨rfl, mv', ov', h9, t9, l9⟩
        have H9 := Lib.hid h9
        have T9 := Lib.hid (T.out.trans t9 (fun _ h => h) (fun _ _ h => h))
        have L9 : Hid (iL w.heap.size mv ov mv' ov') := Lib.hid (fun j hj => (l9 j hj).imp id (fun h => h.imp id (fun h => Nat.le_trans T.out.size h)))
        clear h9 t9 l9 HCG
        go_wp2_with fail
        go_ret
        unfold StPost
        rw [List.find?_eq_none.2 (fun y hy => by rw [decide_eq_false (HNO.out y hy)]; decide)]
        refine ⟨rfl, mv', ov', ?_, T9.out, L9.out⟩
        have h := H9.out
        rw [cutf_renum (fun x hx hs => HSM.out x hs hx) HI.out.apart] at h
        rw [← HS.out]
        exact h
  · have hkl : k < nl := by rw [HN.out]; exact (List.getElem?_eq_some_iff.1 hx).1
    have hkE := (List.getElem?_eq_some_iff.1 hx).1
    obtain ⟨bb, o, c', e1, hrg⟩ := (HV.out.mild (mild_below B1.out)).at H3.out hkE
    injection e1 with e1 e2 e3
    subst e1
    rw [(List.getElem?_eq_some_iff.1 hx).2] at hrg
    have HX : Hid (x.length = 32) := Lib.hid (H3.out x (List.mem_of_getElem? hx))
    have HFD : Hid (l.find? (fun y => decide (y ∈ ms)) = some x) := Lib.hid (find_at (D := fun y => decide (y ∈ ms)) hx (by rw [← HM.out]; exact hd) (fun y hy => by rw [← HM.out]; exact hk y hy))
    have hld0 := hld_range HX.out hrg
    have hl1 : (k : Int) < nl := by omega
    have hl0 : (0 : Int) ≤ k := by omega
    have hge : (k : Int) ≥ 0 := by omega
    clear hx hd hk hkl hkE hrg e2 e3
    go_wp2_with fail
    refine (of_kind w1 x HX.out 19).mono ?_
    rintro e w2 ⟨ev, rfl, _, he, b2⟩
    have E2 := Lib.hid he
    have B2 := Lib.hid (B1.out.trans (b2.mono B1.out.size))
    clear he b2
    go_wp2_with fail
    go_ret
    unfold StPost
    rw [HFD.out]
    exact ⟨_, rfl, E2.out, B2.out⟩
end Go.Proofs.YtnpeahbbcolfmaaGreatDoor
namespace Go.Proofs.YtnpeahbbcolfmaaGreatDoor
open Go.RowKit Go.Extern.Stop Go.Stop Go.Extern
open Go.Maps
theorem Al13.new {G : Gr} {grp : Int} {cs : List Cm} {hs ms os mh : List Key} (W : Wf G) (ok : COk cs) (F : Fine G grp cs hs) (h : Al13 G ms os mh) : Al13 (adds G cs) (mNew (adds G cs) grp ms hs) (oNew (adds G cs) grp ms os hs cs) (if grp = 1 then mh ++ hs else mh) := by
  unfold oNew mNew
  by_cases hg : grp = 1
  · rw [if_pos hg, if_pos hg]; exact h.master W ok F
  · rw [if_neg hg, if_neg hg]
    have := (h.grow W F).1
    rw [this.oin]
    exact h.other W ok F
theorem mup_len {G : Gr} (W : Wf G) {ms hs : List Key} (hn : ms.Nodup) (hi : ∀ x ∈ ms, (aget x G).isSome = true) : (mUp G ms hs).length ≤ G.length := by
  refine in_len (List.nodup_append.2 ⟨hn, (wlk_nd W hs).filter _, fun x hx y hy e => ?_⟩) fun x hx => ?_
  · have := (List.mem_filter.1 hy).2
    subst e
    simp [hx] at this
  · rcases mem_mUp.1 hx with h | h
    · exact hi x h
    · exact wlk_in W hs x h
theorem adds_len (cs : List Cm) : ∀ G : Gr, (adds G cs).length ≤ G.length + cs.length := by
  induction cs with
  | nil => intro G; exact Nat.le_refl _
  | cons c cs ih =>
    intro G
    rw [adds]
    refine Nat.le_trans (ih _) ?_
    split
    · rw [List.length_cons]; omega
    · have := aput_len c.1 c.2 G
      rw [List.length_cons]; omega
/-- The graph stays as something else turns. -/
theorem GA.keepS {W V : World} {g bm : Nat} {X : Lx} {S : Nat → Prop} (h : GA W g bm X) (ho : Only S W V) (h1 : ¬ S g) (h2 : ¬ S bm) (h3 : ∀ x ∈ X, x.2.2 ≠ [] → ∀ b, sblk x.2.1 = some b → ¬ S b) : GA V g bm X :=
  ⟨(ho.block g (Array.getElem?_eq_some_iff.1 h.cell).1 h1).trans h.cell, h.at_.mp.kept ho h2, fun x hx => ⟨(h.at_.seen x hx).1.keep0 ho (h3 x hx), (h.at_.seen x hx).2⟩⟩
/-- A row of hashes of the law's own, beside graph and numbers. -/
structure Mh (w W : World) (B : Nat) (X : Lx) (i nb bm g : Nat) (mv ov v : Value) (mh : List Key) : Prop where
  own : HOwn W B v mh
  h32 : H32 mh
  ap : ∀ j, v.ownBlock = some j → mv.ownBlock ≠ some j ∧ ov.ownBlock ≠ some j
  far : Fa X v v
section
variable {w W W' : World} {g bm i nb : Nat} {X : Lx} {most : Int} {mv ov : Value} {ms os : List Key} {v : Value} {mh : List Key} {B : Nat}
theorem Mh.kb (h : Mh w W B X i nb bm g mv ov v mh) (k : Below W.heap.size W W') : Mh w W' B X i nb bm g mv ov v mh := ⟨own_below h.own k, h.h32, h.ap, h.far⟩
theorem Mh.grow (h : Mh w W B X i nb bm g mv ov v mh) (j : Jo w W g bm i nb X most mv ov ms os) {X' : Lx} (ho : Only (fun k => k = bm) W W') (hf : FarX W.heap.size X X') : Mh w W' B X' i nb bm g mv ov v mh := by
  obtain ⟨es, c, hm⟩ := j.k.ga.at_.mp.ismap
  refine ⟨own_keep h.own ho (fun k hk e => own_nomap h.own hm (by rw [hk, e])), h.h32, h.ap, fun x hx h0 b hb => ?_⟩
  rcases hf x hx with h1 | h1
  · exact h.far x h1 h0 b hb
  · have := h1 b hb
    exact ⟨fun e => by have := own_lt h.own b e; omega, fun e => by have := own_lt h.own b e; omega⟩
theorem Mh.turn (h : Mh w W B X i nb bm g mv ov v mh) (j : Jo w W g bm i nb X most mv ov ms os) {mv' ov' : Value} (ho : Only (iS i nb mv ov) W W') (l : iL W.heap.size mv ov mv' ov') : Mh w W' B X i nb bm g mv' ov' v mh := by
  refine ⟨own_keep h.own ho (fun k hk e => ?_), h.h32, fun k hk => ?_, h.far⟩
  · rcases e with e | e | e | e
    · subst e; exact own_apart h.own j.a.cell (by decide) hk
    · subst e
      obtain ⟨M, m1, _⟩ := j.a.mp
      obtain ⟨es, c, hm⟩ := m1.ismap
      exact own_nomap h.own hm hk
    · exact (h.ap k hk).1 e
    · exact (h.ap k hk).2 e
  · have hlt := own_lt h.own k hk
    have key : ∀ q, (mv'.ownBlock = some q ∨ ov'.ownBlock = some q) → q ≠ k := fun q hq e => by
      subst e
      rcases l q hq with e | e | e
      · exact (h.ap q hk).1 e
      · exact (h.ap q hk).2 e
      · omega
    exact ⟨fun e => key k (.inl e) rfl, fun e => key k (.inr e) rfl⟩
/-- The row grows. -/
theorem Mh.push (h : Mh w W B X i nb bm g mv ov v mh) (j : Jo w W g bm i nb X most mv ov ms os) {v' : Value} {mh' : List Key} (o' : HOwn W' B v' mh') (h3 : H32 mh') (ho : Only (fun k => v.ownBlock = some k) W W') (l : ∀ k, v'.ownBlock = some k → v.ownBlock = some k ∨ W.heap.size ≤ k) (hB : w.heap.size ≤ B) : Mh w W' B X i nb bm g mv ov v' mh' ∧ Jo w W' g bm i nb X most mv ov ms os := by
  refine ⟨⟨o', h3, fun k hk => ?_, fun x hx h0 b hb => ?_⟩, ⟨j.k.bel.trans (ho.below j.k.bel.size fun k hk => Nat.le_trans hB (own_from h.own k hk)), fun p hp => (by cases hp), j.k.ga.keepS ho (own_apart h.own j.k.ga.cell (by decide)) (by obtain ⟨es, c, hm⟩ := j.k.ga.at_.mp.ismap; exact own_nomap h.own hm) (fun x hx h0 b hb => (h.far x hx h0 b hb).1), j.k.lo, fun p hp => (by cases hp)⟩, j.a.keep ho (own_apart h.own j.a.cell (by decide)) (by obtain ⟨M, m1, _⟩ := j.a.mp; obtain ⟨es, c, hm⟩ := m1.ismap; exact own_nomap h.own hm) (fun k hk e => (h.ap k e).1 hk) (fun k hk e => (h.ap k e).2 hk), j.wf, j.inn, j.ne, j.far⟩
  · rcases l k hk with e | e
    · exact h.ap k e
    · exact ⟨fun q => by have := own_lt j.a.om k q; omega, fun q => by have := own_lt j.a.oo k q; omega⟩
  · have hlt := (j.k.ga.at_.seen x hx).1.some_lt h0 (j.k.ga.at_.seen x hx).2 hb
    have f1 := (h.far x hx h0 b hb).1
    have : v'.ownBlock ≠ some b := fun e => by
      rcases l b e with q | q
      · exact f1 q
      · omega
    exact ⟨this, this⟩
end
end Go.Proofs.YtnpeahbbcolfmaaGreatDoor
