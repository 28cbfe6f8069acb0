/- OrderWalks' walk. No condition. -/
import Derived.Test.YthfkmfepeafgjaaOrdN
import Derived.Test.YthfkmfepeafgjaaOrdF
namespace Go.Proofs.Ythfkmfepeafgjaa
open Go.RowKit
open Go.Maps

set_option linter.unusedSimpArgs false in
set_option maxRecDepth 20000 in
set_option maxHeartbeats 8000000 in
attribute [local go_sem ↓] hld_open in
theorem walksfn_to (w : World) (ab : Nat) (q : Option Addr) (m c : Nat) (A : List Key) (hc : w.heap[ab]? = some (.cells #[.slice q m c] 25 (0, 0))) (hs : HSeen w (.slice q m c) A) (h32 : H32 A) (hl : A.length ≤ 1000000) (h : Key) (hh : h.length = 32) :
    Calls Try.prog 16 #[.agg (hv h), .pointer (some ⟨ab, 0, none⟩)] w fun e w' => e = .returned (.bool (decide (h ∈ A))) ∧ Below w.heap.size w w' := by
  have BA := Lib.hid (below_al11 w (.cells (hv h) 28))
  have HB := Lib.hid (heap_alloc_last w (.cells (hv h) 28))
  have HC := Lib.hid ((mild_below BA.out).cells hc)
  have HS := Lib.hid (hs.mild (mild_below BA.out))
  have H3 := Lib.hid h32
  have HL := Lib.hid hl
  have HH := Lib.hid hh
  clear hc hs h32 hl hh
  go_enter Try.func16, Try.ntmps16
  go_upto_region 1 with fail
  generalize w.alloc (.cells (hv h) 28) = w0 at *
  generalize hb : w.heap.size = b at HB
  clear hb
  have hld0 := hld_row HH.out HB.out
  have hc0 := cell_obj HC.out 0 rfl
  go_wp2_with fail
  refine (in_any w0 (.slice q m c) A h HH.out HS.out H3.out HL.out).mono ?_
  rintro e w1 ⟨rfl, b1⟩
  have B1 := Lib.hid (BA.out.trans (b1.mono BA.out.size))
  clear b1
  go_wp2_with fail
  go_ret
  exact ⟨rfl, B1.out⟩
theorem walks_dn (w : World) (ab : Nat) (q : Option Addr) (m c : Nat) (A : List Key) (hc : w.heap[ab]? = some (.cells #[.slice q m c] 25 (0, 0))) (hs : HSeen w (.slice q m c) A) (h32 : H32 A) (hl : A.length ≤ 1000000) :
    Dn w (.func (.func 16) #[] #[.pointer (some ⟨ab, 0, none⟩)]) (fun h => decide (h ∈ A)) :=
  .inr ⟨_, _, rfl, fun args w => by kernel_rfl, fun V k h hh => walksfn_to V ab q m c A ((mild_below k).cells hc) (hs.mild (mild_below k)) h32 hl h hh⟩
theorem rising_nil (G : Gr) (E : List Key) : true = true ↔ rising G (E.take 0) := ⟨fun _ i x hx => by simp at hx, fun _ => rfl⟩
theorem rising_snoc {G : Gr} {E : List Key} {i : Nat} {x : Key} (ht : E.take (i + 1) = E.take i ++ [x]) (hl : (E.take i).length = i) : rising G (E.take (i + 1)) ↔ rising G (E.take i) ∧ (aget x G).isSome = true ∧ ∀ a ∈ E.take i, ¬ Up (adj G) a x := by
  refine ⟨fun h => ?_, fun h => rising_next h.1 ht hl h.2.1 h.2.2⟩
  have h9 := h i x (by rw [ht, List.getElem?_append_right (by omega), hl, Nat.sub_self]; rfl)
  rw [ht, List.take_append_of_le_length (by omega), List.take_of_length_le (by omega)] at h9
  refine ⟨fun k y hy => ?_, h9⟩
  have hk : k < i := by have := (List.getElem?_eq_some_iff.1 hy).1; omega
  have h8 := h k y (by rw [ht, List.getElem?_append_left (by omega)]; exact hy)
  rw [ht, List.take_append_of_le_length (by omega)] at h8
  exact h8
theorem left_one {T : Lx} (W : Wf (gr T)) {y : Key} {n : Nat} : [y].length + left T (List.replicate n false) ≤ 900000 := by
  have h1 := left_le T (List.replicate n false) 4 (fun x hx => (W.par (x.1, x.2.2) (mem_gr.2 ⟨x, hx, rfl⟩)).1)
  have h2 := W.few
  rw [gr_len] at h2
  simp only [List.length_singleton]
  omega
theorem walk_want {G : Gr} {E : List Key} {i k : Nat} {x : Key} {wq t : Bool} (ht : E.take (i + 1) = E.take i ++ [x]) (hl : (E.take i).length = i) (h : t = true ↔ wq = true ∧ ∀ a ∈ E.take k, ¬ Up (adj G) a x) (hq : wq = true ↔ rising G (E.take i) ∧ (aget x G).isSome = true ∧ x ∉ E.take i) (hk : k = i ∨ (k ≤ i ∧ t = false)) : t = true ↔ rising G (E.take (i + 1)) := by
  rw [rising_snoc ht hl]
  rcases hk with rfl | ⟨hk, rfl⟩
  · rw [h, hq]
    exact ⟨fun ⟨⟨a, b, _⟩, d⟩ => ⟨a, b, d⟩, fun ⟨a, b, d⟩ => ⟨⟨a, b, fun hm => d x hm (.refl _)⟩, d⟩⟩
  · refine ⟨(fun h => by cases h), fun ⟨a, b, d⟩ => ?_⟩
    refine h.2 ⟨hq.2 ⟨a, b, fun hm => d x hm (.refl _)⟩, fun z hz => d z ?_⟩
    have e : E.take k = (E.take i).take k := by rw [List.take_take, Nat.min_eq_left hk]
    rw [e] at hz
    exact List.mem_of_mem_take hz
/-- A list of hashes made of numbers, in memory. -/
structure Hx6 (W : World) (v : Value) (L : List Key) : Prop where
  seen : HSeen W v L
  h32 : H32 L
  few : L.length ≤ 8
theorem Hx6.kb {W W' : World} {v : Value} {L : List Key} (h : Hx6 W v L) (k : Below W.heap.size W W') : Hx6 W' v L := ⟨h.seen.mild (mild_below k), h.h32, h.few⟩
theorem Hx6.of {W : World} {B : Nat} {v : Value} {Hs : List Int} {m : Nat} (h : HOwn W B v ((Hs.map hh).take m)) (hm : m ≤ 8) : Hx6 W v ((Hs.map hh).take m) :=
  ⟨HSeen.own h, fun x hx => hh_32 Hs x (List.mem_of_mem_take hx), by rw [List.length_take]; omega⟩
set_option linter.unusedSimpArgs false in
set_option maxRecDepth 20000 in
set_option maxHeartbeats 8000000 in
attribute [local go_sem ↓] hld_open in
theorem walks_to (w : World) (p : Option Addr) (n cap : Nat) (E : List Rq) (hn : n = E.length) (hE : RqSeen w p E) (p1 : Option Addr) (n1 c1 : Nat) (H1 : List Int) (hn1 : n1 = H1.length) (hI1 : ISeen w (.slice p1 n1 c1) H1) (p2 : Option Addr) (n2 c2 : Nat) (H2 : List Int) (hn2 : n2 = H2.length) (hI2 : ISeen w (.slice p2 n2 c2) H2) (p3 : Option Addr) (n3 c3 : Nat) (H3 : List Int) (hn3 : n3 = H3.length) (hI3 : ISeen w (.slice p3 n3 c3) H3) :
    Calls Try.prog 4 #[.slice p n cap, .slice p1 n1 c1, .slice p2 n2 c2, .slice p3 n3 c3] w fun e w' => e = .returned (.bool true) ∧ Below w.heap.size w w' := by
  have HBO := Lib.hid (both_to w p n cap E hn hE)
  have HN1 := Lib.hid hn1
  have HI1 := Lib.hid hI1
  have HN2 := Lib.hid hn2
  have HI2 := Lib.hid hI2
  have HN3 := Lib.hid hn3
  have HI3 := Lib.hid hI3
  clear hn hE hn1 hn2 hn3 hI1 hI2 hI3
  go_enter Try.func4, Try.ntmps4
  go_wp2_with fail
  refine HBO.out.mono ?_
  rintro e w1 ⟨g, bm, rg, X, p', n', c', T, rfl, kq⟩
  have K1 := Lib.hid kq
  have HW := Lib.hid kq.wf
  have HEQ := Lib.hid kq.eq
  clear kq HBO
  have hnp : ∀ w : World, (binOp .eql 22 (gp g) (.pointer none)).run Try.prog w = .ok (.bool false) w := fun w => by kernel_rfl
  go_wp2_with fail
  refine (known12_to w1).mono ?_
  rintro e w2 ⟨rfl, b2⟩
  have K2 := Lib.hid (K1.out.kb b2)
  clear b2 K1
  have HHS := Lib.hid (lhashes_to w2 p1 n1 c1 H1 HN1.out (HI1.out.kb' K2.out.k.bel) 6 (by decide))
  go_wp2_with fail
  refine HHS.out.mono ?_
  rintro e w3 ⟨vh, rfl, oh, b3⟩
  obtain ⟨qh, mh, ch, rfl, hmh⟩ := own_sh oh
  have hx := Hx6.of oh (by decide)
  generalize (H1.map hh).take 6 = L at *
  have L3 := Lib.hid hx
  have K3 := Lib.hid (K2.out.kb b3)
  clear hmh hx oh b3 K2 HHS
  have HHS := Lib.hid (lhashes_to w3 p2 n2 c2 H2 HN2.out (HI2.out.kb' K3.out.k.bel) 8 (by decide))
  go_wp2_with fail
  refine HHS.out.mono ?_
  rintro e w4 ⟨vd, rfl, od, b4⟩
  obtain ⟨qd, md, cd, rfl, hmd⟩ := own_sh od
  have hx := Hx6.of od (by decide)
  generalize (H2.map hh).take 8 = Dl at *
  have AL := below_al11 w4 (.cells #[.slice qd md cd] 25)
  have K5 := Lib.hid ((K3.out.kb b4).kb AL)
  have L5 := Lib.hid ((L3.out.kb b4).kb AL)
  have D5 := Lib.hid (hx.kb AL)
  have HC5 := Lib.hid (heap_alloc_last w4 (.cells #[.slice qd md cd] 25))
  clear hmd hx od b4 AL K3 L3 HHS
  go_upto_region 6 with fail
  generalize w4.alloc (.cells #[.slice qd md cd] 25) = w5 at *
  generalize w4.heap.size = ab at *
  have hmf : ∀ (fn : Fn) (first cap : Array Value) (w : World), (Instr.makeFunc fn first cap).run Try.prog w = .ok (.func fn first cap) w := fun _ _ _ _ => rfl
  have HDN := Lib.hid (walks_dn w5 ab qd md cd Dl HC5.out D5.out.seen D5.out.h32 (Nat.le_trans D5.out.few (by decide)))
  have HWA := Lib.hid (walk_to w5 g bm X K5.out.k.ga HW.out (.slice qh mh ch) L L5.out.seen L5.out.h32 (Nat.le_trans L5.out.few (by decide)) _ (fun h => decide (h ∈ Dl)) HDN.out)
  go_wp2_with fail
  refine HWA.out.mono ?_
  rintro e w6 ⟨va, A, rfl, oa, ⟨NA, VA⟩, b6⟩
  obtain ⟨qa, ma, ca, rfl, hma⟩ := own_sh oa
  have HVA := Lib.hid VA
  have AI : Hid (A.length ≤ 1000 ∧ H32 A) := Lib.hid (have hf : ∀ x ∈ L.filter (hasB (gr X)), (aget x (gr X)).isSome = true := fun x hx => (List.mem_filter.1 hx).2; ⟨vl_len HW.out VA hf, in_h32g (keys_h32g HW.out) (VA.inG HW.out.clo (fun _ h => by cases h) hf)⟩)
  have SA := Lib.hid (HSeen.own oa)
  have K6 := Lib.hid (K5.out.kb b6)
  have L6 := Lib.hid (L5.out.kb b6)
  have D6 := Lib.hid (D5.out.kb b6)
  have hc6 := cell_obj ((mild_below b6).cells HC5.out) 0 rfl
  clear hma VA oa b6 K5 L5 D5 HC5 HDN HWA hmf
  have HRW := Lib.hid (rwalk_to w6 rg p' n' c' T K6.out.r K6.out.wft qh mh ch L L6.out.seen L6.out.h32 (Nat.le_trans L6.out.few (by decide)) qd md cd Dl D6.out.seen D6.out.h32 (Nat.le_trans D6.out.few (by decide)))
  rw [← HEQ.out] at HRW
  go_wp2_with fail
  refine HRW.out.mono ?_
  rintro e w7 ⟨vz, Z, rfl, oz, ⟨NZ, VZ⟩, b7⟩
  obtain rfl : A = Z := HVA.out.det VZ
  obtain ⟨qz, mz, cz, rfl, hmz⟩ := own_sh oz
  have HSM := Lib.hid (same_two w7 (.slice qa ma ca) (.slice qz mz cz) A A (SA.out.mild (mild_below b7)) (HSeen.own oz) AI.out.2 AI.out.2 (Nat.le_trans AI.out.1 (by decide)) (Nat.le_trans AI.out.1 (by decide)))
  have K7 := Lib.hid (K6.out.kb b7)
  have L7 := Lib.hid (L6.out.kb b7)
  clear hmz oz VZ b7 K6 L6 D6 HRW hc6 SA AI HVA
  go_wp2_with fail
  refine HSM.out.mono ?_
  rintro e w8 ⟨rfl, nq, rfl⟩
  simp only [decide_true]
  have K8 := Lib.hid (K7.out.kb (blw_qt _ nq w7))
  have L8 := Lib.hid (L7.out.kb (blw_qt _ nq w7))
  clear HSM K7 L7
  generalize w7.drewN nq = w8 at *
  have HWA := Lib.hid (walk_to w8 g bm X K8.out.k.ga HW.out (.slice qh mh ch) L L8.out.seen L8.out.h32 (Nat.le_trans L8.out.few (by decide)) .nilFunc (fun _ => false) (Dn.none w8))
  go_wp2_with fail
  refine HWA.out.mono ?_
  rintro e w9 ⟨va9, A9, rfl, oa, ⟨NA9, VA⟩, b9⟩
  obtain ⟨qa9, ma9, ca9, rfl, hma⟩ := own_sh oa
  have HVA := Lib.hid VA
  have AI : Hid (A9.length ≤ 1000 ∧ H32 A9) := Lib.hid (have hf : ∀ x ∈ L.filter (hasB (gr X)), (aget x (gr X)).isSome = true := fun x hx => (List.mem_filter.1 hx).2; ⟨vl_len HW.out VA hf, in_h32g (keys_h32g HW.out) (VA.inG HW.out.clo (fun _ h => by cases h) hf)⟩)
  have SA := Lib.hid (HSeen.own oa)
  have K9 := Lib.hid (K8.out.kb b9)
  have L9 := Lib.hid (L8.out.kb b9)
  clear hma VA oa b9 K8 L8 HWA
  have HRW := Lib.hid (rwalk_to w9 rg p' n' c' T K9.out.r K9.out.wft qh mh ch L L9.out.seen L9.out.h32 (Nat.le_trans L9.out.few (by decide)) none 0 0 [] (.inl ⟨rfl, rfl⟩) H32.nil (by simp))
  rw [← HEQ.out] at HRW
  go_wp2_with fail
  refine HRW.out.mono ?_
  rintro e wa ⟨vz, Z, rfl, oz, ⟨NZ, VZ⟩, ba⟩
  obtain rfl : A9 = Z := HVA.out.det (by simpa using VZ)
  obtain ⟨qz9, mz9, cz9, rfl, hmz⟩ := own_sh oz
  have HSM := Lib.hid (same_two wa (.slice qa9 ma9 ca9) (.slice qz9 mz9 cz9) A9 A9 (SA.out.mild (mild_below ba)) (HSeen.own oz) AI.out.2 AI.out.2 (Nat.le_trans AI.out.1 (by decide)) (Nat.le_trans AI.out.1 (by decide)))
  have Ka := Lib.hid (K9.out.kb ba)
  clear hmz oz VZ ba K9 L9 HRW SA AI HVA
  go_wp2_with fail
  refine HSM.out.mono ?_
  rintro e wb ⟨rfl, nq9, rfl⟩
  simp only [decide_true]
  have Kb := Lib.hid (Ka.out.kb (blw_qt _ nq9 wa))
  clear HSM Ka
  generalize wa.drewN nq9 = wb at *
  have HHS := Lib.hid (lhashes_to wb p3 n3 c3 H3 HN3.out (HI3.out.kb' Kb.out.k.bel) 6 (by decide))
  go_wp2_with fail
  refine HHS.out.mono ?_
  rintro e wc ⟨vb, rfl, ob, bc⟩
  obtain ⟨qb, mb, cb, rfl, hmb⟩ := own_sh ob
  have hx := Hx6.of ob (by decide)
  generalize (H3.map hh).take 6 = Bl at *
  have LC := Lib.hid hx
  have KC := Lib.hid (Kb.out.kb bc)
  have HMB := Lib.hid hmb
  clear hmb hx ob bc Kb HHS
  go_wp2_with fail
  go_loopw [15, 16] (fun v15 v16 wr => ∃ (i : Nat) (wt : Bool), v15 = .bool wt ∧ v16 = .int .i64 i ∧ i ≤ mb ∧ Hid (wt = true ↔ rising (gr X) (Bl.take i)) ∧ Hid (Below wc.heap.size wc wr)) (fun _ v16 _ => mb - (intOf v16).toNat)
  case atStart => exact ⟨0, true, rfl, rfl, Nat.zero_le _, Lib.hid (rising_nil (gr X) Bl), Lib.hid (Below.refl _ _)⟩
  case round =>
    obtain ⟨i, wt, rfl, rfl, hi, HRT, C⟩ := hrel
    by_cases hlt : i < mb
    · have hl1 : (i : Int) < mb := by omega
      have hl0 : (0 : Int) ≤ i := by omega
      have HI1 : Hid (wrap64 ((i : Int) + 1) = ((i + 1 : Nat) : Int)) := Lib.hid (by have := HMB.out; have := LC.out.few; unfold wrap64; omega)
      have HIM := Lib.hid hlt
      have hiE : i < Bl.length := by rw [← HMB.out]; exact hlt
      have HSA := Lib.hid (LC.out.kb C.out)
      obtain ⟨bb, ob, cb', e1, hrg⟩ := LC.out.seen.at LC.out.h32 hiE
      injection e1 with e1 e2 e3
      subst e1
      have htk : Bl.take (i + 1) = Bl.take i ++ [Bl[i]] := List.take_succ_eq_append_getElem hiE
      obtain ⟨x, hx⟩ : ∃ x, x = Bl[i] := ⟨_, rfl⟩
      rw [← hx] at hrg htk
      have HX : Hid (x.length = 32) := Lib.hid (by rw [hx]; exact LC.out.h32.at hiE)
      have HTK := Lib.hid htk
      have HTL : Hid ((Bl.take i).length = i) := Lib.hid (by rw [List.length_take]; omega)
      have HRC := Lib.hid hrg
      have HRG := Lib.hid (hsr_kb hrg (mild_below C.out))
      have HCA : Hid (i ≤ cb ∧ mb ≤ cb ∧ 0 < Bl.length) := Lib.hid (by
        rcases HSA.out.seen with ⟨h1, _⟩ | ⟨a, cap', h1, h2, _⟩
        · injection h1 with h1; cases h1
        · injection h1 with _ h1 h3; omega)
      have kb1 : (i : Int) ≤ cb := by have := HCA.out; omega
      have kb2 : (i : Int) ≤ mb := by omega
      have kb3 : i ≤ cb := by have := HCA.out; omega
      have kb4 : i ≤ mb := by omega
      have HST := Lib.hid (HSA.out.seen.take (k := i) (by omega) HCA.out.2.2)
      obtain ⟨q, hq⟩ : ∃ q, q = (aget x (gr X)).isSome := ⟨_, rfl⟩
      obtain ⟨d, hd⟩ : ∃ d, d = decide (x ∈ Bl.take i) := ⟨_, rfl⟩
      have HQ := Lib.hid hq
      have HD := Lib.hid hd
      have HUX : Hid ((aget x (gr X)).isSome = true → Up (adj (gr X)) x x) := Lib.hid (fun _ => .refl _)
      clear hiE hi hx htk hrg hq hd e2 e3 hlt HSA
      go_upto_region 14 with fail
      have bq : Below wr.heap.size wr wr.drew := blw_qt _ 1 wr
      have HRQ := Lib.hid (hsr_kb HRG.out (mild_below bq))
      have HSQ := Lib.hid (HST.out.mild (mild_below bq))
      have CQ := Lib.hid (C.out.trans (bq.mono C.out.size))
      clear bq
      go_cut [15] from 62 to 81 (fun v15 wz => v15 = .bool (wt && (q && !d)) ∧ Hid (Below wc.heap.size wc wz))
      case first =>
        cases wt with
        | false =>
          go_wp2_with fail
          try simp only [List.append]
          refine wp_region_noPanic ?_
          refine wp_region_held_drew (S := (fun V => (hld ⟨bb, ob + i * 32, none⟩).run Try.prog V = .ok (.agg (hv x)) V)) (by kernel_rfl) (hld_range HX.out HRQ.out) (fun hHeld => ?_)
          generalize wr.drew = cw at *
          refine wpAnyH_take (i := 0) (v := ?_) (by simp only [List.getElem?_toArray, List.getElem?_cons_zero]; rfl) (by kernel_rfl) (by kernel_rfl) (by kernel_rfl) (fun _ _ _ h => h) (Or.inl ⟨by rfl, ?_⟩) (by assumption) ?_
          rotate_left
          · intro w hSw
            try dsimp only at hSw
            go_simp
            try with_reducible rfl
          try simp only [Act.put, List.setIfInBounds_toArray, List.set_cons_zero, List.set_cons_succ]
          refine wpAnyH_take (i := 1) (v := ?_) (by simp only [List.getElem?_toArray, List.getElem?_cons_succ, List.getElem?_cons_zero]; rfl) (by kernel_rfl) (by kernel_rfl) (by kernel_rfl) (fun _ _ _ h => h) (Or.inl ⟨by rfl, ?_⟩) (by assumption) ?_
          rotate_left
          · intro w hSw
            try dsimp only at hSw
            go_simp
            try with_reducible rfl
          try simp only [Act.put, List.setIfInBounds_toArray, List.set_cons_zero, List.set_cons_succ]
          refine wpAnyH_take (i := 2) (v := undef) (by simp only [List.getElem?_toArray, List.getElem?_cons_succ, List.getElem?_cons_zero]; rfl) (by kernel_rfl) (by kernel_rfl) (by kernel_rfl) (fun _ _ _ h => h) (Or.inr ⟨by rfl, rfl⟩) (by assumption) ?_
          try simp only [Act.put, List.setIfInBounds_toArray, List.set_cons_zero, List.set_cons_succ]
          refine wpAnyH_take (i := 3) (v := undef) (by simp only [List.getElem?_toArray, List.getElem?_cons_succ, List.getElem?_cons_zero]; rfl) (by kernel_rfl) (by kernel_rfl) (by kernel_rfl) (fun _ _ _ h => h) (Or.inr ⟨by rfl, rfl⟩) (by assumption) ?_
          try simp only [Act.put, List.setIfInBounds_toArray, List.set_cons_zero, List.set_cons_succ]
          refine wpAnyH_take (i := 4) (v := undef) (by simp only [List.getElem?_toArray, List.getElem?_cons_succ, List.getElem?_cons_zero]; rfl) (by kernel_rfl) (by kernel_rfl) (by kernel_rfl) (fun _ _ _ h => h) (Or.inr ⟨by rfl, rfl⟩) (by assumption) ?_
          try simp only [Act.put, List.setIfInBounds_toArray, List.set_cons_zero, List.set_cons_succ]
          refine wpAnyH_take (i := 5) (v := undef) (by simp only [List.getElem?_toArray, List.getElem?_cons_succ, List.getElem?_cons_zero]; rfl) (by kernel_rfl) (by kernel_rfl) (by kernel_rfl) (fun _ _ _ h => h) (Or.inr ⟨by rfl, rfl⟩) (by assumption) ?_
          try simp only [Act.put, List.setIfInBounds_toArray, List.set_cons_zero, List.set_cons_succ]
          refine wpAnyH_take (i := 6) (v := undef) (by simp only [List.getElem?_toArray, List.getElem?_cons_succ, List.getElem?_cons_zero]; rfl) (by kernel_rfl) (by kernel_rfl) (by kernel_rfl) (fun _ _ _ h => h) (Or.inr ⟨by rfl, rfl⟩) (by assumption) ?_
          try simp only [Act.put, List.setIfInBounds_toArray, List.set_cons_zero, List.set_cons_succ]
          refine wpAnyH_take (i := 7) (v := undef) (by simp only [List.getElem?_toArray, List.getElem?_cons_succ, List.getElem?_cons_zero]; rfl) (by kernel_rfl) (by kernel_rfl) (by kernel_rfl) (fun _ _ _ h => h) (Or.inr ⟨by rfl, rfl⟩) (by assumption) ?_
          try simp only [Act.put, List.setIfInBounds_toArray, List.set_cons_zero, List.set_cons_succ]
          refine wpAnyH_take (i := 8) (v := ?_) (by simp only [List.getElem?_toArray, List.getElem?_cons_succ, List.getElem?_cons_zero]; rfl) (by kernel_rfl) (by kernel_rfl) (by kernel_rfl) (fun _ _ _ h => h) (Or.inl ⟨by rfl, ?_⟩) (by assumption) ?_
          rotate_left
          · intro w hSw
            try dsimp only at hSw
            go_simp
            try with_reducible rfl
          try simp only [Act.put, List.setIfInBounds_toArray, List.set_cons_zero, List.set_cons_succ]
          refine wpAnyH_take (i := 9) (v := ?_) (by simp only [List.getElem?_toArray, List.getElem?_cons_succ, List.getElem?_cons_zero]; rfl) (by kernel_rfl) (by kernel_rfl) (by kernel_rfl) (fun _ _ _ h => h) (Or.inl ⟨by rfl, ?_⟩) (by assumption) ?_
          rotate_left
          · intro w hSw
            try dsimp only at hSw
            go_simp
            try with_reducible rfl
          try simp only [Act.put, List.setIfInBounds_toArray, List.set_cons_zero, List.set_cons_succ]
          refine wpAnyH_take (i := 10) (v := undef) (by simp only [List.getElem?_toArray, List.getElem?_cons_succ, List.getElem?_cons_zero]; rfl) (by kernel_rfl) (by kernel_rfl) (by kernel_rfl) (fun _ _ _ h => h) (Or.inr ⟨by rfl, rfl⟩) (by assumption) ?_
          try simp only [Act.put, List.setIfInBounds_toArray, List.set_cons_zero, List.set_cons_succ]
          refine wpAnyH_take (i := 11) (v := undef) (by simp only [List.getElem?_toArray, List.getElem?_cons_succ, List.getElem?_cons_zero]; rfl) (by kernel_rfl) (by kernel_rfl) (by kernel_rfl) (fun _ _ _ h => h) (Or.inr ⟨by rfl, rfl⟩) (by assumption) ?_
          try simp only [Act.put, List.setIfInBounds_toArray, List.set_cons_zero, List.set_cons_succ]
          refine wpAnyH_take (i := 12) (v := undef) (by simp only [List.getElem?_toArray, List.getElem?_cons_succ, List.getElem?_cons_zero]; rfl) (by kernel_rfl) (by kernel_rfl) (by kernel_rfl) (fun _ _ _ h => h) (Or.inr ⟨by rfl, rfl⟩) (by assumption) ?_
          try simp only [Act.put, List.setIfInBounds_toArray, List.set_cons_zero, List.set_cons_succ]
          refine wpAnyH_take (i := 13) (v := undef) (by simp only [List.getElem?_toArray, List.getElem?_cons_succ, List.getElem?_cons_zero]; rfl) (by kernel_rfl) (by kernel_rfl) (by kernel_rfl) (fun _ _ _ h => h) (Or.inr ⟨by rfl, rfl⟩) (by assumption) ?_
          try simp only [Act.put, List.setIfInBounds_toArray, List.set_cons_zero, List.set_cons_succ]
          refine wpAnyH_take (i := 14) (v := undef) (by simp only [List.getElem?_toArray, List.getElem?_cons_succ, List.getElem?_cons_zero]; rfl) (by kernel_rfl) (by kernel_rfl) (by kernel_rfl) (fun _ _ _ h => h) (Or.inr ⟨by rfl, rfl⟩) (by assumption) ?_
          try simp only [Act.put, List.setIfInBounds_toArray, List.set_cons_zero, List.set_cons_succ]
          refine wpAnyH_take (i := 15) (v := undef) (by simp only [List.getElem?_toArray, List.getElem?_cons_succ, List.getElem?_cons_zero]; rfl) (by kernel_rfl) (by kernel_rfl) (by kernel_rfl) (fun _ _ _ h => h) (Or.inr ⟨by rfl, rfl⟩) (by assumption) ?_
          try simp only [Act.put, List.setIfInBounds_toArray, List.set_cons_zero, List.set_cons_succ]
          refine wpAnyH_take (i := 16) (v := undef) (by simp only [List.getElem?_toArray, List.getElem?_cons_succ, List.getElem?_cons_zero]; rfl) (by kernel_rfl) (by kernel_rfl) (by kernel_rfl) (fun _ _ _ h => h) (Or.inr ⟨by rfl, rfl⟩) (by assumption) ?_
          try simp only [Act.put, List.setIfInBounds_toArray, List.set_cons_zero, List.set_cons_succ]
          refine wpAnyH_take (i := 17) (v := undef) (by simp only [List.getElem?_toArray, List.getElem?_cons_succ, List.getElem?_cons_zero]; rfl) (by kernel_rfl) (by kernel_rfl) (by kernel_rfl) (fun _ _ _ h => h) (Or.inr ⟨by rfl, rfl⟩) (by assumption) ?_
          try simp only [Act.put, List.setIfInBounds_toArray, List.set_cons_zero, List.set_cons_succ]
          refine wpAnyH_take (i := 18) (v := undef) (by simp only [List.getElem?_toArray, List.getElem?_cons_succ, List.getElem?_cons_zero]; rfl) (by kernel_rfl) (by kernel_rfl) (by kernel_rfl) (fun _ _ _ h => h) (Or.inr ⟨by rfl, rfl⟩) (by assumption) ?_
          try simp only [Act.put, List.setIfInBounds_toArray, List.set_cons_zero, List.set_cons_succ]
          refine wpAnyH_take (i := 19) (v := ?_) (by simp only [List.getElem?_toArray, List.getElem?_cons_succ, List.getElem?_cons_zero]; rfl) (by kernel_rfl) (by kernel_rfl) (by kernel_rfl) (fun _ _ _ h => h) (Or.inl ⟨by rfl, ?_⟩) (by assumption) ?_
          rotate_left
          · intro w hSw
            try dsimp only at hSw
            go_simp
            try with_reducible rfl
          try simp only [Act.put, List.setIfInBounds_toArray, List.set_cons_zero, List.set_cons_succ]
          refine wpAnyH_take (i := 20) (v := ?_) (by simp only [List.getElem?_toArray, List.getElem?_cons_succ, List.getElem?_cons_zero]; rfl) (by kernel_rfl) (by kernel_rfl) (by kernel_rfl) (fun _ _ _ h => h) (Or.inl ⟨by rfl, ?_⟩) (by assumption) ?_
          rotate_left
          · intro w hSw
            try dsimp only at hSw
            go_simp
            try with_reducible rfl
          try simp only [Act.put, List.setIfInBounds_toArray, List.set_cons_zero, List.set_cons_succ]
          refine wpAnyH_done (by kernel_rfl) ?_ _
          refine NoPanic.normal ?_
          go_wp2_with fail
          go_meet
          case rel => exact ⟨rfl, CQ⟩
        | true =>
          go_wp2_with fail
          try simp only [List.append]
          refine wp_region_noPanic ?_
          refine wp_region_held_drew (S := (fun V => (hld ⟨bb, ob + i * 32, none⟩).run Try.prog V = .ok (.agg (hv x)) V)) (by kernel_rfl) (hld_range HX.out HRQ.out) (fun hHeld => ?_)
          generalize wr.drew = cw at *
          refine wpAnyH_take (i := 0) (v := ?_) (by simp only [List.getElem?_toArray, List.getElem?_cons_zero]; rfl) (by kernel_rfl) (by kernel_rfl) (by kernel_rfl) (fun _ _ _ h => h) (Or.inl ⟨by rfl, ?_⟩) (by assumption) ?_
          rotate_left
          · intro w hSw
            try dsimp only at hSw
            go_simp
            try with_reducible rfl
          try simp only [Act.put, List.setIfInBounds_toArray, List.set_cons_zero, List.set_cons_succ]
          refine wpAnyH_take (i := 1) (v := ?_) (by simp only [List.getElem?_toArray, List.getElem?_cons_succ, List.getElem?_cons_zero]; rfl) (by kernel_rfl) (by kernel_rfl) (by kernel_rfl) (fun _ _ _ h => h) (Or.inl ⟨by rfl, ?_⟩) (by assumption) ?_
          rotate_left
          · intro w hSw
            try dsimp only at hSw
            go_simp
            try with_reducible rfl
          try simp only [Act.put, List.setIfInBounds_toArray, List.set_cons_zero, List.set_cons_succ]
          refine wpAnyH_take (i := 2) (v := ?_) (by simp only [List.getElem?_toArray, List.getElem?_cons_succ, List.getElem?_cons_zero]; rfl) (by kernel_rfl) (by kernel_rfl) (by kernel_rfl) (fun _ _ _ h => h) (Or.inl ⟨by rfl, ?_⟩) (by assumption) ?_
          rotate_left
          · intro w hSw
            try dsimp only at hSw
            go_simp
            try with_reducible rfl
          try simp only [Act.put, List.setIfInBounds_toArray, List.set_cons_zero, List.set_cons_succ]
          refine wpAnyH_take (i := 3) (v := ?_) (by simp only [List.getElem?_toArray, List.getElem?_cons_succ, List.getElem?_cons_zero]; rfl) (by kernel_rfl) (by kernel_rfl) (by kernel_rfl) (fun _ _ _ h => h) (Or.inl ⟨by rfl, ?_⟩) (by assumption) ?_
          rotate_left
          · intro w hSw
            try dsimp only at hSw
            go_simp
            try with_reducible rfl
          try simp only [Act.put, List.setIfInBounds_toArray, List.set_cons_zero, List.set_cons_succ]
          refine wpAnyH_take (i := 4) (v := ?_) (by simp only [List.getElem?_toArray, List.getElem?_cons_succ, List.getElem?_cons_zero]; rfl) (by kernel_rfl) (by kernel_rfl) (by kernel_rfl) (fun _ _ _ h => h) (Or.inl ⟨by rfl, ?_⟩) (by assumption) ?_
          rotate_left
          · intro w hSw
            try dsimp only at hSw
            go_simp
            try with_reducible rfl
          try simp only [Act.put, List.setIfInBounds_toArray, List.set_cons_zero, List.set_cons_succ]
          refine wpAnyH_take (i := 5) (v := ?_) (by simp only [List.getElem?_toArray, List.getElem?_cons_succ, List.getElem?_cons_zero]; rfl) (by kernel_rfl) (by kernel_rfl) (by kernel_rfl) (fun _ _ _ h => h) (Or.inl ⟨by rfl, ?_⟩) (by assumption) ?_
          rotate_left
          · intro w hSw
            try dsimp only at hSw
            go_simp
            try with_reducible rfl
          try simp only [Act.put, List.setIfInBounds_toArray, List.set_cons_zero, List.set_cons_succ]
          refine wpAnyH_take (i := 6) (v := ?_) (by simp only [List.getElem?_toArray, List.getElem?_cons_succ, List.getElem?_cons_zero]; rfl) (by kernel_rfl) (by kernel_rfl) (by kernel_rfl) (fun _ _ _ h => h) (Or.inl ⟨by rfl, ?_⟩) (by assumption) ?_
          rotate_left
          · intro w hSw
            try dsimp only at hSw
            go_simp
            try with_reducible rfl
          try simp only [Act.put, List.setIfInBounds_toArray, List.set_cons_zero, List.set_cons_succ]
          refine wpAnyH_ready (rs := [7]) (by kernel_rfl) (by simp) ?_
          refine AllReadyH.cons (by simp only [List.getElem?_toArray, List.getElem?_cons_succ, List.getElem?_cons_zero]; rfl) (fun K hK => ?_) AllReadyH.nil
          go_simp
          refine (rhas_to cw rg p' n' c' T x HX.out (KC.out.kb CQ.out).r).mono ?_
          rintro e cx ⟨rfl, b1⟩
          rw [← HEQ.out, ← HQ.out]
          have CX := Lib.hid (CQ.out.trans (b1.mono CQ.out.size))
          have HRX := Lib.hid (hsr_kb HRQ.out (mild_below b1))
          have HSX := Lib.hid (HSQ.out.mild (mild_below b1))
          clear b1
          go_wp2_with fail
          refine hK.out _ _ (hld_range HX.out HRX.out) (fun hHeld => ?_)
          clear hK K
          try simp only [Act.put, List.setIfInBounds_toArray, List.set_cons_zero, List.set_cons_succ]
          cases q with
          | false =>
            refine wpAnyH_take (i := 8) (v := ?_) (by simp only [List.getElem?_toArray, List.getElem?_cons_succ, List.getElem?_cons_zero]; rfl) (by kernel_rfl) (by kernel_rfl) (by kernel_rfl) (fun _ _ _ h => h) (Or.inl ⟨by rfl, ?_⟩) (by assumption) ?_
            rotate_left
            · intro w hSw
              try dsimp only at hSw
              go_simp
              try with_reducible rfl
            try simp only [Act.put, List.setIfInBounds_toArray, List.set_cons_zero, List.set_cons_succ]
            refine wpAnyH_take (i := 9) (v := ?_) (by simp only [List.getElem?_toArray, List.getElem?_cons_succ, List.getElem?_cons_zero]; rfl) (by kernel_rfl) (by kernel_rfl) (by kernel_rfl) (fun _ _ _ h => h) (Or.inl ⟨by rfl, ?_⟩) (by assumption) ?_
            rotate_left
            · intro w hSw
              try dsimp only at hSw
              go_simp
              try with_reducible rfl
            try simp only [Act.put, List.setIfInBounds_toArray, List.set_cons_zero, List.set_cons_succ]
            refine wpAnyH_take (i := 10) (v := undef) (by simp only [List.getElem?_toArray, List.getElem?_cons_succ, List.getElem?_cons_zero]; rfl) (by kernel_rfl) (by kernel_rfl) (by kernel_rfl) (fun _ _ _ h => h) (Or.inr ⟨by rfl, rfl⟩) (by assumption) ?_
            try simp only [Act.put, List.setIfInBounds_toArray, List.set_cons_zero, List.set_cons_succ]
            refine wpAnyH_take (i := 11) (v := undef) (by simp only [List.getElem?_toArray, List.getElem?_cons_succ, List.getElem?_cons_zero]; rfl) (by kernel_rfl) (by kernel_rfl) (by kernel_rfl) (fun _ _ _ h => h) (Or.inr ⟨by rfl, rfl⟩) (by assumption) ?_
            try simp only [Act.put, List.setIfInBounds_toArray, List.set_cons_zero, List.set_cons_succ]
            refine wpAnyH_take (i := 12) (v := undef) (by simp only [List.getElem?_toArray, List.getElem?_cons_succ, List.getElem?_cons_zero]; rfl) (by kernel_rfl) (by kernel_rfl) (by kernel_rfl) (fun _ _ _ h => h) (Or.inr ⟨by rfl, rfl⟩) (by assumption) ?_
            try simp only [Act.put, List.setIfInBounds_toArray, List.set_cons_zero, List.set_cons_succ]
            refine wpAnyH_take (i := 13) (v := undef) (by simp only [List.getElem?_toArray, List.getElem?_cons_succ, List.getElem?_cons_zero]; rfl) (by kernel_rfl) (by kernel_rfl) (by kernel_rfl) (fun _ _ _ h => h) (Or.inr ⟨by rfl, rfl⟩) (by assumption) ?_
            try simp only [Act.put, List.setIfInBounds_toArray, List.set_cons_zero, List.set_cons_succ]
            refine wpAnyH_take (i := 14) (v := undef) (by simp only [List.getElem?_toArray, List.getElem?_cons_succ, List.getElem?_cons_zero]; rfl) (by kernel_rfl) (by kernel_rfl) (by kernel_rfl) (fun _ _ _ h => h) (Or.inr ⟨by rfl, rfl⟩) (by assumption) ?_
            try simp only [Act.put, List.setIfInBounds_toArray, List.set_cons_zero, List.set_cons_succ]
            refine wpAnyH_take (i := 15) (v := undef) (by simp only [List.getElem?_toArray, List.getElem?_cons_succ, List.getElem?_cons_zero]; rfl) (by kernel_rfl) (by kernel_rfl) (by kernel_rfl) (fun _ _ _ h => h) (Or.inr ⟨by rfl, rfl⟩) (by assumption) ?_
            try simp only [Act.put, List.setIfInBounds_toArray, List.set_cons_zero, List.set_cons_succ]
            refine wpAnyH_take (i := 16) (v := undef) (by simp only [List.getElem?_toArray, List.getElem?_cons_succ, List.getElem?_cons_zero]; rfl) (by kernel_rfl) (by kernel_rfl) (by kernel_rfl) (fun _ _ _ h => h) (Or.inr ⟨by rfl, rfl⟩) (by assumption) ?_
            try simp only [Act.put, List.setIfInBounds_toArray, List.set_cons_zero, List.set_cons_succ]
            refine wpAnyH_take (i := 17) (v := undef) (by simp only [List.getElem?_toArray, List.getElem?_cons_succ, List.getElem?_cons_zero]; rfl) (by kernel_rfl) (by kernel_rfl) (by kernel_rfl) (fun _ _ _ h => h) (Or.inr ⟨by rfl, rfl⟩) (by assumption) ?_
            try simp only [Act.put, List.setIfInBounds_toArray, List.set_cons_zero, List.set_cons_succ]
            refine wpAnyH_take (i := 18) (v := undef) (by simp only [List.getElem?_toArray, List.getElem?_cons_succ, List.getElem?_cons_zero]; rfl) (by kernel_rfl) (by kernel_rfl) (by kernel_rfl) (fun _ _ _ h => h) (Or.inr ⟨by rfl, rfl⟩) (by assumption) ?_
            try simp only [Act.put, List.setIfInBounds_toArray, List.set_cons_zero, List.set_cons_succ]
            refine wpAnyH_take (i := 19) (v := ?_) (by simp only [List.getElem?_toArray, List.getElem?_cons_succ, List.getElem?_cons_zero]; rfl) (by kernel_rfl) (by kernel_rfl) (by kernel_rfl) (fun _ _ _ h => h) (Or.inl ⟨by rfl, ?_⟩) (by assumption) ?_
            rotate_left
            · intro w hSw
              try dsimp only at hSw
              go_simp
              try with_reducible rfl
            try simp only [Act.put, List.setIfInBounds_toArray, List.set_cons_zero, List.set_cons_succ]
            refine wpAnyH_take (i := 20) (v := ?_) (by simp only [List.getElem?_toArray, List.getElem?_cons_succ, List.getElem?_cons_zero]; rfl) (by kernel_rfl) (by kernel_rfl) (by kernel_rfl) (fun _ _ _ h => h) (Or.inl ⟨by rfl, ?_⟩) (by assumption) ?_
            rotate_left
            · intro w hSw
              try dsimp only at hSw
              go_simp
              try with_reducible rfl
            try simp only [Act.put, List.setIfInBounds_toArray, List.set_cons_zero, List.set_cons_succ]
            refine wpAnyH_done (by kernel_rfl) ?_ _
            refine NoPanic.normal ?_
            go_wp2_with fail
            go_meet
            case rel => exact ⟨rfl, CX⟩
          | true =>
            refine wpAnyH_take (i := 8) (v := ?_) (by simp only [List.getElem?_toArray, List.getElem?_cons_succ, List.getElem?_cons_zero]; rfl) (by kernel_rfl) (by kernel_rfl) (by kernel_rfl) (fun _ _ _ h => h) (Or.inl ⟨by rfl, ?_⟩) (by assumption) ?_
            rotate_left
            · intro w hSw
              try dsimp only at hSw
              go_simp
              try with_reducible rfl
            try simp only [Act.put, List.setIfInBounds_toArray, List.set_cons_zero, List.set_cons_succ]
            refine wpAnyH_take (i := 9) (v := ?_) (by simp only [List.getElem?_toArray, List.getElem?_cons_succ, List.getElem?_cons_zero]; rfl) (by kernel_rfl) (by kernel_rfl) (by kernel_rfl) (fun _ _ _ h => h) (Or.inl ⟨by rfl, ?_⟩) (by assumption) ?_
            rotate_left
            · intro w hSw
              try dsimp only at hSw
              go_simp
              try with_reducible rfl
            try simp only [Act.put, List.setIfInBounds_toArray, List.set_cons_zero, List.set_cons_succ]
            refine wpAnyH_take (i := 10) (v := ?_) (by simp only [List.getElem?_toArray, List.getElem?_cons_succ, List.getElem?_cons_zero]; rfl) (by kernel_rfl) (by kernel_rfl) (by kernel_rfl) (fun _ _ _ h => h) (Or.inl ⟨by rfl, ?_⟩) (by assumption) ?_
            rotate_left
            · intro w hSw
              try dsimp only at hSw
              go_simp
              try with_reducible rfl
            try simp only [Act.put, List.setIfInBounds_toArray, List.set_cons_zero, List.set_cons_succ]
            refine wpAnyH_take (i := 11) (v := ?_) (by simp only [List.getElem?_toArray, List.getElem?_cons_succ, List.getElem?_cons_zero]; rfl) (by kernel_rfl) (by kernel_rfl) (by kernel_rfl) (fun _ _ _ h => h) (Or.inl ⟨by rfl, ?_⟩) (by assumption) ?_
            rotate_left
            · intro w hSw
              try dsimp only at hSw
              go_simp
              try with_reducible rfl
            try simp only [Act.put, List.setIfInBounds_toArray, List.set_cons_zero, List.set_cons_succ]
            refine wpAnyH_take (i := 12) (v := ?_) (by simp only [List.getElem?_toArray, List.getElem?_cons_succ, List.getElem?_cons_zero]; rfl) (by kernel_rfl) (by kernel_rfl) (by kernel_rfl) (fun _ _ _ h => h) (Or.inl ⟨by rfl, ?_⟩) (by assumption) ?_
            rotate_left
            · intro w hSw
              try dsimp only at hSw
              go_simp
              try with_reducible rfl
            try simp only [Act.put, List.setIfInBounds_toArray, List.set_cons_zero, List.set_cons_succ]
            refine wpAnyH_take (i := 13) (v := ?_) (by simp only [List.getElem?_toArray, List.getElem?_cons_succ, List.getElem?_cons_zero]; rfl) (by kernel_rfl) (by kernel_rfl) (by kernel_rfl) (fun _ _ _ h => h) (Or.inl ⟨by rfl, ?_⟩) (by assumption) ?_
            rotate_left
            · intro w hSw
              try dsimp only at hSw
              go_simp
              try with_reducible rfl
            try simp only [Act.put, List.setIfInBounds_toArray, List.set_cons_zero, List.set_cons_succ]
            refine wpAnyH_take (i := 14) (v := ?_) (by simp only [List.getElem?_toArray, List.getElem?_cons_succ, List.getElem?_cons_zero]; rfl) (by kernel_rfl) (by kernel_rfl) (by kernel_rfl) (fun _ _ _ h => h) (Or.inl ⟨by rfl, ?_⟩) (by assumption) ?_
            rotate_left
            · intro w hSw
              try dsimp only at hSw
              go_simp
              try with_reducible rfl
            try simp only [Act.put, List.setIfInBounds_toArray, List.set_cons_zero, List.set_cons_succ]
            refine wpAnyH_take (i := 15) (v := ?_) (by simp only [List.getElem?_toArray, List.getElem?_cons_succ, List.getElem?_cons_zero]; rfl) (by kernel_rfl) (by kernel_rfl) (by kernel_rfl) (fun _ _ _ h => h) (Or.inl ⟨by rfl, ?_⟩) (by assumption) ?_
            rotate_left
            · intro w hSw
              try dsimp only at hSw
              go_simp
              try with_reducible rfl
            try simp only [Act.put, List.setIfInBounds_toArray, List.set_cons_zero, List.set_cons_succ]
            refine wpAnyH_take (i := 16) (v := ?_) (by simp only [List.getElem?_toArray, List.getElem?_cons_succ, List.getElem?_cons_zero]; rfl) (by kernel_rfl) (by kernel_rfl) (by kernel_rfl) (fun _ _ _ h => h) (Or.inl ⟨by rfl, ?_⟩) (by assumption) ?_
            rotate_left
            · intro w hSw
              try dsimp only at hSw
              go_simp
              try with_reducible rfl
            try simp only [Act.put, List.setIfInBounds_toArray, List.set_cons_zero, List.set_cons_succ]
            refine wpAnyH_ready (rs := [17]) (by kernel_rfl) (by simp) ?_
            refine AllReadyH.cons (by simp only [List.getElem?_toArray, List.getElem?_cons_succ, List.getElem?_cons_zero]; rfl) (fun K hK => ?_) AllReadyH.nil
            go_simp
            refine (in_any cx (.slice (some ⟨bb, ob, none⟩) i cb) (Bl.take i) x HX.out HSX.out (fun z hz => LC.out.h32 z (List.mem_of_mem_take hz)) (by rw [List.length_take]; have := LC.out.few; omega)).mono ?_
            rintro e cy ⟨rfl, b2⟩
            rw [← HD.out]
            have CY := Lib.hid (CX.out.trans (b2.mono CX.out.size))
            have HRY := Lib.hid (hsr_kb HRX.out (mild_below b2))
            clear b2
            go_wp2_with fail
            refine hK.out _ _ (hld_range HX.out HRY.out) (fun hHeld => ?_)
            clear hK K
            try simp only [Act.put, List.setIfInBounds_toArray, List.set_cons_zero, List.set_cons_succ]
            refine wpAnyH_take (i := 18) (v := ?_) (by simp only [List.getElem?_toArray, List.getElem?_cons_succ, List.getElem?_cons_zero]; rfl) (by kernel_rfl) (by kernel_rfl) (by kernel_rfl) (fun _ _ _ h => h) (Or.inl ⟨by rfl, ?_⟩) (by assumption) ?_
            rotate_left
            · intro w hSw
              try dsimp only at hSw
              go_simp
              try with_reducible rfl
            try simp only [Act.put, List.setIfInBounds_toArray, List.set_cons_zero, List.set_cons_succ]
            refine wpAnyH_take (i := 19) (v := ?_) (by simp only [List.getElem?_toArray, List.getElem?_cons_succ, List.getElem?_cons_zero]; rfl) (by kernel_rfl) (by kernel_rfl) (by kernel_rfl) (fun _ _ _ h => h) (Or.inl ⟨by rfl, ?_⟩) (by assumption) ?_
            rotate_left
            · intro w hSw
              try dsimp only at hSw
              go_simp
              try with_reducible rfl
            try simp only [Act.put, List.setIfInBounds_toArray, List.set_cons_zero, List.set_cons_succ]
            refine wpAnyH_take (i := 20) (v := ?_) (by simp only [List.getElem?_toArray, List.getElem?_cons_succ, List.getElem?_cons_zero]; rfl) (by kernel_rfl) (by kernel_rfl) (by kernel_rfl) (fun _ _ _ h => h) (Or.inl ⟨by rfl, ?_⟩) (by assumption) ?_
            rotate_left
            · intro w hSw
              try dsimp only at hSw
              go_simp
              try with_reducible rfl
            try simp only [Act.put, List.setIfInBounds_toArray, List.set_cons_zero, List.set_cons_succ]
            refine wpAnyH_done (by kernel_rfl) ?_ _
            refine NoPanic.normal ?_
            go_wp2_with fail
            go_meet
            case rel => exact ⟨rfl, CY⟩
      case rest =>
        obtain ⟨h15, CZ⟩ := hcut
        subst h15
        rename World => wz
        have hwq : (wt && (q && !d)) = true ↔ rising (gr X) (Bl.take i) ∧ (aget x (gr X)).isSome = true ∧ x ∉ Bl.take i := by
          rw [← HRT.out, ← HQ.out]
          have hd : d = true ↔ x ∈ Bl.take i := by rw [HD.out]; exact decide_eq_true_iff
          rw [← hd]
          cases wt <;> cases q <;> cases d <;> simp
        obtain ⟨wq, hwe⟩ : ∃ wq, wq = (wt && (q && !d)) := ⟨_, rfl⟩
        rw [← hwe] at hwq ⊢
        have HWQ := Lib.hid hwq
        clear hwq hwe HQ HD HUX HRT HRQ HSQ CQ HST C
        go_wp2_with fail
        go_loopw [15, 17] (fun v15 v17 wr => ∃ (k : Nat) (wt2 : Bool), v15 = .bool wt2 ∧ v17 = .int .i64 k ∧ k ≤ i ∧ Hid (wt2 = true ↔ wq = true ∧ ∀ a ∈ Bl.take k, ¬ Up (adj (gr X)) a x) ∧ Hid (Below wc.heap.size wc wr)) (fun _ v17 _ => i - (intOf v17).toNat)
        case atStart => exact ⟨0, wq, rfl, rfl, Nat.zero_le _, Lib.hid ⟨fun h => ⟨h, fun a ha => by simp at ha⟩, fun h => h.1⟩, CZ⟩
        case round =>
          clear CZ
          rename World => wy
          obtain ⟨k, wt2, rfl, rfl, hk, HT2, CY⟩ := hrel
          by_cases hki : k < i
          · have hk1 : (k : Int) < i := by omega
            have hk0 : (0 : Int) ≤ k := by omega
            cases wt2 with
            | false =>
              have HF : Hid (false = true ↔ rising (gr X) (Bl.take (i + 1))) := Lib.hid (walk_want HTK.out HTL.out HT2.out HWQ.out (.inr ⟨hk, rfl⟩))
              clear hki hk
              go_wp2_with fail
              refine ⟨⟨i + 1, false, rfl, congrArg _ (by first | rw [HI1.out] | rfl), HIM.out, HF, CY⟩, ?_⟩
              first | exact meas_nv HIM.out HI1.out | exact meas_nw HIM.out
            | true =>
              have HJ1 : Hid (wrap64 ((k : Int) + 1) = ((k + 1 : Nat) : Int)) := Lib.hid (by have := HMB.out; have := LC.out.few; have := HIM.out; unfold wrap64; omega)
              have HKI := Lib.hid hki
              have hkE : k < Bl.length := by rw [← HMB.out]; have := HIM.out; omega
              obtain ⟨b', o', c'', e1, hry⟩ := ((LC.out.kb CY.out).seen).at LC.out.h32 hkE
              injection e1 with e1 e2 e3
              injection e1 with e1
              injection e1 with e1 e4 e5
              subst e1 e4
              have htk2 : Bl.take (k + 1) = Bl.take k ++ [Bl[k]] := List.take_succ_eq_append_getElem hkE
              obtain ⟨y, hy⟩ : ∃ y, y = Bl[k] := ⟨_, rfl⟩
              rw [← hy] at hry htk2
              have HY : Hid (y.length = 32) := Lib.hid (by rw [hy]; exact LC.out.h32.at hkE)
              have hyE : Bl[k]? = some y := by rw [List.getElem?_eq_getElem hkE, hy]
              have HYS : Hid ((aget y (gr X)).isSome = true) := Lib.hid ((HWQ.out.1 (HT2.out.1 rfl).1).1 k y (by rw [List.getElem?_take, if_pos hki]; exact hyE)).1
              have HRY := Lib.hid hry
              have HRX := Lib.hid (hsr_kb HRC.out (mild_below CY.out))
              have hwj : IntKind.i64.wrap ((k : Int) + 1) = (k : Int) + 1 := IntWalk.i64_in _ (by have := HMB.out; have := LC.out.few; have := HIM.out; omega)
              have hb0 : (0 : Int) ≤ (k : Int) + 1 := by omega
              have hb1 : (k : Int) + 1 ≤ cb := by have := HCA.out; omega
              have hb3 : k ≤ k + 1 := by omega
              have hb4 : k + 1 - k = 1 := by omega
              have hb2 : ¬ cb = k := by have := HCA.out; have := HIM.out; omega
              have HTN : Hid (∀ t : Bool, (t = true ↔ ¬ Up (adj (gr X)) y x) → (t = true ↔ wq = true ∧ ∀ a ∈ Bl.take (k + 1), ¬ Up (adj (gr X)) a x)) := Lib.hid (fun t ht => by
                have h := HT2.out.1 rfl
                rw [ht, htk2]
                constructor
                · refine fun hu => ⟨h.1, fun a ha => ?_⟩
                  rcases List.mem_append.1 ha with ha | ha
                  · exact h.2 a ha
                  · rw [List.mem_singleton.1 ha]; exact hu
                · exact fun hu => hu.2 y (by simp))
              clear hkE e2 e3 e5 htk2 hy hry hyE hk hki
              go_wp2_with fail
              have CW : Hid (Below wc.heap.size wc wy.drew) := Lib.hid (CY.out.trans ((blw_qt _ 1 wy).mono CY.out.size))
              have bw : Below wy.heap.size wy wy.drew := blw_qt _ 1 wy
              have HRYw := Lib.hid (hsr_kb HRY.out (mild_below bw))
              have HRXw := Lib.hid (hsr_kb HRX.out (mild_below bw))
              clear bw
              try simp only [List.append]
              refine wp_region_noPanic ?_
              refine wp_region_held_drew (S := (fun V => (hld ⟨bb, ob + i * 32, none⟩).run Try.prog V = .ok (.agg (hv x)) V)) (by kernel_rfl) (hld_range HX.out HRXw.out) (fun hHeld => ?_)
              generalize wy.drew = cw at *
              refine wpAnyH_take (i := 0) (v := ?_) (by simp only [List.getElem?_toArray, List.getElem?_cons_zero]; rfl) (by kernel_rfl) (by kernel_rfl) (by kernel_rfl) (fun _ _ _ h => h) (Or.inl ⟨by rfl, ?_⟩) (by assumption) ?_
              rotate_left
              · intro w hSw
                try dsimp only at hSw
                go_simp
                try with_reducible rfl
              try simp only [Act.put, List.setIfInBounds_toArray, List.set_cons_zero, List.set_cons_succ]
              refine wpAnyH_take (i := 1) (v := ?_) (by simp only [List.getElem?_toArray, List.getElem?_cons_succ, List.getElem?_cons_zero]; rfl) (by kernel_rfl) (by kernel_rfl) (by kernel_rfl) (fun _ _ _ h => h) (Or.inl ⟨by rfl, ?_⟩) (by assumption) ?_
              rotate_left
              · intro w hSw
                try dsimp only at hSw
                go_simp
                try with_reducible rfl
              try simp only [Act.put, List.setIfInBounds_toArray, List.set_cons_zero, List.set_cons_succ]
              refine wpAnyH_take (i := 2) (v := ?_) (by simp only [List.getElem?_toArray, List.getElem?_cons_succ, List.getElem?_cons_zero]; rfl) (by kernel_rfl) (by kernel_rfl) (by kernel_rfl) (fun _ _ _ h => h) (Or.inl ⟨by rfl, ?_⟩) (by assumption) ?_
              rotate_left
              · intro w hSw
                try dsimp only at hSw
                go_simp
                try with_reducible rfl
              try simp only [Act.put, List.setIfInBounds_toArray, List.set_cons_zero, List.set_cons_succ]
              refine wpAnyH_take (i := 3) (v := ?_) (by simp only [List.getElem?_toArray, List.getElem?_cons_succ, List.getElem?_cons_zero]; rfl) (by kernel_rfl) (by kernel_rfl) (by kernel_rfl) (fun _ _ _ h => h) (Or.inl ⟨by rfl, ?_⟩) (by assumption) ?_
              rotate_left
              · intro w hSw
                try dsimp only at hSw
                go_simp
                try with_reducible rfl
              try simp only [Act.put, List.setIfInBounds_toArray, List.set_cons_zero, List.set_cons_succ]
              refine wpAnyH_take (i := 4) (v := ?_) (by simp only [List.getElem?_toArray, List.getElem?_cons_succ, List.getElem?_cons_zero]; rfl) (by kernel_rfl) (by kernel_rfl) (by kernel_rfl) (fun _ _ _ h => h) (Or.inl ⟨by rfl, ?_⟩) (by assumption) ?_
              rotate_left
              · intro w hSw
                try dsimp only at hSw
                go_simp
                try with_reducible rfl
              try simp only [Act.put, List.setIfInBounds_toArray, List.set_cons_zero, List.set_cons_succ]
              refine wpAnyH_take (i := 5) (v := ?_) (by simp only [List.getElem?_toArray, List.getElem?_cons_succ, List.getElem?_cons_zero]; rfl) (by kernel_rfl) (by kernel_rfl) (by kernel_rfl) (fun _ _ _ h => h) (Or.inl ⟨by rfl, ?_⟩) (by assumption) ?_
              rotate_left
              · intro w hSw
                try dsimp only at hSw
                go_simp
                try with_reducible rfl
              try simp only [Act.put, List.setIfInBounds_toArray, List.set_cons_zero, List.set_cons_succ]
              refine wpAnyH_take (i := 7) (v := ?_) (by simp only [List.getElem?_toArray, List.getElem?_cons_succ, List.getElem?_cons_zero]; rfl) (by kernel_rfl) (by kernel_rfl) (by kernel_rfl) (fun _ _ _ h => h) (Or.inl ⟨by rfl, ?_⟩) (by assumption) ?_
              rotate_left
              · intro w hSw
                try dsimp only at hSw
                go_simp
                try with_reducible rfl
              try simp only [Act.put, List.setIfInBounds_toArray, List.set_cons_zero, List.set_cons_succ]
              refine wpAnyH_take (i := 8) (v := ?_) (by simp only [List.getElem?_toArray, List.getElem?_cons_succ, List.getElem?_cons_zero]; rfl) (by kernel_rfl) (by kernel_rfl) (by kernel_rfl) (fun _ _ _ h => h) (Or.inl ⟨by rfl, ?_⟩) (by assumption) ?_
              rotate_left
              · intro w hSw
                try dsimp only at hSw
                go_simp
                try with_reducible rfl
              try simp only [Act.put, List.setIfInBounds_toArray, List.set_cons_zero, List.set_cons_succ]
              refine wpAnyH_take (i := 9) (v := ?_) (by simp only [List.getElem?_toArray, List.getElem?_cons_succ, List.getElem?_cons_zero]; rfl) (by kernel_rfl) (by kernel_rfl) (by kernel_rfl) (fun _ _ _ h => h) (Or.inl ⟨by rfl, ?_⟩) (by assumption) ?_
              rotate_left
              · intro w hSw
                try dsimp only at hSw
                go_simp
                try with_reducible rfl
              try simp only [Act.put, List.setIfInBounds_toArray, List.set_cons_zero, List.set_cons_succ]
              refine wpAnyH_take (i := 10) (v := ?_) (by simp only [List.getElem?_toArray, List.getElem?_cons_succ, List.getElem?_cons_zero]; rfl) (by kernel_rfl) (by kernel_rfl) (by kernel_rfl) (fun _ _ _ h => h) (Or.inl ⟨by rfl, ?_⟩) (by assumption) ?_
              rotate_left
              · intro w hSw
                try dsimp only at hSw
                go_simp
                try with_reducible rfl
              try simp only [Act.put, List.setIfInBounds_toArray, List.set_cons_zero, List.set_cons_succ]
              refine wpAnyH_ready (rs := [6]) (by kernel_rfl) (by simp) ?_
              refine AllReadyH.cons (by simp only [List.getElem?_toArray, List.getElem?_cons_succ, List.getElem?_cons_zero]; rfl) (fun K hK => ?_) AllReadyH.nil
              go_simp
              have HS1 : HSeen cw (.slice (some ⟨bb, ob + k * 32, none⟩) 1 (cb - k)) [y] := .inr ⟨⟨bb, ob + k * 32, none⟩, cb - k, rfl, by have := HCA.out; have := HIM.out; have := HKI.out; simp; omega, fun i u hu => by
                have h1 := HRYw.out i u (by simpa [fl] using hu)
                rw [Addr.add_lit]; exact h1⟩
              have KW := KC.out.kb CW.out
              refine (ranc_to cw rg p' n' c' T KW.r (.slice (some ⟨bb, ob + k * 32, none⟩) 1 (cb - k)) [y] HS1 (H32.one HY.out) KW.wft.clo (left_one (KC.out.kb CW.out).wft)).mono ?_
              clear HS1 KW
              rintro e cx ⟨vy, rfl, oy, b1⟩
              rw [← HEQ.out] at oy
              obtain ⟨py, ly, cyy, rfl, hly⟩ := own_sh oy
              have OY := Lib.hid (HSeen.own oy)
              have CX := Lib.hid (CW.out.trans (b1.mono CW.out.size))
              have HRXx := Lib.hid (hsr_kb HRXw.out (mild_below b1))
              clear hly oy b1
              go_wp2_with fail
              refine hK.out _ _ (hld_range HX.out HRXx.out) (fun hHeld => ?_)
              clear hK K
              try simp only [Act.put, List.setIfInBounds_toArray, List.set_cons_zero, List.set_cons_succ]
              refine wpAnyH_ready (rs := [11]) (by kernel_rfl) (by simp) ?_
              refine AllReadyH.cons (by simp only [List.getElem?_toArray, List.getElem?_cons_succ, List.getElem?_cons_zero]; rfl) (fun K hK => ?_) AllReadyH.nil
              go_simp
              refine (in_any cx (.slice py ly cyy) (ancs (gr X) [y]) x HX.out OY.out (fun z hz => keys_h32g HW.out z (List.mem_filter.1 hz).1) (Nat.le_trans (ancs_len _ _) (Nat.le_trans HW.out.few (by decide)))).mono ?_
              rintro e cz ⟨rfl, b2⟩
              have hup : (!decide (x ∈ ancs (gr X) [y])) = true ↔ ¬ Up (adj (gr X)) y x := by
                rw [Bool.not_eq_true', decide_eq_false_iff_not, ancs_mem HW.out.clo]
                refine not_congr ⟨fun ⟨z, hz, _, hu⟩ => by rw [List.mem_singleton.1 hz] at hu; exact hu, fun hu => ⟨y, by simp, HYS.out, hu⟩⟩
              obtain ⟨dx, hdx⟩ : ∃ dx, dx = decide (x ∈ ancs (gr X) [y]) := ⟨_, rfl⟩
              rw [← hdx] at hup ⊢
              have HTT := Lib.hid (HTN.out _ hup)
              have CZ := Lib.hid (CX.out.trans (b2.mono CX.out.size))
              have HRXz := Lib.hid (hsr_kb HRXx.out (mild_below b2))
              clear b2 hup hdx
              go_wp2_with fail
              refine hK.out _ _ (hld_range HX.out HRXz.out) (fun hHeld => ?_)
              clear hK K
              try simp only [Act.put, List.setIfInBounds_toArray, List.set_cons_zero, List.set_cons_succ]
              refine wpAnyH_take (i := 12) (v := ?_) (by simp only [List.getElem?_toArray, List.getElem?_cons_succ, List.getElem?_cons_zero]; rfl) (by kernel_rfl) (by kernel_rfl) (by kernel_rfl) (fun _ _ _ h => h) (Or.inl ⟨by rfl, ?_⟩) (by assumption) ?_
              rotate_left
              · intro w hSw
                try dsimp only at hSw
                go_simp
                try with_reducible rfl
              try simp only [Act.put, List.setIfInBounds_toArray, List.set_cons_zero, List.set_cons_succ]
              refine wpAnyH_take (i := 13) (v := ?_) (by simp only [List.getElem?_toArray, List.getElem?_cons_succ, List.getElem?_cons_zero]; rfl) (by kernel_rfl) (by kernel_rfl) (by kernel_rfl) (fun _ _ _ h => h) (Or.inl ⟨by rfl, ?_⟩) (by assumption) ?_
              rotate_left
              · intro w hSw
                try dsimp only at hSw
                go_simp
                try with_reducible rfl
              try simp only [Act.put, List.setIfInBounds_toArray, List.set_cons_zero, List.set_cons_succ]
              refine wpAnyH_done (by kernel_rfl) ?_ _
              refine NoPanic.normal ?_
              go_wp2_with fail
              refine ⟨⟨k + 1, !dx, rfl, congrArg _ (by first | rw [HJ1.out] | rfl), HKI.out, HTT, CZ⟩, ?_⟩
              first | exact meas_nv HKI.out HJ1.out | exact meas_nw HKI.out
          · obtain rfl : k = i := by omega
            have hkl : ¬ (k : Int) < k := by omega
            have HF : Hid (wt2 = true ↔ rising (gr X) (Bl.take (k + 1))) := Lib.hid (walk_want HTK.out HTL.out HT2.out HWQ.out (.inl rfl))
            clear hki hk
            go_wp2_with fail
            refine ⟨⟨k + 1, wt2, rfl, congrArg _ (by first | rw [HI1.out] | rfl), HIM.out, HF, CY⟩, ?_⟩
            first | exact meas_nv HIM.out HI1.out | exact meas_nw HIM.out
    · obtain rfl : i = mb := by omega
      have hjl : ¬ (i : Int) < i := by omega
      have HRF : Hid (wt = true ↔ rising (gr X) Bl) := Lib.hid (by have h := HRT.out; rwa [List.take_of_length_le (by rw [HMB.out]; exact Nat.le_refl _)] at h)
      have KZ := Lib.hid (KC.out.kb C.out)
      have LZ := Lib.hid (LC.out.kb C.out)
      clear hlt hi
      go_wp2_with fail
      refine (rising_to _ g bm X KZ.out.k.ga HW.out (.slice qb i cb) Bl LZ.out.seen LZ.out.h32 (Nat.le_trans LZ.out.few (by decide))).mono ?_
      rintro e wz ⟨bz, rfl, hb, bbz⟩
      obtain rfl : bz = wt := by rw [Bool.eq_iff_iff, hb, HRF.out]
      have BZ := Lib.hid (KZ.out.k.bel.trans (bbz.mono KZ.out.k.bel.size))
      clear hb bbz HRF HRT
      cases bz with
      | false =>
        go_wp2_with fail
        go_ret
        exact ⟨rfl, BZ.out⟩
      | true =>
        go_wp2_with fail
        go_ret
        exact ⟨rfl, BZ.out⟩
end Go.Proofs.Ythfkmfepeafgjaa
