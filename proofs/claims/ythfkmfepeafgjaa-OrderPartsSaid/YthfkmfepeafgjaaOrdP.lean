/- OrderParts' walk. No condition. -/
import Derived.Test.YthfkmfepeafgjaaOrdS
namespace Go.Proofs.Ythfkmfepeafgjaa
open Go.RowKit
open Go.Maps

theorem seen_tail {w : World} {p : Option Addr} {n cap d m : Nat} {E : List Key} (h : HSeen w (.slice p n cap) E) (h32 : H32 E) (hd : d ≤ n) (hm : n - d = m) : HSeen w (.slice (if cap = d then p else Option.map (fun x => x.add (d * 32)) p) m (cap - d)) (E.drop d) := by
  subst hm
  rcases h with ⟨h1, h2⟩ | ⟨a, c, h1, h2, h3⟩
  · injection h1 with e1 e2 e3
    subst e1 e2 e3 h2
    obtain rfl : d = 0 := by omega
    exact .inl ⟨rfl, rfl⟩
  · injection h1 with e1 e2 e3
    subst e1 e2 e3
    by_cases hc : cap = d
    · rw [if_pos hc]
      have : E.drop d = [] := List.drop_eq_nil_of_le (by omega)
      rw [this]
      exact .inr ⟨a, cap - d, by rw [show E.length - d = 0 by omega]; rfl, by simp, fun j u hj => by simp [fl] at hj⟩
    · rw [if_neg hc]
      refine .inr ⟨a.add (d * 32), cap - d, by rw [List.length_drop]; rfl, by rw [List.length_drop]; omega, fun j u hj => ?_⟩
      have h5 : (fl (E.take d)).length = d * 32 := by rw [fl_length (fun x hx => h32 x (List.mem_of_mem_take hx)), List.length_take]; omega
      have e : fl E = fl (E.take d) ++ fl (E.drop d) := by rw [← fl_app, List.take_append_drop]
      have h6 := h3 (d * 32 + j) u (by rw [e, List.getElem?_append_right (by omega), h5, Nat.add_sub_cancel_left]; exact hj)
      rw [Addr.add_add]
      exact h6
set_option linter.unusedSimpArgs false in
set_option maxRecDepth 20000 in
set_option maxHeartbeats 8000000 in
attribute [local go_sem ↓] hld_open in
theorem partsfn_to (w : World) (ab : Nat) (q : Option Addr) (m c : Nat) (A : List Key) (hc : w.heap[ab]? = some (.cells #[.slice q m c] 25 (0, 0))) (hs : HSeen w (.slice q m c) A) (h32 : H32 A) (hl : A.length ≤ 1000000) (h : Key) (hh : h.length = 32) :
    Calls Try.prog 27 #[.agg (hv h), .pointer (some ⟨ab, 0, none⟩)] w fun e w' => e = .returned (.bool (decide (h ∈ A))) ∧ Below w.heap.size w w' := by
  have BA := Lib.hid (below_al11 w (.cells (hv h) 28))
  have HB := Lib.hid (heap_alloc_last w (.cells (hv h) 28))
  have HC := Lib.hid ((mild_below BA.out).cells hc)
  have HS := Lib.hid (hs.mild (mild_below BA.out))
  have H3 := Lib.hid h32
  have HL := Lib.hid hl
  have HH := Lib.hid hh
  clear hc hs h32 hl hh
  go_enter Try.func27, Try.ntmps27
  go_upto_region 1 with fail
  generalize w.alloc (.cells (hv h) 28) = w0 at *
  generalize hb : w.heap.size = b at HB
  clear hb
  have hld0 := hld_row HH.out HB.out
  have hc0 := cell_obj HC.out 0 rfl
  go_wp2_with fail
  refine (in_any w0 (.slice q m c) A h HH.out HS.out H3.out HL.out).mono ?_
  rintro e w1 ⟨rfl, b1⟩
  have B1 := Lib.hid (BA.out.trans (b1.mono BA.out.size))
  clear b1
  go_wp2_with fail
  go_ret
  exact ⟨rfl, B1.out⟩
theorem parts_dn (w : World) (ab : Nat) (q : Option Addr) (m c : Nat) (A : List Key) (hc : w.heap[ab]? = some (.cells #[.slice q m c] 25 (0, 0))) (hs : HSeen w (.slice q m c) A) (h32 : H32 A) (hl : A.length ≤ 1000000) :
    Dn w (.func (.func 27) #[] #[.pointer (some ⟨ab, 0, none⟩)]) (fun h => decide (h ∈ A)) :=
  .inr ⟨_, _, rfl, fun args w => by kernel_rfl, fun V k h hh => partsfn_to V ab q m c A ((mild_below k).cells hc) (hs.mild (mild_below k)) h32 hl h hh⟩
/-- Walked in parts. -/
theorem two_parts {G : Gr} {L A B C : List Key} {k n m l : Nat} (v1 : VL G (fun _ => false) n [] ((L.take k).filter (hasB G)) A) (v2 : VL G (fun h => decide (h ∈ A)) m [] ((L.drop k).filter (hasB G)) B) (v3 : VL G (fun _ => false) l [] (L.filter (hasB G)) C) : A ++ B = C := by
  have h2 := v2.parts (a := A) (fun _ => rfl)
  rw [List.append_nil] at h2
  obtain ⟨N, h⟩ := v1.app h2
  rw [← List.filter_append, List.take_append_drop] at h
  exact h.det v3
set_option linter.unusedSimpArgs false in
set_option maxRecDepth 20000 in
set_option maxHeartbeats 8000000 in
attribute [local go_sem ↓] hld_open in
theorem parts_to (w : World) (p : Option Addr) (n cap : Nat) (E : List Rq) (hn : n = E.length) (hE : RqSeen w p E) (pH : Option Addr) (nH cH : Nat) (Hs : List Int) (hnH : nH = Hs.length) (hI : ISeen w (.slice pH nH cH) Hs) (cut : Int) :
    Calls Try.prog 7 #[.slice p n cap, .slice pH nH cH, .int .i64 cut] w fun e w' => e = .returned (.bool true) ∧ Below w.heap.size w w' := by
  have HBO := Lib.hid (both_to w p n cap E hn hE)
  have HNH := Lib.hid hnH
  have HI := Lib.hid hI
  clear hn hE hnH hI
  go_enter Try.func7, Try.ntmps7
  go_wp2_with fail
  refine HBO.out.mono ?_
  rintro e w1 ⟨g, bm, rg, X, p', n', c', T, rfl, kq⟩
  have B1 := Lib.hid kq.k.bel
  have G1 := Lib.hid kq.k.ga
  have HW := Lib.hid kq.wf
  clear kq HBO
  have hnp : ∀ w : World, (binOp .eql 22 (gp g) (.pointer none)).run Try.prog w = .ok (.bool false) w := fun w => by kernel_rfl
  go_wp2_with fail
  refine (known12_to w1).mono ?_
  rintro e w2 ⟨rfl, b2⟩
  have B2 := Lib.hid (B1.out.trans (b2.mono B1.out.size))
  have G2 := Lib.hid (G1.out.kb b2)
  clear b2 B1 G1
  have HHS := Lib.hid (lhashes_to w2 pH nH cH Hs HNH.out (HI.out.kb' B2.out) 8 (by decide))
  go_wp2_with fail
  refine HHS.out.mono ?_
  rintro e w3 ⟨vh, rfl, oh, b3⟩
  obtain ⟨q3, m3, c3, rfl, hm3⟩ := own_sh oh
  have hsL := HSeen.own oh
  have hl32 : H32 ((Hs.map hh).take 8) := fun x hx => hh_32 Hs x (List.mem_of_mem_take hx)
  have hll : ((Hs.map hh).take 8).length ≤ 8 := take_h
  generalize (Hs.map hh).take 8 = L at *
  have HSL := Lib.hid hsL
  have HM3 := Lib.hid hm3
  have HL32 := Lib.hid hl32
  have HLL := Lib.hid hll
  have B3 := Lib.hid (B2.out.trans (b3.mono B2.out.size))
  have G3 := Lib.hid (G2.out.kb b3)
  clear hm3 hsL hl32 hll oh b3 B2 G2 HHS
  have HPK : Hid (∃ k : Nat, k ≤ m3 ∧ cut % ((m3 : Int) + 1) = k) := Lib.hid ⟨(cut % ((m3 : Int) + 1)).toNat, by have := Int.emod_lt_of_pos cut (show (0 : Int) < (m3 : Int) + 1 by omega); have := Int.emod_nonneg cut (show (m3 : Int) + 1 ≠ 0 by omega); omega, by have := Int.emod_nonneg cut (show (m3 : Int) + 1 ≠ 0 by omega); omega⟩
  obtain ⟨k, hk, hke⟩ := HPK.out
  have hm8 : (m3 : Int) ≤ 8 := by have := HM3.out; have := HLL.out; omega
  have HPI := Lib.hid (pick_to w3 cut ((m3 : Int) + 1) k (by omega) (by omega) hke)
  have HK := Lib.hid hk
  clear HPK hke hk
  go_wp2_with fail
  refine HPI.out.mono ?_
  rintro e w4 ⟨rfl, rfl⟩
  have hmc : m3 ≤ c3 := by
    rcases HSL.out with ⟨h1, _⟩ | ⟨a, cap', h1, h2, _⟩
    · injection h1 with _ h1 h3; omega
    · injection h1 with _ h1 h3; omega
  have kb1 : (k : Int) ≤ c3 := by have := HK.out; omega
  have kb2 : (k : Int) ≤ m3 := by have := HK.out; omega
  have kb3 : k ≤ c3 := by have := HK.out; omega
  have kb4 : k ≤ m3 := HK.out
  have hk0 : (0 : Int) ≤ k := by omega
  have HTK : Hid (HSeen w3 (.slice q3 k c3) (L.take k)) := Lib.hid (by
    by_cases h0 : L.length = 0
    · have hk' : k = 0 := by have := HM3.out; omega
      have hL0 := List.eq_nil_of_length_eq_zero h0
      have hm0 : m3 = 0 := by have := HM3.out; omega
      have h := HSL.out
      rw [hL0, hm0] at h
      rw [hL0, hk']
      exact h
    · exact HSL.out.take (by have := HM3.out; omega) (by omega))
  have HWA := Lib.hid (walk_to w3 g bm X G3.out HW.out (.slice q3 k c3) (L.take k) HTK.out (fun x hx => HL32.out x (List.mem_of_mem_take hx)) (by rw [List.length_take]; have := HLL.out; omega) .nilFunc (fun _ => false) (Dn.none w3))
  clear HPI hm8
  go_wp2_with fail
  refine HWA.out.mono ?_
  rintro e w4 ⟨va, A, rfl, oa, ⟨NA, VA⟩, b4⟩
  obtain ⟨hri, hrs, hpb, ha32, hal⟩ := walked HW.out VA
  obtain ⟨qa, ma, ca, rfl, hma⟩ := own_sh oa
  have HVA := Lib.hid VA
  have HRI := Lib.hid hri
  have HA32 := Lib.hid ha32
  have HAL := Lib.hid hal
  have AL := below_al11 w4 (.cells #[.slice qa ma ca] 25)
  have B4 := Lib.hid (B3.out.trans ((b4.trans (AL.mono b4.size)).mono B3.out.size))
  have G4 := Lib.hid ((G3.out.kb b4).kb AL)
  have HS4 := Lib.hid ((HSL.out.mild (mild_below b4)).mild (mild_below AL))
  have HA4 := Lib.hid ((HSeen.own oa).mild (mild_below AL))
  have HC4 := Lib.hid (heap_alloc_last w4 (.cells #[.slice qa ma ca] 25))
  clear hri hrs hpb ha32 hal hma oa VA b4 B3 G3 HSL HWA AL HTK
  go_upto_region 7 with fail
  generalize w4.alloc (.cells #[.slice qa ma ca] 25) = w5 at *
  generalize w4.heap.size = ab at *
  have hmf : ∀ (fn : Fn) (first cap : Array Value) (w : World), (Instr.makeFunc fn first cap).run Try.prog w = .ok (.func fn first cap) w := fun _ _ _ _ => rfl
  have HDN := Lib.hid (parts_dn w5 ab qa ma ca A HC4.out HA4.out HA32.out (Nat.le_trans HAL.out (by decide)))
  have ht := seen_tail HS4.out HL32.out kb4 rfl
  obtain ⟨pd, hif⟩ : ∃ pd, (if c3 = k then q3 else Option.map (fun x => x.add (k * 32)) q3) = pd := ⟨_, rfl⟩
  rw [hif] at ht
  have HT := Lib.hid ht
  have HTD := HT
  clear ht
  go_wp2_with fail
  refine (walk_to w5 g bm X G4.out HW.out _ (L.drop k) HT.out (fun x hx => HL32.out x (List.mem_of_mem_drop hx)) (by rw [List.length_drop]; have := HLL.out; omega) _ (fun h => decide (h ∈ A)) HDN.out).mono ?_
  rintro e w6 ⟨vb, Y, rfl, ob, ⟨NB, VB⟩, b6⟩
  have hYi : ∀ x ∈ (L.drop k).filter (hasB (gr X)), (aget x (gr X)).isSome = true := fun x hx => (List.mem_filter.1 hx).2
  have HY32 : Hid (H32 Y) := Lib.hid (in_h32 (keys_h32 HW.out) (VB.inG HW.out.clo (fun _ h => by cases h) hYi))
  have HYL : Hid (Y.length ≤ 1000) := Lib.hid (vl_len HW.out VB hYi)
  obtain ⟨qb, mb, cb, rfl, hmb⟩ := own_sh ob
  have HVB := Lib.hid VB
  have HSB := Lib.hid (HSeen.own ob)
  have B6 := Lib.hid (B4.out.trans (b6.mono B4.out.size))
  have G6 := Lib.hid (G4.out.kb b6)
  have HS6 := Lib.hid (HS4.out.mild (mild_below b6))
  have HA6 := Lib.hid (HA4.out.mild (mild_below b6))
  have HC6 := Lib.hid ((mild_below b6).cells HC4.out)
  clear hYi hmb ob VB b6 B4 G4 HS4 HA4 HC4 HDN HT HTD
  have AL := Lib.hid (below_al11 w6 (.cells #[] 28))
  have O7 : Hid (HOwn (w6.alloc (.cells #[] 28)) w6.heap.size (.slice (some ⟨w6.heap.size, 0, none⟩) 0 0) []) := Lib.hid (own_empty w6 _ _ (Nat.le_refl _))
  have hc7 := cell_obj ((mild_below AL.out).cells HC6.out) 0 rfl
  go_wp2_with (first
    | (at_builtin; refine push_hash rfl _ _ rfl w6.heap.size (.slice q8 m8 c8) (.slice qb mb cb) A Y rfl O8.out rfl (HSB.out.mild (mild_below B8.out)) HY32.out (by have := HAL.out; have := HYL.out; omega) B8.out.size ?_; intro v9 w9 o9 oth9; have O9 := Lib.hid o9; have B9 := Lib.hid (B8.out.trans (oth9.below B8.out.size (fun k hk => own_from O8.out k hk))); clear o9 oth9; obtain ⟨q9, m9, c9, hv9, hn9⟩ := own_sh O9.out; subst hv9; clear hn9)
    | (at_builtin; refine push_hash rfl _ _ rfl w6.heap.size (.slice (some ⟨w6.heap.size, 0, none⟩) 0 0) (.slice qa ma ca) [] A rfl O7.out rfl (HA6.out.mild (mild_below AL.out)) HA32.out (by have := HAL.out; simp; omega) AL.out.size ?_; intro v8 w8 o8 oth8; rw [List.nil_append] at o8; have O8 := Lib.hid o8; have B8 := Lib.hid (AL.out.trans (oth8.below AL.out.size (fun k hk => own_from O7.out k hk))); clear o8 oth8; obtain ⟨q8, m8, c8, hv8, hn8⟩ := own_sh O8.out; subst hv8; clear hn8)
    | (refine push_empty_h rfl rfl ?_))
  have HSQ9 := Lib.hid (HSeen.own O9.out)
  have B9w := Lib.hid (B6.out.trans (B9.out.mono B6.out.size))
  have G9 := Lib.hid (G6.out.kb B9.out)
  have HS9 := Lib.hid (HS6.out.mild (mild_below B9.out))
  have HA9 := Lib.hid (HA6.out.mild (mild_below B9.out))
  have HC9 := Lib.hid ((mild_below B9.out).cells HC6.out)
  clear O7 O8 B8 AL hc7 B6 G6 HS6 HA6 HC6 HSB
  refine (walk_to w9 g bm X G9.out HW.out _ L HS9.out HL32.out (Nat.le_trans HLL.out (by decide)) .nilFunc (fun _ => false) (Dn.none w9)).mono ?_
  rintro e wa ⟨vc, Z, rfl, oz, ⟨NZ, VZ⟩, ba⟩
  obtain rfl : A ++ Y = Z := two_parts HVA.out HVB.out VZ
  obtain ⟨qz, mz, cz, rfl, hmz⟩ := own_sh oz
  have hs32 : H32 (A ++ Y) := HA32.out.app HY32.out
  have hsl : (A ++ Y).length ≤ 1000000 := by have := HAL.out; have := HYL.out; simp; omega
  have HSM := Lib.hid (same_two wa (.slice q9 m9 c9) (.slice qz mz cz) (A ++ Y) (A ++ Y) (HSQ9.out.mild (mild_below ba)) (HSeen.own oz) hs32 hs32 hsl hsl)
  have Ba := Lib.hid (B9w.out.trans (ba.mono B9w.out.size))
  have Ga := Lib.hid (G9.out.kb ba)
  have HAa := Lib.hid (HA9.out.mild (mild_below ba))
  have HCa := Lib.hid ((mild_below ba).cells HC9.out)
  clear hmz oz VZ hs32 hsl ba HSQ9 B9w G9 HS9 HA9 HC9 O9 B9
  go_wp2_with fail
  refine HSM.out.mono ?_
  rintro e wb ⟨rfl, nq, rfl⟩
  simp only [decide_true]
  have bq : Below wa.heap.size wa (wa.drewN nq) := blw_qt _ nq wa
  have Bb := Lib.hid (Ba.out.trans (bq.mono Ba.out.size))
  have Gb := Lib.hid (Ga.out.kb bq)
  have HAb := Lib.hid (HAa.out.mild (mild_below bq))
  have hcb := cell_obj ((mild_below bq).cells HCa.out) 0 rfl
  clear bq HSM Ba Ga HAa HCa
  generalize wa.drewN nq = wb at *
  go_wp2_with fail
  refine (rising_to wb g bm X Gb.out HW.out (.slice qa ma ca) A HAb.out HA32.out (Nat.le_trans HAL.out (by decide))).mono ?_
  rintro e wc ⟨b, rfl, hb, bc⟩
  obtain rfl : b = true := hb.2 HRI.out
  have Bc := Lib.hid (Bb.out.trans (bc.mono Bb.out.size))
  clear hb bc hcb
  go_wp2_with fail
  go_ret
  exact ⟨rfl, Bc.out⟩
end Go.Proofs.Ythfkmfepeafgjaa
