/- OrderKnown's walk. No condition. -/
import Derived.Test.YthfkmfepeafgjaaOrdF
namespace Go.Proofs.Ythfkmfepeafgjaa
open Go.RowKit
open Go.Maps

set_option linter.unusedSimpArgs false in
set_option maxRecDepth 20000 in
theorem walknil_to (w : World) (v fv : Value) : Calls Try.prog 10 #[.pointer none, v, fv] w fun e w' => e = .returned (.slice none 0 0) ∧ w' = w := by
  have hnp : ∀ w : World, (binOp .eql 22 (.pointer none) (.pointer none)).run Try.prog w = .ok (.bool true) w := fun w => by kernel_rfl
  go_enter Try.func10, Try.ntmps10
  go_wp2
  go_ret
  exact ⟨rfl, rfl⟩
/-- What the example says of its hashes, and of one more. -/
structure Kh (a b c d e : Key) : Prop where
  f : Kf a b c d
  le : e.length = 32
  b9 : Try.prog.built 28 [(0, .int .u8 9)] = some (hv e)
  vl : ∃ N, VL (gr4 a b c d) (fun h => decide (h = a)) N [] ([c, e, d, c].filter (hasB (gr4 a b c d))) [c, b, d]
  r1 : rising (gr4 a b c d) [c, b, d]
  n1 : ¬ rising (gr4 a b c d) [d, b]
  n2 : ¬ rising (gr4 a b c d) [b, b]
  n3 : ¬ rising (gr4 a b c d) [e]
theorem kh_vl : ∃ N, VL (gr4 (kn 1) (kn 2) (kn 3) (kn 4)) (fun h => decide (h = kn 1)) N [] ([kn 3, kn 9, kn 4, kn 3].filter (hasB (gr4 (kn 1) (kn 2) (kn 3) (kn 4)))) [kn 3, kn 2, kn 4] := by
  have a4 : adj (gr4 (kn 1) (kn 2) (kn 3) (kn 4)) (kn 4) = [kn 2, kn 3] := by decide
  have a3 : adj (gr4 (kn 1) (kn 2) (kn 3) (kn 4)) (kn 3) = [kn 1] := by decide
  have a2 : adj (gr4 (kn 1) (kn 2) (kn 3) (kn 4)) (kn 2) = [kn 1] := by decide
  rw [show [kn 3, kn 9, kn 4, kn 3].filter (hasB (gr4 (kn 1) (kn 2) (kn 3) (kn 4))) = [kn 3, kn 4, kn 3] by decide]
  generalize gr4 (kn 1) (kn 2) (kn 3) (kn 4) = G at *
  obtain ⟨n3, v3⟩ : ∃ n, VL G (fun h => decide (h = kn 1)) n [] (adj G (kn 3)) [] := by rw [a3]; exact ⟨_, .skip (.inr (by decide)) (.nil _)⟩
  obtain ⟨n2, v2⟩ : ∃ n, VL G (fun h => decide (h = kn 1)) n [kn 3] (adj G (kn 2)) [kn 3] := by rw [a2]; exact ⟨_, .skip (.inr (by decide)) (.nil _)⟩
  obtain ⟨n4, v4⟩ : ∃ n, VL G (fun h => decide (h = kn 1)) n [kn 3] (adj G (kn 4)) [kn 3, kn 2] := by rw [a4]; exact ⟨_, .go (by decide) (by decide) v2 (.skip (.inl (by decide)) (.nil _))⟩
  exact ⟨_, .go (by decide) (by decide) v3 (.go (o := [kn 3]) (by decide) (by decide) v4 (.skip (.inl (by decide)) (.nil _)))⟩
theorem kh_r1 : rising (gr4 (kn 1) (kn 2) (kn 3) (kn 4)) [kn 3, kn 2, kn 4] := by
  have up1 : ∀ x, kn 1 ≠ x → ¬ Up (adj (gr4 (kn 1) (kn 2) (kn 3) (kn 4))) (kn 1) x := fun x h => no_up0 (by decide) h
  have up2 : ∀ x, kn 1 ≠ x → kn 2 ≠ x → ¬ Up (adj (gr4 (kn 1) (kn 2) (kn 3) (kn 4))) (kn 2) x := fun x h h2 => no_up1 (by decide) h2 (up1 x h)
  have up3 : ∀ x, kn 1 ≠ x → kn 3 ≠ x → ¬ Up (adj (gr4 (kn 1) (kn 2) (kn 3) (kn 4))) (kn 3) x := fun x h h2 => no_up1 (by decide) h2 (up1 x h)
  intro i x hx
  match i, hx with
  | 0, hx =>
    obtain rfl : kn 3 = x := by simpa using hx
    exact ⟨by decide, fun a ha => by simp at ha⟩
  | 1, hx =>
    obtain rfl : kn 2 = x := by simpa using hx
    refine ⟨by decide, fun a ha => ?_⟩
    obtain rfl : a = kn 3 := by simpa using ha
    exact up3 _ (by decide) (by decide)
  | 2, hx =>
    obtain rfl : kn 4 = x := by simpa using hx
    refine ⟨by decide, fun a ha => ?_⟩
    have ha' : a = kn 3 ∨ a = kn 2 := by simpa using ha
    rcases ha' with rfl | rfl
    · exact up3 _ (by decide) (by decide)
    · exact up2 _ (by decide) (by decide)
  | i + 3, hx => simp at hx
theorem kh_n1 : ¬ rising (gr4 (kn 1) (kn 2) (kn 3) (kn 4)) [kn 4, kn 2] := rising_bad (i := 1) (x := kn 2) rfl (.inr ⟨kn 4, by simp, Up.one (by decide)⟩)
theorem kh_n2 : ¬ rising (gr4 (kn 1) (kn 2) (kn 3) (kn 4)) [kn 2, kn 2] := rising_bad (i := 1) (x := kn 2) rfl (.inr ⟨kn 2, by simp, .refl _⟩)
theorem kh_n3 : ¬ rising (gr4 (kn 1) (kn 2) (kn 3) (kn 4)) [kn 9] := rising_bad (i := 0) (x := kn 9) rfl (.inl (by decide))
theorem kh : Kh (kn 1) (kn 2) (kn 3) (kn 4) (kn 9) := ⟨kf, rfl, kn_built 9, kh_vl, kh_r1, kh_n1, kh_n2, kh_n3⟩
set_option linter.unusedSimpArgs false in
set_option maxRecDepth 20000 in
set_option maxHeartbeats 8000000 in
attribute [local go_sem ↓] hld_open heq_open in
theorem knownfn_to (w : World) (a : Key) (ha : a.length = 32) (hb : Try.prog.built 28 [(0, .int .u8 1)] = some (hv a)) (h : Key) (hh : h.length = 32) :
    Calls Try.prog 11 #[.agg (hv h)] w fun e w' => e = .returned (.bool (decide (h = a))) ∧ Below w.heap.size w w' := by
  have BA := Lib.hid (below_al11 w (.cells (hv h) 28))
  have HB := Lib.hid (heap_alloc_last w (.cells (hv h) 28))
  have HH := Lib.hid hh
  have HA := Lib.hid ha
  have HBU := Lib.hid hb
  obtain ⟨dd, hdd⟩ : ∃ dd, dd = decide (h = a) := ⟨_, rfl⟩
  rw [← hdd]
  have HD := Lib.hid hdd
  clear ha hb hh hdd
  go_enter Try.func11, Try.ntmps11
  go_upto_region 1 with fail
  generalize w.alloc (.cells (hv h) 28) = w0 at *
  generalize hb : w.heap.size = b at HB
  clear hb
  have hld0 := hld_row HH.out HB.out
  have heq0 := heq_hv HH.out HA.out w0
  rw [← HD.out] at heq0
  go_wp2_with (refine build_w (vals := #[(0, .int .u8 1)]) HBU.out ?hv ?hw ?_; (case hv => first | rfl | simp [Act.put, Act.eval]); (case hw => first | rfl | simp [Region.wanted, yielded]))
  go_ret
  exact ⟨rfl, BA.out⟩
theorem known_dn (w : World) (a : Key) (ha : a.length = 32) (hb : Try.prog.built 28 [(0, .int .u8 1)] = some (hv a)) :
    Dn w (.func (.func 11) #[] #[]) (fun h => decide (h = a)) :=
  .inr ⟨_, _, rfl, fun args w => by kernel_rfl, fun V _ h hh => knownfn_to V a ha hb h hh⟩
set_option linter.unusedSimpArgs false in
set_option maxRecDepth 20000 in
set_option maxHeartbeats 8000000 in
attribute [local go_sem ↓] hld_open heq_open in
theorem orderknown_gen (a b c d e9 : Key) (hk : Kh a b c d e9) (w : World) : Calls Try.prog 3 #[] w fun e w' => e = .returned (.bool true) ∧ Below w.heap.size w w' := by
  have HK := Lib.hid hk
  clear hk
  go_enter Try.func3, Try.ntmps3
  go_wp2_with fail
  refine (four_gen a b c d HK.out.f w).mono ?_
  rintro e w1 ⟨gb, mb, X, rfl, k1, hX⟩
  have K1 := Lib.hid k1
  have HX := Lib.hid hX
  have HWX := Lib.hid (wf4 HK.out.f hX)
  clear k1 hX
  have hnp : ∀ w : World, (binOp .eql 22 (gp gb) (.pointer none)).run Try.prog w = .ok (.bool false) w := fun w => by kernel_rfl
  go_wp2_with fail
  refine (known12_to w1).mono ?_
  rintro e w2 ⟨rfl, b2⟩
  have K2 := Lib.hid (K1.out.kb b2)
  clear b2 K1
  have h4 : H32 [c, e9, d, c] := fun x hx => by
    simp only [List.mem_cons, List.not_mem_nil, or_false] at hx
    rcases hx with rfl | rfl | rfl | rfl
    · exact HK.out.f.lc
    · exact HK.out.le
    · exact HK.out.f.ld
    · exact HK.out.f.lc
  have H4 := Lib.hid h4
  have HDN := Lib.hid (known_dn (w2.alloc (.cells (fl [c, e9, d, c]).toArray 28)) a HK.out.f.la HK.out.f.b1)
  clear h4
  go_wp2_with (first
    | (refine build_w (vals := #[(0, .int .u8 3)]) HK.out.f.b3 ?hv ?hw ?_; (case hv => first | rfl | simp [Act.put, Act.eval]); (case hw => first | rfl | simp [Region.wanted, yielded]))
    | (refine build_w (vals := #[(0, .int .u8 9)]) HK.out.b9 ?hv ?hw ?_; (case hv => first | rfl | simp [Act.put, Act.eval]); (case hw => first | rfl | simp [Region.wanted, yielded]))
    | (refine build_w (vals := #[(0, .int .u8 4)]) HK.out.f.b4 ?hv ?hw ?_; (case hv => first | rfl | simp [Act.put, Act.eval]); (case hw => first | rfl | simp [Region.wanted, yielded]))
    | (refine slice_w (E := [c, e9, d, c]) H4.out rfl (by simp) (by simp) ?hv ?hw ?_; (case hv => first | rfl | simp [Act.put, Act.eval]); (case hw => first | rfl | simp [Region.wanted, yielded])))
  refine (walk_to _ gb mb X (K2.out.al _).ga HWX.out (.slice (some ⟨w2.heap.size, 0, none⟩) 4 4) [c, e9, d, c] (hseen_new (heap_alloc_last w2 _) 4 rfl) H4.out (by simp) (.func (.func 11) #[] #[]) (fun h => decide (h = a)) HDN.out).mono ?_
  rintro e w3 ⟨v3, o3, rfl, ho, ⟨N, hv3⟩, b3⟩
  rw [HX.out] at hv3
  have ho3 : o3 = [c, b, d] := by obtain ⟨M, u⟩ := HK.out.vl; exact hv3.det u
  subst ho3
  obtain ⟨q3, m3, c3, rfl, hn3⟩ := own_sh ho
  have HS3 := Lib.hid (HSeen.own ho)
  have K3 := Lib.hid ((K2.out.al (.cells (fl [c, e9, d, c]).toArray 28)).kb b3)
  clear hn3 hv3 ho b3 K2 HDN
  have HR : Hid (H32 [c, b, d]) := Lib.hid (fun x hx => HK.out.f.l4 x (by simp only [List.mem_cons, List.not_mem_nil, or_false] at hx ⊢; rcases hx with h | h | h <;> simp [h]))
  go_wp2_with (first
    | (refine build_w (vals := #[(0, .int .u8 3)]) HK.out.f.b3 ?hv ?hw ?_; (case hv => first | rfl | simp [Act.put, Act.eval]); (case hw => first | rfl | simp [Region.wanted, yielded]))
    | (refine build_w (vals := #[(0, .int .u8 2)]) HK.out.f.b2 ?hv ?hw ?_; (case hv => first | rfl | simp [Act.put, Act.eval]); (case hw => first | rfl | simp [Region.wanted, yielded]))
    | (refine build_w (vals := #[(0, .int .u8 4)]) HK.out.f.b4 ?hv ?hw ?_; (case hv => first | rfl | simp [Act.put, Act.eval]); (case hw => first | rfl | simp [Region.wanted, yielded]))
    | (refine slice_w (E := [c, b, d]) HR.out rfl (by simp) (by simp) ?hv ?hw ?_; (case hv => first | rfl | simp [Act.put, Act.eval]); (case hw => first | rfl | simp [Region.wanted, yielded])))
  refine (same_two _ (.slice q3 m3 c3) (.slice (some ⟨w3.heap.size, 0, none⟩) 3 3) [c, b, d] [c, b, d] (HS3.out.mild (mild_below (below_al11 w3 _))) (hseen_new (heap_alloc_last w3 _) 3 rfl) HR.out HR.out (by simp) (by simp)).mono ?_
  rintro e w4 ⟨rfl, nq, rfl⟩
  simp only [decide_true]
  have B4 := (below_al11 w3 (.cells (fl [c, b, d]).toArray 28)).trans (blw_qt _ nq (w3.alloc (.cells (fl [c, b, d]).toArray 28)))
  have K4 := Lib.hid (K3.out.kb B4)
  have HS4 := Lib.hid (HS3.out.mild (mild_below B4))
  clear B4 K3 HS3
  generalize (w3.alloc (.cells (fl [c, b, d]).toArray 28)).drewN nq = w4 at *
  go_wp2_with (first
    | (refine build_w (vals := #[(0, .int .u8 4)]) HK.out.f.b4 ?hv ?hw ?_; (case hv => first | rfl | simp [Act.put, Act.eval]); (case hw => first | rfl | simp [Region.wanted, yielded]))
    | (refine slice_w (E := [d]) (H32.one HK.out.f.ld) rfl (by simp) (by simp) ?hv ?hw ?_; (case hv => first | rfl | simp [Act.put, Act.eval]); (case hw => first | rfl | simp [Region.wanted, yielded])))
  refine (walknil_to _ _ _).mono ?_
  rintro e w5 ⟨rfl, rfl⟩
  have K5 := Lib.hid (K4.out.al (.cells (fl [d]).toArray 28))
  have HS5 := Lib.hid (HS4.out.mild (mild_below (below_al11 w4 (.cells (fl [d]).toArray 28))))
  clear K4 HS4
  generalize w4.alloc (.cells (fl [d]).toArray 28) = w5 at *
  go_wp2_with fail
  refine (rising_to w5 gb mb X K5.out.ga HWX.out (.slice q3 m3 c3) [c, b, d] HS5.out HR.out (by simp)).mono ?_
  rintro e w6 ⟨t1, rfl, hb, b6⟩
  obtain rfl : t1 = true := hb.2 (by rw [HX.out]; exact HK.out.r1)
  have K6 := Lib.hid (K5.out.kb b6)
  clear hb b6 K5 HS5
  go_wp2_with (first
    | (refine build_w (vals := #[(0, .int .u8 4)]) HK.out.f.b4 ?hv ?hw ?_; (case hv => first | rfl | simp [Act.put, Act.eval]); (case hw => first | rfl | simp [Region.wanted, yielded]))
    | (refine build_w (vals := #[(0, .int .u8 2)]) HK.out.f.b2 ?hv ?hw ?_; (case hv => first | rfl | simp [Act.put, Act.eval]); (case hw => first | rfl | simp [Region.wanted, yielded]))
    | (refine slice_w (E := [d, b]) (h32_two HK.out.f.ld HK.out.f.lb) rfl (by simp) (by simp) ?hv ?hw ?_; (case hv => first | rfl | simp [Act.put, Act.eval]); (case hw => first | rfl | simp [Region.wanted, yielded])))
  refine (rising_to _ gb mb X (K6.out.al _).ga HWX.out (.slice (some ⟨w6.heap.size, 0, none⟩) 2 2) [d, b] (hseen_new (heap_alloc_last w6 _) 2 rfl) (h32_two HK.out.f.ld HK.out.f.lb) (by simp)).mono ?_
  rintro e w7 ⟨t7, rfl, hb, bb⟩
  obtain rfl : t7 = false := by
    cases t7 with
    | false => rfl
    | true => exact absurd (hb.1 rfl) (by rw [HX.out]; exact HK.out.n1)
  have K7 := Lib.hid ((K6.out.al (.cells (fl [d, b]).toArray 28)).kb bb)
  clear hb bb K6
  go_wp2_with (first
    | (refine build_w (vals := #[(0, .int .u8 2)]) HK.out.f.b2 ?hv ?hw ?_; (case hv => first | rfl | simp [Act.put, Act.eval]); (case hw => first | rfl | simp [Region.wanted, yielded]))
    | (refine slice_w (E := [b, b]) (h32_two HK.out.f.lb HK.out.f.lb) rfl (by simp) (by simp) ?hv ?hw ?_; (case hv => first | rfl | simp [Act.put, Act.eval]); (case hw => first | rfl | simp [Region.wanted, yielded])))
  refine (rising_to _ gb mb X (K7.out.al _).ga HWX.out (.slice (some ⟨w7.heap.size, 0, none⟩) 2 2) [b, b] (hseen_new (heap_alloc_last w7 _) 2 rfl) (h32_two HK.out.f.lb HK.out.f.lb) (by simp)).mono ?_
  rintro e w8 ⟨t8, rfl, hb, bb⟩
  obtain rfl : t8 = false := by
    cases t8 with
    | false => rfl
    | true => exact absurd (hb.1 rfl) (by rw [HX.out]; exact HK.out.n2)
  have K8 := Lib.hid ((K7.out.al (.cells (fl [b, b]).toArray 28)).kb bb)
  clear hb bb K7
  go_wp2_with (first
    | (refine build_w (vals := #[(0, .int .u8 9)]) HK.out.b9 ?hv ?hw ?_; (case hv => first | rfl | simp [Act.put, Act.eval]); (case hw => first | rfl | simp [Region.wanted, yielded]))
    | (refine slice_w (E := [e9]) (H32.one HK.out.le) rfl (by simp) (by simp) ?hv ?hw ?_; (case hv => first | rfl | simp [Act.put, Act.eval]); (case hw => first | rfl | simp [Region.wanted, yielded])))
  refine (rising_to _ gb mb X (K8.out.al _).ga HWX.out (.slice (some ⟨w8.heap.size, 0, none⟩) 1 1) [e9] (hseen_new (heap_alloc_last w8 _) 1 rfl) (H32.one HK.out.le) (by simp)).mono ?_
  rintro e w9 ⟨t9, rfl, hb, bb⟩
  obtain rfl : t9 = false := by
    cases t9 with
    | false => rfl
    | true => exact absurd (hb.1 rfl) (by rw [HX.out]; exact HK.out.n3)
  have K9 := Lib.hid ((K8.out.al (.cells (fl [e9]).toArray 28)).kb bb)
  clear hb bb K8
  go_wp2_with fail
  refine (rising_to w9 gb mb X K9.out.ga HWX.out (.slice none 0 0) [] (.inl ⟨rfl, rfl⟩) H32.nil (by simp)).mono ?_
  rintro e wz ⟨tz, rfl, hb, bb⟩
  obtain rfl : tz = true := hb.2 (fun i x hx => by simp at hx)
  have KZ := Lib.hid (K9.out.kb bb)
  clear hb bb K9
  go_wp2_with fail
  go_ret
  exact ⟨rfl, KZ.out.bel⟩
theorem orderknown_to (w : World) : Calls Try.prog 3 #[] w fun e w' => e = .returned (.bool true) ∧ Below w.heap.size w w' := orderknown_gen _ _ _ _ _ kh w
end Go.Proofs.Ythfkmfepeafgjaa
