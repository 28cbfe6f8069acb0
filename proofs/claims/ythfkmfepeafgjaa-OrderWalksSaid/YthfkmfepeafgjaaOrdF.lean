/- four, known: the document's example of an order. -/
import Derived.Test.YthfkmfepeafgjaaOrdR
import Derived.Test.YthfkmfepeafgjaaGphKn
import Derived.Test.YthfkmfepeafgjaaHexSm
namespace Go.Proofs.Ythfkmfepeafgjaa
open Go.RowKit
open Go.Maps

theorem three_rows (W : World) (E F K : List Key) : (((W.alloc (.cells (fl E).toArray 28)).alloc (.cells (fl F).toArray 28)).alloc (.cells (fl K).toArray 28)).heap[W.heap.size]? = some (.cells (fl E).toArray 28 (0, 0)) ∧
    (((W.alloc (.cells (fl E).toArray 28)).alloc (.cells (fl F).toArray 28)).alloc (.cells (fl K).toArray 28)).heap[W.heap.size + 1]? = some (.cells (fl F).toArray 28 (0, 0)) ∧
    (((W.alloc (.cells (fl E).toArray 28)).alloc (.cells (fl F).toArray 28)).alloc (.cells (fl K).toArray 28)).heap[W.heap.size + 1 + 1]? = some (.cells (fl K).toArray 28 (0, 0)) := by
  have h := two_rows W E F
  have h3 := heap_alloc_last ((W.alloc (.cells (fl E).toArray 28)).alloc (.cells (fl F).toArray 28)) (.cells (fl K).toArray 28)
  rw [al_size, al_size] at h3
  have m := mild_below (below_al11 ((W.alloc (.cells (fl E).toArray 28)).alloc (.cells (fl F).toArray 28)) (.cells (fl K).toArray 28))
  exact ⟨m.cells h.1, m.cells h.2, h3⟩
theorem no_up0 {f : Key → List Key} {a b : Key} (h : f a = []) (hne : a ≠ b) : ¬ Up f a b := fun k => by
  cases k with
  | refl => exact hne rfl
  | step h1 _ => rw [h] at h1; cases h1
theorem no_up1 {f : Key → List Key} {a b x : Key} (h : f a = [x]) (hne : a ≠ b) (hx : ¬ Up f x b) : ¬ Up f a b := fun k => by
  cases k with
  | refl => exact hne rfl
  | step h1 h2 => rw [h, List.mem_singleton] at h1; rw [h1] at h2; exact hx h2
/-- The example's graph, and what is added to make it. -/
def gr4 (a b c d : Key) : Gr := [(a, []), (b, [a]), (c, [a]), (d, [b, c])]
def cs4 (a b c d : Key) : List Cm := [(d, [b, c]), (b, [a]), (c, [a]), (a, [])]
/-- What the example says of its hashes. -/
structure Kf (a b c d : Key) : Prop where
  la : a.length = 32
  lb : b.length = 32
  lc : c.length = 32
  ld : d.length = 32
  b1 : Try.prog.built 28 [(0, .int .u8 1)] = some (hv a)
  b2 : Try.prog.built 28 [(0, .int .u8 2)] = some (hv b)
  b3 : Try.prog.built 28 [(0, .int .u8 3)] = some (hv c)
  b4 : Try.prog.built 28 [(0, .int .u8 4)] = some (hv d)
  fi : chk [] 2 (cs4 a b c d) [] = none
  gi : adds [] (cs4 a b c d) = gr4 a b c d
  ok : COk (cs4 a b c d)
  vl : ∃ N, VL (gr4 a b c d) (fun _ => false) N [] ([d].filter (hasB (gr4 a b c d))) [a, b, c, d]
theorem Kf.l4 {a b c d : Key} (h : Kf a b c d) : H32 [a, b, c, d] := fun x hx => by
  simp only [List.mem_cons, List.not_mem_nil, or_false] at hx
  rcases hx with rfl | rfl | rfl | rfl
  · exact h.la
  · exact h.lb
  · exact h.lc
  · exact h.ld
theorem kf_fi : chk [] 2 (cs4 (kn 1) (kn 2) (kn 3) (kn 4)) [] = none := by
  refine chk_fine.2 ⟨by decide, by decide, by decide, by decide, by decide, ?_, by decide⟩
  have up1 : ∀ x, kn 1 ≠ x → ¬ Up (adj (addA [] [] (cs4 (kn 1) (kn 2) (kn 3) (kn 4)))) (kn 1) x := fun x h => no_up0 (by decide) h
  have up2 : ∀ x, kn 1 ≠ x → kn 2 ≠ x → ¬ Up (adj (addA [] [] (cs4 (kn 1) (kn 2) (kn 3) (kn 4)))) (kn 2) x := fun x h h2 => no_up1 (by decide) h2 (up1 x h)
  have up3 : ∀ x, kn 1 ≠ x → kn 3 ≠ x → ¬ Up (adj (addA [] [] (cs4 (kn 1) (kn 2) (kn 3) (kn 4)))) (kn 3) x := fun x h h2 => no_up1 (by decide) h2 (up1 x h)
  generalize addA [] [] (cs4 (kn 1) (kn 2) (kn 3) (kn 4)) = A at *
  have h4 : ¬ ∃ p ∈ [kn 2, kn 3], Up (adj A) p (kn 4) := fun ⟨p, hp, h⟩ => by
    simp only [List.mem_cons, List.not_mem_nil, or_false] at hp
    rcases hp with rfl | rfl
    · exact up2 _ (by decide) (by decide) h
    · exact up3 _ (by decide) (by decide) h
  have h2 : ¬ ∃ p ∈ [kn 1], Up (adj A) p (kn 2) := fun ⟨p, hp, h⟩ => by
    rw [List.mem_singleton.1 hp] at h; exact up1 _ (by decide) h
  have h3 : ¬ ∃ p ∈ [kn 1], Up (adj A) p (kn 3) := fun ⟨p, hp, h⟩ => by
    rw [List.mem_singleton.1 hp] at h; exact up1 _ (by decide) h
  unfold cs4
  rw [ck6, if_neg h4, ck6, if_neg h2, ck6, if_neg h3, ck6, if_neg (fun ⟨p, hp, _⟩ => by cases hp)]
  rfl
theorem kf_vl : ∃ N, VL (gr4 (kn 1) (kn 2) (kn 3) (kn 4)) (fun _ => false) N [] ([kn 4].filter (hasB (gr4 (kn 1) (kn 2) (kn 3) (kn 4)))) [kn 1, kn 2, kn 3, kn 4] := by
  have a4 : adj (gr4 (kn 1) (kn 2) (kn 3) (kn 4)) (kn 4) = [kn 2, kn 3] := by decide
  have a3 : adj (gr4 (kn 1) (kn 2) (kn 3) (kn 4)) (kn 3) = [kn 1] := by decide
  have a2 : adj (gr4 (kn 1) (kn 2) (kn 3) (kn 4)) (kn 2) = [kn 1] := by decide
  have a1 : adj (gr4 (kn 1) (kn 2) (kn 3) (kn 4)) (kn 1) = [] := by decide
  rw [show [kn 4].filter (hasB (gr4 (kn 1) (kn 2) (kn 3) (kn 4))) = [kn 4] by decide]
  generalize gr4 (kn 1) (kn 2) (kn 3) (kn 4) = G at *
  obtain ⟨n1, v1⟩ : ∃ n, VL G (fun _ => false) n [] (adj G (kn 2)) [kn 1] := by rw [a2]; exact ⟨_, .go (by decide) rfl (by rw [a1]; exact .nil []) (.nil _)⟩
  obtain ⟨n3, v3⟩ : ∃ n, VL G (fun _ => false) n [kn 1, kn 2] (adj G (kn 3)) [kn 1, kn 2] := by rw [a3]; exact ⟨_, .skip (.inl (by decide)) (.nil _)⟩
  obtain ⟨n2, v2⟩ : ∃ n, VL G (fun _ => false) n [] (adj G (kn 4)) [kn 1, kn 2, kn 3] := by rw [a4]; exact ⟨_, .go (by decide) rfl v1 (.go (o := [kn 1, kn 2]) (by decide) rfl v3 (.nil _))⟩
  exact ⟨_, .go (by decide) rfl v2 (.nil _)⟩
theorem kf_ok : COk (cs4 (kn 1) (kn 2) (kn 3) (kn 4)) := fun c hc => by
  simp only [cs4, List.mem_cons, List.not_mem_nil, or_false] at hc
  rcases hc with rfl | rfl | rfl | rfl
  · exact ⟨rfl, h32_two rfl rfl⟩
  · exact ⟨rfl, H32.one rfl⟩
  · exact ⟨rfl, H32.one rfl⟩
  · exact ⟨rfl, H32.nil⟩
theorem kf : Kf (kn 1) (kn 2) (kn 3) (kn 4) := ⟨rfl, rfl, rfl, rfl, kn_built 1, kn_built 2, kn_built 3, kn_built 4, kf_fi, by decide, kf_ok, kf_vl⟩
set_option linter.unusedSimpArgs false in
set_option maxRecDepth 20000 in
set_option maxHeartbeats 8000000 in
attribute [local go_sem ↓] hld_open heq_open in
theorem four_gen (a b c d : Key) (hk : Kf a b c d) (w : World) : Calls Try.prog 8 #[] w fun e w' => ∃ g bm X, e = .returned (gp g) ∧ Ks w w' [] g bm X [] ∧ gr X = gr4 a b c d := by
  have HK := Lib.hid hk
  clear hk
  go_enter Try.func8, Try.ntmps8
  go_wp2_with fail
  refine (new_to w).mono ?_
  rintro e w1 ⟨rfl, g1, b1⟩
  have K1 : Hid (Ks w w1 [] (w.heap.size + 1) w.heap.size [] []) := Lib.hid (Ks.mk b1 (fun _ h => nomatch h) g1 (Nat.le_refl _) (fun _ h => nomatch h))
  clear b1 g1
  generalize w.heap.size + 1 = gb at *
  generalize hmb : w.heap.size = mb at K1
  clear hmb
  have hnp : ∀ w : World, (binOp .eql 22 (gp gb) (.pointer none)).run Try.prog w = .ok (.bool false) w := fun w => by kernel_rfl
  go_wp2_with (first
    | (refine build_w (vals := #[(0, .int .u8 1)]) HK.out.b1 ?hv ?hw ?_; (case hv => first | rfl | simp [Act.put, Act.eval]); (case hw => first | rfl | simp [Region.wanted, yielded]))
    | (refine build_w (vals := #[(0, .int .u8 2)]) HK.out.b2 ?hv ?hw ?_; (case hv => first | rfl | simp [Act.put, Act.eval]); (case hw => first | rfl | simp [Region.wanted, yielded]))
    | (refine build_w (vals := #[(0, .int .u8 3)]) HK.out.b3 ?hv ?hw ?_; (case hv => first | rfl | simp [Act.put, Act.eval]); (case hw => first | rfl | simp [Region.wanted, yielded]))
    | (refine build_w (vals := #[(0, .int .u8 4)]) HK.out.b4 ?hv ?hw ?_; (case hv => first | rfl | simp [Act.put, Act.eval]); (case hw => first | rfl | simp [Region.wanted, yielded]))
    | (refine slice_w (E := [b, c]) (h32_two HK.out.lb HK.out.lc) rfl (by simp) (by simp) ?hv ?hw ?_; (case hv => first | rfl | simp [Act.put, Act.eval]); (case hw => first | rfl | simp [Region.wanted, yielded]))
    | (refine slice_w (E := [a]) (H32.one HK.out.la) rfl (by simp) (by simp) ?hv ?hw ?_; (case hv => first | rfl | simp [Act.put, Act.eval]); (case hw => first | rfl | simp [Region.wanted, yielded]))
    | (refine build_w (t := 49) (vals := #[(0, .agg (hv d)), (1, .slice (some ⟨w1.heap.size, 0, none⟩) 2 2)]) (built_commit d _ HK.out.ld rfl) ?hv ?hw ?_; (case hv => first | rfl | simp [Act.put, Act.eval]); (case hw => first | rfl | simp [Region.wanted, yielded]))
    | (refine build_w (t := 49) (vals := #[(0, .agg (hv b)), (1, .slice (some ⟨w1.heap.size + 1, 0, none⟩) 1 1)]) (built_commit b _ HK.out.lb rfl) ?hv ?hw ?_; (case hv => first | rfl | simp [Act.put, Act.eval]); (case hw => first | rfl | simp [Region.wanted, yielded]))
    | (refine build_w (t := 49) (vals := #[(0, .agg (hv c)), (1, .slice (some ⟨w1.heap.size + 1 + 1, 0, none⟩) 1 1)]) (built_commit c _ HK.out.lc rfl) ?hv ?hw ?_; (case hv => first | rfl | simp [Act.put, Act.eval]); (case hw => first | rfl | simp [Region.wanted, yielded]))
    | (refine build_w (t := 49) (vals := #[(0, .agg (hv a))]) (built_commit0 a HK.out.la) ?hv ?hw ?_; (case hv => first | rfl | simp [Act.put, Act.eval]); (case hw => first | rfl | simp [Region.wanted, yielded]))
    | (refine slicec_w (C := [(d, .slice (some ⟨w1.heap.size, 0, none⟩) 2 2), (b, .slice (some ⟨w1.heap.size + 1, 0, none⟩) 1 1), (c, .slice (some ⟨w1.heap.size + 1 + 1, 0, none⟩) 1 1), (a, .slice none 0 0)]) (by simp [HK.out.la, HK.out.lb, HK.out.lc, HK.out.ld]) rfl (by simp) (by simp) ?hv ?hw ?_; (case hv => first | rfl | simp [Act.put, Act.eval]); (case hw => first | rfl | simp [Region.wanted, yielded])))
  have tr := three_rows w1 [b, c] [a] [a]
  refine (add_to _ gb mb [] (.slice (some ⟨w1.heap.size + 1 + 1 + 1, 0, none⟩) 4 4) (cs4 a b c d) ((((K1.out.al _).al _).al _).al _).ga Wf.nil (Lits.made (.cons (lit_row d tr.1 2 rfl) (.cons (lit_row b tr.2.1 1 rfl) (.cons (lit_row c tr.2.2 1 rfl) (.cons (lit_nil _ a) .nil)))) (by simp [HK.out.la, HK.out.lb, HK.out.lc, HK.out.ld]) 4 rfl _ (by rw [al_size, al_size, al_size])) HK.out.ok (by simp [cs4]) (by simp [cs4])).mono ?_
  intro e w7 hp
  obtain ⟨X, rfl, k7, hX⟩ := ((((K1.out.al _).al _).al _).al _).taken HK.out.fi hp
  rw [show gr ([] : Lx) = [] from rfl, HK.out.gi] at hX
  have K7 := Lib.hid k7
  have HX := Lib.hid hX
  clear hp k7 hX tr
  go_wp2_with fail
  go_ret
  exact ⟨gb, mb, X, rfl, K7.out, HX.out⟩
theorem wf4 {a b c d : Key} (hk : Kf a b c d) {X : Lx} (hX : gr X = gr4 a b c d) : Wf (gr X) := by
  rw [hX, ← hk.gi]
  exact add_wf Wf.nil hk.ok (chk_fine.1 hk.fi)
set_option linter.unusedSimpArgs false in
set_option maxRecDepth 20000 in
set_option maxHeartbeats 8000000 in
attribute [local go_sem ↓] hld_open heq_open in
theorem known12_gen (a b c d : Key) (hk : Kf a b c d) (w : World) : Calls Try.prog 9 #[] w fun e w' => e = .returned (.bool true) ∧ Below w.heap.size w w' := by
  have HK := Lib.hid hk
  clear hk
  go_enter Try.func9, Try.ntmps9
  go_wp2_with fail
  refine (four_gen a b c d HK.out w).mono ?_
  rintro e w1 ⟨gb, mb, X, rfl, k1, hX⟩
  have K1 := Lib.hid k1
  have HX := Lib.hid hX
  have HWX := Lib.hid (wf4 HK.out hX)
  clear k1 hX
  have hnp : ∀ w : World, (binOp .neq 22 (gp gb) (.pointer none)).run Try.prog w = .ok (.bool true) w := fun w => by kernel_rfl
  go_wp2_with (first
    | (refine build_w (vals := #[(0, .int .u8 4)]) HK.out.b4 ?hv ?hw ?_; (case hv => first | rfl | simp [Act.put, Act.eval]); (case hw => first | rfl | simp [Region.wanted, yielded]))
    | (refine slice_w (E := [d]) (H32.one HK.out.ld) rfl (by simp) (by simp) ?hv ?hw ?_; (case hv => first | rfl | simp [Act.put, Act.eval]); (case hw => first | rfl | simp [Region.wanted, yielded])))
  refine (walk_to _ gb mb X (K1.out.al _).ga HWX.out (.slice (some ⟨w1.heap.size, 0, none⟩) 1 1) [d] (hseen_new (heap_alloc_last w1 _) 1 rfl) (H32.one HK.out.ld) (by simp) .nilFunc (fun _ => false) (Dn.none _)).mono ?_
  rintro e w2 ⟨v2, o2, rfl, ho, ⟨N, hv2⟩, b2⟩
  rw [HX.out] at hv2
  have ho2 : o2 = [a, b, c, d] := by obtain ⟨M, u⟩ := HK.out.vl; exact hv2.det u
  subst ho2
  obtain ⟨q2, m2, c2, rfl, hn2⟩ := own_sh ho
  clear hn2 hv2
  have HO := Lib.hid ho
  have B2 := Lib.hid (K1.out.bel.trans (((below_al11 w1 _).trans (b2.mono (below_al11 w1 _).size)).mono K1.out.bel.size))
  clear ho b2
  go_wp2_with (first
    | (refine build_w (vals := #[(0, .int .u8 1)]) HK.out.b1 ?hv ?hw ?_; (case hv => first | rfl | simp [Act.put, Act.eval]); (case hw => first | rfl | simp [Region.wanted, yielded]))
    | (refine build_w (vals := #[(0, .int .u8 2)]) HK.out.b2 ?hv ?hw ?_; (case hv => first | rfl | simp [Act.put, Act.eval]); (case hw => first | rfl | simp [Region.wanted, yielded]))
    | (refine build_w (vals := #[(0, .int .u8 3)]) HK.out.b3 ?hv ?hw ?_; (case hv => first | rfl | simp [Act.put, Act.eval]); (case hw => first | rfl | simp [Region.wanted, yielded]))
    | (refine build_w (vals := #[(0, .int .u8 4)]) HK.out.b4 ?hv ?hw ?_; (case hv => first | rfl | simp [Act.put, Act.eval]); (case hw => first | rfl | simp [Region.wanted, yielded]))
    | (refine slice_w (E := [a, b, c, d]) HK.out.l4 rfl (by simp) (by simp) ?hv ?hw ?_; (case hv => first | rfl | simp [Act.put, Act.eval]); (case hw => first | rfl | simp [Region.wanted, yielded])))
  refine (same_two _ (.slice q2 m2 c2) (.slice (some ⟨w2.heap.size, 0, none⟩) 4 4) [a, b, c, d] [a, b, c, d] ((HSeen.own HO.out).mild (mild_below (below_al11 w2 _))) (hseen_new (heap_alloc_last w2 _) 4 rfl) HK.out.l4 HK.out.l4 (by simp) (by simp)).mono ?_
  rintro e w3 ⟨rfl, q, rfl⟩
  rw [decide_eq_true rfl]
  have B4 : Hid (Below w.heap.size w ((w2.alloc (.cells (fl [a, b, c, d]).toArray 28)).drewN q)) := Lib.hid (B2.out.trans (((below_al11 w2 _).trans (blw_qt _ q _)).mono B2.out.size))
  go_wp2_with fail
  go_ret
  exact ⟨rfl, B4.out⟩
theorem known12_to (w : World) : Calls Try.prog 9 #[] w fun e w' => e = .returned (.bool true) ∧ Below w.heap.size w w' := known12_gen _ _ _ _ kf w
end Go.Proofs.Ythfkmfepeafgjaa
