/- OrderLong returns true, whatever the memory holds and whatever the schedule is. No condition. -/
import Derived.Test.YtnpeahbbcolfmaaZl2
import Derived.Test.YtnpeahbbcolfmaaRows
import Derived.ProofKit
import Derived.OpenShut
import Derived.ShutString
import Derived.ChangeOld
set_option linter.unusedSimpArgs false
set_option linter.unusedVariables false
namespace Go.Proofs.Ytnpeahbbcolfmaa
open Go.RowKit
open Go.Maps
theorem three_rows (W : World) (E F K : List Key) : (((W.alloc (.cells (fl E).toArray 27)).alloc (.cells (fl F).toArray 27)).alloc (.cells (fl K).toArray 27)).heap[W.heap.size]? = some (.cells (fl E).toArray 27 (0, 0)) ∧
    (((W.alloc (.cells (fl E).toArray 27)).alloc (.cells (fl F).toArray 27)).alloc (.cells (fl K).toArray 27)).heap[W.heap.size + 1]? = some (.cells (fl F).toArray 27 (0, 0)) ∧
    (((W.alloc (.cells (fl E).toArray 27)).alloc (.cells (fl F).toArray 27)).alloc (.cells (fl K).toArray 27)).heap[W.heap.size + 1 + 1]? = some (.cells (fl K).toArray 27 (0, 0)) := by
  have h := two_rows W E F
  have h3 := heap_alloc_last ((W.alloc (.cells (fl E).toArray 27)).alloc (.cells (fl F).toArray 27)) (.cells (fl K).toArray 27)
  rw [al_size, al_size] at h3
  have m := mild_below (below_al11 ((W.alloc (.cells (fl E).toArray 27)).alloc (.cells (fl F).toArray 27)) (.cells (fl K).toArray 27))
  exact ⟨m.cells h.1, m.cells h.2, h3⟩
theorem no_up0 {f : Key → List Key} {a b : Key} (h : f a = []) (hne : a ≠ b) : ¬ Up f a b := fun k => by
  cases k with
  | refl => exact hne rfl
  | step h1 _ => rw [h] at h1; cases h1
theorem no_up1 {f : Key → List Key} {a b x : Key} (h : f a = [x]) (hne : a ≠ b) (hx : ¬ Up f x b) : ¬ Up f a b := fun k => by
  cases k with
  | refl => exact hne rfl
  | step h1 h2 => rw [h, List.mem_singleton] at h1; rw [h1] at h2; exact hx h2
/-- The example's graph, and what is added to make it. -/
def gr4 (a b c d : Key) : Gr := [(a, []), (b, [a]), (c, [a]), (d, [b, c])]
def cs4 (a b c d : Key) : List Cm := [(d, [b, c]), (b, [a]), (c, [a]), (a, [])]
/-- What the example says of its hashes. -/
structure Kf (a b c d : Key) : Prop where
  la : a.length = 32
  lb : b.length = 32
  lc : c.length = 32
  ld : d.length = 32
  b1 : Try.prog.built 27 [(0, .int .u8 1)] = some (hv a)
  b2 : Try.prog.built 27 [(0, .int .u8 2)] = some (hv b)
  b3 : Try.prog.built 27 [(0, .int .u8 3)] = some (hv c)
  b4 : Try.prog.built 27 [(0, .int .u8 4)] = some (hv d)
  fi : chk [] 2 (cs4 a b c d) [] = none
  gi : adds [] (cs4 a b c d) = gr4 a b c d
  ok : COk (cs4 a b c d)
  vl : ∃ N, VL (gr4 a b c d) (fun _ => false) N [] ([d].filter (hasB (gr4 a b c d))) [a, b, c, d]
theorem Kf.l4 {a b c d : Key} (h : Kf a b c d) : H32 [a, b, c, d] := fun x hx => by
  simp only [List.mem_cons, List.not_mem_nil, or_false] at hx
  rcases hx with rfl | rfl | rfl | rfl
  · exact h.la
  · exact h.lb
  · exact h.lc
  · exact h.ld
theorem kf_fi : chk [] 2 (cs4 (kn 1) (kn 2) (kn 3) (kn 4)) [] = none := by
  refine chk_fine.2 ⟨by decide, by decide, by decide, by decide, by decide, ?_, by decide⟩
  have up1 : ∀ x, kn 1 ≠ x → ¬ Up (adj (addA [] [] (cs4 (kn 1) (kn 2) (kn 3) (kn 4)))) (kn 1) x := fun x h => no_up0 (by decide) h
  have up2 : ∀ x, kn 1 ≠ x → kn 2 ≠ x → ¬ Up (adj (addA [] [] (cs4 (kn 1) (kn 2) (kn 3) (kn 4)))) (kn 2) x := fun x h h2 => no_up1 (by decide) h2 (up1 x h)
  have up3 : ∀ x, kn 1 ≠ x → kn 3 ≠ x → ¬ Up (adj (addA [] [] (cs4 (kn 1) (kn 2) (kn 3) (kn 4)))) (kn 3) x := fun x h h2 => no_up1 (by decide) h2 (up1 x h)
  generalize addA [] [] (cs4 (kn 1) (kn 2) (kn 3) (kn 4)) = A at *
  have h4 : ¬ ∃ p ∈ [kn 2, kn 3], Up (adj A) p (kn 4) := fun ⟨p, hp, h⟩ => by
    simp only [List.mem_cons, List.not_mem_nil, or_false] at hp
    rcases hp with rfl | rfl
    · exact up2 _ (by decide) (by decide) h
    · exact up3 _ (by decide) (by decide) h
  have h2 : ¬ ∃ p ∈ [kn 1], Up (adj A) p (kn 2) := fun ⟨p, hp, h⟩ => by
    rw [List.mem_singleton.1 hp] at h; exact up1 _ (by decide) h
  have h3 : ¬ ∃ p ∈ [kn 1], Up (adj A) p (kn 3) := fun ⟨p, hp, h⟩ => by
    rw [List.mem_singleton.1 hp] at h; exact up1 _ (by decide) h
  unfold cs4
  rw [ck6, if_neg h4, ck6, if_neg h2, ck6, if_neg h3, ck6, if_neg (fun ⟨p, hp, _⟩ => by cases hp)]
  rfl
theorem kf_vl : ∃ N, VL (gr4 (kn 1) (kn 2) (kn 3) (kn 4)) (fun _ => false) N [] ([kn 4].filter (hasB (gr4 (kn 1) (kn 2) (kn 3) (kn 4)))) [kn 1, kn 2, kn 3, kn 4] := by
  have a4 : adj (gr4 (kn 1) (kn 2) (kn 3) (kn 4)) (kn 4) = [kn 2, kn 3] := by decide
  have a3 : adj (gr4 (kn 1) (kn 2) (kn 3) (kn 4)) (kn 3) = [kn 1] := by decide
  have a2 : adj (gr4 (kn 1) (kn 2) (kn 3) (kn 4)) (kn 2) = [kn 1] := by decide
  have a1 : adj (gr4 (kn 1) (kn 2) (kn 3) (kn 4)) (kn 1) = [] := by decide
  rw [show [kn 4].filter (hasB (gr4 (kn 1) (kn 2) (kn 3) (kn 4))) = [kn 4] by decide]
  generalize gr4 (kn 1) (kn 2) (kn 3) (kn 4) = G at *
  obtain ⟨n1, v1⟩ : ∃ n, VL G (fun _ => false) n [] (adj G (kn 2)) [kn 1] := by rw [a2]; exact ⟨_, .go (by decide) rfl (by rw [a1]; exact .nil []) (.nil _)⟩
  obtain ⟨n3, v3⟩ : ∃ n, VL G (fun _ => false) n [kn 1, kn 2] (adj G (kn 3)) [kn 1, kn 2] := by rw [a3]; exact ⟨_, .skip (.inl (by decide)) (.nil _)⟩
  obtain ⟨n2, v2⟩ : ∃ n, VL G (fun _ => false) n [] (adj G (kn 4)) [kn 1, kn 2, kn 3] := by rw [a4]; exact ⟨_, .go (by decide) rfl v1 (.go (o := [kn 1, kn 2]) (by decide) rfl v3 (.nil _))⟩
  exact ⟨_, .go (by decide) rfl v2 (.nil _)⟩
theorem kf_ok : COk (cs4 (kn 1) (kn 2) (kn 3) (kn 4)) := fun c hc => by
  simp only [cs4, List.mem_cons, List.not_mem_nil, or_false] at hc
  rcases hc with rfl | rfl | rfl | rfl
  · exact ⟨rfl, h32_two rfl rfl⟩
  · exact ⟨rfl, H32.one rfl⟩
  · exact ⟨rfl, H32.one rfl⟩
  · exact ⟨rfl, H32.nil⟩
theorem kf : Kf (kn 1) (kn 2) (kn 3) (kn 4) := ⟨rfl, rfl, rfl, rfl, kn_built 1, kn_built 2, kn_built 3, kn_built 4, kf_fi, by decide, kf_ok, kf_vl⟩
set_option linter.unusedSimpArgs false in
set_option maxRecDepth 20000 in
set_option maxHeartbeats 8000000 in
attribute [local go_sem ↓] hld_open heq_open in
theorem four_gen (a b c d : Key) (hk : Kf a b c d) (w : World) : Calls Try.prog 26 #[] w fun e w' => ∃ g bm X, e = .returned (gp g) ∧ Ks w w' [] g bm X [] ∧ gr X = gr4 a b c d := by
  have HK := Lib.hid hk
  clear hk
  go_enter Try.func26, Try.ntmps26
  go_wp2_with fail
  refine (new_to w).mono ?_
  rintro e w1 ⟨rfl, g1, b1⟩
  have K1 : Hid (Ks w w1 [] (w.heap.size + 1) w.heap.size [] []) := Lib.hid (Ks.mk b1 (fun _ h => nomatch h) g1 (Nat.le_refl _) (fun _ h => nomatch h))
  clear b1 g1
  generalize w.heap.size + 1 = gb at *
  generalize hmb : w.heap.size = mb at K1
  clear hmb
  have hnp : ∀ w : World, (binOp .eql 23 (gp gb) (.pointer none)).run Try.prog w = .ok (.bool false) w := fun w => by kernel_rfl
  go_wp2_with (first
    | (refine build_w (vals := #[(0, .int .u8 1)]) HK.out.b1 ?hv ?hw ?_; (case hv => first | rfl | simp [Act.put, Act.eval]); (case hw => first | rfl | simp [Region.wanted, yielded]))
    | (refine build_w (vals := #[(0, .int .u8 2)]) HK.out.b2 ?hv ?hw ?_; (case hv => first | rfl | simp [Act.put, Act.eval]); (case hw => first | rfl | simp [Region.wanted, yielded]))
    | (refine build_w (vals := #[(0, .int .u8 3)]) HK.out.b3 ?hv ?hw ?_; (case hv => first | rfl | simp [Act.put, Act.eval]); (case hw => first | rfl | simp [Region.wanted, yielded]))
    | (refine build_w (vals := #[(0, .int .u8 4)]) HK.out.b4 ?hv ?hw ?_; (case hv => first | rfl | simp [Act.put, Act.eval]); (case hw => first | rfl | simp [Region.wanted, yielded]))
    | (refine slice_w (E := [b, c]) (h32_two HK.out.lb HK.out.lc) rfl (by simp) (by simp) ?hv ?hw ?_; (case hv => first | rfl | simp [Act.put, Act.eval]); (case hw => first | rfl | simp [Region.wanted, yielded]))
    | (refine slice_w (E := [a]) (H32.one HK.out.la) rfl (by simp) (by simp) ?hv ?hw ?_; (case hv => first | rfl | simp [Act.put, Act.eval]); (case hw => first | rfl | simp [Region.wanted, yielded]))
    | (refine build_w (t := 32) (vals := #[(0, .agg (hv d)), (1, .slice (some ⟨w1.heap.size, 0, none⟩) 2 2)]) (built_commit d _ HK.out.ld rfl) ?hv ?hw ?_; (case hv => first | rfl | simp [Act.put, Act.eval]); (case hw => first | rfl | simp [Region.wanted, yielded]))
    | (refine build_w (t := 32) (vals := #[(0, .agg (hv b)), (1, .slice (some ⟨w1.heap.size + 1, 0, none⟩) 1 1)]) (built_commit b _ HK.out.lb rfl) ?hv ?hw ?_; (case hv => first | rfl | simp [Act.put, Act.eval]); (case hw => first | rfl | simp [Region.wanted, yielded]))
    | (refine build_w (t := 32) (vals := #[(0, .agg (hv c)), (1, .slice (some ⟨w1.heap.size + 1 + 1, 0, none⟩) 1 1)]) (built_commit c _ HK.out.lc rfl) ?hv ?hw ?_; (case hv => first | rfl | simp [Act.put, Act.eval]); (case hw => first | rfl | simp [Region.wanted, yielded]))
    | (refine build_w (t := 32) (vals := #[(0, .agg (hv a))]) (built_commit0 a HK.out.la) ?hv ?hw ?_; (case hv => first | rfl | simp [Act.put, Act.eval]); (case hw => first | rfl | simp [Region.wanted, yielded]))
    | (refine slicec_w (C := [(d, .slice (some ⟨w1.heap.size, 0, none⟩) 2 2), (b, .slice (some ⟨w1.heap.size + 1, 0, none⟩) 1 1), (c, .slice (some ⟨w1.heap.size + 1 + 1, 0, none⟩) 1 1), (a, .slice none 0 0)]) (by simp [HK.out.la, HK.out.lb, HK.out.lc, HK.out.ld]) rfl (by simp) (by simp) ?hv ?hw ?_; (case hv => first | rfl | simp [Act.put, Act.eval]); (case hw => first | rfl | simp [Region.wanted, yielded])))
  have tr := three_rows w1 [b, c] [a] [a]
  refine (add_to _ gb mb [] (.slice (some ⟨w1.heap.size + 1 + 1 + 1, 0, none⟩) 4 4) (cs4 a b c d) ((((K1.out.al _).al _).al _).al _).ga Wf.nil (Lits.made (.cons (lit_row d tr.1 2 rfl) (.cons (lit_row b tr.2.1 1 rfl) (.cons (lit_row c tr.2.2 1 rfl) (.cons (lit_nil _ a) .nil)))) (by simp [HK.out.la, HK.out.lb, HK.out.lc, HK.out.ld]) 4 rfl _ (by rw [al_size, al_size, al_size])) HK.out.ok (by simp [cs4]) (by simp [cs4])).mono ?_
  intro e w7 hp
  obtain ⟨X, rfl, k7, hX⟩ := ((((K1.out.al _).al _).al _).al _).taken HK.out.fi hp
  rw [show gr ([] : Lx) = [] from rfl, HK.out.gi] at hX
  have K7 := Lib.hid k7
  have HX := Lib.hid hX
  clear hp k7 hX tr
  go_wp2_with fail
  go_ret
  exact ⟨gb, mb, X, rfl, K7.out, HX.out⟩
theorem wf4 {a b c d : Key} (hk : Kf a b c d) {X : Lx} (hX : gr X = gr4 a b c d) : Wf (gr X) := by
  rw [hX, ← hk.gi]
  exact add_wf Wf.nil hk.ok (chk_fine.1 hk.fi)
set_option linter.unusedSimpArgs false in
set_option maxRecDepth 20000 in
set_option maxHeartbeats 8000000 in
attribute [local go_sem ↓] hld_open heq_open in
theorem known12_gen (a b c d : Key) (hk : Kf a b c d) (w : World) : Calls Try.prog 7 #[] w fun e w' => e = .returned (.bool true) ∧ Below w.heap.size w w' := by
  have HK := Lib.hid hk
  clear hk
  go_enter Try.func7, Try.ntmps7
  go_wp2_with fail
  refine (four_gen a b c d HK.out w).mono ?_
  rintro e w1 ⟨gb, mb, X, rfl, k1, hX⟩
  have K1 := Lib.hid k1
  have HX := Lib.hid hX
  have HWX := Lib.hid (wf4 HK.out hX)
  clear k1 hX
  have hnp : ∀ w : World, (binOp .neq 23 (gp gb) (.pointer none)).run Try.prog w = .ok (.bool true) w := fun w => by kernel_rfl
  go_wp2_with (first
    | (refine build_w (vals := #[(0, .int .u8 4)]) HK.out.b4 ?hv ?hw ?_; (case hv => first | rfl | simp [Act.put, Act.eval]); (case hw => first | rfl | simp [Region.wanted, yielded]))
    | (refine slice_w (E := [d]) (H32.one HK.out.ld) rfl (by simp) (by simp) ?hv ?hw ?_; (case hv => first | rfl | simp [Act.put, Act.eval]); (case hw => first | rfl | simp [Region.wanted, yielded])))
  refine (walk_to _ gb mb X (K1.out.al _).ga HWX.out (.slice (some ⟨w1.heap.size, 0, none⟩) 1 1) [d] (hseen_new (heap_alloc_last w1 _) 1 rfl) (H32.one HK.out.ld) (by simp) .nilFunc (fun _ => false) (Dn.none _)).mono ?_
  rintro e w2 ⟨v2, o2, rfl, ho, ⟨N, hv2⟩, b2⟩
  rw [HX.out] at hv2
  have ho2 : o2 = [a, b, c, d] := by obtain ⟨M, u⟩ := HK.out.vl; exact hv2.det u
  subst ho2
  obtain ⟨q2, m2, c2, rfl, hn2⟩ := own_sh ho
  clear hn2 hv2
  have HO := Lib.hid ho
  have B2 := Lib.hid (K1.out.bel.trans (((below_al11 w1 _).trans (b2.mono (below_al11 w1 _).size)).mono K1.out.bel.size))
  clear ho b2
  go_wp2_with (first
    | (refine build_w (vals := #[(0, .int .u8 1)]) HK.out.b1 ?hv ?hw ?_; (case hv => first | rfl | simp [Act.put, Act.eval]); (case hw => first | rfl | simp [Region.wanted, yielded]))
    | (refine build_w (vals := #[(0, .int .u8 2)]) HK.out.b2 ?hv ?hw ?_; (case hv => first | rfl | simp [Act.put, Act.eval]); (case hw => first | rfl | simp [Region.wanted, yielded]))
    | (refine build_w (vals := #[(0, .int .u8 3)]) HK.out.b3 ?hv ?hw ?_; (case hv => first | rfl | simp [Act.put, Act.eval]); (case hw => first | rfl | simp [Region.wanted, yielded]))
    | (refine build_w (vals := #[(0, .int .u8 4)]) HK.out.b4 ?hv ?hw ?_; (case hv => first | rfl | simp [Act.put, Act.eval]); (case hw => first | rfl | simp [Region.wanted, yielded]))
    | (refine slice_w (E := [a, b, c, d]) HK.out.l4 rfl (by simp) (by simp) ?hv ?hw ?_; (case hv => first | rfl | simp [Act.put, Act.eval]); (case hw => first | rfl | simp [Region.wanted, yielded])))
  refine (same_two _ (.slice q2 m2 c2) (.slice (some ⟨w2.heap.size, 0, none⟩) 4 4) [a, b, c, d] [a, b, c, d] ((HSeen.own HO.out).mild (mild_below (below_al11 w2 _))) (hseen_new (heap_alloc_last w2 _) 4 rfl) HK.out.l4 HK.out.l4 (by simp) (by simp)).mono ?_
  rintro e w3 ⟨rfl, q, rfl⟩
  rw [decide_eq_true rfl]
  have B4 : Hid (Below w.heap.size w ((w2.alloc (.cells (fl [a, b, c, d]).toArray 27)).drewN q)) := Lib.hid (B2.out.trans (((below_al11 w2 _).trans (blw_qt _ q _)).mono B2.out.size))
  go_wp2_with fail
  go_ret
  exact ⟨rfl, B4.out⟩
theorem known12_to (w : World) : Calls Try.prog 7 #[] w fun e w' => e = .returned (.bool true) ∧ Below w.heap.size w w' := known12_gen _ _ _ _ kf w
end Go.Proofs.Ytnpeahbbcolfmaa
namespace Go.Proofs.Ytnpeahbbcolfmaa
open Go.RowKit Go.Extern.Stop Go.Stop Go.Extern
open Go.Maps
theorem hv_again {w : World} {b : Nat} {q q' : Key} {t : TypeId} (hq : q.length = 32) (hq' : q'.length = 32) (h : w.heap[b]? = some (.cells (hv q) t (0, 0))) : (w.setCells b 0 (hv q').toList).heap[b]? = some (.cells (hv q') t (0, 0)) := by
  have h1 : hv q = (hv q).toList.toArray := by simp
  rw [h1] at h
  have e1 : (hv q).toList.length = 32 := by rw [Array.length_toList, hv_size, hq]
  have e2 : (hv q').toList.length = 32 := by rw [Array.length_toList, hv_size, hq']
  have h2 := cells_puts (hv q').toList 0 (hv q).toList w h (by rw [e1, e2]; omega)
  rw [h2]
  congr 1
  unfold puts
  rw [List.take_zero, List.drop_eq_nil_of_le (by rw [e1, e2]; omega)]
  simp
theorem sblk_lt {W : World} {v : Value} {E : List Key} (h : HSeen W v E) (h0 : E ≠ []) (h32 : H32 E) {b : Nat} (hb : sblk v = some b) : b < W.heap.size := by
  rcases h with ⟨_, h1⟩ | ⟨a, cap, rfl, _, h3⟩
  · exact absurd h1 h0
  · injection hb with hb
    subst hb
    have hl : 0 < (fl E).length := by
      rw [fl_length h32]
      have := List.length_pos_iff.2 h0
      omega
    have := World.block_lt_of_cell? _ _ (h3 0 _ (List.getElem?_eq_getElem hl))
    rwa [show a.add 0 = a by simp [Addr.add]] at this
/-- A commit's parents: none, or a row of their own. -/
def PR (W : World) (hb : Nat) (vw : Value) (x : Key × (Value × List Key)) : Prop :=
  (x.2.1 = .slice none 0 0 ∧ x.2.2 = []) ∨ ∃ r, x.2.1 = .slice (some ⟨r, 0, none⟩) 1 1 ∧ x.2.2.length = 1 ∧ W.heap[r]? = some (.cells (fl x.2.2).toArray 27 (0, 0)) ∧ r ≠ hb ∧ vw.ownBlock ≠ some r
theorem PR.seen {W : World} {hb : Nat} {vw : Value} {x : Key × (Value × List Key)} (h : PR W hb vw x) : HSeen W x.2.1 x.2.2 := by
  rcases h with ⟨h1, h2⟩ | ⟨r, h1, h2, h3, _⟩
  · rw [h1, h2]; exact .inl ⟨rfl, rfl⟩
  · rw [h1]; exact hseen_new h3 1 h2.symm
theorem PR.keep {W V : World} {hb : Nat} {vw : Value} {x : Key × (Value × List Key)} (h : PR W hb vw x) {S : Nat → Prop} (ho : Only S W V) (hS : ∀ j, S j → ∀ cs, W.heap[j]? = some (.cells cs 27 (0, 0)) → j = hb ∨ vw.ownBlock = some j) : PR V hb vw x := by
  rcases h with h1 | ⟨r, h1, h2, h3, h4, h5⟩
  · exact .inl h1
  · exact .inr ⟨r, h1, h2, (ho.block r (Array.getElem?_eq_some_iff.1 h3).1 (fun hr => (hS r hr _ h3).elim h4 h5)).trans h3, h4, h5⟩
theorem PR.kb {W V : World} {hb : Nat} {vw : Value} {x : Key × (Value × List Key)} (h : PR W hb vw x) (k : Below W.heap.size W V) : PR V hb vw x := h.keep (S := fun _ => False) (Only.of_below k) (fun _ h => h.elim)
/-- The graph g, the cell hb that holds q, want (the first k hashes), l (the commits from a on, up to m). -/
structure LI (w W : World) (g bm hb : Nat) (X : Lx) (a k m : Nat) (q : Key) (vw vl : Value) (T : Lx) : Prop where
  ks : Ks w W [] g bm X []
  hc : W.heap[hb]? = some (.cells (hv q) 27 (0, 0))
  hlo : w.heap.size ≤ hb
  q32 : q.length = 32
  wo : HOwn W w.heap.size vw (lks k)
  wh : vw.ownBlock ≠ some hb
  lo : TOwn W w.heap.size vl T
  gt : gr T = seg a (m - a)
  ak : a ≤ m
  pr : ∀ x ∈ T, PR W hb vw x
  far : ∀ x ∈ X, x.2.2 ≠ [] → ∀ b, sblk x.2.1 = some b → b ≠ hb ∧ vw.ownBlock ≠ some b ∧ vl.ownBlock ≠ some b
theorem ks_only {w W V : World} {g bm : Nat} {X : Lx} (h : Ks w W [] g bm X []) {S : Nat → Prop} (ho : Only S W V) (hlo : ∀ j, S j → w.heap.size ≤ j) (hty : ∀ j, S j → ∃ cs t, W.heap[j]? = some (.cells cs t (0, 0)) ∧ t ≠ 68)
    (hX : ∀ x ∈ X, x.2.2 ≠ [] → ∀ b, sblk x.2.1 = some b → ¬ S b) : Ks w V [] g bm X [] := by
  have hg : ¬ S g := fun e => by
    obtain ⟨cs, t, h1, h2⟩ := hty g e
    rw [h.ga.cell] at h1
    injection h1 with h1
    injection h1 with _ h1 _
    exact h2 h1.symm
  have hm : ¬ S bm := fun e => by
    obtain ⟨cs, t, h1, _⟩ := hty bm e
    obtain ⟨es, c, h3⟩ := h.ga.at_.mp.ismap
    rw [h3] at h1; cases h1
  refine ⟨h.bel.trans (ho.below h.bel.size hlo), fun p hp => (by cases hp), ⟨(ho.block g (Array.getElem?_eq_some_iff.1 h.ga.cell).1 hg).trans h.ga.cell, h.ga.at_.mp.kept ho hm, fun x hx => ?_⟩, h.lo, fun p hp => (by cases hp)⟩
  obtain ⟨h1, h2⟩ := h.ga.at_.seen x hx
  refine ⟨?_, h2⟩
  by_cases h0 : x.2.2 = []
  · rw [h0] at h1 ⊢
    rcases h1 with h1 | ⟨a, cap, e1, e2, _⟩
    · exact .inl h1
    · exact .inr ⟨a, cap, e1, e2, fun j u hj => by simp [fl] at hj⟩
  · exact h1.keep ho (hX x hx h0)
section
variable {w W V : World} {g bm hb : Nat} {X : Lx} {a k m : Nat} {q : Key} {vw vl : Value} {T : Lx}
theorem LI.kb (h : LI w W g bm hb X a k m q vw vl T) (b : Below W.heap.size W V) : LI w V g bm hb X a k m q vw vl T :=
  ⟨h.ks.kb b, (mild_below b).cells h.hc, h.hlo, h.q32, own_below h.wo b, h.wh, own_below h.lo b, h.gt, h.ak, fun x hx => (h.pr x hx).kb b, h.far⟩
theorem LI.lt (h : LI w W g bm hb X a k m q vw vl T) : hb < W.heap.size := (Array.getElem?_eq_some_iff.1 h.hc).1
theorem LI.wlt (h : LI w W g bm hb X a k m q vw vl T) {j : Nat} (hj : vw.ownBlock = some j) : j < W.heap.size := by
  obtain ⟨cs, h1, _⟩ := own_type h.wo hj
  exact (Array.getElem?_eq_some_iff.1 h1).1
theorem LI.store (h : LI w W g bm hb X a k m q vw vl T) {q' : Key} (hq : q'.length = 32) : LI w (W.setCells hb 0 (hv q').toList) g bm hb X a k m q' vw vl T ∧ Only (fun j => j = hb) W (W.setCells hb 0 (hv q').toList) := by
  have ho : Only (fun j => j = hb) W (W.setCells hb 0 (hv q').toList) := Only.setCells (S := fun j => j = hb) (b := hb) rfl _ 0 (Only.refl _ W)
  refine ⟨⟨ks_only h.ks ho (fun j hj => by rw [hj]; exact h.hlo) (fun j hj => by subst hj; exact ⟨_, _, h.hc, by decide⟩) (fun x hx h0 b hb' e => (h.far x hx h0 b hb').1 e), hv_again h.q32 hq h.hc, h.hlo, hq,
    own_keep h.wo ho (fun j hj e => h.wh (by rw [hj, e])), h.wh, own_keep h.lo ho (fun j hj e => own_apart h.lo h.hc (by decide) (by rw [hj, e])), h.gt, h.ak, fun x hx => (h.pr x hx).keep ho (fun j hj _ _ => .inl hj), h.far⟩, ho⟩
theorem LI.pushl (h : LI w W g bm hb X a k m q vw vl T) {x : Key × (Value × List Key)} (hx : (x.1, x.2.2) = lcm m) (hp : PR W hb vw x) {vl' : Value} (o : TOwn V w.heap.size vl' (T ++ [x])) (ho : Only (fun j => vl.ownBlock = some j) W V) (loc : ∀ j, vl'.ownBlock = some j → vl.ownBlock = some j ∨ W.heap.size ≤ j) :
    LI w V g bm hb X a k (m + 1) q vw vl' (T ++ [x]) := by
  refine ⟨ks_only h.ks ho (fun j hj => (own_type h.lo hj).elim fun _ e => e.2) (fun j hj => (own_type h.lo hj).elim fun cs e => ⟨cs, _, e.1, by decide⟩) (fun y hy h0 b hb' e => (h.far y hy h0 b hb').2.2 e),
    (ho.block hb h.lt (fun e => own_apart h.lo h.hc (by decide) e)).trans h.hc, h.hlo, h.q32, own_keep h.wo ho (fun j hj e => ?_), h.wh, o, ?_, by have := h.ak; omega, fun y hy => ?_, fun y hy h0 b hb' => ?_⟩
  · obtain ⟨cs, h1, _⟩ := own_type h.wo hj
    exact own_apart h.lo h1 (by decide) e
  · have := h.ak
    have e := seg_snoc a (m - a)
    rw [show a + (m - a) = m by omega, ← h.gt, show m - a + 1 = m + 1 - a by omega, ← hx] at e
    rw [e]
    simp [gr, amap]
  · have key : ∀ {y : Key × (Value × List Key)}, PR W hb vw y → PR V hb vw y := fun hy => hy.keep ho (fun j hj cs hc => absurd hj (own_apart h.lo hc (by decide)))
    rcases List.mem_append.1 hy with hy | hy
    · exact key (h.pr y hy)
    · rw [List.mem_singleton.1 hy]; exact key hp
  · obtain ⟨h1, h2, h3⟩ := h.far y hy h0 b hb'
    refine ⟨h1, h2, fun e => ?_⟩
    rcases loc b e with h4 | h4
    · exact h3 h4
    · have h5 := (h.ks.ga.at_.seen y hy)
      have := sblk_lt h5.1 h0 h5.2 hb'
      omega
theorem LI.pushw (h : LI w W g bm hb X a k m q vw vl T) {vw' : Value} (o : HOwn V w.heap.size vw' (lks k ++ [lk k])) (ho : Only (fun j => vw.ownBlock = some j) W V) (loc : ∀ j, vw'.ownBlock = some j → vw.ownBlock = some j ∨ W.heap.size ≤ j) :
    LI w V g bm hb X a (k + 1) m q vw' vl T := by
  refine ⟨ks_only h.ks ho (fun j hj => (own_type h.wo hj).elim fun _ e => e.2) (fun j hj => (own_type h.wo hj).elim fun cs e => ⟨cs, _, e.1, by decide⟩) (fun y hy h0 b hb' e => (h.far y hy h0 b hb').2.1 e),
    (ho.block hb h.lt h.wh).trans h.hc, h.hlo, h.q32, by rw [lks_succ]; exact o, fun e => ?_, own_keep h.lo ho (fun j hj e => ?_), h.gt, h.ak, fun y hy => ?_, fun y hy h0 b hb' => ?_⟩
  · rcases loc hb e with h4 | h4
    · exact h.wh h4
    · have := h.lt; omega
  · obtain ⟨cs, h1, _⟩ := own_type h.wo e
    exact own_apart h.lo h1 (by decide) hj
  · rcases h.pr y hy with h1 | ⟨r, h1, h2, h3, h4, h5⟩
    · exact .inl h1
    · have hr := (Array.getElem?_eq_some_iff.1 h3).1
      refine .inr ⟨r, h1, h2, (ho.block r hr h5).trans h3, h4, fun e => ?_⟩
      rcases loc r e with h6 | h6
      · exact h5 h6
      · omega
  · obtain ⟨h1, h2, h3⟩ := h.far y hy h0 b hb'
    refine ⟨h1, fun e => ?_, h3⟩
    rcases loc b e with h4 | h4
    · exact h2 h4
    · have h5 := (h.ks.ga.at_.seen y hy)
      have := sblk_lt h5.1 h0 h5.2 hb'
      omega
/-- What the commits are for the graph. -/
theorem LI.ts (h : LI w W g bm hb X a k m q vw vl T) : CSeen W vl (seg a (m - a)) := by
  rw [← h.gt]
  refine (TS.own h.lo (fun x hx => ?_) (fun x hx => (h.pr x hx).seen)).cseen
  have : (x.1, x.2.2) ∈ seg a (m - a) := by rw [← h.gt]; exact List.mem_map.2 ⟨x, hx, rfl⟩
  exact (seg_ok _ _ _ this).1
/-- The graph took them. -/
theorem LI.added (h : LI w W g bm hb X a k m q vw vl T) (hX : gr X = chn a) (hm : m ≤ 1000) (ha : m - a ≤ 200) {e : Ending} (p : AddPost W g bm X (seg a (m - a)) e V) :
    ∃ X', e = .returned .nilIface ∧ LI w V g bm hb X' m k m q vw (.slice none 0 0) [] ∧ gr X' = chn m := by
  have hak := h.ak
  have hchk : chk (gr X) 2 (seg a (m - a)) [] = none := by rw [hX]; exact chn_chk (by omega) ha
  obtain ⟨x, X', rfl, k5, _, h5, o5, f5⟩ := h.ks.addedF p
  have ex := k5.err _ List.mem_cons_self
  rw [hchk] at ex
  obtain rfl : x = .nilIface := ex
  have hg : gr X' = chn m := by rw [h5 hchk, hX, chn_adds _ _ (by omega), show a + (m - a) = m by omega]
  obtain ⟨es, c, hm⟩ := h.ks.ga.at_.mp.ismap
  refine ⟨X', rfl, ⟨k5.bare, (o5.block hb h.lt (fun e => by have h1 := h.hc; rw [e, hm] at h1; cases h1)).trans h.hc, h.hlo, h.q32, own_keep h.wo o5 (fun j hj e => own_nomap h.wo hm (by rw [hj, e])), h.wh, ⟨by simp [cfT, kvs, amap, cf], .inl ⟨rfl, rfl⟩⟩, by simp [seg, gr, amap], Nat.le_refl _, (fun _ h => (by cases h)), fun y hy h0 b hb' => ?_⟩, hg⟩
  rcases f5 y hy with h1 | h1
  · obtain ⟨g1, g2, _⟩ := h.far y h1 h0 b hb'
    exact ⟨g1, g2, fun e => by cases e⟩
  · have h2 := h1 b hb'
    exact ⟨fun e => by have := h.lt; omega, fun e => by have := h.wlt e; omega, fun e => by cases e⟩
end
end Go.Proofs.Ytnpeahbbcolfmaa
namespace Go.Proofs.Ytnpeahbbcolfmaa
open Go.RowKit Go.Extern.Stop Go.Stop Go.Extern
open Go.Maps
theorem long_n (n : Int) : ∃ (N : Nat) (r : Int), n % 700 = r ∧ wrap64 (100 + r) = (N : Int) ∧ 100 ≤ N ∧ N ≤ 799 := by
  refine ⟨(100 + n % 700).toNat, _, rfl, ?_, by omega, by omega⟩
  unfold wrap64
  omega
theorem lk_built (m : Nat) (h : m < 65536) : Try.prog.built 27 [(0, .int .u8 ((m : Int) / 256)), (1, .int .u8 ((m : Int) % 256)), (2, .int .u8 1)] = some (hv (lk m)) := by
  have e1 : ((m : Int) / 256) = ((UInt8.ofNat (m / 256)).toNat : Int) := by rw [UInt8.toNat_ofNat']; omega
  have e2 : ((m : Int) % 256) = ((UInt8.ofNat m).toNat : Int) := by rw [UInt8.toNat_ofNat']; omega
  rw [e1, e2]
  exact l3_built _ _
theorem lt_int {a b : Nat} (h : a < b) : (a : Int) < (b : Int) := by omega
theorem nlt_int {a b : Nat} (h : ¬ a < b) : ¬ (a : Int) < (b : Int) := by omega
theorem lt100 {m k : Nat} (h : m < k + 100) : (m : Int) < (k : Int) + 100 := by omega
theorem nlt100 {m k : Nat} (h : ¬ m < k + 100) : ¬ (m : Int) < (k : Int) + 100 := by omega
theorem pos_int {m : Nat} (h : 0 < m) : (0 : Int) < (m : Int) := by omega
theorem npos_int {m : Nat} (h : m = 0) : ¬ (0 : Int) < (m : Int) := by omega
theorem k100 {k N : Nat} (h : k < N) (hN : N ≤ 799) : (k : Int) + 100 ≤ 1000 ∧ wrap64 ((k : Int) + 100) = (k : Int) + 100 ∧ k ≤ k + 100 ∧ k ≤ N := by unfold wrap64; omega
theorem m1 {m k N : Nat} (h1 : k ≤ m) (h2 : m < k + 100) (h3 : m < N) (hN : N ≤ 799) : wrap64 ((m : Int) + 1) = ((m + 1 : Nat) : Int) ∧ k ≤ m + 1 ∧ m + 1 ≤ k + 100 ∧ m + 1 ≤ N ∧ m < 65536 ∧ 2000 - (m + 1) < 2000 - m ∧ m + 1 ≤ 1000000 := by unfold wrap64; omega
theorem fin1 {m k N : Nat} (h1 : k ≤ m) (h2 : m ≤ k + 100) (h3 : m ≤ N) (h4 : k < N) (hN : N ≤ 799) (hx : ¬ m < k + 100 ∨ ¬ m < N) : (k + 100 < N → m = k + 100) ∧ (N ≤ k + 100 → m = N) ∧ m ≤ 1000 ∧ m - k ≤ 200 ∧ k + 100 ≤ 900 ∧ 900 - (k + 100) < 900 - k := by omega
theorem wf_next {k m : Nat} (h : Wf (chn k)) (h1 : k ≤ m) (h2 : m ≤ 1000) (h3 : m - k ≤ 200) : Wf (chn m) := by
  have := add_wf h (seg_ok k (m - k)) (chk_fine.1 (chn_chk (a := k) (m := m - k) (by omega) h3))
  rwa [chn_adds _ _ (by omega), show k + (m - k) = m by omega] at this
theorem seg_par {a m : Nat} : ∀ c ∈ seg a m, c.2.length ≤ 1000000 := fun c hc => by
  obtain ⟨k, _, _, rfl⟩ := seg_mem.1 hc
  exact Nat.le_trans (lp_len k) (by decide)
theorem lp_pos {m : Nat} {q : Key} (h : 0 < m) (hq : q = lk (m - 1)) : lp m = [q] := by unfold lp; rw [if_neg (by omega), hq]
theorem fl_hv {x : Key} : (fl [x]).toArray = hv x := by rw [show fl [x] = us (nmb x) by simp [fl], ← hv_list, Array.toArray_toList]
/-- Where the outer loop stands. -/
structure LO (w W : World) (g bm hb : Nat) (N a : Nat) (vw : Value) : Prop where
  ex : ∃ X k q, LI w W g bm hb X k k k q vw (.slice none 0 0) [] ∧ gr X = chn k ∧ Wf (gr X) ∧ (k ≠ 0 → q = lk (k - 1)) ∧ (a < N → k = a) ∧ (N ≤ a → k = N)
set_option linter.unusedSimpArgs false in
set_option maxRecDepth 20000 in
set_option maxHeartbeats 16000000 in
attribute [local go_sem ↓] hld_open cld_open in
theorem orderlong_walk (w : World) (n : Int) : Calls Try.prog 3 #[.int .i64 n] w fun e w' => e = .returned (.bool true) ∧ Below w.heap.size w w' := by
  obtain ⟨N, r, hr, hN, hN1, hN2⟩ := long_n n
  have HPK := Lib.hid (pick_to w n 700 r (by decide) (by decide) hr)
  have HN1 := Lib.hid hN1
  have HN2 := Lib.hid hN2
  clear hr hN1 hN2
  have hne := nn_iface
  have hnn := nn_nil
  go_enter Try.func3, Try.ntmps3
  go_wp2_with fail
  refine HPK.out.mono ?_
  rintro e wx ⟨rfl, hwx⟩
  rw [← hwx]
  clear hwx wx HPK
  go_upto_region 2 with fail
  rw [hN]
  clear hN
  go_wp2_with fail
  refine (new_to w).mono ?_
  rintro e w1 ⟨rfl, g1, b1⟩
  have K1 : Hid (Ks w w1 [] (w.heap.size + 1) w.heap.size [] []) := Lib.hid (Ks.mk b1 (fun _ h => nomatch h) g1 (Nat.le_refl _) (fun _ h => nomatch h))
  clear b1 g1
  generalize w.heap.size + 1 = g at *
  generalize hmb : w.heap.size = bm at K1
  have HMB := Lib.hid hmb
  clear hmb
  have hnp : ∀ w : World, (binOp .eql 23 (gp g) (.pointer none)).run Try.prog w = .ok (.bool false) w := fun w => by kernel_rfl
  go_wp2_with fail
  refine (known12_to w1).mono ?_
  rintro e w2 ⟨rfl, b2⟩
  have K2 := Lib.hid (K1.out.kb b2)
  clear b2 K1
  go_upto_region 7 with fail
  have HZ := heap_alloc_last w2 (.cells hzer 27)
  have hzl : (#[.int .u8 0, .int .u8 0, .int .u8 0, .int .u8 0, .int .u8 0, .int .u8 0, .int .u8 0, .int .u8 0, .int .u8 0, .int .u8 0, .int .u8 0, .int .u8 0, .int .u8 0, .int .u8 0, .int .u8 0, .int .u8 0, .int .u8 0, .int .u8 0, .int .u8 0, .int .u8 0, .int .u8 0, .int .u8 0, .int .u8 0, .int .u8 0, .int .u8 0, .int .u8 0, .int .u8 0, .int .u8 0, .int .u8 0, .int .u8 0, .int .u8 0, .int .u8 0] : Array Value) = hzer := rfl
  try rw [hzl]
  have L2 : Hid (LO w (w2.alloc (.cells hzer 27)) g bm w2.heap.size N 0 (.slice none 0 0)) := Lib.hid ⟨[], 0, hz, ⟨K2.out.kb (below_al11 w2 _), HZ, K2.out.bel.size, rfl, ⟨by simp [lks, fl], .inl ⟨rfl, rfl⟩⟩, (fun e => (by cases e)), ⟨by simp [cfT, kvs, amap, cf], .inl ⟨rfl, rfl⟩⟩, by simp [seg, gr, amap], Nat.le_refl _, (fun _ h => (by cases h)), (fun _ h => (by cases h))⟩, rfl, Wf.nil, fun h => absurd rfl h, fun _ => rfl, fun h => by have := HN1.out; omega⟩
  clear HZ hzl K2
  generalize w2.alloc (.cells hzer 27) = w3 at *
  generalize w2.heap.size = hb at *
  go_wp2_with fail
  go_loopw [5, 6] (fun z i wr => ∃ a : Nat, i = .int .i64 (a : Int) ∧ a ≤ 900 ∧ Hid (LO w wr g bm hb N a z)) (fun _ i _ => 900 - (intOf i).toNat)
  case atStart => exact ⟨0, rfl, by decide, L2⟩
  case round =>
    obtain ⟨a, rfl, ha, L⟩ := hrel
    clear L2
    by_cases hlt : a < N
    · have hlt1 := lt_int hlt
      obtain ⟨X, k, q0, li0, hX, hWf, hq0, hk1, _⟩ := L.out.ex
      obtain rfl : k = a := hk1 hlt
      have HX := Lib.hid hX
      have HWF := Lib.hid hWf
      have LI0 : Hid (∃ q T, LI w wr g bm hb X k k k q _ (.slice none 0 0) T ∧ (k ≠ 0 → q = lk (k - 1))) := Lib.hid ⟨q0, [], li0, hq0⟩
      clear L li0 hX hWf hq0 hk1
      obtain ⟨ha1, ha2, ha3, ha4⟩ := k100 hlt HN2.out
      go_wp2_with fail
      go_loopw [5, 7, 8] (fun z l i wr => ∃ m : Nat, i = .int .i64 (m : Int) ∧ k ≤ m ∧ m ≤ k + 100 ∧ m ≤ N ∧ Hid (∃ q T, LI w wr g bm hb X k m m q z l T ∧ (m ≠ 0 → q = lk (m - 1)))) (fun _ _ i _ => 2000 - (intOf i).toNat)
      case atStart => exact ⟨k, rfl, Nat.le_refl _, ha3, ha4, LI0⟩
      case round =>
        obtain ⟨m, rfl, hm1, hm2, hm3, LM⟩ := hrel
        clear LI0
        by_cases hc1 : m < k + 100
        · have hd1 := lt100 hc1
          by_cases hc2 : m < N
          · have hd2 := lt_int hc2
            obtain ⟨f1, f2, f3, f4, f5, f6, f7⟩ := m1 hm1 hc1 hc2 HN2.out
            have F2 := Lib.hid f2
            have F3 := Lib.hid f3
            have F4 := Lib.hid f4
            have F6 := Lib.hid f6
            have F7 := Lib.hid f7
            obtain ⟨q, T, li, hq⟩ := LM.out
            obtain ⟨pz, nz, cz, rfl, hnz⟩ := own_sh li.wo
            obtain ⟨pl, nl, cl, rfl, hnl⟩ := own_shc li.lo
            have L0 := Lib.hid li
            have HQ := Lib.hid hq
            have HNZ := Lib.hid hnz
            have HNL := Lib.hid hnl
            obtain ⟨x, hx⟩ : ∃ x, x = lk m := ⟨_, rfl⟩
            have HBX := lk_built m f5
            rw [← hx] at HBX
            have HB := Lib.hid HBX
            have x32 : x.length = 32 := by rw [hx]; exact lk_len m
            have HX2 := Lib.hid x32
            have HXE := Lib.hid hx
            have st := cst_cells x (.slice none 0 0) x32 rfl wr
            have hks : (cmv x (.slice none 0 0)).size = 33 := cmv_size x32 _
            clear li hq LM hx HBX x32 hm1 hm2 hm3 hc1 hc2 f2 f3 f4 f5 f6 f7 hnz hnl
            go_upto_region 15 with (first
              | (refine build_w (vals := #[(0, .int .u8 ((m : Int) / 256)), (1, .int .u8 ((m : Int) % 256)), (2, .int .u8 1)]) HB.out ?hv ?hw ?_; (case hv => first | rfl | simp [Act.put, Act.eval]); (case hw => first | rfl | simp [Region.wanted, yielded]))
              | (refine build_w (t := 32) (vals := #[(0, .agg (hv x))]) (built_commit0 x HX2.out) ?hv ?hw ?_; (case hv => first | rfl | simp [Act.put, Act.eval]); (case hw => first | rfl | simp [Region.wanted, yielded])))
            have AL := below_al11 wr (.cells (cmv x (.slice none 0 0)) 32)
            have C1 := Lib.hid (heap_alloc_last wr (.cells (cmv x (.slice none 0 0)) 32))
            have BL := Lib.hid AL
            have HCB : Hid (hb < wr.heap.size) := Lib.hid L0.out.lt
            have HZL : Hid (∀ j, (Value.slice pz nz cz).ownBlock = some j → j < wr.heap.size) := Lib.hid (fun j hj => L0.out.wlt hj)
            clear AL st hks
            generalize wr.alloc (.cells (cmv x (.slice none 0 0)) 32) = w4 at *
            generalize hcb : wr.heap.size = cb at *
            have HCE := Lib.hid hcb
            clear hcb
            rcases Nat.eq_zero_or_pos m with h0 | h0
            focus
              have hz0 := npos_int h0
              go_upto_region 17 with fail
              have LP : Hid (∃ u, LI w w4 g bm hb X k m m q (.slice pz nz cz) (.slice pl nl cl) T ∧ w4.heap[cb]? = some (.cells (cmv x u) 32 (0, 0)) ∧ PR w4 hb (.slice pz nz cz) (x, (u, lp m)) ∧ u.oneCell' = true) := Lib.hid ⟨_, L0.out.kb (by rw [HCE.out]; exact BL.out), C1.out, .inl ⟨rfl, by unfold lp; rw [if_pos h0]⟩, rfl⟩
              clear hz0 h0 C1 BL L0 HQ
              rename World => w5
            rotate_left
            focus
              have hz0 := pos_int h0
              have L1 := Lib.hid (L0.out.kb (V := w4) (by rw [HCE.out]; exact BL.out))
              have hl := hld_row L1.out.q32 L1.out.hc
              have AL2 := below_al11 w4 (.cells (fl [q]).toArray 27)
              have C2 := Lib.hid ((mild_below AL2).cells C1.out)
              have hc2 := cm_cell HX2.out C2.out
              have hfz : (w4.alloc (.cells (fl [q]).toArray 27)).frozen? ⟨cb, 32, none⟩ = false := frozen_of_row _ _ _ _ _ C2.out
              have BL2 := Lib.hid AL2
              have R2 := Lib.hid (heap_alloc_last w4 (.cells (fl [q]).toArray 27))
              have CL4 : Hid (cb < w4.heap.size) := Lib.hid (Array.getElem?_eq_some_iff.1 C1.out).1
              clear AL2
              go_upto_region 17 with (first
                | (refine slice_w (E := [q]) (H32.one L1.out.q32) rfl (by simp) (by simp) ?hv ?hw ?_; (case hv => first | rfl | simp [Act.put, Act.eval]); (case hw => first | rfl | simp [Region.wanted, yielded])))
              have so := (Only.refl (fun j => j = cb) (w4.alloc (.cells (fl [q]).toArray 27))).setCell (p := ⟨cb, 32, none⟩) rfl (.slice (some ⟨w4.heap.size, 0, none⟩) 1 1)
              have c3 : ((w4.alloc (.cells (fl [q]).toArray 27)).setCell ⟨cb, 32, none⟩ (.slice (some ⟨w4.heap.size, 0, none⟩) 1 1)).heap[cb]? = some (.cells (cmv x (.slice (some ⟨w4.heap.size, 0, none⟩) 1 1)) 32 (0, 0)) := by rw [heap_setCell_same _ cb 32 _ _ _ C2.out, cmv_set HX2.out]
              have bb : Below wr.heap.size wr ((w4.alloc (.cells (fl [q]).toArray 27)).setCell ⟨cb, 32, none⟩ (.slice (some ⟨w4.heap.size, 0, none⟩) 1 1)) := by
                have b1 : Below wr.heap.size wr w4 := by rw [HCE.out]; exact BL.out
                have b2 := b1.trans (BL2.out.mono b1.size)
                exact b2.trans (so.below b2.size (fun j hj => by rw [hj, HCE.out]; exact Nat.le_refl _))
              have LP : Hid (∃ u, LI w ((w4.alloc (.cells (fl [q]).toArray 27)).setCell ⟨cb, 32, none⟩ (.slice (some ⟨w4.heap.size, 0, none⟩) 1 1)) g bm hb X k m m q (.slice pz nz cz) (.slice pl nl cl) T ∧ ((w4.alloc (.cells (fl [q]).toArray 27)).setCell ⟨cb, 32, none⟩ (.slice (some ⟨w4.heap.size, 0, none⟩) 1 1)).heap[cb]? = some (.cells (cmv x u) 32 (0, 0)) ∧ PR ((w4.alloc (.cells (fl [q]).toArray 27)).setCell ⟨cb, 32, none⟩ (.slice (some ⟨w4.heap.size, 0, none⟩) 1 1)) hb (.slice pz nz cz) (x, (u, lp m)) ∧ u.oneCell' = true) := Lib.hid ⟨_, L0.out.kb bb, c3, .inr ⟨w4.heap.size, rfl, by rw [lp_pos h0 (HQ.out (Nat.pos_iff_ne_zero.1 h0))]; rfl, by
                  show _ = some (Obj.cells (fl (lp m)).toArray 27 (0, 0))
                  rw [lp_pos h0 (HQ.out (Nat.pos_iff_ne_zero.1 h0))]
                  exact (so.block _ (Array.getElem?_eq_some_iff.1 R2.out).1 (fun e => by have := CL4.out; omega)).trans R2.out, fun e => by have := CL4.out; have := HCB.out; omega, fun e => by have := CL4.out; have := HZL.out _ e; omega⟩, rfl⟩
              clear so c3 bb hz0 h0 C1 C2 BL BL2 R2 CL4 L0 L1 HQ hl hc2 hfz
              generalize (w4.alloc (.cells (fl [q]).toArray 27)).setCell ⟨cb, 32, none⟩ (.slice (some ⟨w4.heap.size, 0, none⟩) 1 1) = w5 at *
            all_goals (
              obtain ⟨u, l5, c5, p5, u5⟩ := LP.out
              have L5 := Lib.hid l5
              have C5 := Lib.hid c5
              have P5 := Lib.hid p5
              have U5 := Lib.hid u5
              clear l5 c5 p5 u5 LP
              have hlx := cm_hld HX2.out C5.out
              have HT : Hid (w5.there hb 0 (hv x).size) := Lib.hid (by rw [hv_size, HX2.out]; exact there32 (by rw [hv_size, L5.out.q32]) L5.out.hc)
              go_upto_region 18 with (refine store_to HT.out (hinfo (hv x) (by rw [hv_size, HX2.out])) (hv_one _) ?hx ?hy ?_; (case hx => rfl); (case hy => simp [Act.eval]))
              have SS := L5.out.store HX2.out
              have HCH : Hid (cb ≠ hb) := Lib.hid (fun e => by have h1 := C5.out; rw [e, L5.out.hc] at h1; injection h1 with h1; injection h1 with _ h1 _; exact absurd h1 (by decide))
              have L6 := Lib.hid SS.1
              have C6 := Lib.hid ((SS.2.block cb (Array.getElem?_eq_some_iff.1 C5.out).1 HCH.out).trans C5.out)
              have P6 := Lib.hid (P5.out.keep SS.2 (fun j hj _ _ => .inl hj))
              clear SS L5 C5 P5 HT hlx HCH
              generalize w5.setCells hb 0 (hv x).toList = w6 at *
              have hcl : (cld ⟨cb, 0, none⟩).run Try.prog w6 = .ok (.agg (cmv x u)) w6 := cld_range HX2.out (by have := range_row C6.out; rwa [cmv_list] at this)
              have AL6 := below_al11 w6 (.cells (cf [(x, u)]).toArray 32)
              have L7 := Lib.hid (L6.out.kb AL6)
              have P7 := Lib.hid (P6.out.kb AL6)
              have TS7 := Lib.hid (TS.one (x := (x, (u, lp m))) (heap_alloc_last w6 (.cells (cf [(x, u)]).toArray 32)) HX2.out P7.out.seen)
              have HTL : Hid (T.length + [(x, (u, lp m))].length ≤ 1000000) := Lib.hid (by have h1 := congrArg List.length L7.out.gt; rw [gr_len, seg_len] at h1; have h2 := F7.out; simp only [List.length_cons, List.length_nil]; omega)
              clear AL6 L6 C6 P6
              go_upto_region 19 with (first
                | (refine slicec_w (C := [(x, u)]) (by simp [HX2.out]) rfl (by simp) (by simp) ?hv ?hw ?_; (case hv => first | rfl | simp [Act.put, Act.eval]); (case hw => first | rfl | simp [Region.wanted, yielded]))
                | (at_builtin; refine push_comms (by rfl) (.tmp 51) (.tmp 53) (by rfl) w.heap.size _ _ T [(x, (u, lp m))] (by rfl) L7.out.lo (by rfl) TS7.out HTL.out L7.out.ks.bel.size ?_; intro v8 w8 o8 t8 c8; obtain ⟨p8, n8, d8, rfl, hn8⟩ := own_shc o8; have O8 := Lib.hid o8; have T8 := Lib.hid t8; have LC8 := Lib.hid c8; clear o8 t8 c8 hn8))
              have L8 := Lib.hid (L7.out.pushl (x := (x, (u, lp m))) (by show (x, lp m) = lcm m; rw [HXE.out]) P7.out O8.out T8.out LC8.out)
              clear L7 P7 TS7 HTL O8 T8 LC8 hcl
              have hlx := hld_row L8.out.q32 L8.out.hc
              have AL8 := below_al11 w8 (.cells (fl [x]).toArray 27)
              have L9 := Lib.hid (L8.out.kb AL8)
              have HU9 : Hid ((w8.alloc (.cells (fl [x]).toArray 27)).heap[w8.heap.size]? = some (.cells (hv x) 27 (0, 0))) := Lib.hid ((heap_alloc_last w8 (.cells (fl [x]).toArray 27)).trans (by rw [fl_hv]))
              have HLN : Hid ((lks m).length + 1 ≤ 1000000) := Lib.hid (by rw [lks_len]; exact F7.out)
              clear AL8 L8
              go_wp2_with (first
                | (refine slice_w (E := [x]) (H32.one HX2.out) rfl (by simp) (by simp) ?hv ?hw ?_; (case hv => first | rfl | simp [Act.put, Act.eval]); (case hw => first | rfl | simp [Region.wanted, yielded]))
                | (at_builtin; refine push_hash11 (by rfl) (.tmp 55) (.tmp 57) (by rfl) w.heap.size _ (lks m) w8.heap.size x HX2.out (by rfl) L9.out.wo (by rfl) HU9.out HLN.out L9.out.ks.bel.size (m + 1) (by rw [lks_len]) ?_; intro p9 d9 w9 o9 t9 c9; have O9 := Lib.hid o9; have T9 := Lib.hid t9; have LC9 := Lib.hid c9; clear o9 t9 c9))
              have L10 := Lib.hid (L9.out.pushw (by have := O9.out; rwa [HXE.out] at this) T9.out LC9.out)
              exact ⟨⟨m + 1, by go_num, F2.out, F3.out, F4.out, Lib.hid ⟨x, _, L10.out, fun _ => HXE.out⟩⟩, by simp [intOf]; have := F6.out; omega⟩)
          · have hd2 := nlt_int hc2
            obtain ⟨g1, g2, g3, g4, g5, g6⟩ := fin1 hm1 hm2 hm3 hlt HN2.out (.inr hc2)
            have G1 := Lib.hid g1
            have G2 := Lib.hid g2
            have G3 := Lib.hid g3
            have G4 := Lib.hid g4
            have G5 := Lib.hid g5
            have G6 := Lib.hid g6
            have HM1 := Lib.hid hm1
            obtain ⟨q, T, li, hq⟩ := LM.out
            obtain ⟨pl, nl, cl, rfl, hnl⟩ := own_shc li.lo
            have L0 := Lib.hid li
            have HQ := Lib.hid hq
            have HAD := Lib.hid (add_to wr g bm X _ (seg k (m - k)) li.ks.ga HWF.out li.ts (seg_ok _ _) (by rw [seg_len]; exact Nat.le_trans g4 (by decide)) seg_par)
            clear li hq LM hm1 hm2 hm3 g1 g2 g3 g4 g5 g6 hnl
            go_wp2_with fail
            refine HAD.out.mono ?_
            intro e w9 hp
            obtain ⟨X9, rfl, l9, hX9⟩ := L0.out.added HX.out G3.out G4.out hp
            have L9 : Hid (LO w w9 g bm hb N (k + 100) _) := Lib.hid ⟨X9, m, q, l9, hX9, hX9 ▸ wf_next (HX.out ▸ HWF.out) HM1.out G3.out G4.out, HQ.out, G1.out, G2.out⟩
            clear l9 hX9 hp HAD L0
            go_wp2_with fail
            exact ⟨⟨k + 100, by go_num, G5.out, L9⟩, by simp [intOf]; have := G6.out; omega⟩
        · have hd1 := nlt100 hc1
          obtain ⟨g1, g2, g3, g4, g5, g6⟩ := fin1 hm1 hm2 hm3 hlt HN2.out (.inl hc1)
          have G1 := Lib.hid g1
          have G2 := Lib.hid g2
          have G3 := Lib.hid g3
          have G4 := Lib.hid g4
          have G5 := Lib.hid g5
          have G6 := Lib.hid g6
          have HM1 := Lib.hid hm1
          obtain ⟨q, T, li, hq⟩ := LM.out
          obtain ⟨pl, nl, cl, rfl, hnl⟩ := own_shc li.lo
          have L0 := Lib.hid li
          have HQ := Lib.hid hq
          have HAD := Lib.hid (add_to wr g bm X _ (seg k (m - k)) li.ks.ga HWF.out li.ts (seg_ok _ _) (by rw [seg_len]; exact Nat.le_trans g4 (by decide)) seg_par)
          clear li hq LM hm1 hm2 hm3 g1 g2 g3 g4 g5 g6 hnl
          go_wp2_with fail
          refine HAD.out.mono ?_
          intro e w9 hp
          obtain ⟨X9, rfl, l9, hX9⟩ := L0.out.added HX.out G3.out G4.out hp
          have L9 : Hid (LO w w9 g bm hb N (k + 100) _) := Lib.hid ⟨X9, m, q, l9, hX9, hX9 ▸ wf_next (HX.out ▸ HWF.out) HM1.out G3.out G4.out, HQ.out, G1.out, G2.out⟩
          clear l9 hX9 hp HAD L0
          go_wp2_with fail
          exact ⟨⟨k + 100, by go_num, G5.out, L9⟩, by simp [intOf]; have := G6.out; omega⟩
    · have hlt1 := nlt_int hlt
      obtain ⟨X, k, q, li, hX, hWf, hq, _, hk⟩ := L.out.ex
      obtain rfl : k = N := hk (Nat.le_of_not_lt hlt)
      obtain ⟨pz, nz, cz, rfl, hnz⟩ := own_sh li.wo
      have hqn : q = lk (k - 1) := hq (by have := HN1.out; omega)
      have L0 := Lib.hid li
      have HQ := Lib.hid hqn
      have HX := Lib.hid hX
      have HWF := Lib.hid hWf
      clear L li hX hWf hq hk hqn hlt hnz
      have hl := hld_row L0.out.q32 L0.out.hc
      have AL := below_al11 wr (.cells (fl [q]).toArray 27)
      have L1 := Lib.hid (L0.out.kb AL)
      have HW := Lib.hid (walk_to (wr.alloc (.cells (fl [q]).toArray 27)) g bm X L1.out.ks.ga HWF.out _ [q] (hseen_new (heap_alloc_last wr (.cells (fl [q]).toArray 27)) 1 rfl) (H32.one L1.out.q32) (by simp) .nilFunc (fun _ => false) (Dn.none _))
      clear AL L0
      go_wp2_with (first
        | (refine slice_w (E := [q]) (H32.one L1.out.q32) rfl (by simp) (by simp) ?hv ?hw ?_; (case hv => first | rfl | simp [Act.put, Act.eval]); (case hw => first | rfl | simp [Region.wanted, yielded])))
      generalize wr.alloc (.cells (fl [q]).toArray 27) = w4 at *
      refine HW.out.mono ?_
      rintro e w5 ⟨v5, o5, rfl, h5, ⟨M, vl⟩, b5⟩
      rw [HX.out, HQ.out] at vl
      obtain rfl := chn_walked (by have := HN1.out; omega) (by have := HN2.out; omega) vl
      have L5 := Lib.hid (L1.out.kb b5)
      have SM := Lib.hid (same_any w5 _ _ v5 _ (lks k) (lks_h32 k) h5 L5.out.wo (by rw [lks_len]; have := HN2.out; omega))
      obtain ⟨p5, n5, c5, rfl, hn5⟩ := own_sh h5
      clear hn5 vl h5 b5 HW L1 hl
      go_wp2_with fail
      refine SM.out.mono ?_
      rintro e w6 ⟨rfl, hq6⟩
      have B6 : Hid (Below w.heap.size w w6) := Lib.hid (by
        obtain ⟨nq, rfl⟩ := hq6
        exact L5.out.ks.bel.trans ((blw_qt _ nq _).mono L5.out.ks.bel.size))
      clear hq6
      go_wp2_with fail
      go_ret
      exact ⟨rfl, B6.out⟩
end Go.Proofs.Ytnpeahbbcolfmaa
namespace Go.Proofs.Ytnpeahbbcolfmaa.orderLongP
open Go.ChangeShapes Go.WideShapes Go.ChangeAt Go.RowKit
open Go.ChangeMaps (open_string shut_string)
theorem own : ownKnob Try.prog.godebug = none := by kernel_rfl

set_option maxRecDepth 100000 in
theorem lifted (os : Os) (started : os.Started) (H : Type) (enc : TypeId × Value → H) :
    ReturnsInHanded {} Try.checked os 3 .any (Rows.orderLongSpec.pre6 enc Try.prog Try.f3 Rows.orderLongRow.domain false) (Rows.orderLongSpec.post enc Try.prog Try.f3 false true false false) := by
  refine returnsInHanded_of_change (C := Try.checked) own started (by kernel_rfl) Try.func3
    (ChangeSpec.witness6 (enc := enc) (C := Try.checked) false ⟨#[], #[.int .i64 0], []⟩ 8 (by kernel_rfl) (by kernel_rfl) (by kernel_rfl) (by kernel_rfl)) ?_
  intro W base args ds gs before hval0 hW hcnd _
  have hW' := hW
  obtain ⟨p, q, hA0, hV, rfl, hfz, hnd⟩ := hW
  have hA : DataW.TrodAll enc Try.prog W 0 (fun _ => true) true Try.f3.params.toList args.toList ds p := hA0
  have hval : ∀ (j : Nat) t v, Try.f3.params[j]? = some t → args[j]? = some v → Value.okWide Try.prog W .any base t v := hval0
  rw [Try.params3] at hA hval
  obtain ⟨v0, vs0, d0, ds0, p0, q0, hargs, rfl, rfl, h0, r0⟩ := trodAll_cons hA
  obtain ⟨rfl, rfl, rfl⟩ := trodAll_nil r0
  obtain rfl : args = #[v0] := by cases args; simp_all
  obtain ⟨rfl, rfl⟩ := trodVars_none hV
  obtain ⟨a0, rfl, rfl, rfl, w0⟩ := open_int Try.underlying3 (hval 0 3 v0 rfl rfl) h0
  clear hA0 hval0
  refine ((orderlong_walk W a0)).mono fun e W' ⟨he, bel⟩ => ?_
  subst he
  exact ⟨_, rfl, _, _, _, [], _, [], hW', trodAll_mk1 (shut_bool Try.underlying4 _), (trodAll_cons_mk (shut_int Try.underlying3 w0) trodAll_mk0), rfl, bel.frame _, fun h => by cases h⟩

theorem over : Rows.orderLongRow.holds Try.pinned (OpenSpec.ofChange Rows.orderLongSpec) :=
  OpenClaim.holds_of_wide 3 Try.f3 rfl rfl rfl rfl rfl rfl rfl ⟨rfl, rfl, rfl, rfl, rfl⟩ rfl rfl rfl rfl rfl (by kernel_rfl) Try.func3 (by kernel_rfl)
    (of_decide_eq_true (by kernel_rfl)) (by unfold Func.isWrapper; first | (rw [if_pos (by decide +kernel)]; kernel_rfl) | (rw [if_neg (by decide +kernel)]; exact ⟨rfl, rfl⟩))
    (fun os started H enc _ => lifted os started H enc)

theorem proved : Rows.OrderLongSaid := over
#print axioms proved
end Go.Proofs.Ytnpeahbbcolfmaa.orderLongP
