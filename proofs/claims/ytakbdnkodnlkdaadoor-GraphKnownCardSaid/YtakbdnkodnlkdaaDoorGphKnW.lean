/- GraphKnown's walk. Condition: errors.errorType holds what its text lays. -/
import Derived.Test.YtakbdnkodnlkdaaDoorGphKn
import Derived.Test.YtakbdnkodnlkdaaDoorHexSm
namespace Go.Proofs.YtakbdnkodnlkdaaDoor
open Go.RowKit Go.Extern.Stop Go.Stop Go.Extern
open Go.Maps

theorem kn_hashes (w W : World) (g bm : Nat) (X : Lx) (a b c : Key) (la : a.length = 32) (lb : b.length = 32) (lc : c.length = 32) (h : Ks w W [] g bm X []) :
    Ks w (((W.alloc (.cells (hv a) 26)).alloc (.cells (hv b) 26)).alloc (.cells (hv c) 26)) [(W.heap.size + 2, c), (W.heap.size + 1, b), (W.heap.size, a)] g bm X [] := by
  have k1 := (h.al (.cells (hv a) 26)).hash la (heap_alloc_last W _)
  have h2 := heap_alloc_last (W.alloc (.cells (hv a) 26)) (.cells (hv b) 26)
  rw [show (W.alloc (.cells (hv a) 26)).heap.size = W.heap.size + 1 by simp] at h2
  have k2 := (k1.al (.cells (hv b) 26)).hash lb h2
  have h3 := heap_alloc_last ((W.alloc (.cells (hv a) 26)).alloc (.cells (hv b) 26)) (.cells (hv c) 26)
  rw [show ((W.alloc (.cells (hv a) 26)).alloc (.cells (hv b) 26)).heap.size = W.heap.size + 2 by simp] at h3
  exact (k2.al (.cells (hv c) 26)).hash lc h3
theorem six {w W : World} {ha hb hc hl hm gv : Nat} {a b c : Key} {R : List Value} {g bm : Nat} {X : Lx} {L : List (Value × Rf)} (k : Ks w W [(hm, b), (hl, c), (hc, c), (hb, b), (ha, a)] g bm X L) (la : a.length = 32) (cv : W.heap[gv]? = some (.cells (fl [a] ++ R).toArray 26 (0, 0))) :
    (fun W => (hld ⟨ha, 0, none⟩).run Tryd.prog W = .ok (.agg (hv a)) W ∧ (hld ⟨hb, 0, none⟩).run Tryd.prog W = .ok (.agg (hv b)) W ∧ (hld ⟨hc, 0, none⟩).run Tryd.prog W = .ok (.agg (hv c)) W ∧ (hld ⟨hl, 0, none⟩).run Tryd.prog W = .ok (.agg (hv c)) W ∧ (hld ⟨hm, 0, none⟩).run Tryd.prog W = .ok (.agg (hv b)) W ∧ (hld ⟨gv, 0, none⟩).run Tryd.prog W = .ok (.agg (hv a)) W) W := by
  refine ⟨k.ld _ _ (by simp), k.ld _ _ (by simp), k.ld _ _ (by simp), k.ld _ _ (by simp), k.ld _ _ (by simp), ?_⟩
  exact hld_at (E := [a]) (i := 0) (H32.one la) (by simp) cv 0
section
variable {ops : Array Oper} {a : Act} {w : World} {K : Act → World → Prop} {Q : Exit → Act → World → Prop} {X : Prop} {dst : Option Tmp} {T : TypeId} {pos : String} {after : Array Edge} {gd : Option (Nat × Bool)}
theorem step_slice1 {x : Operand} (h : Key) (hh : h.length = 32) (hx : a.eval x = .agg (hv h)) (hw : Region.wanted ⟨dst, .buildSlice 31 1 #[(0, x)], T, pos, after, gd⟩ (yielded ops a.tmps) = true)
    (hK : K (a.put dst (.slice (some ⟨w.heap.size, 0, none⟩) 1 1)) (w.alloc (.cells (hv h) 26))) :
    if Region.wanted ⟨dst, .buildSlice 31 1 #[(0, x)], T, pos, after, gd⟩ (yielded ops a.tmps) = true then Oper.wp Tryd.prog ⟨dst, .buildSlice 31 1 #[(0, x)], T, pos, after, gd⟩ a w K Q else X := by
  rw [if_pos hw]
  unfold Oper.wp execOp
  simp only [Sem.run_bind, Sem.run_pure, Result.andThen_ok, List.map_toArray, List.map_cons, List.map_nil, hx, run_build_hash w h hh]
  exact hK
end
theorem seen_one (w : World) (h : Key) : HSeen (w.alloc (.cells (hv h) 26)) (.slice (some ⟨w.heap.size, 0, none⟩) 1 1) [h] := by
  have hb : (w.alloc (.cells (fl [h]).toArray 26)) = w.alloc (.cells (hv h) 26) := by rw [show fl [h] = us (nmb h) by simp [fl], ← hv_list, Array.toArray_toList]
  exact hb ▸ hseen_new (heap_alloc_last w _) 1 rfl
theorem wf2 {a b : Key} (X : Lx) (hX : gr X = [(a, []), (b, [a])]) (hw : Wf [(a, []), (b, [a])]) : Wf (gr X) := hX ▸ hw
set_option linter.unusedSimpArgs false in
set_option maxRecDepth 20000 in
set_option maxHeartbeats 8000000 in
attribute [local go_sem ↓] hld_open heq_open in
theorem known11w_gen (a b c d4 d5 d6 d7 d8 d9 : Key) (hk : Kz a b c d4 d5 d6 d7 d8 d9) (w : World) (hg : Glob w) : Calls Tryd.prog 3 #[] w fun e w' => e = .returned (.bool true) ∧ Below w.heap.size w w' := by
  have HG := Lib.hid hg
  have HK := Lib.hid hk
  clear hg hk
  go_enter Tryd.func3, Tryd.ntmps3
  go_wp2_with fail
  refine (new_to w).mono ?_
  rintro e w1 ⟨rfl, g1, b1⟩
  have K1 : Hid (Ks w w1 [] (w.heap.size + 1) w.heap.size [] []) := Lib.hid (Ks.mk b1 (fun _ h => nomatch h) g1 (Nat.le_refl _) (fun _ h => nomatch h))
  clear b1 g1
  generalize w.heap.size + 1 = gb at *
  generalize hmb : w.heap.size = mb at K1
  clear hmb
  have hnp : ∀ w : World, (binOp .eql 22 (gp gb) (.pointer none)).run Tryd.prog w = .ok (.bool false) w := fun w => by kernel_rfl
  have KN := Lib.hid (known11_to w1 (HG.out.kb K1.out.bel))
  go_wp2_with fail
  refine KN.out.mono ?_
  rintro e w2 ⟨rfl, b2⟩
  have K2 := Lib.hid (kn_hashes w w2 gb mb [] a b c HK.out.la HK.out.lb HK.out.lc (K1.out.kb b2))
  have hks : (hv a).size = 32 := by rw [hv_size, HK.out.la]
  have hks2 : (hv b).size = 32 := by rw [hv_size, HK.out.lb]
  have hks3 : (hv c).size = 32 := by rw [hv_size, HK.out.lc]
  have st1 := hst_cells a HK.out.la w2
  have st2 := hst_cells b HK.out.lb (w2.alloc (.cells (hv a) 26))
  have st3 := hst_cells c HK.out.lc ((w2.alloc (.cells (hv a) 26)).alloc (.cells (hv b) 26))
  rw [al_size] at st2
  rw [al_size, al_size] at st3
  clear b2
  go_wp2_with (first
    | (refine build_w (vals := #[(0, .int .u8 1)]) HK.out.b1 ?hv ?hw ?_; (case hv => first | rfl | simp [Act.put, Act.eval]); (case hw => first | rfl | simp [Region.wanted, yielded]))
    | (refine build_w (vals := #[(0, .int .u8 2)]) HK.out.b2 ?hv ?hw ?_; (case hv => first | rfl | simp [Act.put, Act.eval]); (case hw => first | rfl | simp [Region.wanted, yielded]))
    | (refine build_w (vals := #[(0, .int .u8 3)]) HK.out.b3 ?hv ?hw ?_; (case hv => first | rfl | simp [Act.put, Act.eval]); (case hw => first | rfl | simp [Region.wanted, yielded])))
  generalize ((w2.alloc (.cells (hv a) 26)).alloc (.cells (hv b) 26)).alloc (.cells (hv c) 26) = w3 at *
  generalize w2.heap.size + 2 = hc at *
  generalize w2.heap.size + 1 = hb at *
  generalize w2.heap.size = ha at *
  clear st1 st2 st3
  refine (check_to w3 gb mb [] (.slice none 0 0) (.slice none 0 0) 0 [] [] K2.out.ga (by decide) (fun _ h => nomatch h) (cseen_nil _) (.inl ⟨rfl, rfl⟩) (fun _ h => nomatch h) H32.nil (by decide) (fun _ h => nomatch h) (by decide)).mono ?_
  rintro e w4 ⟨x5, rfl, ex, b4⟩
  rw [show gr ([] : Lx) = [] from rfl, HK.out.fe] at ex
  have K4 := Lib.hid ((K2.out.kb b4).add ex)
  clear b4 ex
  have la := K4.out.ld ha a (by simp)
  go_wp2_with (first
    | (refine build_w (vals := #[(0, .int .u8 4)]) HK.out.b4 ?hv ?hw ?_; (case hv => first | rfl | simp [Act.put, Act.eval]); (case hw => first | rfl | simp [Region.wanted, yielded]))
    | (refine build_w (vals := #[(0, .int .u8 5)]) HK.out.b5 ?hv ?hw ?_; (case hv => first | rfl | simp [Act.put, Act.eval]); (case hw => first | rfl | simp [Region.wanted, yielded]))
    | (refine build_w (vals := #[(0, .int .u8 6)]) HK.out.b6 ?hv ?hw ?_; (case hv => first | rfl | simp [Act.put, Act.eval]); (case hw => first | rfl | simp [Region.wanted, yielded]))
    | (refine build_w (vals := #[(0, .int .u8 7)]) HK.out.b7 ?hv ?hw ?_; (case hv => first | rfl | simp [Act.put, Act.eval]); (case hw => first | rfl | simp [Region.wanted, yielded]))
    | (refine build_w (vals := #[(0, .int .u8 8)]) HK.out.b8 ?hv ?hw ?_; (case hv => first | rfl | simp [Act.put, Act.eval]); (case hw => first | rfl | simp [Region.wanted, yielded]))
    | (refine slice_w (E := [d4, d5, d6, d7, d8]) HK.out.l4 rfl (by simp) (by simp) ?hv ?hw ?_; (case hv => first | rfl | simp [Act.put, Act.eval]); (case hw => first | rfl | simp [Region.wanted, yielded]))
    | (refine build_w (t := 36) (vals := #[(0, .agg (hv a)), (1, .slice (some ⟨w4.heap.size, 0, none⟩) 5 5)]) (built_commit a _ HK.out.la rfl) ?hv ?hw ?_; (case hv => first | rfl | simp [Act.put, Act.eval]); (case hw => first | rfl | simp [Region.wanted, yielded]))
    | (refine slicec_w (C := [(a, .slice (some ⟨w4.heap.size, 0, none⟩) 5 5)]) (by simpa using HK.out.la) rfl (by simp) (by simp) ?hv ?hw ?_; (case hv => first | rfl | simp [Act.put, Act.eval]); (case hw => first | rfl | simp [Region.wanted, yielded])))
  refine (add_to _ gb mb [] (.slice (some ⟨w4.heap.size + 1, 0, none⟩) 1 1) [(a, [d4, d5, d6, d7, d8])] ((K4.out.al _).al _).ga Wf.nil (Lits.made (.cons (lit_new w4 a [d4, d5, d6, d7, d8] 5 rfl) .nil) (by simpa using HK.out.la) 1 rfl _ (al_size _ _)) (fun c hc => by rw [List.mem_singleton.1 hc]; exact ⟨HK.out.la, HK.out.l4⟩) (by simp) (by simp)).mono ?_
  intro e w5 hp
  obtain ⟨x6, rfl, k5⟩ := ((K4.out.al _).al _).refused HK.out.ff hp
  have K5 := Lib.hid k5
  clear hp k5 la
  have la := K5.out.ld ha a (by simp)
  have lb := K5.out.ld hb b (by simp)
  go_wp2_with (first
    | (refine slice_w (E := [b, b]) (h32_two HK.out.lb HK.out.lb) rfl (by simp) (by simp) ?hv ?hw ?_; (case hv => first | rfl | simp [Act.put, Act.eval]); (case hw => first | rfl | simp [Region.wanted, yielded]))
    | (refine build_w (t := 36) (vals := #[(0, .agg (hv a)), (1, .slice (some ⟨w5.heap.size, 0, none⟩) 2 2)]) (built_commit a _ HK.out.la rfl) ?hv ?hw ?_; (case hv => first | rfl | simp [Act.put, Act.eval]); (case hw => first | rfl | simp [Region.wanted, yielded]))
    | (refine slicec_w (C := [(a, .slice (some ⟨w5.heap.size, 0, none⟩) 2 2)]) (by simpa using HK.out.la) rfl (by simp) (by simp) ?hv ?hw ?_; (case hv => first | rfl | simp [Act.put, Act.eval]); (case hw => first | rfl | simp [Region.wanted, yielded])))
  refine (add_to _ gb mb [] (.slice (some ⟨w5.heap.size + 1, 0, none⟩) 1 1) [(a, [b, b])] ((K5.out.al _).al _).ga Wf.nil (Lits.made (.cons (lit_new w5 a [b, b] 2 rfl) .nil) (by simpa using HK.out.la) 1 rfl _ (al_size _ _)) (fun c hc => by rw [List.mem_singleton.1 hc]; exact ⟨HK.out.la, h32_two HK.out.lb HK.out.lb⟩) (by simp) (by simp)).mono ?_
  intro e w6 hp
  obtain ⟨x7, rfl, k6⟩ := ((K5.out.al _).al _).refused HK.out.fh hp
  have K6 := Lib.hid k6
  clear hp k6 la lb
  have la := K6.out.ld ha a (by simp)
  have lb := K6.out.ld hb b (by simp)
  have la1 := (K6.out.al (.cells (fl [a]).toArray 26)).ld ha a (by simp)
  have lb1 := (K6.out.al (.cells (fl [a]).toArray 26)).ld hb b (by simp)
  go_wp2_with (first
    | (refine slice_w (E := [a]) (H32.one HK.out.la) rfl (by simp) (by simp) ?hv ?hw ?_; (case hv => first | rfl | simp [Act.put, Act.eval]); (case hw => first | rfl | simp [Region.wanted, yielded]))
    | (refine build_w (t := 36) (vals := #[(0, .agg (hv b)), (1, .slice (some ⟨w6.heap.size, 0, none⟩) 1 1)]) (built_commit b _ HK.out.lb rfl) ?hv ?hw ?_; (case hv => first | rfl | simp [Act.put, Act.eval]); (case hw => first | rfl | simp [Region.wanted, yielded]))
    | (refine build_w (t := 36) (vals := #[(0, .agg (hv b)), (1, .slice (some ⟨w6.heap.size + 1, 0, none⟩) 1 1)]) (built_commit b _ HK.out.lb rfl) ?hv ?hw ?_; (case hv => first | rfl | simp [Act.put, Act.eval]); (case hw => first | rfl | simp [Region.wanted, yielded]))
    | (refine build_w (t := 36) (vals := #[(0, .agg (hv a))]) (built_commit0 a HK.out.la) ?hv ?hw ?_; (case hv => first | rfl | simp [Act.put, Act.eval]); (case hw => first | rfl | simp [Region.wanted, yielded]))
    | (refine slicec_w (C := [(b, .slice (some ⟨w6.heap.size, 0, none⟩) 1 1), (a, .slice none 0 0), (b, .slice (some ⟨w6.heap.size + 1, 0, none⟩) 1 1)]) (by simp [HK.out.la, HK.out.lb]) rfl (by simp) (by simp) ?hv ?hw ?_; (case hv => first | rfl | simp [Act.put, Act.eval]); (case hw => first | rfl | simp [Region.wanted, yielded])))
  have two := two_rows w6 [a] [a]
  refine (add_to _ gb mb [] (.slice (some ⟨w6.heap.size + 1 + 1, 0, none⟩) 3 3) [(b, [a]), (a, []), (b, [a])] (((K6.out.al _).al _).al _).ga Wf.nil (Lits.made (.cons (lit_row b two.1 1 rfl) (.cons (lit_nil _ a) (.cons (lit_row b two.2 1 rfl) .nil))) (by simp [HK.out.la, HK.out.lb]) 3 rfl _ (by rw [al_size, al_size])) HK.out.okI (by simp) (by simp)).mono ?_
  intro e w7 hp
  obtain ⟨X, rfl, k7, hX⟩ := (((K6.out.al _).al _).al _).taken HK.out.fi hp
  rw [show gr ([] : Lx) = [] from rfl, HK.out.gi] at hX
  have K7 := Lib.hid k7
  have HX := Lib.hid hX
  have HW : Hid (Wf (gr X)) := Lib.hid (wf2 X hX (HK.out.gi ▸ add_wf Wf.nil HK.out.okI (chk_fine.1 HK.out.fi)))
  clear hp k7 hX la lb la1 lb1 two
  have lb := K7.out.ld hb b (by simp)
  go_wp2_with (first
    | (refine build_w (t := 36) (vals := #[(0, .agg (hv b))]) (built_commit0 b HK.out.lb) ?hv ?hw ?_; (case hv => first | rfl | simp [Act.put, Act.eval]); (case hw => first | rfl | simp [Region.wanted, yielded]))
    | (refine slicec_w (C := [(b, .slice none 0 0)]) (by simp [HK.out.lb]) rfl (by simp) (by simp) ?hv ?hw ?_; (case hv => first | rfl | simp [Act.put, Act.eval]); (case hw => first | rfl | simp [Region.wanted, yielded])))
  refine (add_to _ gb mb X (.slice (some ⟨w7.heap.size, 0, none⟩) 1 1) [(b, [])] (K7.out.al _).ga HW.out (Lits.made (.cons (lit_nil _ b) .nil) (by simpa using HK.out.lb) 1 rfl _ rfl) (cok0 HK.out.lb) (by simp) (by simp)).mono ?_
  intro e w8 hp
  obtain ⟨x9, rfl, k8⟩ := (K7.out.al _).refused (HX.out ▸ HK.out.fj) hp
  have K8 := Lib.hid k8
  clear hp k8 lb
  have la := K8.out.ld ha a (by simp)
  have lc := K8.out.ld hc c (by simp)
  go_wp2_with (first
    | (refine slice_w (E := [a, c]) (h32_two HK.out.la HK.out.lc) rfl (by simp) (by simp) ?hv ?hw ?_; (case hv => first | rfl | simp [Act.put, Act.eval]); (case hw => first | rfl | simp [Region.wanted, yielded])))
  refine (check_to (w8.alloc (.cells (fl [a, c]).toArray 26)) gb mb X (.slice none 0 0) (.slice (some ⟨w8.heap.size, 0, none⟩) 2 2) 1 [] [a, c] (K8.out.al _).ga HW.out.xlen (HW.out.parm 1000 (by decide)) (cseen_nil _) (hseen_new (heap_alloc_last w8 _) 2 rfl) (fun _ h => nomatch h) (h32_two HK.out.la HK.out.lc) (by simp) (fun _ h => nomatch h) (by simp)).mono ?_
  rintro e w9 ⟨x10, rfl, ex, b9⟩
  rw [HX.out, HK.out.fk] at ex
  have K9 := Lib.hid (((K8.out.al (.cells (fl [a, c]).toArray 26)).kb b9).add ex)
  clear b9 ex la lc
  have lc := K9.out.ld hc c (by simp)
  have lc1 := (K9.out.al (.cells (fl [d9]).toArray 26)).ld hc c (by simp)
  go_wp2_with (first
    | (refine build_w (vals := #[(0, .int .u8 9)]) HK.out.b9 ?hv ?hw ?_; (case hv => first | rfl | simp [Act.put, Act.eval]); (case hw => first | rfl | simp [Region.wanted, yielded]))
    | (refine slice_w (E := [d9]) (H32.one HK.out.l9) rfl (by simp) (by simp) ?hv ?hw ?_; (case hv => first | rfl | simp [Act.put, Act.eval]); (case hw => first | rfl | simp [Region.wanted, yielded]))
    | (refine slice_w (E := [c]) (H32.one HK.out.lc) rfl (by simp) (by simp) ?hv ?hw ?_; (case hv => first | rfl | simp [Act.put, Act.eval]); (case hw => first | rfl | simp [Region.wanted, yielded]))
    | (refine build_w (t := 36) (vals := #[(0, .agg (hv c)), (1, .slice (some ⟨w9.heap.size, 0, none⟩) 1 1)]) (built_commit c _ HK.out.lc rfl) ?hv ?hw ?_; (case hv => first | rfl | simp [Act.put, Act.eval]); (case hw => first | rfl | simp [Region.wanted, yielded]))
    | (refine build_w (t := 36) (vals := #[(0, .agg (hv d9)), (1, .slice (some ⟨w9.heap.size + 1, 0, none⟩) 1 1)]) (built_commit d9 _ HK.out.l9 rfl) ?hv ?hw ?_; (case hv => first | rfl | simp [Act.put, Act.eval]); (case hw => first | rfl | simp [Region.wanted, yielded]))
    | (refine slicec_w (C := [(c, .slice (some ⟨w9.heap.size, 0, none⟩) 1 1), (d9, .slice (some ⟨w9.heap.size + 1, 0, none⟩) 1 1)]) (by simp [HK.out.lc, HK.out.l9]) rfl (by simp) (by simp) ?hv ?hw ?_; (case hv => first | rfl | simp [Act.put, Act.eval]); (case hw => first | rfl | simp [Region.wanted, yielded])))
  have two := two_rows w9 [d9] [c]
  refine (check_to _ gb mb X (.slice (some ⟨w9.heap.size + 1 + 1, 0, none⟩) 2 2) (.slice none 0 0) 2 [(c, [d9]), (d9, [c])] [] (((K9.out.al _).al _).al _).ga HW.out.xlen (HW.out.parm 1000 (by decide)) (Lits.made (.cons (lit_row c two.1 1 rfl) (.cons (lit_row d9 two.2 1 rfl) .nil)) (by simp [HK.out.lc, HK.out.l9]) 2 rfl _ (by rw [al_size, al_size])) (.inl ⟨rfl, rfl⟩) HK.out.okL H32.nil (by simp) (by simp) (by simp)).mono ?_
  rintro e w10 ⟨x11, rfl, ex, b10⟩
  rw [HX.out, HK.out.fl] at ex
  have K10 := Lib.hid (((((K9.out.al _).al _).al _).kb b10).add ex)
  clear b10 ex lc lc1 two
  have la := K10.out.ld ha a (by simp)
  go_wp2_with (first
    | (refine slice_w (E := [a]) (H32.one HK.out.la) rfl (by simp) (by simp) ?hv ?hw ?_; (case hv => first | rfl | simp [Act.put, Act.eval]); (case hw => first | rfl | simp [Region.wanted, yielded])))
  refine (remove_to _ gb mb X (.slice (some ⟨w10.heap.size, 0, none⟩) 1 1) [a] (K10.out.al _).ga HW.out (hseen_new (heap_alloc_last w10 _) 1 rfl) (H32.one HK.out.la) (by simp)).mono ?_
  intro e w11 hp
  obtain ⟨x12, rfl, k11⟩ := (K10.out.al _).norem (HX.out ▸ HK.out.fm) hp
  have K11 := Lib.hid k11
  clear hp k11 la
  have HWH := Lib.hid (whose_to w11 x11 _ (HG.out.kb K11.out.bel) (K11.out.err1 x11 12 (some c) (by simp)))
  go_wp2_with fail
  refine HWH.out.mono ?_
  rintro e w12 ⟨rfl, b12⟩
  rw [show whoH (some (12, some c)) = c from rfl, show whoB (some (12, some c)) = true from rfl]
  have st := hst_cells c HK.out.lc w12
  have K12 := Lib.hid (((K11.out.kb b12).al (.cells (hv c) 26)).hash HK.out.lc (heap_alloc_last w12 _))
  have HWH := Lib.hid (whose_to _ x12 _ (HG.out.kb K12.out.bel) (K12.out.err1 x12 10 (some b) (by simp)))
  clear b12
  go_wp2_with fail
  generalize w12.alloc (.cells (hv c) 26) = w13 at *
  generalize w12.heap.size = hl at *
  clear st
  refine HWH.out.mono ?_
  rintro e w14 ⟨rfl, b14⟩
  rw [show whoH (some (10, some b)) = b from rfl, show whoB (some (10, some b)) = true from rfl]
  have st := hst_cells b HK.out.lb w14
  have K14 := Lib.hid (((K12.out.kb b14).al (.cells (hv b) 26)).hash HK.out.lb (heap_alloc_last w14 _))
  have lb := K14.out.ld hb b (by simp)
  have HPA := Lib.hid (parents_to _ gb mb X b HK.out.lb K14.out.ga (HW.out.parm 1000000 (by decide)))
  clear b14
  go_wp2_with fail
  generalize w14.alloc (.cells (hv b) 26) = w15 at *
  generalize w14.heap.size = hm at *
  clear st lb
  refine HPA.out.mono ?_
  rintro e w16 ⟨v17, rfl, hv17, b16⟩
  rw [HX.out, HK.out.fp]
  rw [HX.out, HK.out.fp] at hv17
  have K16 := Lib.hid (K14.out.kb b16)
  obtain ⟨gv, cp, R, rfl, hgv, hcv, hcp, _⟩ := hv17.row (by simp)
  clear hv17 b16
  have CV := Lib.hid hcv
  clear hcv hgv hcp
  have HCO := Lib.hid (copy_to w16 gb mb X K16.out.ga)
  go_wp2_with fail
  refine HCO.out.mono ?_
  rintro e w17 ⟨g', rfl, hg', ga', b17⟩
  have K17 := Lib.hid (K16.out.kb b17)
  have hne : mb ≠ w16.heap.size := Nat.ne_of_lt K16.out.ga.at_.mp.lt
  have J17 := Lib.hid (Ks.mk K17.out.bel K17.out.own ga' K16.out.bel.size K17.out.err)
  have CV := Lib.hid ((b17.block _ (Array.getElem?_eq_some_iff.1 CV.out).1).trans CV.out)
  generalize w16.heap.size = mb' at *
  have HNE := Lib.hid hne
  clear hne hg' ga' b17
  have hnp' : ∀ w : World, (binOp .eql 22 (gp g') (.pointer none)).run Tryd.prog w = .ok (.bool false) w := fun w => by kernel_rfl
  have lb := K17.out.ld hb b (by simp)
  have lc := K17.out.ld hc c (by simp)
  go_wp2_with (first
    | (refine slice_w (E := [b, c]) (h32_two HK.out.lb HK.out.lc) rfl (by simp) (by simp) ?hv ?hw ?_; (case hv => first | rfl | simp [Act.put, Act.eval]); (case hw => first | rfl | simp [Region.wanted, yielded])))
  refine (remove_to _ g' mb' X (.slice (some ⟨w17.heap.size, 0, none⟩) 2 2) [b, c] (J17.out.al _).ga HW.out (hseen_new (heap_alloc_last w17 _) 2 rfl) (h32_two HK.out.lb HK.out.lc) (by simp)).mono ?_
  intro e w18 hp
  have hm := mild_map (J17.out.al (.cells (fl [b, c]).toArray 26)).ga.at_.mp hp.choose_spec.2.2.1
  have CV := Lib.hid (hm.cells ((mild_below (below_al11 w17 (.cells (fl [b, c]).toArray 26))).cells CV.out))
  obtain ⟨Y, rfl, k18, j18, hY⟩ := (K17.out.al _).gone (J17.out.al _) HNE.out (HX.out ▸ HK.out.fn) hp
  rw [HX.out, HK.out.gn] at hY
  have K18 := Lib.hid k18
  have J18 := Lib.hid j18
  have HY : Hid (Y.length = 1) := Lib.hid (by rw [← gr_len, hY]; rfl)
  have HXl : Hid (X.length = 2) := Lib.hid (by rw [← gr_len, HX.out]; rfl)
  have hnn := nil_nil
  clear hp k18 j18 hY lb lc hm
  have HE := Lib.hid (fun w => show (_ : Prop) from (decide_eq_true (rfl : c = c) ▸ heq_hv HK.out.lc HK.out.lc w))
  have he1 := fun w => heq_hv HK.out.lc HK.out.lc w
  have he2 := fun w => heq_hv HK.out.lb HK.out.lb w
  have he3 := fun w => heq_hv HK.out.la HK.out.la w
  simp only [decide_true] at he1 he2 he3
  clear HE
  have bq : Below w18.heap.size w18 w18.drew := blw_qt _ 1 w18
  have KK := Lib.hid (K18.out.kb bq)
  have JJ := Lib.hid (J18.out.kb bq)
  have CV := Lib.hid ((bq.block _ (Array.getElem?_eq_some_iff.1 CV.out).1).trans CV.out)
  go_wp2_with fail
  as_aux_lemma =>
    try simp only [List.append]
    refine wp_region_noPanic ?_
    refine wp_region_held_drew (S := (fun W => (hld ⟨ha, 0, none⟩).run Tryd.prog W = .ok (.agg (hv a)) W ∧ (hld ⟨hb, 0, none⟩).run Tryd.prog W = .ok (.agg (hv b)) W ∧ (hld ⟨hc, 0, none⟩).run Tryd.prog W = .ok (.agg (hv c)) W ∧ (hld ⟨hl, 0, none⟩).run Tryd.prog W = .ok (.agg (hv c)) W ∧ (hld ⟨hm, 0, none⟩).run Tryd.prog W = .ok (.agg (hv b)) W ∧ (hld ⟨gv, 0, none⟩).run Tryd.prog W = .ok (.agg (hv a)) W)) (by kernel_rfl) (six KK.out HK.out.la CV.out) (fun hHeld => ?_)
    generalize w18.drew = w19 at *
    clear K18 J18 bq
    refine wpAnyH_take (i := 0) (v := ?_) (by simp only [List.getElem?_toArray, List.getElem?_cons_zero]; rfl) (by kernel_rfl) (by kernel_rfl) (by kernel_rfl) (fun _ _ _ h => h) (Or.inl ⟨by rfl, ?_⟩) (by assumption) ?_
    rotate_left
    · intro w hSw
      try dsimp only at hSw
      go_simp
      try with_reducible rfl
    try simp only [Act.put, List.setIfInBounds_toArray, List.set_cons_zero, List.set_cons_succ]
    refine wpAnyH_ready (rs := [1]) (by kernel_rfl) (by simp) ?_
    refine AllReadyH.cons (by simp only [List.getElem?_toArray, List.getElem?_cons_succ, List.getElem?_cons_zero]; rfl) (fun K hK => ?_) AllReadyH.nil
    go_simp
    refine (kind_to _ x5 _ (HG.out.kb KK.out.bel) (KK.out.err1 x5 1 none (by simp)) (fun k o h => by injection h with h; injection h with h; rw [← h]; decide)).mono ?_
    rintro e w20 ⟨rfl, bb⟩
    rw [show kindOf (some (1, none)) = 1 from rfl]
    have KK := Lib.hid (KK.out.kb bb)
    have JJ := Lib.hid (JJ.out.kb bb)
    have CV := Lib.hid ((bb.block _ (Array.getElem?_eq_some_iff.1 CV.out).1).trans CV.out)
    clear bb
    go_wp2_with fail
    refine hK.out _ _ (six KK.out HK.out.la CV.out) (fun hHeld => ?_)
    clear hK K
    try simp only [Act.put, List.setIfInBounds_toArray, List.set_cons_zero, List.set_cons_succ]
    refine wpAnyH_take (i := 2) (v := ?_) (by simp only [List.getElem?_toArray, List.getElem?_cons_succ, List.getElem?_cons_zero]; rfl) (by kernel_rfl) (by kernel_rfl) (by kernel_rfl) (fun _ _ _ h => h) (Or.inl ⟨by rfl, ?_⟩) (by assumption) ?_
    rotate_left
    · intro w hSw
      try dsimp only at hSw
      go_simp
      try with_reducible rfl
    try simp only [Act.put, List.setIfInBounds_toArray, List.set_cons_zero, List.set_cons_succ]
    refine wpAnyH_take (i := 3) (v := ?_) (by simp only [List.getElem?_toArray, List.getElem?_cons_succ, List.getElem?_cons_zero]; rfl) (by kernel_rfl) (by kernel_rfl) (by kernel_rfl) (fun _ _ _ h => h) (Or.inl ⟨by rfl, ?_⟩) (by assumption) ?_
    rotate_left
    · intro w hSw
      try dsimp only at hSw
      go_simp
      try with_reducible rfl
    try simp only [Act.put, List.setIfInBounds_toArray, List.set_cons_zero, List.set_cons_succ]
    refine wpAnyH_take (i := 4) (v := ?_) (by simp only [List.getElem?_toArray, List.getElem?_cons_succ, List.getElem?_cons_zero]; rfl) (by kernel_rfl) (by kernel_rfl) (by kernel_rfl) (fun _ _ _ h => h) (Or.inl ⟨by rfl, ?_⟩) (by assumption) ?_
    rotate_left
    · intro w hSw
      try dsimp only at hSw
      go_simp
      try with_reducible rfl
    try simp only [Act.put, List.setIfInBounds_toArray, List.set_cons_zero, List.set_cons_succ]
    refine wpAnyH_ready (rs := [5]) (by kernel_rfl) (by simp) ?_
    refine AllReadyH.cons (by simp only [List.getElem?_toArray, List.getElem?_cons_succ, List.getElem?_cons_zero]; rfl) (fun K hK => ?_) AllReadyH.nil
    go_simp
    refine (kind_to _ x6 _ (HG.out.kb KK.out.bel) (KK.out.err1 x6 8 (some a) (by simp)) (fun k o h => by injection h with h; injection h with h; rw [← h]; decide)).mono ?_
    rintro e w21 ⟨rfl, bb⟩
    rw [show kindOf (some (8, (some a))) = 8 from rfl]
    have KK := Lib.hid (KK.out.kb bb)
    have JJ := Lib.hid (JJ.out.kb bb)
    have CV := Lib.hid ((bb.block _ (Array.getElem?_eq_some_iff.1 CV.out).1).trans CV.out)
    clear bb
    go_wp2_with fail
    refine hK.out _ _ (six KK.out HK.out.la CV.out) (fun hHeld => ?_)
    clear hK K
    try simp only [Act.put, List.setIfInBounds_toArray, List.set_cons_zero, List.set_cons_succ]
    refine wpAnyH_take (i := 6) (v := ?_) (by simp only [List.getElem?_toArray, List.getElem?_cons_succ, List.getElem?_cons_zero]; rfl) (by kernel_rfl) (by kernel_rfl) (by kernel_rfl) (fun _ _ _ h => h) (Or.inl ⟨by rfl, ?_⟩) (by assumption) ?_
    rotate_left
    · intro w hSw
      try dsimp only at hSw
      go_simp
      try with_reducible rfl
    try simp only [Act.put, List.setIfInBounds_toArray, List.set_cons_zero, List.set_cons_succ]
    refine wpAnyH_take (i := 7) (v := ?_) (by simp only [List.getElem?_toArray, List.getElem?_cons_succ, List.getElem?_cons_zero]; rfl) (by kernel_rfl) (by kernel_rfl) (by kernel_rfl) (fun _ _ _ h => h) (Or.inl ⟨by rfl, ?_⟩) (by assumption) ?_
    rotate_left
    · intro w hSw
      try dsimp only at hSw
      go_simp
      try with_reducible rfl
    try simp only [Act.put, List.setIfInBounds_toArray, List.set_cons_zero, List.set_cons_succ]
    refine wpAnyH_take (i := 8) (v := ?_) (by simp only [List.getElem?_toArray, List.getElem?_cons_succ, List.getElem?_cons_zero]; rfl) (by kernel_rfl) (by kernel_rfl) (by kernel_rfl) (fun _ _ _ h => h) (Or.inl ⟨by rfl, ?_⟩) (by assumption) ?_
    rotate_left
    · intro w hSw
      try dsimp only at hSw
      go_simp
      try with_reducible rfl
    try simp only [Act.put, List.setIfInBounds_toArray, List.set_cons_zero, List.set_cons_succ]
    refine wpAnyH_take (i := 9) (v := ?_) (by simp only [List.getElem?_toArray, List.getElem?_cons_succ, List.getElem?_cons_zero]; rfl) (by kernel_rfl) (by kernel_rfl) (by kernel_rfl) (fun _ _ _ h => h) (Or.inl ⟨by rfl, ?_⟩) (by assumption) ?_
    rotate_left
    · intro w hSw
      try dsimp only at hSw
      go_simp
      try with_reducible rfl
    try simp only [Act.put, List.setIfInBounds_toArray, List.set_cons_zero, List.set_cons_succ]
    refine wpAnyH_ready (rs := [10]) (by kernel_rfl) (by simp) ?_
    refine AllReadyH.cons (by simp only [List.getElem?_toArray, List.getElem?_cons_succ, List.getElem?_cons_zero]; rfl) (fun K hK => ?_) AllReadyH.nil
    go_simp
    refine (kind_to _ x7 _ (HG.out.kb KK.out.bel) (KK.out.err1 x7 1 (some a) (by simp)) (fun k o h => by injection h with h; injection h with h; rw [← h]; decide)).mono ?_
    rintro e w22 ⟨rfl, bb⟩
    rw [show kindOf (some (1, (some a))) = 1 from rfl]
    have KK := Lib.hid (KK.out.kb bb)
    have JJ := Lib.hid (JJ.out.kb bb)
    have CV := Lib.hid ((bb.block _ (Array.getElem?_eq_some_iff.1 CV.out).1).trans CV.out)
    clear bb
    go_wp2_with fail
    refine hK.out _ _ (six KK.out HK.out.la CV.out) (fun hHeld => ?_)
    clear hK K
    try simp only [Act.put, List.setIfInBounds_toArray, List.set_cons_zero, List.set_cons_succ]
    refine wpAnyH_take (i := 11) (v := ?_) (by simp only [List.getElem?_toArray, List.getElem?_cons_succ, List.getElem?_cons_zero]; rfl) (by kernel_rfl) (by kernel_rfl) (by kernel_rfl) (fun _ _ _ h => h) (Or.inl ⟨by rfl, ?_⟩) (by assumption) ?_
    rotate_left
    · intro w hSw
      try dsimp only at hSw
      go_simp
      try with_reducible rfl
    try simp only [Act.put, List.setIfInBounds_toArray, List.set_cons_zero, List.set_cons_succ]
    refine wpAnyH_take (i := 12) (v := ?_) (by simp only [List.getElem?_toArray, List.getElem?_cons_succ, List.getElem?_cons_zero]; rfl) (by kernel_rfl) (by kernel_rfl) (by kernel_rfl) (fun _ _ _ h => h) (Or.inl ⟨by rfl, ?_⟩) (by assumption) ?_
    rotate_left
    · intro w hSw
      try dsimp only at hSw
      go_simp
      try with_reducible rfl
    try simp only [Act.put, List.setIfInBounds_toArray, List.set_cons_zero, List.set_cons_succ]
    refine wpAnyH_take (i := 13) (v := ?_) (by simp only [List.getElem?_toArray, List.getElem?_cons_succ, List.getElem?_cons_zero]; rfl) (by kernel_rfl) (by kernel_rfl) (by kernel_rfl) (fun _ _ _ h => h) (Or.inl ⟨by rfl, ?_⟩) (by assumption) ?_
    rotate_left
    · intro w hSw
      try dsimp only at hSw
      go_simp
      try with_reducible rfl
    try simp only [Act.put, List.setIfInBounds_toArray, List.set_cons_zero, List.set_cons_succ]
    refine wpAnyH_take (i := 14) (v := ?_) (by simp only [List.getElem?_toArray, List.getElem?_cons_succ, List.getElem?_cons_zero]; rfl) (by kernel_rfl) (by kernel_rfl) (by kernel_rfl) (fun _ _ _ h => h) (Or.inl ⟨by rfl, ?_⟩) (by assumption) ?_
    rotate_left
    · intro w hSw
      try dsimp only at hSw
      go_simp
      try with_reducible rfl
    try simp only [Act.put, List.setIfInBounds_toArray, List.set_cons_zero, List.set_cons_succ]
    refine wpAnyH_take (i := 15) (v := ?_) (by simp only [List.getElem?_toArray, List.getElem?_cons_succ, List.getElem?_cons_zero]; rfl) (by kernel_rfl) (by kernel_rfl) (by kernel_rfl) (fun _ _ _ h => h) (Or.inl ⟨by rfl, ?_⟩) (by assumption) ?_
    rotate_left
    · intro w hSw
      try dsimp only at hSw
      go_simp
      try with_reducible rfl
    try simp only [Act.put, List.setIfInBounds_toArray, List.set_cons_zero, List.set_cons_succ]
    refine wpAnyH_take (i := 16) (v := ?_) (by simp only [List.getElem?_toArray, List.getElem?_cons_succ, List.getElem?_cons_zero]; rfl) (by kernel_rfl) (by kernel_rfl) (by kernel_rfl) (fun _ _ _ h => h) (Or.inl ⟨by rfl, ?_⟩) (by assumption) ?_
    rotate_left
    · intro w hSw
      try dsimp only at hSw
      go_simp
      try with_reducible rfl
    try simp only [Act.put, List.setIfInBounds_toArray, List.set_cons_zero, List.set_cons_succ]
    refine wpAnyH_take (i := 17) (v := ?_) (by simp only [List.getElem?_toArray, List.getElem?_cons_succ, List.getElem?_cons_zero]; rfl) (by kernel_rfl) (by kernel_rfl) (by kernel_rfl) (fun _ _ _ h => h) (Or.inl ⟨by rfl, ?_⟩) (by assumption) ?_
    rotate_left
    · intro w hSw
      try dsimp only at hSw
      go_simp
      try with_reducible rfl
    try simp only [Act.put, List.setIfInBounds_toArray, List.set_cons_zero, List.set_cons_succ]
    refine wpAnyH_take (i := 18) (v := ?_) (by simp only [List.getElem?_toArray, List.getElem?_cons_succ, List.getElem?_cons_zero]; rfl) (by kernel_rfl) (by kernel_rfl) (by kernel_rfl) (fun _ _ _ h => h) (Or.inl ⟨by rfl, ?_⟩) (by assumption) ?_
    rotate_left
    · intro w hSw
      try dsimp only at hSw
      go_simp
      try with_reducible rfl
    try simp only [Act.put, List.setIfInBounds_toArray, List.set_cons_zero, List.set_cons_succ]
    refine wpAnyH_ready (rs := [19]) (by kernel_rfl) (by simp) ?_
    refine AllReadyH.cons (by simp only [List.getElem?_toArray, List.getElem?_cons_succ, List.getElem?_cons_zero]; rfl) (fun K hK => ?_) AllReadyH.nil
    go_simp
    refine (kind_to _ x9 _ (HG.out.kb KK.out.bel) (KK.out.err1 x9 9 (some b) (by simp)) (fun k o h => by injection h with h; injection h with h; rw [← h]; decide)).mono ?_
    rintro e w23 ⟨rfl, bb⟩
    rw [show kindOf (some (9, (some b))) = 9 from rfl]
    have KK := Lib.hid (KK.out.kb bb)
    have JJ := Lib.hid (JJ.out.kb bb)
    have CV := Lib.hid ((bb.block _ (Array.getElem?_eq_some_iff.1 CV.out).1).trans CV.out)
    clear bb
    go_wp2_with fail
    refine hK.out _ _ (six KK.out HK.out.la CV.out) (fun hHeld => ?_)
    clear hK K
    try simp only [Act.put, List.setIfInBounds_toArray, List.set_cons_zero, List.set_cons_succ]
    refine wpAnyH_take (i := 20) (v := ?_) (by simp only [List.getElem?_toArray, List.getElem?_cons_succ, List.getElem?_cons_zero]; rfl) (by kernel_rfl) (by kernel_rfl) (by kernel_rfl) (fun _ _ _ h => h) (Or.inl ⟨by rfl, ?_⟩) (by assumption) ?_
    rotate_left
    · intro w hSw
      try dsimp only at hSw
      go_simp
      try with_reducible rfl
    try simp only [Act.put, List.setIfInBounds_toArray, List.set_cons_zero, List.set_cons_succ]
    refine wpAnyH_take (i := 21) (v := ?_) (by simp only [List.getElem?_toArray, List.getElem?_cons_succ, List.getElem?_cons_zero]; rfl) (by kernel_rfl) (by kernel_rfl) (by kernel_rfl) (fun _ _ _ h => h) (Or.inl ⟨by rfl, ?_⟩) (by assumption) ?_
    rotate_left
    · intro w hSw
      try dsimp only at hSw
      go_simp
      try with_reducible rfl
    try simp only [Act.put, List.setIfInBounds_toArray, List.set_cons_zero, List.set_cons_succ]
    refine wpAnyH_take (i := 22) (v := ?_) (by simp only [List.getElem?_toArray, List.getElem?_cons_succ, List.getElem?_cons_zero]; rfl) (by kernel_rfl) (by kernel_rfl) (by kernel_rfl) (fun _ _ _ h => h) (Or.inl ⟨by rfl, ?_⟩) (by assumption) ?_
    rotate_left
    · intro w hSw
      try dsimp only at hSw
      go_simp
      try with_reducible rfl
    try simp only [Act.put, List.setIfInBounds_toArray, List.set_cons_zero, List.set_cons_succ]
    refine wpAnyH_take (i := 23) (v := ?_) (by simp only [List.getElem?_toArray, List.getElem?_cons_succ, List.getElem?_cons_zero]; rfl) (by kernel_rfl) (by kernel_rfl) (by kernel_rfl) (fun _ _ _ h => h) (Or.inl ⟨by rfl, ?_⟩) (by assumption) ?_
    rotate_left
    · intro w hSw
      try dsimp only at hSw
      go_simp
      try with_reducible rfl
    try simp only [Act.put, List.setIfInBounds_toArray, List.set_cons_zero, List.set_cons_succ]
    refine wpAnyH_ready (rs := [24]) (by kernel_rfl) (by simp) ?_
    refine AllReadyH.cons (by simp only [List.getElem?_toArray, List.getElem?_cons_succ, List.getElem?_cons_zero]; rfl) (fun K hK => ?_) AllReadyH.nil
    go_simp
    refine (kind_to _ x10 _ (HG.out.kb KK.out.bel) (KK.out.err1 x10 11 (some c) (by simp)) (fun k o h => by injection h with h; injection h with h; rw [← h]; decide)).mono ?_
    rintro e w24 ⟨rfl, bb⟩
    rw [show kindOf (some (11, (some c))) = 11 from rfl]
    have KK := Lib.hid (KK.out.kb bb)
    have JJ := Lib.hid (JJ.out.kb bb)
    have CV := Lib.hid ((bb.block _ (Array.getElem?_eq_some_iff.1 CV.out).1).trans CV.out)
    clear bb
    go_wp2_with fail
    refine hK.out _ _ (six KK.out HK.out.la CV.out) (fun hHeld => ?_)
    clear hK K
    try simp only [Act.put, List.setIfInBounds_toArray, List.set_cons_zero, List.set_cons_succ]
    refine wpAnyH_take (i := 25) (v := ?_) (by simp only [List.getElem?_toArray, List.getElem?_cons_succ, List.getElem?_cons_zero]; rfl) (by kernel_rfl) (by kernel_rfl) (by kernel_rfl) (fun _ _ _ h => h) (Or.inl ⟨by rfl, ?_⟩) (by assumption) ?_
    rotate_left
    · intro w hSw
      try dsimp only at hSw
      go_simp
      try with_reducible rfl
    try simp only [Act.put, List.setIfInBounds_toArray, List.set_cons_zero, List.set_cons_succ]
    refine wpAnyH_take (i := 26) (v := ?_) (by simp only [List.getElem?_toArray, List.getElem?_cons_succ, List.getElem?_cons_zero]; rfl) (by kernel_rfl) (by kernel_rfl) (by kernel_rfl) (fun _ _ _ h => h) (Or.inl ⟨by rfl, ?_⟩) (by assumption) ?_
    rotate_left
    · intro w hSw
      try dsimp only at hSw
      go_simp
      try with_reducible rfl
    try simp only [Act.put, List.setIfInBounds_toArray, List.set_cons_zero, List.set_cons_succ]
    refine wpAnyH_take (i := 27) (v := ?_) (by simp only [List.getElem?_toArray, List.getElem?_cons_succ, List.getElem?_cons_zero]; rfl) (by kernel_rfl) (by kernel_rfl) (by kernel_rfl) (fun _ _ _ h => h) (Or.inl ⟨by rfl, ?_⟩) (by assumption) ?_
    rotate_left
    · intro w hSw
      try dsimp only at hSw
      go_simp
      try with_reducible rfl
    try simp only [Act.put, List.setIfInBounds_toArray, List.set_cons_zero, List.set_cons_succ]
    refine wpAnyH_take (i := 28) (v := ?_) (by simp only [List.getElem?_toArray, List.getElem?_cons_succ, List.getElem?_cons_zero]; rfl) (by kernel_rfl) (by kernel_rfl) (by kernel_rfl) (fun _ _ _ h => h) (Or.inl ⟨by rfl, ?_⟩) (by assumption) ?_
    rotate_left
    · intro w hSw
      try dsimp only at hSw
      go_simp
      try with_reducible rfl
    try simp only [Act.put, List.setIfInBounds_toArray, List.set_cons_zero, List.set_cons_succ]
    refine wpAnyH_ready (rs := [29]) (by kernel_rfl) (by simp) ?_
    refine AllReadyH.cons (by simp only [List.getElem?_toArray, List.getElem?_cons_succ, List.getElem?_cons_zero]; rfl) (fun K hK => ?_) AllReadyH.nil
    go_simp
    refine (kind_to _ x11 _ (HG.out.kb KK.out.bel) (KK.out.err1 x11 12 (some c) (by simp)) (fun k o h => by injection h with h; injection h with h; rw [← h]; decide)).mono ?_
    rintro e w25 ⟨rfl, bb⟩
    rw [show kindOf (some (12, (some c))) = 12 from rfl]
    have KK := Lib.hid (KK.out.kb bb)
    have JJ := Lib.hid (JJ.out.kb bb)
    have CV := Lib.hid ((bb.block _ (Array.getElem?_eq_some_iff.1 CV.out).1).trans CV.out)
    clear bb
    go_wp2_with fail
    refine hK.out _ _ (six KK.out HK.out.la CV.out) (fun hHeld => ?_)
    clear hK K
    try simp only [Act.put, List.setIfInBounds_toArray, List.set_cons_zero, List.set_cons_succ]
    refine wpAnyH_take (i := 30) (v := ?_) (by simp only [List.getElem?_toArray, List.getElem?_cons_succ, List.getElem?_cons_zero]; rfl) (by kernel_rfl) (by kernel_rfl) (by kernel_rfl) (fun _ _ _ h => h) (Or.inl ⟨by rfl, ?_⟩) (by assumption) ?_
    rotate_left
    · intro w hSw
      try dsimp only at hSw
      go_simp
      try with_reducible rfl
    try simp only [Act.put, List.setIfInBounds_toArray, List.set_cons_zero, List.set_cons_succ]
    refine wpAnyH_take (i := 31) (v := ?_) (by simp only [List.getElem?_toArray, List.getElem?_cons_succ, List.getElem?_cons_zero]; rfl) (by kernel_rfl) (by kernel_rfl) (by kernel_rfl) (fun _ _ _ h => h) (Or.inl ⟨by rfl, ?_⟩) (by assumption) ?_
    rotate_left
    · intro w hSw
      try dsimp only at hSw
      go_simp
      try with_reducible rfl
    try simp only [Act.put, List.setIfInBounds_toArray, List.set_cons_zero, List.set_cons_succ]
    refine wpAnyH_take (i := 32) (v := ?_) (by simp only [List.getElem?_toArray, List.getElem?_cons_succ, List.getElem?_cons_zero]; rfl) (by kernel_rfl) (by kernel_rfl) (by kernel_rfl) (fun _ _ _ h => h) (Or.inl ⟨by rfl, ?_⟩) (by assumption) ?_
    rotate_left
    · intro w hSw
      try dsimp only at hSw
      go_simp
      try with_reducible rfl
    try simp only [Act.put, List.setIfInBounds_toArray, List.set_cons_zero, List.set_cons_succ]
    refine wpAnyH_take (i := 33) (v := ?_) (by simp only [List.getElem?_toArray, List.getElem?_cons_succ, List.getElem?_cons_zero]; rfl) (by kernel_rfl) (by kernel_rfl) (by kernel_rfl) (fun _ _ _ h => h) (Or.inl ⟨by rfl, ?_⟩) (by assumption) ?_
    rotate_left
    · intro w hSw
      try dsimp only at hSw
      go_simp
      try with_reducible rfl
    try simp only [Act.put, List.setIfInBounds_toArray, List.set_cons_zero, List.set_cons_succ]
    refine wpAnyH_take (i := 34) (v := ?_) (by simp only [List.getElem?_toArray, List.getElem?_cons_succ, List.getElem?_cons_zero]; rfl) (by kernel_rfl) (by kernel_rfl) (by kernel_rfl) (fun _ _ _ h => h) (Or.inl ⟨by rfl, ?_⟩) (by assumption) ?_
    rotate_left
    · intro w hSw
      try dsimp only at hSw
      go_simp
      try with_reducible rfl
    try simp only [Act.put, List.setIfInBounds_toArray, List.set_cons_zero, List.set_cons_succ]
    refine wpAnyH_take (i := 35) (v := ?_) (by simp only [List.getElem?_toArray, List.getElem?_cons_succ, List.getElem?_cons_zero]; rfl) (by kernel_rfl) (by kernel_rfl) (by kernel_rfl) (fun _ _ _ h => h) (Or.inl ⟨by rfl, ?_⟩) (by assumption) ?_
    rotate_left
    · intro w hSw
      try dsimp only at hSw
      go_simp
      try with_reducible rfl
    try simp only [Act.put, List.setIfInBounds_toArray, List.set_cons_zero, List.set_cons_succ]
    refine wpAnyH_take (i := 36) (v := ?_) (by simp only [List.getElem?_toArray, List.getElem?_cons_succ, List.getElem?_cons_zero]; rfl) (by kernel_rfl) (by kernel_rfl) (by kernel_rfl) (fun _ _ _ h => h) (Or.inl ⟨by rfl, ?_⟩) (by assumption) ?_
    rotate_left
    · intro w hSw
      try dsimp only at hSw
      go_simp
      try with_reducible rfl
    try simp only [Act.put, List.setIfInBounds_toArray, List.set_cons_zero, List.set_cons_succ]
    refine wpAnyH_take (i := 37) (v := ?_) (by simp only [List.getElem?_toArray, List.getElem?_cons_succ, List.getElem?_cons_zero]; rfl) (by kernel_rfl) (by kernel_rfl) (by kernel_rfl) (fun _ _ _ h => h) (Or.inl ⟨by rfl, ?_⟩) (by assumption) ?_
    rotate_left
    · intro w hSw
      try dsimp only at hSw
      go_simp
      try with_reducible rfl
    try simp only [Act.put, List.setIfInBounds_toArray, List.set_cons_zero, List.set_cons_succ]
    refine wpAnyH_take (i := 38) (v := ?_) (by simp only [List.getElem?_toArray, List.getElem?_cons_succ, List.getElem?_cons_zero]; rfl) (by kernel_rfl) (by kernel_rfl) (by kernel_rfl) (fun _ _ _ h => h) (Or.inl ⟨by rfl, ?_⟩) (by assumption) ?_
    rotate_left
    · intro w hSw
      try dsimp only at hSw
      go_simp
      try with_reducible rfl
    try simp only [Act.put, List.setIfInBounds_toArray, List.set_cons_zero, List.set_cons_succ]
    refine wpAnyH_take (i := 39) (v := ?_) (by simp only [List.getElem?_toArray, List.getElem?_cons_succ, List.getElem?_cons_zero]; rfl) (by kernel_rfl) (by kernel_rfl) (by kernel_rfl) (fun _ _ _ h => h) (Or.inl ⟨by rfl, ?_⟩) (by assumption) ?_
    rotate_left
    · intro w hSw
      try dsimp only at hSw
      go_simp
      try with_reducible rfl
    try simp only [Act.put, List.setIfInBounds_toArray, List.set_cons_zero, List.set_cons_succ]
    refine wpAnyH_take (i := 40) (v := ?_) (by simp only [List.getElem?_toArray, List.getElem?_cons_succ, List.getElem?_cons_zero]; rfl) (by kernel_rfl) (by kernel_rfl) (by kernel_rfl) (fun _ _ _ h => h) (Or.inl ⟨by rfl, ?_⟩) (by assumption) ?_
    rotate_left
    · intro w hSw
      try dsimp only at hSw
      go_simp
      try with_reducible rfl
    try simp only [Act.put, List.setIfInBounds_toArray, List.set_cons_zero, List.set_cons_succ]
    refine wpAnyH_take (i := 41) (v := ?_) (by simp only [List.getElem?_toArray, List.getElem?_cons_succ, List.getElem?_cons_zero]; rfl) (by kernel_rfl) (by kernel_rfl) (by kernel_rfl) (fun _ _ _ h => h) (Or.inl ⟨by rfl, ?_⟩) (by assumption) ?_
    rotate_left
    · intro w hSw
      try dsimp only at hSw
      go_simp
      try with_reducible rfl
    try simp only [Act.put, List.setIfInBounds_toArray, List.set_cons_zero, List.set_cons_succ]
    as_aux_lemma =>
      refine wpAnyH_ready (rs := [42]) (by kernel_rfl) (by simp) ?_
      refine AllReadyH.cons (by simp only [List.getElem?_toArray, List.getElem?_cons_succ, List.getElem?_cons_zero]; rfl) (fun K hK => ?_) AllReadyH.nil
      go_simp
      refine (kind_to _ x12 _ (HG.out.kb KK.out.bel) (KK.out.err1 x12 10 (some b) (by simp)) (fun k o h => by injection h with h; injection h with h; rw [← h]; decide)).mono ?_
      rintro e w26 ⟨rfl, bb⟩
      rw [show kindOf (some (10, (some b))) = 10 from rfl]
      have KK := Lib.hid (KK.out.kb bb)
      have JJ := Lib.hid (JJ.out.kb bb)
      have CV := Lib.hid ((bb.block _ (Array.getElem?_eq_some_iff.1 CV.out).1).trans CV.out)
      clear bb
      go_wp2_with fail
      refine hK.out _ _ (six KK.out HK.out.la CV.out) (fun hHeld => ?_)
      clear hK K
      try simp only [Act.put, List.setIfInBounds_toArray, List.set_cons_zero, List.set_cons_succ]
      refine wpAnyH_take (i := 43) (v := ?_) (by simp only [List.getElem?_toArray, List.getElem?_cons_succ, List.getElem?_cons_zero]; rfl) (by kernel_rfl) (by kernel_rfl) (by kernel_rfl) (fun _ _ _ h => h) (Or.inl ⟨by rfl, ?_⟩) (by assumption) ?_
      rotate_left
      · intro w hSw
        try dsimp only at hSw
        go_simp
        try with_reducible rfl
      try simp only [Act.put, List.setIfInBounds_toArray, List.set_cons_zero, List.set_cons_succ]
      refine wpAnyH_take (i := 44) (v := ?_) (by simp only [List.getElem?_toArray, List.getElem?_cons_succ, List.getElem?_cons_zero]; rfl) (by kernel_rfl) (by kernel_rfl) (by kernel_rfl) (fun _ _ _ h => h) (Or.inl ⟨by rfl, ?_⟩) (by assumption) ?_
      rotate_left
      · intro w hSw
        try dsimp only at hSw
        go_simp
        try with_reducible rfl
      try simp only [Act.put, List.setIfInBounds_toArray, List.set_cons_zero, List.set_cons_succ]
      refine wpAnyH_take (i := 45) (v := ?_) (by simp only [List.getElem?_toArray, List.getElem?_cons_succ, List.getElem?_cons_zero]; rfl) (by kernel_rfl) (by kernel_rfl) (by kernel_rfl) (fun _ _ _ h => h) (Or.inl ⟨by rfl, ?_⟩) (by assumption) ?_
      rotate_left
      · intro w hSw
        try dsimp only at hSw
        go_simp
        try with_reducible rfl
      try simp only [Act.put, List.setIfInBounds_toArray, List.set_cons_zero, List.set_cons_succ]
      refine wpAnyH_take (i := 46) (v := ?_) (by simp only [List.getElem?_toArray, List.getElem?_cons_succ, List.getElem?_cons_zero]; rfl) (by kernel_rfl) (by kernel_rfl) (by kernel_rfl) (fun _ _ _ h => h) (Or.inl ⟨by rfl, ?_⟩) (by assumption) ?_
      rotate_left
      · intro w hSw
        try dsimp only at hSw
        go_simp
        try with_reducible rfl
      try simp only [Act.put, List.setIfInBounds_toArray, List.set_cons_zero, List.set_cons_succ]
      refine wpAnyH_take (i := 47) (v := ?_) (by simp only [List.getElem?_toArray, List.getElem?_cons_succ, List.getElem?_cons_zero]; rfl) (by kernel_rfl) (by kernel_rfl) (by kernel_rfl) (fun _ _ _ h => h) (Or.inl ⟨by rfl, ?_⟩) (by assumption) ?_
      rotate_left
      · intro w hSw
        try dsimp only at hSw
        go_simp
        try with_reducible rfl
      try simp only [Act.put, List.setIfInBounds_toArray, List.set_cons_zero, List.set_cons_succ]
      refine wpAnyH_take (i := 48) (v := ?_) (by simp only [List.getElem?_toArray, List.getElem?_cons_succ, List.getElem?_cons_zero]; rfl) (by kernel_rfl) (by kernel_rfl) (by kernel_rfl) (fun _ _ _ h => h) (Or.inl ⟨by rfl, ?_⟩) (by assumption) ?_
      rotate_left
      · intro w hSw
        try dsimp only at hSw
        go_simp
        try with_reducible rfl
      try simp only [Act.put, List.setIfInBounds_toArray, List.set_cons_zero, List.set_cons_succ]
      refine wpAnyH_take (i := 49) (v := ?_) (by simp only [List.getElem?_toArray, List.getElem?_cons_succ, List.getElem?_cons_zero]; rfl) (by kernel_rfl) (by kernel_rfl) (by kernel_rfl) (fun _ _ _ h => h) (Or.inl ⟨by rfl, ?_⟩) (by assumption) ?_
      rotate_left
      · intro w hSw
        try dsimp only at hSw
        go_simp
        try with_reducible rfl
      try simp only [Act.put, List.setIfInBounds_toArray, List.set_cons_zero, List.set_cons_succ]
      refine wpAnyH_take (i := 50) (v := ?_) (by simp only [List.getElem?_toArray, List.getElem?_cons_succ, List.getElem?_cons_zero]; rfl) (by kernel_rfl) (by kernel_rfl) (by kernel_rfl) (fun _ _ _ h => h) (Or.inl ⟨by rfl, ?_⟩) (by assumption) ?_
      rotate_left
      · intro w hSw
        try dsimp only at hSw
        go_simp
        try with_reducible rfl
      try simp only [Act.put, List.setIfInBounds_toArray, List.set_cons_zero, List.set_cons_succ]
      refine wpAnyH_take (i := 51) (v := ?_) (by simp only [List.getElem?_toArray, List.getElem?_cons_succ, List.getElem?_cons_zero]; rfl) (by kernel_rfl) (by kernel_rfl) (by kernel_rfl) (fun _ _ _ h => h) (Or.inl ⟨by rfl, ?_⟩) (by assumption) ?_
      rotate_left
      · intro w hSw
        try dsimp only at hSw
        go_simp
        try with_reducible rfl
      try simp only [Act.put, List.setIfInBounds_toArray, List.set_cons_zero, List.set_cons_succ]
      refine wpAnyH_take (i := 52) (v := ?_) (by simp only [List.getElem?_toArray, List.getElem?_cons_succ, List.getElem?_cons_zero]; rfl) (by kernel_rfl) (by kernel_rfl) (by kernel_rfl) (fun _ _ _ h => h) (Or.inl ⟨by rfl, ?_⟩) (by assumption) ?_
      rotate_left
      · intro w hSw
        try dsimp only at hSw
        go_simp
        try with_reducible rfl
      try simp only [Act.put, List.setIfInBounds_toArray, List.set_cons_zero, List.set_cons_succ]
      refine wpAnyH_take (i := 53) (v := ?_) (by simp only [List.getElem?_toArray, List.getElem?_cons_succ, List.getElem?_cons_zero]; rfl) (by kernel_rfl) (by kernel_rfl) (by kernel_rfl) (fun _ _ _ h => h) (Or.inl ⟨by rfl, ?_⟩) (by assumption) ?_
      rotate_left
      · intro w hSw
        try dsimp only at hSw
        go_simp
        try with_reducible rfl
      try simp only [Act.put, List.setIfInBounds_toArray, List.set_cons_zero, List.set_cons_succ]
      refine wpAnyH_take (i := 54) (v := ?_) (by simp only [List.getElem?_toArray, List.getElem?_cons_succ, List.getElem?_cons_zero]; rfl) (by kernel_rfl) (by kernel_rfl) (by kernel_rfl) (fun _ _ _ h => h) (Or.inl ⟨by rfl, ?_⟩) (by assumption) ?_
      rotate_left
      · intro w hSw
        try dsimp only at hSw
        go_simp
        try with_reducible rfl
      try simp only [Act.put, List.setIfInBounds_toArray, List.set_cons_zero, List.set_cons_succ]
      refine wpAnyH_take (i := 55) (v := ?_) (by simp only [List.getElem?_toArray, List.getElem?_cons_succ, List.getElem?_cons_zero]; rfl) (by kernel_rfl) (by kernel_rfl) (by kernel_rfl) (fun _ _ _ h => h) (Or.inl ⟨by rfl, ?_⟩) (by assumption) ?_
      rotate_left
      · intro w hSw
        try dsimp only at hSw
        go_simp
        try with_reducible rfl
      try simp only [Act.put, List.setIfInBounds_toArray, List.set_cons_zero, List.set_cons_succ]
      refine wpAnyH_take (i := 56) (v := ?_) (by simp only [List.getElem?_toArray, List.getElem?_cons_succ, List.getElem?_cons_zero]; rfl) (by kernel_rfl) (by kernel_rfl) (by kernel_rfl) (fun _ _ _ h => h) (Or.inl ⟨by rfl, ?_⟩) (by assumption) ?_
      rotate_left
      · intro w hSw
        try dsimp only at hSw
        go_simp
        try with_reducible rfl
      try simp only [Act.put, List.setIfInBounds_toArray, List.set_cons_zero, List.set_cons_succ]
      refine wpAnyH_take (i := 57) (v := ?_) (by simp only [List.getElem?_toArray, List.getElem?_cons_succ, List.getElem?_cons_zero]; rfl) (by kernel_rfl) (by kernel_rfl) (by kernel_rfl) (fun _ _ _ h => h) (Or.inl ⟨by rfl, ?_⟩) (by assumption) ?_
      rotate_left
      · intro w hSw
        try dsimp only at hSw
        go_simp
        try with_reducible rfl
      try simp only [Act.put, List.setIfInBounds_toArray, List.set_cons_zero, List.set_cons_succ]
      refine wpAnyH_take (i := 58) (v := ?_) (by simp only [List.getElem?_toArray, List.getElem?_cons_succ, List.getElem?_cons_zero]; rfl) (by kernel_rfl) (by kernel_rfl) (by kernel_rfl) (fun _ _ _ h => h) (Or.inl ⟨by rfl, ?_⟩) (by assumption) ?_
      rotate_left
      · intro w hSw
        try dsimp only at hSw
        go_simp
        try with_reducible rfl
      try simp only [Act.put, List.setIfInBounds_toArray, List.set_cons_zero, List.set_cons_succ]
      refine wpAnyH_take (i := 59) (v := ?_) (by simp only [List.getElem?_toArray, List.getElem?_cons_succ, List.getElem?_cons_zero]; rfl) (by kernel_rfl) (by kernel_rfl) (by kernel_rfl) (fun _ _ _ h => h) (Or.inl ⟨by rfl, ?_⟩) (by assumption) ?_
      rotate_left
      · intro w hSw
        try dsimp only at hSw
        go_simp
        try with_reducible rfl
      try simp only [Act.put, List.setIfInBounds_toArray, List.set_cons_zero, List.set_cons_succ]
      refine wpAnyH_take (i := 60) (v := ?_) (by simp only [List.getElem?_toArray, List.getElem?_cons_succ, List.getElem?_cons_zero]; rfl) (by kernel_rfl) (by kernel_rfl) (by kernel_rfl) (fun _ _ _ h => h) (Or.inl ⟨by rfl, ?_⟩) (by assumption) ?_
      rotate_left
      · intro w hSw
        try dsimp only at hSw
        go_simp
        try with_reducible rfl
      try simp only [Act.put, List.setIfInBounds_toArray, List.set_cons_zero, List.set_cons_succ]
      refine wpAnyH_take (i := 61) (v := ?_) (by simp only [List.getElem?_toArray, List.getElem?_cons_succ, List.getElem?_cons_zero]; rfl) (by kernel_rfl) (by kernel_rfl) (by kernel_rfl) (fun _ _ _ h => h) (Or.inl ⟨by rfl, ?_⟩) (by assumption) ?_
      rotate_left
      · intro w hSw
        try dsimp only at hSw
        go_simp
        try with_reducible rfl
      try simp only [Act.put, List.setIfInBounds_toArray, List.set_cons_zero, List.set_cons_succ]
      refine wpAnyH_take (i := 62) (v := ?_) (by simp only [List.getElem?_toArray, List.getElem?_cons_succ, List.getElem?_cons_zero]; rfl) (by kernel_rfl) (by kernel_rfl) (by kernel_rfl) (fun _ _ _ h => h) (Or.inl ⟨by rfl, ?_⟩) (by assumption) ?_
      rotate_left
      · intro w hSw
        try dsimp only at hSw
        go_simp
        try with_reducible rfl
      try simp only [Act.put, List.setIfInBounds_toArray, List.set_cons_zero, List.set_cons_succ]
      refine wpAnyH_take (i := 63) (v := ?_) (by simp only [List.getElem?_toArray, List.getElem?_cons_succ, List.getElem?_cons_zero]; rfl) (by kernel_rfl) (by kernel_rfl) (by kernel_rfl) (fun _ _ _ h => h) (Or.inl ⟨by rfl, ?_⟩) (by assumption) ?_
      rotate_left
      · intro w hSw
        try dsimp only at hSw
        go_simp
        try with_reducible rfl
      try simp only [Act.put, List.setIfInBounds_toArray, List.set_cons_zero, List.set_cons_succ]
      refine wpAnyH_take (i := 64) (v := ?_) (by simp only [List.getElem?_toArray, List.getElem?_cons_succ, List.getElem?_cons_zero]; rfl) (by kernel_rfl) (by kernel_rfl) (by kernel_rfl) (fun _ _ _ h => h) (Or.inl ⟨by rfl, ?_⟩) (by assumption) ?_
      rotate_left
      · intro w hSw
        try dsimp only at hSw
        go_simp
        try with_reducible rfl
      try simp only [Act.put, List.setIfInBounds_toArray, List.set_cons_zero, List.set_cons_succ]
      refine wpAnyH_take (i := 65) (v := ?_) (by simp only [List.getElem?_toArray, List.getElem?_cons_succ, List.getElem?_cons_zero]; rfl) (by kernel_rfl) (by kernel_rfl) (by kernel_rfl) (fun _ _ _ h => h) (Or.inl ⟨by rfl, ?_⟩) (by assumption) ?_
      rotate_left
      · intro w hSw
        try dsimp only at hSw
        go_simp
        try with_reducible rfl
      try simp only [Act.put, List.setIfInBounds_toArray, List.set_cons_zero, List.set_cons_succ]
      refine wpAnyH_take (i := 66) (v := ?_) (by simp only [List.getElem?_toArray, List.getElem?_cons_succ, List.getElem?_cons_zero]; rfl) (by kernel_rfl) (by kernel_rfl) (by kernel_rfl) (fun _ _ _ h => h) (Or.inl ⟨by rfl, ?_⟩) (by assumption) ?_
      rotate_left
      · intro w hSw
        try dsimp only at hSw
        go_simp
        try with_reducible rfl
      try simp only [Act.put, List.setIfInBounds_toArray, List.set_cons_zero, List.set_cons_succ]
      refine wpAnyH_take (i := 67) (v := ?_) (by simp only [List.getElem?_toArray, List.getElem?_cons_succ, List.getElem?_cons_zero]; rfl) (by kernel_rfl) (by kernel_rfl) (by kernel_rfl) (fun _ _ _ h => h) (Or.inl ⟨by rfl, ?_⟩) (by assumption) ?_
      rotate_left
      · intro w hSw
        try dsimp only at hSw
        go_simp
        try with_reducible rfl
      try simp only [Act.put, List.setIfInBounds_toArray, List.set_cons_zero, List.set_cons_succ]
      refine wpAnyH_take (i := 68) (v := ?_) (by simp only [List.getElem?_toArray, List.getElem?_cons_succ, List.getElem?_cons_zero]; rfl) (by kernel_rfl) (by kernel_rfl) (by kernel_rfl) (fun _ _ _ h => h) (Or.inl ⟨by rfl, ?_⟩) (by assumption) ?_
      rotate_left
      · intro w hSw
        try dsimp only at hSw
        go_simp
        try with_reducible rfl
      try simp only [Act.put, List.setIfInBounds_toArray, List.set_cons_zero, List.set_cons_succ]
      refine wpAnyH_take (i := 69) (v := ?_) (by simp only [List.getElem?_toArray, List.getElem?_cons_succ, List.getElem?_cons_zero]; rfl) (by kernel_rfl) (by kernel_rfl) (by kernel_rfl) (fun _ _ _ h => h) (Or.inl ⟨by rfl, ?_⟩) (by assumption) ?_
      rotate_left
      · intro w hSw
        try dsimp only at hSw
        go_simp
        try with_reducible rfl
      try simp only [Act.put, List.setIfInBounds_toArray, List.set_cons_zero, List.set_cons_succ]
      refine wpAnyH_take (i := 70) (v := ?_) (by simp only [List.getElem?_toArray, List.getElem?_cons_succ, List.getElem?_cons_zero]; rfl) (by kernel_rfl) (by kernel_rfl) (by kernel_rfl) (fun _ _ _ h => h) (Or.inl ⟨by rfl, ?_⟩) (by assumption) ?_
      rotate_left
      · intro w hSw
        try dsimp only at hSw
        go_simp
        try with_reducible rfl
      try simp only [Act.put, List.setIfInBounds_toArray, List.set_cons_zero, List.set_cons_succ]
      refine wpAnyH_take (i := 71) (v := ?_) (by simp only [List.getElem?_toArray, List.getElem?_cons_succ, List.getElem?_cons_zero]; rfl) (by kernel_rfl) (by kernel_rfl) (by kernel_rfl) (fun _ _ _ h => h) (Or.inl ⟨by rfl, ?_⟩) (by assumption) ?_
      rotate_left
      · intro w hSw
        try dsimp only at hSw
        go_simp
        try with_reducible rfl
      try simp only [Act.put, List.setIfInBounds_toArray, List.set_cons_zero, List.set_cons_succ]
      refine wpAnyH_take (i := 72) (v := ?_) (by simp only [List.getElem?_toArray, List.getElem?_cons_succ, List.getElem?_cons_zero]; rfl) (by kernel_rfl) (by kernel_rfl) (by kernel_rfl) (fun _ _ _ h => h) (Or.inl ⟨by rfl, ?_⟩) (by assumption) ?_
      rotate_left
      · intro w hSw
        try dsimp only at hSw
        go_simp
        try with_reducible rfl
      try simp only [Act.put, List.setIfInBounds_toArray, List.set_cons_zero, List.set_cons_succ]
      refine wpAnyH_take (i := 73) (v := ?_) (by simp only [List.getElem?_toArray, List.getElem?_cons_succ, List.getElem?_cons_zero]; rfl) (by kernel_rfl) (by kernel_rfl) (by kernel_rfl) (fun _ _ _ h => h) (Or.inl ⟨by rfl, ?_⟩) (by assumption) ?_
      rotate_left
      · intro w hSw
        try dsimp only at hSw
        go_simp
        try with_reducible rfl
      try simp only [Act.put, List.setIfInBounds_toArray, List.set_cons_zero, List.set_cons_succ]
      refine wpAnyH_ready (rs := [74]) (by kernel_rfl) (by simp) ?_
      refine AllReadyH.cons (by simp only [List.getElem?_toArray, List.getElem?_cons_succ, List.getElem?_cons_zero]; rfl) (fun K hK => ?_) AllReadyH.nil
      go_simp
      refine (count_to _ g' mb' Y JJ.out.ga).mono ?_
      rintro e w27 ⟨rfl, rfl⟩
      rw [HY.out]
      go_wp2_with fail
      refine hK.out _ _ (six KK.out HK.out.la CV.out) (fun hHeld => ?_)
      clear hK K
      try simp only [Act.put, List.setIfInBounds_toArray, List.set_cons_zero, List.set_cons_succ]
      refine wpAnyH_take (i := 75) (v := ?_) (by simp only [List.getElem?_toArray, List.getElem?_cons_succ, List.getElem?_cons_zero]; rfl) (by kernel_rfl) (by kernel_rfl) (by kernel_rfl) (fun _ _ _ h => h) (Or.inl ⟨by rfl, ?_⟩) (by assumption) ?_
      rotate_left
      · intro w hSw
        try dsimp only at hSw
        go_simp
        try with_reducible rfl
      try simp only [Act.put, List.setIfInBounds_toArray, List.set_cons_zero, List.set_cons_succ]
      refine wpAnyH_take (i := 76) (v := ?_) (by simp only [List.getElem?_toArray, List.getElem?_cons_succ, List.getElem?_cons_zero]; rfl) (by kernel_rfl) (by kernel_rfl) (by kernel_rfl) (fun _ _ _ h => h) (Or.inl ⟨by rfl, ?_⟩) (by assumption) ?_
      rotate_left
      · intro w hSw
        try dsimp only at hSw
        go_simp
        try with_reducible rfl
      try simp only [Act.put, List.setIfInBounds_toArray, List.set_cons_zero, List.set_cons_succ]
      refine wpAnyH_take (i := 77) (v := ?_) (by simp only [List.getElem?_toArray, List.getElem?_cons_succ, List.getElem?_cons_zero]; rfl) (by kernel_rfl) (by kernel_rfl) (by kernel_rfl) (fun _ _ _ h => h) (Or.inl ⟨by rfl, ?_⟩) (by assumption) ?_
      rotate_left
      · intro w hSw
        try dsimp only at hSw
        go_simp
        try with_reducible rfl
      try simp only [Act.put, List.setIfInBounds_toArray, List.set_cons_zero, List.set_cons_succ]
      refine wpAnyH_take (i := 78) (v := ?_) (by simp only [List.getElem?_toArray, List.getElem?_cons_succ, List.getElem?_cons_zero]; rfl) (by kernel_rfl) (by kernel_rfl) (by kernel_rfl) (fun _ _ _ h => h) (Or.inl ⟨by rfl, ?_⟩) (by assumption) ?_
      rotate_left
      · intro w hSw
        try dsimp only at hSw
        go_simp
        try with_reducible rfl
      try simp only [Act.put, List.setIfInBounds_toArray, List.set_cons_zero, List.set_cons_succ]
      refine wpAnyH_ready (rs := [79]) (by kernel_rfl) (by simp) ?_
      refine AllReadyH.cons (by simp only [List.getElem?_toArray, List.getElem?_cons_succ, List.getElem?_cons_zero]; rfl) (fun K hK => ?_) AllReadyH.nil
      go_simp
      refine (count_to _ gb mb X KK.out.ga).mono ?_
      rintro e w28 ⟨rfl, rfl⟩
      rw [HXl.out]
      go_wp2_with fail
      refine hK.out _ _ (six KK.out HK.out.la CV.out) (fun hHeld => ?_)
      clear hK K
      try simp only [Act.put, List.setIfInBounds_toArray, List.set_cons_zero, List.set_cons_succ]
      refine wpAnyH_take (i := 80) (v := ?_) (by simp only [List.getElem?_toArray, List.getElem?_cons_succ, List.getElem?_cons_zero]; rfl) (by kernel_rfl) (by kernel_rfl) (by kernel_rfl) (fun _ _ _ h => h) (Or.inl ⟨by rfl, ?_⟩) (by assumption) ?_
      rotate_left
      · intro w hSw
        try dsimp only at hSw
        go_simp
        try with_reducible rfl
      try simp only [Act.put, List.setIfInBounds_toArray, List.set_cons_zero, List.set_cons_succ]
      refine wpAnyH_take (i := 81) (v := ?_) (by simp only [List.getElem?_toArray, List.getElem?_cons_succ, List.getElem?_cons_zero]; rfl) (by kernel_rfl) (by kernel_rfl) (by kernel_rfl) (fun _ _ _ h => h) (Or.inl ⟨by rfl, ?_⟩) (by assumption) ?_
      rotate_left
      · intro w hSw
        try dsimp only at hSw
        go_simp
        try with_reducible rfl
      try simp only [Act.put, List.setIfInBounds_toArray, List.set_cons_zero, List.set_cons_succ]
      refine wpAnyH_take (i := 82) (v := ?_) (by simp only [List.getElem?_toArray, List.getElem?_cons_succ, List.getElem?_cons_zero]; rfl) (by kernel_rfl) (by kernel_rfl) (by kernel_rfl) (fun _ _ _ h => h) (Or.inl ⟨by rfl, ?_⟩) (by assumption) ?_
      rotate_left
      · intro w hSw
        try dsimp only at hSw
        go_simp
        try with_reducible rfl
      try simp only [Act.put, List.setIfInBounds_toArray, List.set_cons_zero, List.set_cons_succ]
      refine wpAnyH_take (i := 83) (v := ?_) (by simp only [List.getElem?_toArray, List.getElem?_cons_succ, List.getElem?_cons_zero]; rfl) (by kernel_rfl) (by kernel_rfl) (by kernel_rfl) (fun _ _ _ h => h) (Or.inl ⟨by rfl, ?_⟩) (by assumption) ?_
      rotate_left
      · intro w hSw
        try dsimp only at hSw
        go_simp
        try with_reducible rfl
      try simp only [Act.put, List.setIfInBounds_toArray, List.set_cons_zero, List.set_cons_succ]
      refine wpAnyH_take (i := 84) (v := ?_) (by simp only [List.getElem?_toArray, List.getElem?_cons_succ, List.getElem?_cons_zero]; rfl) (by kernel_rfl) (by kernel_rfl) (by kernel_rfl) (fun _ _ _ h => h) (Or.inl ⟨by rfl, ?_⟩) (by assumption) ?_
      rotate_left
      · intro w hSw
        try dsimp only at hSw
        go_simp
        try with_reducible rfl
      try simp only [Act.put, List.setIfInBounds_toArray, List.set_cons_zero, List.set_cons_succ]
      refine wpAnyH_ready (rs := [85]) (by kernel_rfl) (by simp) ?_
      refine AllReadyH.cons (by simp only [List.getElem?_toArray, List.getElem?_cons_succ, List.getElem?_cons_zero]; rfl) (fun K hK => ?_) AllReadyH.nil
      refine step_slice1 b HK.out.lb (by rfl) (by rfl) ?_
      have KK := Lib.hid (KK.out.al (.cells (hv b) 26))
      have CV := Lib.hid ((mild_below (below_al11 w26 (.cells (hv b) 26))).cells CV.out)
      refine hK.out _ _ (six KK.out HK.out.la CV.out) (fun hHeld => ?_)
      clear hK K
      try simp only [Act.put, List.setIfInBounds_toArray, List.set_cons_zero, List.set_cons_succ]
      have hAn := Lib.hid (ancestors_to _ gb mb X _ [b] KK.out.ga (seen_one w26 b) (H32.one HK.out.lb) (by simp) (Nat.le_trans HW.out.xlen (by decide)) HW.out.clo (HW.out.parm 1000 (by decide)))
      generalize w26.alloc (.cells (hv b) 26) = w27 at *
      refine wpAnyH_ready (rs := [86]) (by kernel_rfl) (by simp) ?_
      refine AllReadyH.cons (by simp only [List.getElem?_toArray, List.getElem?_cons_succ, List.getElem?_cons_zero]; rfl) (fun K hK => ?_) AllReadyH.nil
      go_simp
      refine hAn.out.mono ?_
      rintro e w28 ⟨va, rfl, hva, bb⟩
      obtain ⟨pa, ca, rfl⟩ := own_shape hva
      rw [HX.out, HK.out.fa]
      have KK := Lib.hid (KK.out.kb bb)
      have CV := Lib.hid ((bb.block _ (Array.getElem?_eq_some_iff.1 CV.out).1).trans CV.out)
      clear bb hva
      go_wp2_with fail
      refine hK.out _ _ (six KK.out HK.out.la CV.out) (fun hHeld => ?_)
      clear hK K
      try simp only [Act.put, List.setIfInBounds_toArray, List.set_cons_zero, List.set_cons_succ]
      refine wpAnyH_take (i := 87) (v := ?_) (by simp only [List.getElem?_toArray, List.getElem?_cons_succ, List.getElem?_cons_zero]; rfl) (by kernel_rfl) (by kernel_rfl) (by kernel_rfl) (fun _ _ _ h => h) (Or.inl ⟨by rfl, ?_⟩) (by assumption) ?_
      rotate_left
      · intro w hSw
        try dsimp only at hSw
        go_simp
        try with_reducible rfl
      try simp only [Act.put, List.setIfInBounds_toArray, List.set_cons_zero, List.set_cons_succ]
      refine wpAnyH_take (i := 88) (v := ?_) (by simp only [List.getElem?_toArray, List.getElem?_cons_succ, List.getElem?_cons_zero]; rfl) (by kernel_rfl) (by kernel_rfl) (by kernel_rfl) (fun _ _ _ h => h) (Or.inl ⟨by rfl, ?_⟩) (by assumption) ?_
      rotate_left
      · intro w hSw
        try dsimp only at hSw
        go_simp
        try with_reducible rfl
      try simp only [Act.put, List.setIfInBounds_toArray, List.set_cons_zero, List.set_cons_succ]
      refine wpAnyH_take (i := 89) (v := ?_) (by simp only [List.getElem?_toArray, List.getElem?_cons_succ, List.getElem?_cons_zero]; rfl) (by kernel_rfl) (by kernel_rfl) (by kernel_rfl) (fun _ _ _ h => h) (Or.inl ⟨by rfl, ?_⟩) (by assumption) ?_
      rotate_left
      · intro w hSw
        try dsimp only at hSw
        go_simp
        try with_reducible rfl
      try simp only [Act.put, List.setIfInBounds_toArray, List.set_cons_zero, List.set_cons_succ]
      refine wpAnyH_take (i := 90) (v := ?_) (by simp only [List.getElem?_toArray, List.getElem?_cons_succ, List.getElem?_cons_zero]; rfl) (by kernel_rfl) (by kernel_rfl) (by kernel_rfl) (fun _ _ _ h => h) (Or.inl ⟨by rfl, ?_⟩) (by assumption) ?_
      rotate_left
      · intro w hSw
        try dsimp only at hSw
        go_simp
        try with_reducible rfl
      try simp only [Act.put, List.setIfInBounds_toArray, List.set_cons_zero, List.set_cons_succ]
      refine wpAnyH_take (i := 91) (v := ?_) (by simp only [List.getElem?_toArray, List.getElem?_cons_succ, List.getElem?_cons_zero]; rfl) (by kernel_rfl) (by kernel_rfl) (by kernel_rfl) (fun _ _ _ h => h) (Or.inl ⟨by rfl, ?_⟩) (by assumption) ?_
      rotate_left
      · intro w hSw
        try dsimp only at hSw
        go_simp
        try with_reducible rfl
      try simp only [Act.put, List.setIfInBounds_toArray, List.set_cons_zero, List.set_cons_succ]
      refine wpAnyH_take (i := 92) (v := ?_) (by simp only [List.getElem?_toArray, List.getElem?_cons_succ, List.getElem?_cons_zero]; rfl) (by kernel_rfl) (by kernel_rfl) (by kernel_rfl) (fun _ _ _ h => h) (Or.inl ⟨by rfl, ?_⟩) (by assumption) ?_
      rotate_left
      · intro w hSw
        try dsimp only at hSw
        go_simp
        try with_reducible rfl
      try simp only [Act.put, List.setIfInBounds_toArray, List.set_cons_zero, List.set_cons_succ]
      refine wpAnyH_ready (rs := [93]) (by kernel_rfl) (by simp) ?_
      refine AllReadyH.cons (by simp only [List.getElem?_toArray, List.getElem?_cons_succ, List.getElem?_cons_zero]; rfl) (fun K hK => ?_) AllReadyH.nil
      refine step_slice1 a HK.out.la (by rfl) (by rfl) ?_
      have KK := Lib.hid (KK.out.al (.cells (hv a) 26))
      have CV := Lib.hid ((mild_below (below_al11 w28 (.cells (hv a) 26))).cells CV.out)
      refine hK.out _ _ (six KK.out HK.out.la CV.out) (fun hHeld => ?_)
      clear hK K
      try simp only [Act.put, List.setIfInBounds_toArray, List.set_cons_zero, List.set_cons_succ]
      have hDe := Lib.hid (descendants_to _ gb mb X _ [a] KK.out.ga (seen_one w28 a) (H32.one HK.out.la) (by simp) HW.out.xlen HW.out.clo HW.out.parn)
      generalize w28.alloc (.cells (hv a) 26) = w29 at *
      refine wpAnyH_ready (rs := [94]) (by kernel_rfl) (by simp) ?_
      refine AllReadyH.cons (by simp only [List.getElem?_toArray, List.getElem?_cons_succ, List.getElem?_cons_zero]; rfl) (fun K hK => ?_) AllReadyH.nil
      go_simp
      refine hDe.out.mono ?_
      rintro e w30 ⟨vd, rfl, hvd, bb⟩
      obtain ⟨pd, cd, rfl⟩ := own_shape hvd
      rw [HX.out, HK.out.fd]
      have KK := Lib.hid (KK.out.kb bb)
      have CV := Lib.hid ((bb.block _ (Array.getElem?_eq_some_iff.1 CV.out).1).trans CV.out)
      clear bb hvd
      go_wp2_with fail
      refine hK.out _ _ (six KK.out HK.out.la CV.out) (fun hHeld => ?_)
      clear hK K
      try simp only [Act.put, List.setIfInBounds_toArray, List.set_cons_zero, List.set_cons_succ]
      refine wpAnyH_take (i := 95) (v := ?_) (by simp only [List.getElem?_toArray, List.getElem?_cons_succ, List.getElem?_cons_zero]; rfl) (by kernel_rfl) (by kernel_rfl) (by kernel_rfl) (fun _ _ _ h => h) (Or.inl ⟨by rfl, ?_⟩) (by assumption) ?_
      rotate_left
      · intro w hSw
        try dsimp only at hSw
        go_simp
        try with_reducible rfl
      try simp only [Act.put, List.setIfInBounds_toArray, List.set_cons_zero, List.set_cons_succ]
      refine wpAnyH_take (i := 96) (v := ?_) (by simp only [List.getElem?_toArray, List.getElem?_cons_succ, List.getElem?_cons_zero]; rfl) (by kernel_rfl) (by kernel_rfl) (by kernel_rfl) (fun _ _ _ h => h) (Or.inl ⟨by rfl, ?_⟩) (by assumption) ?_
      rotate_left
      · intro w hSw
        try dsimp only at hSw
        go_simp
        try with_reducible rfl
      try simp only [Act.put, List.setIfInBounds_toArray, List.set_cons_zero, List.set_cons_succ]
      refine wpAnyH_take (i := 97) (v := ?_) (by simp only [List.getElem?_toArray, List.getElem?_cons_succ, List.getElem?_cons_zero]; rfl) (by kernel_rfl) (by kernel_rfl) (by kernel_rfl) (fun _ _ _ h => h) (Or.inl ⟨by rfl, ?_⟩) (by assumption) ?_
      rotate_left
      · intro w hSw
        try dsimp only at hSw
        go_simp
        try with_reducible rfl
      try simp only [Act.put, List.setIfInBounds_toArray, List.set_cons_zero, List.set_cons_succ]
      refine wpAnyH_take (i := 98) (v := ?_) (by simp only [List.getElem?_toArray, List.getElem?_cons_succ, List.getElem?_cons_zero]; rfl) (by kernel_rfl) (by kernel_rfl) (by kernel_rfl) (fun _ _ _ h => h) (Or.inl ⟨by rfl, ?_⟩) (by assumption) ?_
      rotate_left
      · intro w hSw
        try dsimp only at hSw
        go_simp
        try with_reducible rfl
      try simp only [Act.put, List.setIfInBounds_toArray, List.set_cons_zero]
      refine wpAnyH_done (by kernel_rfl) ?_ _
      refine NoPanic.normal ?_
      go_wp2_with fail
      go_ret
      exact ⟨rfl, KK.out.bel⟩
theorem known11w_to (w : World) (hg : Glob w) : Calls Tryd.prog 3 #[] w fun e w' => e = .returned (.bool true) ∧ Below w.heap.size w w' := known11w_gen _ _ _ _ _ _ _ _ _ kz w hg
end Go.Proofs.YtakbdnkodnlkdaaDoor
