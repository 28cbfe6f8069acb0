/- The example of chapter 11. Condition: errors.errorType holds what its text lays. -/
import Derived.Test.YtakbdnkodnlkdaaDoorGphB
namespace Go.Proofs.YtakbdnkodnlkdaaDoor
open Go.RowKit Go.Extern.Stop Go.Stop Go.Extern
open Go.Maps

/-- A hash by its first byte. -/
def kn (n : UInt8) : Key := [n, 0, 0, 0, 0, 0, 0, 0, 0, 0, 0, 0, 0, 0, 0, 0, 0, 0, 0, 0, 0, 0, 0, 0, 0, 0, 0, 0, 0, 0, 0, 0]
theorem kn_built (n : UInt8) : Tryd.prog.built 26 [(0, .int .u8 (n.toNat : Int))] = some (hv (kn n)) := by kernel_rfl
theorem below_al11 (w : World) (o : Obj) : Below w.heap.size w (w.alloc o) := (Below.refl _ _).alloc (Nat.le_refl _) _
/-- A literal of one commit with parents. -/
theorem lit_par (w : World) (h : Key) (hh : h.length = 32) (E : List Key) (n : Nat) (hn : n = E.length) :
    CSeen ((w.alloc (.cells (fl E).toArray 26)).alloc (.cells (cf [(h, .slice (some ⟨w.heap.size, 0, none⟩) n n)]).toArray 36)) (.slice (some ⟨w.heap.size + 1, 0, none⟩) 1 1) [(h, E)] ∧
      Below w.heap.size w ((w.alloc (.cells (fl E).toArray 26)).alloc (.cells (cf [(h, .slice (some ⟨w.heap.size, 0, none⟩) n n)]).toArray 36)) := by
  have hs1 : (w.alloc (.cells (fl E).toArray 26)).heap.size = w.heap.size + 1 := by simp
  have b1 := below_al11 w (.cells (fl E).toArray 26)
  have b2 := below_al11 (w.alloc (.cells (fl E).toArray 26)) (.cells (cf [(h, .slice (some ⟨w.heap.size, 0, none⟩) n n)]).toArray 36)
  have h2 := heap_alloc_last (w.alloc (.cells (fl E).toArray 26)) (.cells (cf [(h, .slice (some ⟨w.heap.size, 0, none⟩) n n)]).toArray 36)
  rw [hs1] at h2
  refine ⟨cseen_new h2 (by simpa using hh) rfl (fun i c d hc hd => ?_) 1 rfl, b1.trans (b2.mono b1.size)⟩
  match i, hc, hd with
  | 0, hc, hd =>
    simp only [List.getElem?_cons_zero, Option.some.injEq] at hc hd
    subst hc hd
    exact ⟨rfl, (hseen_new (heap_alloc_last w _) n hn).mild (mild_below b2)⟩
  | i + 1, hc, _ => simp at hc
/-- A literal of one commit without parents. -/
theorem lit_one (w : World) (h : Key) (hh : h.length = 32) :
    CSeen (w.alloc (.cells (cf [(h, .slice none 0 0)]).toArray 36)) (.slice (some ⟨w.heap.size, 0, none⟩) 1 1) [(h, [])] ∧ Below w.heap.size w (w.alloc (.cells (cf [(h, .slice none 0 0)]).toArray 36)) := by
  refine ⟨cseen_new (heap_alloc_last w _) (by simpa using hh) rfl (fun i c d hc hd => ?_) 1 rfl, below_al11 _ _⟩
  match i, hc, hd with
  | 0, hc, hd =>
    simp only [List.getElem?_cons_zero, Option.some.injEq] at hc hd
    subst hc hd
    exact ⟨rfl, .inl ⟨rfl, rfl⟩⟩
  | i + 1, hc, _ => simp at hc
/-- What the example is. -/
structure Kx11 (a b : Key) : Prop where
  la : a.length = 32
  lb : b.length = 32
  ba : Tryd.prog.built 26 [(0, .int .u8 1)] = some (hv a)
  bb : Tryd.prog.built 26 [(0, .int .u8 2)] = some (hv b)
  f1 : chk [] 2 [(a, [b])] [] = some (10, some b)
  f2 : chk [] 2 [(a, [])] [] = none
  g2 : adds [] [(a, [])] = [(a, [])]
theorem kx11 : Kx11 (kn 1) (kn 2) := by
  refine ⟨rfl, rfl, kn_built 1, kn_built 2, ?_, ?_, by decide⟩
  · unfold chk
    rw [if_pos (by decide), show ck2 [(kn 1, [kn 2])] = none by decide, show ck3 [] [] [(kn 1, [kn 2])] = none by decide, show ck4 [] (addA [] [] [(kn 1, [kn 2])]) [(kn 1, [kn 2])] = some (10, some (kn 2)) by decide]
    rfl
  · refine chk_fine.2 ⟨by decide, by decide, by decide, by decide, by decide, ?_, by decide⟩
    rw [ck6, if_neg (by rintro ⟨p, hp, _⟩; cases hp)]
    rfl
theorem cok1 {a b : Key} (la : a.length = 32) (lb : b.length = 32) : COk [(a, [b])] := fun c hc => by rw [List.mem_singleton.1 hc]; exact ⟨la, H32.one lb⟩
theorem cok0 {a : Key} (la : a.length = 32) : COk [(a, [])] := fun c hc => by rw [List.mem_singleton.1 hc]; exact ⟨la, H32.nil⟩
set_option linter.unusedSimpArgs false in
set_option maxRecDepth 20000 in
set_option maxHeartbeats 8000000 in
attribute [local go_sem ↓] hld_open heq_open in
theorem known11_gen (a b : Key) (hk : Kx11 a b) (w : World) (hg : Glob w) : Calls Tryd.prog 8 #[] w fun e w' => e = .returned (.bool true) ∧ Below w.heap.size w w' := by
  have HG := Lib.hid hg
  have HK := Lib.hid hk
  clear hg hk
  go_enter Tryd.func8, Tryd.ntmps8
  go_wp2_with fail
  refine (new_to w).mono ?_
  rintro e w1 ⟨rfl, g1, b1⟩
  have B1 := Lib.hid b1
  have G1 := Lib.hid g1
  have HSZ : Hid (w.heap.size + 1 < w1.heap.size) := Lib.hid (Array.getElem?_eq_some_iff.1 g1.cell).1
  clear b1 g1
  generalize hgb : w.heap.size + 1 = gb at *
  generalize hmb : w.heap.size = mb at G1
  have HMB := Lib.hid hmb
  have HGB := Lib.hid hgb
  clear hmb hgb
  have L1 := lit_par w1 a HK.out.la [b] 1 rfl
  have hnp : ∀ w : World, (binOp .eql 22 (gp gb) (.pointer none)).run Tryd.prog w = .ok (.bool false) w := fun w => by kernel_rfl
  go_wp2_with (first
    | (refine build_w (vals := #[(0, .int .u8 1)]) HK.out.ba ?hv ?hw ?_; (case hv => simp [Act.put, Act.eval]); (case hw => simp [Region.wanted]))
    | (refine build_w (vals := #[(0, .int .u8 2)]) HK.out.bb ?hv ?hw ?_; (case hv => simp [Act.put, Act.eval]); (case hw => simp [Region.wanted]))
    | (refine slice_w (E := [b]) (H32.one HK.out.lb) rfl (by simp) (by simp) ?hv ?hw ?_; (case hv => simp [Act.put, Act.eval]); (case hw => simp [Region.wanted]))
    | (refine build_w (t := 36) (vals := #[(0, .agg (hv a)), (1, .slice (some ⟨w1.heap.size, 0, none⟩) 1 1)]) (built_commit a _ HK.out.la rfl) ?hv ?hw ?_; (case hv => simp [Act.put, Act.eval]); (case hw => simp [Region.wanted]))
    | (refine slicec_w (C := [(a, .slice (some ⟨w1.heap.size, 0, none⟩) 1 1)]) (by simpa using HK.out.la) rfl (by simp) (by simp) ?hv ?hw ?_; (case hv => simp [Act.put, Act.eval]); (case hw => simp [Region.wanted])))
  refine (check_to _ gb mb [] _ (.slice none 0 0) 2 [(a, [b])] [] (G1.out.kb L1.2) (by decide) (by simp) L1.1 (.inl ⟨rfl, rfl⟩) (cok1 HK.out.la HK.out.lb) H32.nil (by simp) (by simp) (by simp)).mono ?_
  rintro e w2 ⟨x, rfl, ex, b2⟩
  rw [show gr ([] : Lx) = [] from rfl, HK.out.f1] at ex
  have hb2 : Below w1.heap.size w1 w2 := L1.2.trans (b2.mono L1.2.size)
  have B2 : Hid (Below w.heap.size w w2) := Lib.hid (B1.out.trans (hb2.mono B1.out.size))
  have G2 := Lib.hid (G1.out.kb hb2)
  have EX := Lib.hid ex
  have HG2 := Lib.hid (HG.out.kb B2.out)
  have HWH := Lib.hid (whose_to w2 x _ HG2.out ex)
  clear b2 hb2 ex L1 G1
  go_wp2_with fail
  refine HWH.out.mono ?_
  rintro e w3 ⟨rfl, b3⟩
  rw [show whoH (some (10, some b)) = b from rfl, show whoB (some (10, some b)) = true from rfl]
  have B3 : Hid (Below w.heap.size w w3) := Lib.hid (B2.out.trans (b3.mono B2.out.size))
  have G3 := Lib.hid (G2.out.kb b3)
  have EX3 := Lib.hid (EX.out.kb b3)
  have st := hst_cells b HK.out.lb w3
  have hks : (hv b).size = 32 := by rw [hv_size, HK.out.lb]
  have B3' : Hid (Below w.heap.size w (w3.alloc (.cells (hv b) 26))) := Lib.hid (B3.out.alloc B3.out.size _)
  have HV4 := Lib.hid (heap_alloc_last w3 (.cells (hv b) 26))
  have HKI := Lib.hid (kind_to (w3.alloc (.cells (hv b) 26)) x _ (HG.out.kb B3'.out) (EX3.out.kb (below_al11 _ _)) (fun k o h => by injection h with h; injection h with h; rw [← h]; decide))
  have G4 := Lib.hid (G3.out.kb (below_al11 w3 (.cells (hv b) 26)))
  clear b3
  go_wp2_with fail
  generalize w3.alloc (.cells (hv b) 26) = w4 at *
  refine HKI.out.mono ?_
  rintro e w5 ⟨rfl, b5⟩
  rw [show kindOf (some (10, some b)) = 10 from rfl]
  have B5 : Hid (Below w.heap.size w w5) := Lib.hid (B3'.out.trans (b5.mono B3'.out.size))
  have G5 := Lib.hid (G4.out.kb b5)
  have hld5 := hld_row (w := w5) HK.out.lb ((b5.block _ (Array.getElem?_eq_some_iff.1 HV4.out).1).trans HV4.out)
  have heq5 := heq_hv HK.out.lb HK.out.lb w5
  rw [decide_eq_true rfl] at heq5
  have L5 := lit_one w5 a HK.out.la
  clear b5 st
  go_wp2_with (first
    | (refine build_w (vals := #[(0, .int .u8 2)]) HK.out.bb ?hv ?hw ?_; (case hv => first | rfl | simp [Act.put, Act.eval]); (case hw => first | rfl | simp [Region.wanted, yielded]))
    | (refine build_w (vals := #[(0, .int .u8 1)]) HK.out.ba ?hv ?hw ?_; (case hv => first | rfl | simp [Act.put, Act.eval]); (case hw => first | rfl | simp [Region.wanted, yielded]))
    | (refine build_w (t := 36) (vals := #[(0, .agg (hv a))]) (built_commit0 a HK.out.la) ?hv ?hw ?_; (case hv => first | rfl | simp [Act.put, Act.eval]); (case hw => first | rfl | simp [Region.wanted, yielded]))
    | (refine slicec_w (C := [(a, .slice none 0 0)]) (by simpa using HK.out.la) rfl (by simp) (by simp) ?hv ?hw ?_; (case hv => first | rfl | simp [Act.put, Act.eval]); (case hw => first | rfl | simp [Region.wanted, yielded])))
  refine (add_to _ gb mb [] _ [(a, [])] (G5.out.kb L5.2) Wf.nil L5.1 (cok0 HK.out.la) (by simp) (by simp)).mono ?_
  rintro e w6 ⟨x6, rfl, e6, o6, h6⟩
  rw [show gr ([] : Lx) = [] from rfl] at e6 h6
  rw [HK.out.f2] at e6 h6
  obtain rfl : x6 = .nilIface := e6
  rcases h6 with ⟨h6, _⟩ | ⟨X', _, g6, hX'⟩
  · cases h6
  rw [HK.out.g2] at hX'
  have hmb' : w.heap.size ≤ mb := Nat.le_of_eq HMB.out
  have B6 : Hid (Below w.heap.size w w6) := Lib.hid ((B5.out.trans (L5.2.mono B5.out.size)).trans (Only.below o6 (Nat.le_trans B5.out.size L5.2.size) (fun j hj => by have e' : j = mb := hj; omega)))
  have hlX : X'.length = 1 := by rw [← gr_len, hX']; rfl
  have hha := has_to w6 gb mb X' a HK.out.la g6
  rw [hX', show (aget a [(a, ([] : List Key))]).isSome = true by simp [aget]] at hha
  have HHA := Lib.hid hha
  have G6 := Lib.hid g6
  have hnn := nil_nil
  clear o6 g6 hX' hha L5 hmb'
  go_wp2_with (first
    | (refine build_w (vals := #[(0, .int .u8 1)]) HK.out.ba ?hv ?hw ?_; (case hv => first | rfl | simp [Act.put, Act.eval]); (case hw => first | rfl | simp [Region.wanted, yielded]))
    | (go_at_call 23; refine HHA.out.mono ?_; rintro e w7 ⟨rfl, b7⟩; have B7 := Lib.hid (B6.out.trans (b7.mono B6.out.size)); have G7 := Lib.hid (G6.out.kb b7); clear b7)
    | (go_at_call 16; refine (count_to _ gb mb X' G7.out).mono ?_; rintro e w8 ⟨rfl, rfl⟩; rw [hlX]))
  go_ret
  exact ⟨rfl, B7.out⟩
theorem known11_to (w : World) (hg : Glob w) : Calls Tryd.prog 8 #[] w fun e w' => e = .returned (.bool true) ∧ Below w.heap.size w w' := known11_gen _ _ kx11 w hg
end Go.Proofs.YtakbdnkodnlkdaaDoor
