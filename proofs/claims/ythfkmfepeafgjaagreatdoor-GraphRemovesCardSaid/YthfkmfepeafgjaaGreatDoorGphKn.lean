/- The example of chapter 11. Condition: errors.errorType holds what its text lays. · GraphKnown's walk. Condition: errors.errorType holds what its text lays. -/
import Derived.Test.YthfkmfepeafgjaaGreatDoorGphB
namespace Go.Proofs.YthfkmfepeafgjaaGreatDoor
open Go.RowKit Go.Extern.Stop Go.Stop Go.Extern
open Go.Maps

/-- A hash by its first byte. -/
def kn (n : UInt8) : Key := [n, 0, 0, 0, 0, 0, 0, 0, 0, 0, 0, 0, 0, 0, 0, 0, 0, 0, 0, 0, 0, 0, 0, 0, 0, 0, 0, 0, 0, 0, 0, 0]
theorem kn_built (n : UInt8) : Tryz.prog.built 40 [(0, .int .u8 (n.toNat : Int))] = some (hv (kn n)) := by kernel_rfl
theorem below_al11 (w : World) (o : Obj) : Below w.heap.size w (w.alloc o) := (Below.refl _ _).alloc (Nat.le_refl _) _
/-- A literal of one commit with parents. -/
theorem lit_par (w : World) (h : Key) (hh : h.length = 32) (E : List Key) (n : Nat) (hn : n = E.length) :
    CSeen ((w.alloc (.cells (fl E).toArray 40)).alloc (.cells (cf [(h, .slice (some ⟨w.heap.size, 0, none⟩) n n)]).toArray 69)) (.slice (some ⟨w.heap.size + 1, 0, none⟩) 1 1) [(h, E)] ∧
      Below w.heap.size w ((w.alloc (.cells (fl E).toArray 40)).alloc (.cells (cf [(h, .slice (some ⟨w.heap.size, 0, none⟩) n n)]).toArray 69)) := by
  have hs1 : (w.alloc (.cells (fl E).toArray 40)).heap.size = w.heap.size + 1 := by simp
  have b1 := below_al11 w (.cells (fl E).toArray 40)
  have b2 := below_al11 (w.alloc (.cells (fl E).toArray 40)) (.cells (cf [(h, .slice (some ⟨w.heap.size, 0, none⟩) n n)]).toArray 69)
  have h2 := heap_alloc_last (w.alloc (.cells (fl E).toArray 40)) (.cells (cf [(h, .slice (some ⟨w.heap.size, 0, none⟩) n n)]).toArray 69)
  rw [hs1] at h2
  refine ⟨cseen_new h2 (by simpa using hh) rfl (fun i c d hc hd => ?_) 1 rfl, b1.trans (b2.mono b1.size)⟩
  match i, hc, hd with
  | 0, hc, hd =>
    simp only [List.getElem?_cons_zero, Option.some.injEq] at hc hd
    subst hc hd
    exact ⟨rfl, (hseen_new (heap_alloc_last w _) n hn).mild (mild_below b2)⟩
  | i + 1, hc, _ => simp at hc
/-- A literal of one commit without parents. -/
theorem lit_one (w : World) (h : Key) (hh : h.length = 32) :
    CSeen (w.alloc (.cells (cf [(h, .slice none 0 0)]).toArray 69)) (.slice (some ⟨w.heap.size, 0, none⟩) 1 1) [(h, [])] ∧ Below w.heap.size w (w.alloc (.cells (cf [(h, .slice none 0 0)]).toArray 69)) := by
  refine ⟨cseen_new (heap_alloc_last w _) (by simpa using hh) rfl (fun i c d hc hd => ?_) 1 rfl, below_al11 _ _⟩
  match i, hc, hd with
  | 0, hc, hd =>
    simp only [List.getElem?_cons_zero, Option.some.injEq] at hc hd
    subst hc hd
    exact ⟨rfl, .inl ⟨rfl, rfl⟩⟩
  | i + 1, hc, _ => simp at hc
/-- What the example is. -/
structure Kx11 (a b : Key) : Prop where
  la : a.length = 32
  lb : b.length = 32
  ba : Tryz.prog.built 40 [(0, .int .u8 1)] = some (hv a)
  bb : Tryz.prog.built 40 [(0, .int .u8 2)] = some (hv b)
  f1 : chk [] 2 [(a, [b])] [] = some (10, some b)
  f2 : chk [] 2 [(a, [])] [] = none
  g2 : adds [] [(a, [])] = [(a, [])]
theorem kx11 : Kx11 (kn 1) (kn 2) := by
  refine ⟨rfl, rfl, kn_built 1, kn_built 2, ?_, ?_, by decide⟩
  · unfold chk
    rw [if_pos (by decide), show ck2 [(kn 1, [kn 2])] = none by decide, show ck3 [] [] [(kn 1, [kn 2])] = none by decide, show ck4 [] (addA [] [] [(kn 1, [kn 2])]) [(kn 1, [kn 2])] = some (10, some (kn 2)) by decide]
    rfl
  · refine chk_fine.2 ⟨by decide, by decide, by decide, by decide, by decide, ?_, by decide⟩
    rw [ck6, if_neg (by rintro ⟨p, hp, _⟩; cases hp)]
    rfl
theorem cok1 {a b : Key} (la : a.length = 32) (lb : b.length = 32) : COk [(a, [b])] := fun c hc => by rw [List.mem_singleton.1 hc]; exact ⟨la, H32.one lb⟩
theorem cok0 {a : Key} (la : a.length = 32) : COk [(a, [])] := fun c hc => by rw [List.mem_singleton.1 hc]; exact ⟨la, H32.nil⟩
set_option linter.unusedSimpArgs false in
set_option maxRecDepth 20000 in
set_option maxHeartbeats 8000000 in
attribute [local go_sem ↓] hld_open heq_open in
theorem known11_gen (a b : Key) (hk : Kx11 a b) (w : World) (hg : Glob w) : Calls Tryz.prog 6 #[] w fun e w' => e = .returned (.bool true) ∧ Below w.heap.size w w' := by
  have HG := Lib.hid hg
  have HK := Lib.hid hk
  clear hg hk
  go_enter Tryz.func6, Tryz.ntmps6
  go_wp2_with fail
  refine (new_to w).mono ?_
  rintro e w1 ⟨rfl, g1, b1⟩
  have B1 := Lib.hid b1
  have G1 := Lib.hid g1
  have HSZ : Hid (w.heap.size + 1 < w1.heap.size) := Lib.hid (Array.getElem?_eq_some_iff.1 g1.cell).1
  clear b1 g1
  generalize hgb : w.heap.size + 1 = gb at *
  generalize hmb : w.heap.size = mb at G1
  have HMB := Lib.hid hmb
  have HGB := Lib.hid hgb
  clear hmb hgb
  have L1 := lit_par w1 a HK.out.la [b] 1 rfl
  have hnp : ∀ w : World, (binOp .eql 24 (gp gb) (.pointer none)).run Tryz.prog w = .ok (.bool false) w := fun w => by kernel_rfl
  go_wp2_with (first
    | (refine build_w (vals := #[(0, .int .u8 1)]) HK.out.ba ?hv ?hw ?_; (case hv => simp [Act.put, Act.eval]); (case hw => simp [Region.wanted]))
    | (refine build_w (vals := #[(0, .int .u8 2)]) HK.out.bb ?hv ?hw ?_; (case hv => simp [Act.put, Act.eval]); (case hw => simp [Region.wanted]))
    | (refine slice_w (E := [b]) (H32.one HK.out.lb) rfl (by simp) (by simp) ?hv ?hw ?_; (case hv => simp [Act.put, Act.eval]); (case hw => simp [Region.wanted]))
    | (refine build_w (t := 69) (vals := #[(0, .agg (hv a)), (1, .slice (some ⟨w1.heap.size, 0, none⟩) 1 1)]) (built_commit a _ HK.out.la rfl) ?hv ?hw ?_; (case hv => simp [Act.put, Act.eval]); (case hw => simp [Region.wanted]))
    | (refine slicec_w (C := [(a, .slice (some ⟨w1.heap.size, 0, none⟩) 1 1)]) (by simpa using HK.out.la) rfl (by simp) (by simp) ?hv ?hw ?_; (case hv => simp [Act.put, Act.eval]); (case hw => simp [Region.wanted])))
  refine (check_to _ gb mb [] _ (.slice none 0 0) 2 [(a, [b])] [] (G1.out.kb L1.2) (by decide) (by simp) L1.1 (.inl ⟨rfl, rfl⟩) (cok1 HK.out.la HK.out.lb) H32.nil (by simp) (by simp) (by simp)).mono ?_
  rintro e w2 ⟨x, rfl, ex, b2⟩
  rw [show gr ([] : Lx) = [] from rfl, HK.out.f1] at ex
  have hb2 : Below w1.heap.size w1 w2 := L1.2.trans (b2.mono L1.2.size)
  have B2 : Hid (Below w.heap.size w w2) := Lib.hid (B1.out.trans (hb2.mono B1.out.size))
  have G2 := Lib.hid (G1.out.kb hb2)
  have EX := Lib.hid ex
  have HG2 := Lib.hid (HG.out.kb B2.out)
  have HWH := Lib.hid (whose_to w2 x _ HG2.out ex)
  clear b2 hb2 ex L1 G1
  go_wp2_with fail
  refine HWH.out.mono ?_
  rintro e w3 ⟨rfl, b3⟩
  rw [show whoH (some (10, some b)) = b from rfl, show whoB (some (10, some b)) = true from rfl]
  have B3 : Hid (Below w.heap.size w w3) := Lib.hid (B2.out.trans (b3.mono B2.out.size))
  have G3 := Lib.hid (G2.out.kb b3)
  have EX3 := Lib.hid (EX.out.kb b3)
  have st := hst_cells b HK.out.lb w3
  have hks : (hv b).size = 32 := by rw [hv_size, HK.out.lb]
  have B3' : Hid (Below w.heap.size w (w3.alloc (.cells (hv b) 40))) := Lib.hid (B3.out.alloc B3.out.size _)
  have HV4 := Lib.hid (heap_alloc_last w3 (.cells (hv b) 40))
  have HKI := Lib.hid (kind_to (w3.alloc (.cells (hv b) 40)) x _ (HG.out.kb B3'.out) (EX3.out.kb (below_al11 _ _)) (fun k o h => by injection h with h; injection h with h; rw [← h]; decide))
  have G4 := Lib.hid (G3.out.kb (below_al11 w3 (.cells (hv b) 40)))
  clear b3
  go_wp2_with fail
  generalize w3.alloc (.cells (hv b) 40) = w4 at *
  refine HKI.out.mono ?_
  rintro e w5 ⟨rfl, b5⟩
  rw [show kindOf (some (10, some b)) = 10 from rfl]
  have B5 : Hid (Below w.heap.size w w5) := Lib.hid (B3'.out.trans (b5.mono B3'.out.size))
  have G5 := Lib.hid (G4.out.kb b5)
  have hld5 := hld_row (w := w5) HK.out.lb ((b5.block _ (Array.getElem?_eq_some_iff.1 HV4.out).1).trans HV4.out)
  have heq5 := heq_hv HK.out.lb HK.out.lb w5
  rw [decide_eq_true rfl] at heq5
  have L5 := lit_one w5 a HK.out.la
  clear b5 st
  go_wp2_with (first
    | (refine build_w (vals := #[(0, .int .u8 2)]) HK.out.bb ?hv ?hw ?_; (case hv => first | rfl | simp [Act.put, Act.eval]); (case hw => first | rfl | simp [Region.wanted, yielded]))
    | (refine build_w (vals := #[(0, .int .u8 1)]) HK.out.ba ?hv ?hw ?_; (case hv => first | rfl | simp [Act.put, Act.eval]); (case hw => first | rfl | simp [Region.wanted, yielded]))
    | (refine build_w (t := 69) (vals := #[(0, .agg (hv a))]) (built_commit0 a HK.out.la) ?hv ?hw ?_; (case hv => first | rfl | simp [Act.put, Act.eval]); (case hw => first | rfl | simp [Region.wanted, yielded]))
    | (refine slicec_w (C := [(a, .slice none 0 0)]) (by simpa using HK.out.la) rfl (by simp) (by simp) ?hv ?hw ?_; (case hv => first | rfl | simp [Act.put, Act.eval]); (case hw => first | rfl | simp [Region.wanted, yielded])))
  refine (add_to _ gb mb [] _ [(a, [])] (G5.out.kb L5.2) Wf.nil L5.1 (cok0 HK.out.la) (by simp) (by simp)).mono ?_
  rintro e w6 ⟨x6, rfl, e6, o6, h6⟩
  rw [show gr ([] : Lx) = [] from rfl] at e6 h6
  rw [HK.out.f2] at e6 h6
  obtain rfl : x6 = .nilIface := e6
  rcases h6 with ⟨h6, _⟩ | ⟨X', _, g6, hX'⟩
  · cases h6
  rw [HK.out.g2] at hX'
  have hmb' : w.heap.size ≤ mb := Nat.le_of_eq HMB.out
  have B6 : Hid (Below w.heap.size w w6) := Lib.hid ((B5.out.trans (L5.2.mono B5.out.size)).trans (Only.below o6 (Nat.le_trans B5.out.size L5.2.size) (fun j hj => by have e' : j = mb := hj; omega)))
  have hlX : X'.length = 1 := by rw [← gr_len, hX']; rfl
  have hha := has_to w6 gb mb X' a HK.out.la g6
  rw [hX', show (aget a [(a, ([] : List Key))]).isSome = true by simp [aget]] at hha
  have HHA := Lib.hid hha
  have G6 := Lib.hid g6
  have hnn := nil_nil
  clear o6 g6 hX' hha L5 hmb'
  go_wp2_with (first
    | (refine build_w (vals := #[(0, .int .u8 1)]) HK.out.ba ?hv ?hw ?_; (case hv => first | rfl | simp [Act.put, Act.eval]); (case hw => first | rfl | simp [Region.wanted, yielded]))
    | (go_at_call 20; refine HHA.out.mono ?_; rintro e w7 ⟨rfl, b7⟩; have B7 := Lib.hid (B6.out.trans (b7.mono B6.out.size)); have G7 := Lib.hid (G6.out.kb b7); clear b7)
    | (go_at_call 13; refine (count_to _ gb mb X' G7.out).mono ?_; rintro e w8 ⟨rfl, rfl⟩; rw [hlX]))
  go_ret
  exact ⟨rfl, B7.out⟩
theorem known11_to (w : World) (hg : Glob w) : Calls Tryz.prog 6 #[] w fun e w' => e = .returned (.bool true) ∧ Below w.heap.size w w' := known11_gen _ _ kx11 w hg
end Go.Proofs.YthfkmfepeafgjaaGreatDoor
namespace Go.Proofs.YthfkmfepeafgjaaGreatDoor
open Go.RowKit Go.Extern.Stop Go.Stop Go.Extern
open Go.Maps

theorem bal {w W : World} (h : Below w.heap.size w W) (o : Obj) : Below w.heap.size w (W.alloc o) := h.alloc h.size _
/-- What the closed sentence says of its hashes. -/
structure Kz (a b c d4 d5 d6 d7 d8 d9 : Key) : Prop where
  la : a.length = 32
  lb : b.length = 32
  lc : c.length = 32
  l4 : H32 [d4, d5, d6, d7, d8]
  l9 : d9.length = 32
  b1 : Tryz.prog.built 40 [(0, .int .u8 1)] = some (hv a)
  b2 : Tryz.prog.built 40 [(0, .int .u8 2)] = some (hv b)
  b3 : Tryz.prog.built 40 [(0, .int .u8 3)] = some (hv c)
  b4 : Tryz.prog.built 40 [(0, .int .u8 4)] = some (hv d4)
  b5 : Tryz.prog.built 40 [(0, .int .u8 5)] = some (hv d5)
  b6 : Tryz.prog.built 40 [(0, .int .u8 6)] = some (hv d6)
  b7 : Tryz.prog.built 40 [(0, .int .u8 7)] = some (hv d7)
  b8 : Tryz.prog.built 40 [(0, .int .u8 8)] = some (hv d8)
  b9 : Tryz.prog.built 40 [(0, .int .u8 9)] = some (hv d9)
  fe : chk [] 0 [] [] = some (1, none)
  ff : chk [] 2 [(a, [d4, d5, d6, d7, d8])] [] = some (8, some a)
  fh : chk [] 2 [(a, [b, b])] [] = some (1, some a)
  fi : chk [] 2 [(b, [a]), (a, []), (b, [a])] [] = none
  gi : adds [] [(b, [a]), (a, []), (b, [a])] = [(a, []), (b, [a])]
  fj : chk [(a, []), (b, [a])] 2 [(b, [])] [] = some (9, some b)
  fk : chk [(a, []), (b, [a])] 1 [] [a, c] = some (11, some c)
  fl : chk [(a, []), (b, [a])] 2 [(c, [d9]), (d9, [c])] [] = some (12, some c)
  fm : rm1 [a] [(a, []), (b, [a])] = some (10, some b)
  fn : rm1 [b, c] [(a, []), (b, [a])] = none
  okI : COk [(b, [a]), (a, []), (b, [a])]
  okL : COk [(c, [d9]), (d9, [c])]
  gn : rmv [b, c] [(a, []), (b, [a])] = [(a, [])]
  fa : (ancs [(a, []), (b, [a])] [b]).length = 2
  fd : (descs [(a, []), (b, [a])] [a]).length = 2
  fp : aget b [(a, []), (b, [a])] = some [a]
theorem kz_le : chk [] 0 [] [] = some (1, none) := by unfold chk; rw [if_neg (by decide)]
theorem kz_ff : chk [] 2 [(kn 1, [kn 4, kn 5, kn 6, kn 7, kn 8])] [] = some (8, some (kn 1)) := by
  unfold chk; rw [if_pos (by decide), show ck2 [(kn 1, [kn 4, kn 5, kn 6, kn 7, kn 8])] = some (8, some (kn 1)) by decide]; rfl
theorem kz_fh : chk [] 2 [(kn 1, [kn 2, kn 2])] [] = some (1, some (kn 1)) := by
  unfold chk; rw [if_pos (by decide), show ck2 [(kn 1, [kn 2, kn 2])] = some (1, some (kn 1)) by decide]; rfl
theorem no_up {f : Key → List Key} {a b : Key} (h : f a = []) (hne : a ≠ b) : ¬ Up f a b := fun k => by
  cases k with
  | refl => exact hne rfl
  | step h1 _ => rw [h] at h1; cases h1
theorem kz_fi : chk [] 2 [(kn 2, [kn 1]), (kn 1, []), (kn 2, [kn 1])] [] = none := by
  refine chk_fine.2 ⟨by decide, by decide, by decide, by decide, by decide, ?_, by decide⟩
  have hn : ¬ ∃ p ∈ [kn 1], Up (adj (addA [] [] [(kn 2, [kn 1]), (kn 1, []), (kn 2, [kn 1])])) p (kn 2) := fun ⟨p, hp, h⟩ => by
    rw [List.mem_singleton.1 hp] at h
    exact no_up (by decide) (by decide) h
  rw [ck6, if_neg hn, ck6, if_neg (fun ⟨p, hp, _⟩ => by cases hp), ck6, if_neg hn]
  rfl
theorem kz_fj : chk [(kn 1, []), (kn 2, [kn 1])] 2 [(kn 2, [])] [] = some (9, some (kn 2)) := by
  unfold chk; rw [if_pos (by decide), show ck2 [(kn 2, [])] = none by decide, show ck3 [(kn 1, []), (kn 2, [kn 1])] [] [(kn 2, [])] = some (9, some (kn 2)) by decide]; rfl
theorem kz_fk : chk [(kn 1, []), (kn 2, [kn 1])] 1 [] [kn 1, kn 3] = some (11, some (kn 3)) := by
  unfold chk
  rw [if_pos (by decide), show ck2 [] = none by decide, show ck3 [(kn 1, []), (kn 2, [kn 1])] [] [] = none by decide, show ck4 [(kn 1, []), (kn 2, [kn 1])] (addA [(kn 1, []), (kn 2, [kn 1])] [] []) [] = none by decide,
    show ck5 [(kn 1, []), (kn 2, [kn 1])] (addA [(kn 1, []), (kn 2, [kn 1])] [] []) [kn 1, kn 3] = some (11, some (kn 3)) by decide]; rfl
theorem kz_fl : chk [(kn 1, []), (kn 2, [kn 1])] 2 [(kn 3, [kn 9]), (kn 9, [kn 3])] [] = some (12, some (kn 3)) := by
  unfold chk
  have h6 : ck6 (addA [(kn 1, []), (kn 2, [kn 1])] [] [(kn 3, [kn 9]), (kn 9, [kn 3])]) [(kn 3, [kn 9]), (kn 9, [kn 3])] = some (12, some (kn 3)) := by
    rw [ck6, if_pos ⟨kn 9, List.mem_singleton.2 rfl, Up.one (by decide)⟩]
  rw [if_pos (by decide), show ck2 [(kn 3, [kn 9]), (kn 9, [kn 3])] = none by decide, show ck3 [(kn 1, []), (kn 2, [kn 1])] [] [(kn 3, [kn 9]), (kn 9, [kn 3])] = none by decide,
    show ck4 [(kn 1, []), (kn 2, [kn 1])] (addA [(kn 1, []), (kn 2, [kn 1])] [] [(kn 3, [kn 9]), (kn 9, [kn 3])]) [(kn 3, [kn 9]), (kn 9, [kn 3])] = none by decide,
    show ck5 [(kn 1, []), (kn 2, [kn 1])] (addA [(kn 1, []), (kn 2, [kn 1])] [] [(kn 3, [kn 9]), (kn 9, [kn 3])]) [] = none by decide, h6]; rfl
theorem kz_clo : Clo [(kn 1, []), (kn 2, [kn 1])] := fun h p hp => by
  obtain ⟨ps, e1, e2⟩ := adj_some hp
  have := aget_mem e1
  simp only [List.mem_cons, Prod.mk.injEq, List.not_mem_nil, or_false] at this
  rcases this with ⟨_, rfl⟩ | ⟨_, rfl⟩
  · cases e2
  · rw [List.mem_singleton.1 e2]; decide
theorem kz_fa : (ancs [(kn 1, []), (kn 2, [kn 1])] [kn 2]).length = 2 := by
  have h : ancs [(kn 1, []), (kn 2, [kn 1])] [kn 2] = [kn 1, kn 2] := asc_ext _ _ (ancs_asc (by unfold AAsc; decide) _) (by unfold Asc; decide) fun x => by
    rw [ancs_mem kz_clo]
    constructor
    · rintro ⟨y, hy, _, hu⟩
      rw [List.mem_singleton.1 hy] at hu
      have := up_has kz_clo hu (by decide)
      rw [aget_isSome] at this
      exact of_decide_eq_true this
    · intro hx
      simp only [List.mem_cons, List.not_mem_nil, or_false] at hx
      rcases hx with rfl | rfl
      · exact ⟨kn 2, by simp, by decide, Up.one (by decide)⟩
      · exact ⟨kn 2, by simp, by decide, .refl _⟩
  rw [h]; rfl
theorem kz_fd : (descs [(kn 1, []), (kn 2, [kn 1])] [kn 1]).length = 2 := by
  have h : descs [(kn 1, []), (kn 2, [kn 1])] [kn 1] = [kn 1, kn 2] := asc_ext _ _ (descs_asc (by unfold AAsc; decide) _) (by unfold Asc; decide) fun x => by
    rw [descs_mem]
    constructor
    · intro hd
      have := dsc_has hd
      rw [aget_isSome] at this
      exact of_decide_eq_true this
    · intro hx
      simp only [List.mem_cons, List.not_mem_nil, or_false] at hx
      rcases hx with rfl | rfl
      · exact ⟨kn 1, by simp, by decide, .refl _⟩
      · exact ⟨kn 1, by simp, by decide, Up.one (by decide)⟩
  rw [h]; rfl
theorem kz_h : H32 [kn 4, kn 5, kn 6, kn 7, kn 8] := fun h hh => by
  simp only [List.mem_cons, List.not_mem_nil, or_false] at hh; rcases hh with rfl | rfl | rfl | rfl | rfl <;> rfl
theorem kz_okI : COk [(kn 2, [kn 1]), (kn 1, []), (kn 2, [kn 1])] := fun c hc => by
  simp only [List.mem_cons, List.not_mem_nil, or_false] at hc; rcases hc with rfl | rfl | rfl; 
  · exact ⟨rfl, H32.one rfl⟩
  · exact ⟨rfl, H32.nil⟩
  · exact ⟨rfl, H32.one rfl⟩
theorem kz_okL : COk [(kn 3, [kn 9]), (kn 9, [kn 3])] := fun c hc => by
  simp only [List.mem_cons, List.not_mem_nil, or_false] at hc; rcases hc with rfl | rfl <;> exact ⟨rfl, H32.one rfl⟩
theorem kz : Kz (kn 1) (kn 2) (kn 3) (kn 4) (kn 5) (kn 6) (kn 7) (kn 8) (kn 9) :=
  ⟨rfl, rfl, rfl, kz_h, rfl, kn_built 1, kn_built 2, kn_built 3, kn_built 4, kn_built 5, kn_built 6, kn_built 7, kn_built 8, kn_built 9, kz_le, kz_ff, kz_fh, kz_fi, by decide, kz_fj, kz_fk, kz_fl, by decide, by decide, kz_okI, kz_okL, by decide, kz_fa, kz_fd, by decide⟩

/-- Where the known sentence stands: the hashes of the caller's own, the graph, the errors. -/
structure Ks (w W : World) (H : List (Nat × Key)) (g bm : Nat) (X : Lx) (L : List (Value × Rf)) : Prop where
  bel : Below w.heap.size w W
  own : ∀ p ∈ H, W.heap[p.1]? = some (.cells (hv p.2) 40 (0, 0)) ∧ p.2.length = 32
  ga : GA W g bm X
  lo : w.heap.size ≤ bm
  err : ∀ p ∈ L, ErrW W p.1 p.2
theorem ErrW.mild {w w' : World} {v : Value} : ∀ {r : Rf}, ErrW w v r → Mild w w' → ErrW w' v r
  | none, h, _ => h
  | some (_, none), h, _ => h
  | some (_, some _), h, b => by
    obtain ⟨h1, p, h2, h3⟩ := h
    exact ⟨h1, p, h2, b.cells h3.1, h3.2⟩
theorem Ks.kb {w W W' : World} {H : List (Nat × Key)} {g bm : Nat} {X : Lx} {L : List (Value × Rf)} (h : Ks w W H g bm X L) (k : Below W.heap.size W W') : Ks w W' H g bm X L :=
  ⟨h.bel.trans (k.mono h.bel.size), fun p hp => ⟨(mild_below k).cells (h.own p hp).1, (h.own p hp).2⟩, h.ga.kb k, h.lo, fun p hp => (h.err p hp).mild (mild_below k)⟩
theorem Ks.turn {w W W' : World} {H : List (Nat × Key)} {g bm : Nat} {X X' : Lx} {L : List (Value × Rf)} (h : Ks w W H g bm X L) (ho : Only (fun j => j = bm) W W') (hg : GA W' g bm X') : Ks w W' H g bm X' L :=
  have m := mild_map h.ga.at_.mp ho
  ⟨h.bel.trans (ho.below h.bel.size fun k hk => by rw [hk]; exact h.lo), fun p hp => ⟨m.cells (h.own p hp).1, (h.own p hp).2⟩, hg, h.lo, fun p hp => (h.err p hp).mild m⟩
theorem Ks.add {w W : World} {H : List (Nat × Key)} {g bm : Nat} {X : Lx} {L : List (Value × Rf)} (h : Ks w W H g bm X L) {x : Value} {r : Rf} (e : ErrW W x r) : Ks w W H g bm X ((x, r) :: L) :=
  ⟨h.bel, h.own, h.ga, h.lo, fun p hp => by exact (List.mem_cons.1 hp).elim (fun q => by rw [q]; exact e) (h.err p)⟩
theorem Ks.hash {w W : World} {H : List (Nat × Key)} {g bm : Nat} {X : Lx} {L : List (Value × Rf)} (h : Ks w W H g bm X L) {b : Nat} {k : Key} (hk : k.length = 32) (hb : W.heap[b]? = some (.cells (hv k) 40 (0, 0))) : Ks w W ((b, k) :: H) g bm X L :=
  ⟨h.bel, fun p hp => (List.mem_cons.1 hp).elim (fun q => by rw [q]; exact ⟨hb, hk⟩) (h.own p), h.ga, h.lo, h.err⟩
theorem Ks.ld {w W : World} {H : List (Nat × Key)} {g bm : Nat} {X : Lx} {L : List (Value × Rf)} (h : Ks w W H g bm X L) (b : Nat) (k : Key) (hm : (b, k) ∈ H) : (hld ⟨b, 0, none⟩).run Tryz.prog W = .ok (.agg (hv k)) W :=
  hld_row (h.own _ hm).2 (h.own _ hm).1
/-- A call that adds and is refused, or not. -/
theorem Ks.added {w W W' : World} {H : List (Nat × Key)} {g bm : Nat} {X : Lx} {L : List (Value × Rf)} {cs : List Cm} {e : Ending} (h : Ks w W H g bm X L) (p : AddPost W g bm X cs e W') :
    ∃ x X', e = .returned x ∧ Ks w W' H g bm X' ((x, chk (gr X) 2 cs []) :: L) ∧ ((chk (gr X) 2 cs []).isSome = true → X' = X) ∧ (chk (gr X) 2 cs [] = none → gr X' = adds (gr X) cs) := by
  obtain ⟨x, rfl, ex, o, h1⟩ := p
  rcases h1 with ⟨h1, b⟩ | ⟨X', h1, g', hX⟩
  · exact ⟨x, X, rfl, (h.kb b).add ex, fun _ => rfl, fun h2 => absurd h1 (by rw [h2]; simp)⟩
  · exact ⟨x, X', rfl, (h.turn o g').add ex, fun h2 => absurd h2 (by rw [h1]; simp), fun _ => hX⟩
theorem Ks.removed {w W W' : World} {H : List (Nat × Key)} {g bm : Nat} {X : Lx} {L : List (Value × Rf)} {E : List Key} {e : Ending} (h : Ks w W H g bm X L) (p : RemPost W g bm X E e W') :
    ∃ x X', e = .returned x ∧ Ks w W' H g bm X' ((x, rm1 E (gr X)) :: L) ∧ ((rm1 E (gr X)).isSome = true → X' = X) ∧ (rm1 E (gr X) = none → gr X' = rmv E (gr X)) := by
  obtain ⟨x, rfl, ex, o, h1⟩ := p
  rcases h1 with ⟨h1, b⟩ | ⟨X', h1, g', hX⟩
  · exact ⟨x, X, rfl, (h.kb b).add ex, fun _ => rfl, fun h2 => absurd h1 (by rw [h2]; simp)⟩
  · exact ⟨x, X', rfl, (h.turn o g').add ex, fun h2 => absurd h2 (by rw [h1]; simp), fun _ => hX⟩
theorem Ks.refused {w W W' : World} {H : List (Nat × Key)} {g bm : Nat} {X : Lx} {L : List (Value × Rf)} {cs : List Cm} {e : Ending} {r : Int × Option Key} (h : Ks w W H g bm X L) (hr : chk (gr X) 2 cs [] = some r) (p : AddPost W g bm X cs e W') :
    ∃ x, e = .returned x ∧ Ks w W' H g bm X ((x, some r) :: L) := by
  obtain ⟨x, X', rfl, h1, h2, _⟩ := h.added p
  obtain rfl := h2 (by rw [hr]; rfl)
  rw [hr] at h1
  exact ⟨x, rfl, h1⟩
theorem Ks.taken {w W W' : World} {H : List (Nat × Key)} {g bm : Nat} {X : Lx} {L : List (Value × Rf)} {cs : List Cm} {e : Ending} (h : Ks w W H g bm X L) (hr : chk (gr X) 2 cs [] = none) (p : AddPost W g bm X cs e W') :
    ∃ X', e = .returned .nilIface ∧ Ks w W' H g bm X' L ∧ gr X' = adds (gr X) cs := by
  obtain ⟨x, X', rfl, h1, _, h2⟩ := h.added p
  have ex := h1.err _ (List.mem_cons_self)
  rw [hr] at ex
  obtain rfl : x = .nilIface := ex
  exact ⟨X', rfl, ⟨h1.bel, h1.own, h1.ga, h1.lo, fun p hp => h1.err p (List.mem_cons_of_mem _ hp)⟩, h2 hr⟩
theorem Ks.norem {w W W' : World} {H : List (Nat × Key)} {g bm : Nat} {X : Lx} {L : List (Value × Rf)} {E : List Key} {e : Ending} {r : Int × Option Key} (h : Ks w W H g bm X L) (hr : rm1 E (gr X) = some r) (p : RemPost W g bm X E e W') :
    ∃ x, e = .returned x ∧ Ks w W' H g bm X ((x, some r) :: L) := by
  obtain ⟨x, X', rfl, h1, h2, _⟩ := h.removed p
  obtain rfl := h2 (by rw [hr]; rfl)
  rw [hr] at h1
  exact ⟨x, rfl, h1⟩
/-- What was taken away, and the other graph beside it. -/
theorem Ks.gone {w W W' : World} {H : List (Nat × Key)} {g bm g' bm' : Nat} {X X' : Lx} {L : List (Value × Rf)} {E : List Key} {e : Ending} (h : Ks w W H g bm X L) (h' : Ks w W H g' bm' X' L) (hne : bm ≠ bm') (hr : rm1 E (gr X') = none) (p : RemPost W g' bm' X' E e W') :
    ∃ X2, e = .returned .nilIface ∧ Ks w W' H g bm X L ∧ Ks w W' H g' bm' X2 L ∧ gr X2 = rmv E (gr X') := by
  obtain ⟨x, rfl, ex, o, h1⟩ := id p
  obtain ⟨x1, X2, hx, h1, _, h2⟩ := h'.removed p
  rw [hr] at ex
  obtain rfl : x = .nilIface := ex
  have m := mild_map h'.ga.at_.mp o
  exact ⟨X2, rfl, ⟨h1.bel, h1.own, h.ga.only o m hne, h.lo, fun p hp => h1.err p (List.mem_cons_of_mem _ hp)⟩, ⟨h1.bel, h1.own, h1.ga, h1.lo, fun p hp => h1.err p (List.mem_cons_of_mem _ hp)⟩, h2 hr⟩
theorem h32_two {a b : Key} (ha : a.length = 32) (hb : b.length = 32) : H32 [a, b] := fun x hx => by
  simp only [List.mem_cons, List.not_mem_nil, or_false] at hx; rcases hx with rfl | rfl <;> assumption
theorem cseen_nil (W : World) : CSeen W (.slice none 0 0) [] := ⟨none, 0, rfl, fun i d h => by simp at h⟩
theorem al_size (W : World) (o : Obj) : (W.alloc o).heap.size = W.heap.size + 1 := by simp
theorem Wf.parm {X : Lx} (h : Wf (gr X)) (n : Nat) (hn : 4 ≤ n) : ∀ x ∈ X, x.2.2.length ≤ n := fun x hx => Nat.le_trans (h.par _ (List.mem_map.2 ⟨x, hx, rfl⟩)).1 hn
theorem Wf.parn {X : Lx} (h : Wf (gr X)) : ∀ x ∈ X, x.2.2.Nodup ∧ x.2.2.length ≤ 1000 := fun x hx => ⟨(h.par _ (List.mem_map.2 ⟨x, hx, rfl⟩)).2, Nat.le_trans (h.par _ (List.mem_map.2 ⟨x, hx, rfl⟩)).1 (by decide)⟩
theorem Wf.xlen {X : Lx} (h : Wf (gr X)) : X.length ≤ 1000 := by have := h.few; rwa [gr_len] at this
theorem Ks.err1 {w W : World} {H : List (Nat × Key)} {g bm : Nat} {X : Lx} {L : List (Value × Rf)} (h : Ks w W H g bm X L) (x : Value) (k : Int) (o : Option Key) (hm : (x, some (k, o)) ∈ L) : ErrW W x (some (k, o)) := h.err _ hm
/-- A commit beside a slice of its parents, in memory. -/
def Lit (W : World) (c : Key × Value) (d : Cm) : Prop := c.1 = d.1 ∧ HSeen W c.2 d.2
theorem Lit.kb {W W' : World} {c : Key × Value} {d : Cm} (h : Lit W c d) (k : Below W.heap.size W W') : Lit W' c d := ⟨h.1, h.2.mild (mild_below k)⟩
theorem lit_new (W : World) (h : Key) (E : List Key) (n : Nat) (hn : n = E.length) : Lit (W.alloc (.cells (fl E).toArray 40)) (h, .slice (some ⟨W.heap.size, 0, none⟩) n n) (h, E) := ⟨rfl, hseen_new (heap_alloc_last W _) n hn⟩
theorem lit_row {W : World} {B : Nat} (h : Key) {E : List Key} (hb : W.heap[B]? = some (.cells (fl E).toArray 40 (0, 0))) (n : Nat) (hn : n = E.length) : Lit W (h, .slice (some ⟨B, 0, none⟩) n n) (h, E) := ⟨rfl, hseen_new hb n hn⟩
theorem lit_nil (W : World) (h : Key) : Lit W (h, .slice none 0 0) (h, []) := ⟨rfl, .inl ⟨rfl, rfl⟩⟩
inductive Lits (W : World) : Cv → List Cm → Prop
  | nil : Lits W [] []
  | cons {c d C D} : Lit W c d → Lits W C D → Lits W (c :: C) (d :: D)
theorem Lits.get {W : World} {C : Cv} {D : List Cm} (h : Lits W C D) : C.length = D.length ∧ ∀ (i : Nat) (c : Key × Value) (d : Cm), C[i]? = some c → D[i]? = some d → Lit W c d := by
  induction h with
  | nil => exact ⟨rfl, fun i c d h => by simp at h⟩
  | cons h1 _ ih =>
    refine ⟨by simp [ih.1], fun i c d h2 h3 => ?_⟩
    cases i with
    | zero => simp only [List.getElem?_cons_zero, Option.some.injEq] at h2 h3; subst h2 h3; exact h1
    | succ i => exact ih.2 i c d (by simpa using h2) (by simpa using h3)
theorem Lits.made {W : World} {C : Cv} {D : List Cm} (h : Lits W C D) (h32 : ∀ c ∈ C, c.1.length = 32) (n : Nat) (hn : n = D.length) (B : Nat) (hB : W.heap.size = B) :
    CSeen (W.alloc (.cells (cf C).toArray 69)) (.slice (some ⟨B, 0, none⟩) n n) D := by
  subst hB
  exact cseen_new (heap_alloc_last W _) h32 h.get.1 (fun i c d hc hd => (h.get.2 i c d hc hd).kb (below_al11 W _)) n hn
theorem two_rows (W : World) (E F : List Key) : ((W.alloc (.cells (fl E).toArray 40)).alloc (.cells (fl F).toArray 40)).heap[W.heap.size]? = some (.cells (fl E).toArray 40 (0, 0)) ∧
    ((W.alloc (.cells (fl E).toArray 40)).alloc (.cells (fl F).toArray 40)).heap[W.heap.size + 1]? = some (.cells (fl F).toArray 40 (0, 0)) := by
  have h1 := heap_alloc_last W (.cells (fl E).toArray 40)
  have h2 := heap_alloc_last (W.alloc (.cells (fl E).toArray 40)) (.cells (fl F).toArray 40)
  rw [al_size] at h2
  exact ⟨(mild_below (below_al11 (W.alloc (.cells (fl E).toArray 40)) _)).cells h1, h2⟩
theorem Ks.al {w W : World} {H : List (Nat × Key)} {g bm : Nat} {X : Lx} {L : List (Value × Rf)} (h : Ks w W H g bm X L) (o : Obj) : Ks w (W.alloc o) H g bm X L := h.kb (below_al11 W o)
end Go.Proofs.YthfkmfepeafgjaaGreatDoor
