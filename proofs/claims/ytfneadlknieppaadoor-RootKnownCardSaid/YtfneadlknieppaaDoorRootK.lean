/- known() of the statements about root returns true and makes new memory alone. Condition: errors.errorType holds what its text lays. -/
import Derived.Test.YtfneadlknieppaaDoorRootS
import Derived.Test.YtfneadlknieppaaDoorLogH
namespace Go.Proofs.YtfneadlknieppaaDoor
open Go.RowKit
open Go.Maps

theorem khand_en (w : World) (k : Int) (hg : Glob w) : Calls Tryd.prog 12 #[enoOf k] w fun e w' => e = .returned (.int .i64 k) ∧ Below w.heap.size w w' := khand_any w k hg
theorem khand_sv (w : World) (B : Nat) (c : Int) (v : Value) (h : SvErr w B c v) (hg : Glob w) : Calls Tryd.prog 12 #[v] w fun e w' => e = .returned (.int .i64 c) ∧ Below w.heap.size w w' := by
  rcases h with ⟨rfl, rfl⟩ | ⟨hc, rfl⟩ | ⟨hc, g, rfl, _, h⟩
  · exact khand_any w 0 hg
  · have := khand_any w c hg
    unfold errOf at this
    rw [if_neg hc] at this
    exact this
  · exact khand_step w c g sroot h hg
def kRt : Rt := ⟨3, [4, 500], 1⟩
def kS0 : St := St.new 1000
def kS1 : St := (svS kS0 kRt).2
theorem kS_a : okR kRt = true ∧ (svS kS0 kRt).1 = 0 ∧ ex kS0 rtN = false ∧ ex kS1 rtN = true ∧ rdS kS1 rtN = encR kRt := by decide +kernel
theorem kS_b : kS0.works ≤ 0 ∧ kS0.fuse < 100 := by decide +kernel
theorem ldis_no {s : St} (h : ex s rtN = false) : LdIs s 11 Rt.zero := by unfold LdIs; rw [if_neg (by rw [h]; decide)]; exact ⟨rfl, rfl⟩
theorem ldis_yes {s : St} {r : Rt} (h : ex s rtN = true) (h2 : rdS s rtN = encR r) (h3 : okR r = true) : LdIs s 0 r := by
  unfold LdIs
  rw [if_pos h, h2]
  exact rdis_enc h3
theorem kS_l : LdIs kS0 11 Rt.zero := ldis_no kS_a.2.2.1
theorem kS_1 : ex kS1 rtN = true := by decide +kernel
theorem kS_2 : rdS kS1 rtN = encR kRt := by decide +kernel
theorem kS_3 : okR kRt = true := by decide +kernel
set_option maxRecDepth 100000 in
theorem kS_m : LdIs kS1 0 kRt := by
  refine ldis_yes ?_ ?_ ?_
  · exact kS_1
  · exact kS_2
  · exact kS_3
theorem kS_o : Okb (rdS kS0 rtN) ∧ Okb (rdS kS1 rtN) := ⟨(OkT.new 1000).rd rtN, by rw [kS_a.2.2.2.2]; exact encR_ok _⟩
theorem seen_two (w : World) (x y : Int) : ISeen (w.alloc (.cells #[.int .i64 x, .int .i64 y] 3)) (.slice (some ⟨w.heap.size, 0, none⟩) 2 2) [x, y] :=
  .inr ⟨_, 2, rfl, Nat.le_refl _, fun j u hj => World.news_of_block (cs := #[.int .i64 x, .int .i64 y]) (t := 3) (fr := (0, 0)) (heap_alloc_new w _) j u hj⟩
set_option maxRecDepth 20000 in
set_option maxHeartbeats 4000000 in
theorem known8_to (w : World) (hg : Glob w) : Calls Tryd.prog 11 #[] w fun e w' => e = .returned (.bool true) ∧ Below w.heap.size w w' := by
  have HG := Lib.hid hg
  clear hg
  go_enter Tryd.func11, Tryd.ntmps11
  go_wp2_with fail
  refine (new_to w 1000).mono ?_
  rintro e w1 ⟨d, S1, rfl, h1, b1, g1⟩
  have C1 : Hid (Cl w w1 w.heap.size d S1 kS0) := Lib.hid ⟨h1, b1, g1⟩
  clear h1 b1 g1
  go_wp2_with fail
  refine (rload_to w1 _ d S1 _ C1.out.ds kS_o.1).mono ?_
  rintro e w2 ⟨g, v, i, c, ls, rfl, ov, hl, b2⟩
  obtain ⟨rfl, hr⟩ := hl.unique kS_l
  simp only [Rt.zero, Rt.mk.injEq] at hr
  obtain ⟨rfl, rfl, rfl⟩ := hr
  obtain ⟨pv, cv, rfl⟩ := own_slice ov
  have C2 := Lib.hid (C1.out.kb b2)
  rw [show enoOf 11 = eno 11 from rfl]
  clear ov hl b2 C1
  go_wp2_with fail
  have b3 : Below w2.heap.size w2 (w2.alloc (.cells #[.int .i64 0, .slice pv 0 cv, .int .i64 0] 24)) := (Below.refl _ w2).alloc (Nat.le_refl _) _
  have C3 := Lib.hid (C2.out.kb b3)
  clear b3 C2
  generalize w2.alloc (.cells #[.int .i64 0, .slice pv 0 cv, .int .i64 0] 24) = w3 at C3 ⊢
  refine (khand_en w3 11 (HG.out.kb C3.out.bel)).mono ?_
  rintro e w4 ⟨rfl, b4⟩
  have C4 := Lib.hid (C3.out.kb b4)
  clear b4 C3
  go_wp2_with fail
  have b5 : Below w4.heap.size w4 (w4.alloc (.cells #[.int .i64 4, .int .i64 500] 3)) := (Below.refl _ w4).alloc (Nat.le_refl _) _
  have C5 := Lib.hid (C4.out.kb b5)
  have S5 := Lib.hid (seen_two w4 4 500)
  clear b5 C4
  have HSV := Lib.hid (rsave_to _ _ d S1 kS0 3 1 _ [4, 500] C5.out.ds ⟨Nat.le_trans kS_b.1 (by decide), Int.lt_trans kS_b.2 (by decide)⟩ S5.out)
  refine HSV.out.mono ?_
  rintro e w6 ⟨v6, rfl, he, S6, d6, o6, s6⟩
  have hv6 : v6 = .nilIface := by
    rcases he with ⟨_, h⟩ | ⟨h, _⟩ | ⟨h, _⟩
    · exact h
    · exact absurd kS_a.2.1 h
    · exact absurd kS_a.2.1 h
  subst hv6
  have C6 : Hid (Cl w w6 w.heap.size d S6 kS1) := Lib.hid (C5.out.step d6 o6 s6)
  clear he d6 o6 s6 C5 S5 HSV
  go_wp2_with fail
  refine (rload_to w6 _ d S6 _ C6.out.ds kS_o.2).mono ?_
  rintro e w7 ⟨g, v, i, c, ls, rfl, ov, hl, b7⟩
  obtain ⟨rfl, hr⟩ := hl.unique kS_m
  simp only [kRt, Rt.mk.injEq] at hr
  obtain ⟨rfl, rfl, rfl⟩ := hr
  rw [show enoOf 0 = .nilIface from rfl]
  obtain ⟨a7, c7, rfl, _, _, hc7⟩ := iown_at ov (by decide)
  have hq7 := hc7 1 500 rfl
  have C7 := Lib.hid (C6.out.kb b7)
  have HC7 := Lib.hid hq7
  clear ov hl b7 hc7 hq7 C6
  have b8 : Below w7.heap.size w7 (w7.alloc (.cells #[.int .i64 3, .slice (some ⟨a7, 0, none⟩) 2 c7, .int .i64 1] 24)) := (Below.refl _ w7).alloc (Nat.le_refl _) _
  have C8 := Lib.hid (C7.out.kb b8)
  have h500 : (w7.alloc (.cells #[.int .i64 3, .slice (some ⟨a7, 0, none⟩) 2 c7, .int .i64 1] 24)).cell? ⟨a7, 1, none⟩ = some (.int .i64 500) := by
    rw [World.cell?_of_block (w := w7) (b8.block _ (World.block_lt_of_cell? w7 _ HC7.out))]; exact HC7.out
  clear b8 C7 HC7
  go_wp2_with fail
  go_ret
  exact ⟨rfl, C8.out.bel⟩
end Go.Proofs.YtfneadlknieppaaDoor
