/- What tear does with the last change that is left. Conditions: the numbers are no greater than a program's may be. · What pends as works on the files, and what undoing makes of them: plain mathematics. No condition. -/
import Derived.Test.YtfneadlknieppaaGreatDoorDskW
import Derived.Deep.RegionHeld3
namespace Go.Proofs.YtfneadlknieppaaGreatDoor
open Go.RowKit
open Go.Maps

theorem DTo.from {w w1 w' : World} {B b : Nat} {S : Nat → Prop} {c : Cst} {L : List (Key × Ent)} {Pf P : List Chg} (h : DTo w1 B b S c L Pf P w') (h0 : Only S w w1) : DTo w B b S c L Pf P w' :=
  ⟨h.1, h0.trans h.2.1 (fun _ h => h) (fun _ _ h => h), fun k hk => by
    rcases h.2.2 k hk with e | e
    · exact .inl e
    · exact .inr (Nat.le_trans h0.size e)⟩
/-- What is left behind a torn change. -/
def tearF (g : Chg) (cut : Int) (F : Fil) : Fil :=
  if g.kind = 0 then (if cut % (((fbytes g.name F).length : Int) - g.size + 1) = 0 then undoF g F else aput g.name ((fbytes g.name F).take (g.size + (cut % (((fbytes g.name F).length : Int) - g.size + 1)).toNat)) F) else undoF g F
def TearPost (w : World) (B b : Nat) (c : Cst) (L : List (Key × Ent)) (Pf P : List Chg) (g : Chg) (cut : Int) (e : Ending) (w' : World) : Prop :=
  e = .returned (.tuple #[]) ∧ ∃ u L', DTo w B b (Foot b c L (P ++ [g])) { c with used := u } L' Pf P w' ∧ fb L' = tearF g cut (fb L)
theorem only_drn {S : Nat → Prop} {w w1 : World} (h : Only S w w1) (q : Nat) : Only S w (w1.drewN q) := ⟨h.os, h.tape, h.output, h.size, h.block⟩
theorem DC.drn {w : World} {B b : Nat} {c : Cst} {L : List (Key × Ent)} {Pf P : List Chg} (h : DC w B b c L Pf P) (q : Nat) : DC (w.drewN q) B b c L Pf P := h.kept (S := fun _ => False) (Only.of_below ⟨rfl, rfl, rfl, Nat.le_refl _, fun _ _ => rfl⟩) (fun _ _ h => h)

set_option maxRecDepth 20000 in
set_option maxHeartbeats 2000000 in
theorem tear_other (w : World) (B b : Nat) (c : Cst) (L : List (Key × Ent)) (Pf P : List Chg) (g : Chg) (cut : Int) (h : DC w B b c L Pf (P ++ [g])) (hs : Undoable L g) (hk : ¬ g.kind = 0) :
    Calls Tryz.prog 32 #[.pointer (some ⟨b,0,none⟩), g.val, .int .i64 cut] w (TearPost w B b c L Pf P g cut) := by
  have hb1 : Below w.heap.size w (w.alloc (.cells #[.int .i64 g.kind, stv g.name, stv g.to, .int .i64 g.size, .bool g.was, g.lost] 74)) := (Below.refl _ w).alloc (Nat.le_refl _) _
  have HU := Lib.hid (fun W (hW : DC W B b c L Pf (P ++ [g])) => undo_to W B b c L Pf P g hW hs)
  have HD1 := Lib.hid (h.kb hb1)
  have HC1 : Hid (CAt (w.alloc (.cells #[.int .i64 g.kind, stv g.name, stv g.to, .int .i64 g.size, .bool g.was, g.lost] 74)) w.heap.size g) := Lib.hid (heap_alloc_last w _)
  have HB := Lib.hid hb1
  clear h hs hb1
  have HT : Hid (∀ F, tearF g cut F = undoF g F) := Lib.hid (fun F => by unfold tearF; rw [if_neg hk])
  unfold Chg.val at *
  have hk' : ((g.kind == 0) = false) := by simpa using hk
  go_enter Tryz.func32, Tryz.ntmps32
  go_wp2_with fail
  generalize w.alloc (.cells #[.int .i64 g.kind, stv g.name, stv g.to, .int .i64 g.size, .bool g.was, g.lost] 74) = W1 at *
  have e0 := HC1.out.c0
  have e1 := HC1.out.c1
  have e2 := HC1.out.c2
  have e3 := HC1.out.c3
  have e4 := HC1.out.c4
  have e5 := HC1.out.c5
  go_wp2_with fail
  refine (HU.out _ HD1.out).mono ?_
  rintro e W2 ⟨rfl, u, L', hd, hf⟩
  have H2 := Lib.hid (And.intro hd hf)
  clear hd hf
  go_wp2_with fail
  go_end0
  exact ⟨rfl, u, L', H2.out.1.from (Only.of_below HB.out), by rw [H2.out.2, HT.out]⟩
set_option maxRecDepth 20000 in
set_option maxHeartbeats 2000000 in
theorem tear_app (w : World) (B b : Nat) (c : Cst) (L : List (Key × Ent)) (Pf P : List Chg) (name to : Key) (size : Nat) (was : Bool) (p : Option Addr) (cap : Nat) (xs : List Int) (cut : Int) (h : DC w B b c L Pf (P ++ [{ kind := 0, name := name, to := to, size := size, was := was, lost := .slice p xs.length cap, xs := xs }])) (hs : Small L { kind := 0, name := name, to := to, size := size, was := was, lost := .slice p xs.length cap, xs := xs }) (hz : size ≤ (bytesAt name L).length) :
    Calls Tryz.prog 32 #[.pointer (some ⟨b,0,none⟩), .agg #[.int .i64 0, stv name, stv to, .int .i64 size, .bool was, .slice p xs.length cap], .int .i64 cut] w (TearPost w B b c L Pf P { kind := 0, name := name, to := to, size := size, was := was, lost := .slice p xs.length cap, xs := xs } cut) := by
  have hb1 : Below w.heap.size w (w.alloc (.cells #[.int .i64 0, stv name, stv to, .int .i64 size, .bool was, .slice p xs.length cap] 74)) := (Below.refl _ w).alloc (Nat.le_refl _) _
  have h1 := h.kb hb1
  have HU := Lib.hid (fun W (hW : DC W B b c L Pf (P ++ [{ kind := 0, name := name, to := to, size := size, was := was, lost := .slice p xs.length cap, xs := xs }])) => undo_to W B b c L Pf P { kind := 0, name := name, to := to, size := size, was := was, lost := .slice p xs.length cap, xs := xs } hW ⟨hs, by simp, fun _ => hz⟩)
  obtain ⟨p2, cap2, hv2⟩ := h.own.shp.at name
  have HD := Lib.hid h
  have HD1 : Hid (DC (w.alloc (.cells #[.int .i64 0, stv name, stv to, .int .i64 size, .bool was, .slice p xs.length cap] 74)) B b c L Pf (P ++ [{ kind := 0, name := name, to := to, size := size, was := was, lost := .slice p xs.length cap, xs := xs }])) := Lib.hid h1
  have HC1 : Hid (CAt (w.alloc (.cells #[.int .i64 0, stv name, stv to, .int .i64 size, .bool was, .slice p xs.length cap] 74)) w.heap.size { kind := 0, name := name, to := to, size := size, was := was, lost := .slice p xs.length cap, xs := xs }) := Lib.hid (heap_alloc_last w _)
  have HB := Lib.hid hb1
  have HV := Lib.hid hv2
  have HSN := Lib.hid (small_bytes hs name)
  have HR := Lib.hid (used_range h hs.tl)
  have HS := Lib.hid hs
  have HZ := Lib.hid hz
  obtain ⟨ys, hys⟩ : ∃ ys, ys = bytesAt name L := ⟨_, rfl⟩
  have HYS := Lib.hid hys
  rw [← hys] at HV HSN HZ
  obtain ⟨n, hn⟩ : ∃ n : Int, n = (ys.length : Int) - size + 1 := ⟨_, rfl⟩
  have hn0 : 0 < n := by have := HZ.out; omega
  have hn1 : n ≤ 4611686018427387904 := by have := HSN.out; omega
  have hn' : (ys.length : Int) - size + 1 = n := hn.symm
  obtain ⟨m, hm⟩ : ∃ m : Nat, (m : Int) = cut % n := ⟨(cut % n).toNat, by have := Int.emod_nonneg cut (show n ≠ 0 by omega); omega⟩
  have hmn : (m : Int) < n := by rw [hm]; exact Int.emod_lt_of_pos cut hn0
  have HM := Lib.hid (fun W => by have := modulo_to W cut n hn0 hn1; rw [← hm] at this; exact this)
  have HTF : Hid (tearF { kind := 0, name := name, to := to, size := size, was := was, lost := .slice p xs.length cap, xs := xs } cut (fb L) = if m = 0 then undoF { kind := 0, name := name, to := to, size := size, was := was, lost := .slice p xs.length cap, xs := xs } (fb L) else aput name (ys.take (size + m)) (fb L)) := Lib.hid (by
    unfold tearF
    simp only [fb_bytes, ← hys, hn', ← hm, if_true, Int.toNat_natCast]
    by_cases h0 : m = 0 <;> simp [h0])
  have hsl : (size : Int) ≤ ys.length := by have := HZ.out; omega
  have hyl : (ys.length : Int) ≤ 1000000000 := by have := HSN.out; omega
  have hs0 : 0 ≤ (size : Int) := by omega
  clear h h1 hs hb1 hv2 hz hys hm
  have HMN := Lib.hid hmn
  have HNN := Lib.hid hn
  clear hn hmn
  go_enter Tryz.func32, Tryz.ntmps32
  go_wp2_with fail
  generalize w.alloc (.cells #[.int .i64 0, stv name, stv to, .int .i64 size, .bool was, .slice p xs.length cap] 74) = W1 at *
  have e0 := HC1.out.c0
  have e1 := HC1.out.c1
  have e3 := HC1.out.c3
  have hc1 := HD1.out.d.c1
  have hlk : ∀ q, (Instr.lookup 68 (.map (some c.mb)) (stv name) false).run Tryz.prog (W1.drewN q) = .ok (.slice p2 ys.length cap2) (W1.drewN q) := fun q => by
    rw [← HV.out]; exact MAt.look (w := W1.drewN q) HD1.out.m name (small_key HS.out.n1).1
  go_wp2_with fail
  go_quiet ((go_at_call 30; exact Calls.quiet_of_same ((HM.out _).mono fun _ _ h => ⟨h.1, h.2.symm⟩)))
  have HD2 := Lib.hid (HD1.out.drn nq)
  have HC2 : Hid (CAt (W1.drewN nq) w.heap.size { kind := 0, name := name, to := to, size := size, was := was, lost := .slice p xs.length cap, xs := xs }) := Lib.hid HC1.out
  have HO2 : Hid (∀ S, Only S w (W1.drewN nq)) := Lib.hid (fun S => only_drn (Only.of_below HB.out) nq)
  have hlk2 := hlk (nq + 1)
  clear hlk e0 e1 e3 hc1 HD1 HC1 HB
  rw [show W1.drewN (nq + 1) = (W1.drewN nq).drew from rfl] at hlk2
  generalize W1.drewN nq = W2 at *
  by_cases hm0 : m = 0
  · have hm0' : (m : Int) = 0 := by omega
    have e0 := HC2.out.c0
    have e1 := HC2.out.c1
    have e2 := HC2.out.c2
    have e3 := HC2.out.c3
    have e4 := HC2.out.c4
    have e5 := HC2.out.c5
    have HTF2 : Hid (tearF { kind := 0, name := name, to := to, size := size, was := was, lost := .slice p xs.length cap, xs := xs } cut (fb L) = undoF { kind := 0, name := name, to := to, size := size, was := was, lost := .slice p xs.length cap, xs := xs } (fb L)) := Lib.hid (by rw [HTF.out, if_pos hm0])
    go_wp2_with fail
    refine (HU.out _ HD2.out).mono ?_
    rintro e W3 ⟨rfl, u, L', hd, hf⟩
    have H3 := Lib.hid (And.intro hd hf)
    clear hd hf
    go_wp2_with fail
    go_end0
    exact ⟨rfl, u, L', H3.out.1.from (HO2.out _), by rw [H3.out.2, HTF2.out]⟩
  · have hm0' : ¬ (m : Int) = 0 := by omega
    have HTF2 : Hid (tearF { kind := 0, name := name, to := to, size := size, was := was, lost := .slice p xs.length cap, xs := xs } cut (fb L) = aput name (ys.take (size + m)) (fb L)) := Lib.hid (by rw [HTF.out, if_neg hm0])
    obtain ⟨sm, hsm⟩ : ∃ sm : Nat, sm = size + m := ⟨_, rfl⟩
    have hadd : (size : Int) + (m : Int) = (sm : Int) := by omega
    have HSM : Hid (sm ≤ ys.length) := Lib.hid (by have := HMN.out; have := HNN.out; omega)
    have hwr : IntKind.i64.wrap (sm : Int) = (sm : Int) := IntWalk.i64_in _ (by have := HSM.out; omega)
    rw [← hsm] at HTF2
    clear hsm
    have e1 := HC2.out.c1
    have e3 := HC2.out.c3
    have hc1 := HD2.out.d.c1
    have HOF : Hid (BOwn W2.drew B (.slice p2 ys.length cap2) ys) := Lib.hid (by rw [← HV.out, HYS.out]; exact HD2.out.own.at name)
    have HBB : Hid (B ≤ W2.drew.heap.size) := Lib.hid HD2.out.base
    have HFT : Hid (ys.length ≤ 140737488351232) := Lib.hid (by omega)
    go_wp2_with fail
    try simp only [List.append]
    refine wp_region_noPanic ?_
    refine wp_region_held_drew (S := (fun W => W.cell? ⟨b, 1, none⟩ = some (.map (some c.mb)) ∧ W.cell? ⟨w.heap.size, 1, none⟩ = some (stv name) ∧ W.cell? ⟨w.heap.size, 3, none⟩ = some (.int .i64 size))) (by kernel_rfl) ⟨hc1, e1, e3⟩ (fun hHeld => ?_)
    refine wpAnyH_take (i := 0) (v := ?_) (by simp only [List.getElem?_toArray, List.getElem?_cons_zero]; rfl) (by kernel_rfl) (by kernel_rfl) (by kernel_rfl) (fun _ _ _ h => h) (Or.inl ⟨by rfl, ?_⟩) (by assumption) ?_
    rotate_left
    · intro w hSw
      try dsimp only at hSw
      go_simp
      try with_reducible rfl
    try simp only [Act.put, List.setIfInBounds_toArray, List.set_cons_zero, List.set_cons_succ]
    refine wpAnyH_take (i := 1) (v := ?_) (by simp only [List.getElem?_toArray, List.getElem?_cons_succ, List.getElem?_cons_zero]; rfl) (by kernel_rfl) (by kernel_rfl) (by kernel_rfl) (fun _ _ _ h => h) (Or.inl ⟨by rfl, ?_⟩) (by assumption) ?_
    rotate_left
    · intro w hSw
      try dsimp only at hSw
      go_simp
      try with_reducible rfl
    try simp only [Act.put, List.setIfInBounds_toArray, List.set_cons_zero, List.set_cons_succ]
    refine wpAnyH_take (i := 2) (v := ?_) (by simp only [List.getElem?_toArray, List.getElem?_cons_succ, List.getElem?_cons_zero]; rfl) (by kernel_rfl) (by kernel_rfl) (by kernel_rfl) (fun _ _ _ h => h) (Or.inl ⟨by rfl, ?_⟩) (by assumption) ?_
    rotate_left
    · intro w hSw
      try dsimp only at hSw
      go_simp
      try with_reducible rfl
    try simp only [Act.put, List.setIfInBounds_toArray, List.set_cons_zero, List.set_cons_succ]
    refine wpAnyH_take (i := 3) (v := ?_) (by simp only [List.getElem?_toArray, List.getElem?_cons_succ, List.getElem?_cons_zero]; rfl) (by kernel_rfl) (by kernel_rfl) (by kernel_rfl) (fun _ _ _ h => h) (Or.inl ⟨by rfl, ?_⟩) (by assumption) ?_
    rotate_left
    · intro w hSw
      try dsimp only at hSw
      go_simp
      try with_reducible rfl
    try simp only [Act.put, List.setIfInBounds_toArray, List.set_cons_zero, List.set_cons_succ]
    refine wpAnyH_take (i := 4) (v := ?_) (by simp only [List.getElem?_toArray, List.getElem?_cons_succ, List.getElem?_cons_zero]; rfl) (by kernel_rfl) (by kernel_rfl) (by kernel_rfl) (fun _ _ _ h => h) (Or.inl ⟨by rfl, ?_⟩) (by assumption) ?_
    rotate_left
    · intro w hSw
      try dsimp only at hSw
      go_simp
      try with_reducible rfl
    try simp only [Act.put, List.setIfInBounds_toArray, List.set_cons_zero, List.set_cons_succ]
    refine wpAnyH_take (i := 5) (v := ?_) (by simp only [List.getElem?_toArray, List.getElem?_cons_succ, List.getElem?_cons_zero]; rfl) (by kernel_rfl) (by kernel_rfl) (by kernel_rfl) (fun _ _ _ h => h) (Or.inl ⟨by rfl, ?_⟩) (by assumption) ?_
    rotate_left
    · intro w hSw
      try dsimp only at hSw
      go_simp
      try with_reducible rfl
    try simp only [Act.put, List.setIfInBounds_toArray, List.set_cons_zero, List.set_cons_succ]
    refine wpAnyH_take (i := 6) (v := ?_) (by simp only [List.getElem?_toArray, List.getElem?_cons_succ, List.getElem?_cons_zero]; rfl) (by kernel_rfl) (by kernel_rfl) (by kernel_rfl) (fun _ _ _ h => h) (Or.inl ⟨by rfl, ?_⟩) (by assumption) ?_
    rotate_left
    · intro w hSw
      try dsimp only at hSw
      go_simp
      try with_reducible rfl
    try simp only [Act.put, List.setIfInBounds_toArray, List.set_cons_zero, List.set_cons_succ]
    refine wpAnyH_take (i := 7) (v := ?_) (by simp only [List.getElem?_toArray, List.getElem?_cons_succ, List.getElem?_cons_zero]; rfl) (by kernel_rfl) (by kernel_rfl) (by kernel_rfl) (fun _ _ _ h => h) (Or.inl ⟨by rfl, ?_⟩) (by assumption) ?_
    rotate_left
    · intro w hSw
      try dsimp only at hSw
      go_simp
      try with_reducible rfl
    try simp only [Act.put, List.setIfInBounds_toArray, List.set_cons_zero, List.set_cons_succ]
    refine wpAnyH_take (i := 8) (v := ?_) (by simp only [List.getElem?_toArray, List.getElem?_cons_succ, List.getElem?_cons_zero]; rfl) (by kernel_rfl) (by kernel_rfl) (by kernel_rfl) (fun _ _ _ h => h) (Or.inl ⟨by rfl, ?_⟩) (by assumption) ?_
    rotate_left
    · intro w hSw
      try dsimp only at hSw
      go_simp
      try with_reducible rfl
    try simp only [Act.put, List.setIfInBounds_toArray, List.set_cons_zero, List.set_cons_succ]
    refine wpAnyH_take (i := 10) (v := ?_) (by simp only [List.getElem?_toArray, List.getElem?_cons_succ, List.getElem?_cons_zero]; rfl) (by kernel_rfl) (by kernel_rfl) (by kernel_rfl) (fun _ _ _ h => h) (Or.inl ⟨by rfl, ?_⟩) (by assumption) ?_
    rotate_left
    · intro w hSw
      try dsimp only at hSw
      go_simp
      try with_reducible rfl
    try simp only [Act.put, List.setIfInBounds_toArray, List.set_cons_zero, List.set_cons_succ]
    refine wpAnyH_take (i := 11) (v := ?_) (by simp only [List.getElem?_toArray, List.getElem?_cons_succ, List.getElem?_cons_zero]; rfl) (by kernel_rfl) (by kernel_rfl) (by kernel_rfl) (fun _ _ _ h => h) (Or.inl ⟨by rfl, ?_⟩) (by assumption) ?_
    rotate_left
    · intro w hSw
      try dsimp only at hSw
      go_simp
      try with_reducible rfl
    try simp only [Act.put, List.setIfInBounds_toArray, List.set_cons_zero, List.set_cons_succ]
    refine wpAnyH_take (i := 12) (v := ?_) (by simp only [List.getElem?_toArray, List.getElem?_cons_succ, List.getElem?_cons_zero]; rfl) (by kernel_rfl) (by kernel_rfl) (by kernel_rfl) (fun _ _ _ h => h) (Or.inl ⟨by rfl, ?_⟩) (by assumption) ?_
    rotate_left
    · intro w hSw
      try dsimp only at hSw
      go_simp
      try with_reducible rfl
    try simp only [Act.put, List.setIfInBounds_toArray, List.set_cons_zero, List.set_cons_succ]
    refine wpAnyH_take (i := 13) (v := ?_) (by simp only [List.getElem?_toArray, List.getElem?_cons_succ, List.getElem?_cons_zero]; rfl) (by kernel_rfl) (by kernel_rfl) (by kernel_rfl) (fun _ _ _ h => h) (Or.inl ⟨by rfl, ?_⟩) (by assumption) ?_
    rotate_left
    · intro w hSw
      try dsimp only at hSw
      go_simp
      try with_reducible rfl
    try simp only [Act.put, List.setIfInBounds_toArray, List.set_cons_zero, List.set_cons_succ]
    refine wpAnyH_ready (rs := [9]) (by kernel_rfl) (by simp) ?_
    refine AllReadyH.cons (by simp only [List.getElem?_toArray, List.getElem?_cons_succ, List.getElem?_cons_zero]; rfl) (fun K hK => ?_) AllReadyH.nil
    go_simp
    refine hK.out _ _ ⟨hc1, e1, e3⟩ (fun hHeld => ?_)
    clear hK K
    try simp only [Act.put, List.setIfInBounds_toArray, List.set_cons_zero, List.set_cons_succ]
    refine wpAnyH_ready (rs := [14]) (by kernel_rfl) (by simp) ?_
    refine AllReadyH.cons (by simp only [List.getElem?_toArray, List.getElem?_cons_succ, List.getElem?_cons_zero]; rfl) (fun K hK => ?_) AllReadyH.nil
    go_simp
    refine (shorten_to W2.drew B (.slice p2 ys.length cap2) ys sm HSM.out HOF.out HBB.out HFT.out).mono ?_
    rintro e w8 ⟨v8, rfl, o8, b8, a8⟩
    obtain ⟨zs, hzs⟩ : ∃ zs, zs = ys.take sm := ⟨_, rfl⟩
    have HZS := Lib.hid hzs
    rw [← hzs] at o8
    clear hzs
    have HZL : Hid (zs.length ≤ 1000000000) := Lib.hid (by rw [HZS.out, List.length_take]; have := HSN.out; omega)
    obtain ⟨p8, cap8, rfl⟩ := own_slice o8
    have B8 : Hid (Below W2.heap.size W2 w8) := Lib.hid ⟨b8.os, b8.tape, b8.output, b8.size, b8.block⟩
    have HD8 := Lib.hid (HD2.out.kb B8.out)
    have HC8 := Lib.hid (HC2.out.kb B8.out)
    have HO8 : Hid (∀ S, Only S w w8) := Lib.hid (fun S => (HO2.out S).trans (T := fun _ => False) (Only.of_below B8.out) (fun _ h => h) (fun _ _ h => h.elim))
    have O8 := Lib.hid o8
    have A8 : Hid (∀ k, Value.ownBlock (.slice p8 zs.length cap8) = some k → (valAt name L).ownBlock = some k ∨ w.heap.size ≤ k) := Lib.hid (fun k hk => by
      rcases a8 k hk with e | e
      · exact .inl (by rw [HV.out]; exact e)
      · exact .inr (Nat.le_trans (HO2.out (fun _ => False)).size e))
    clear o8 b8 a8
    go_wp2_with fail
    refine hK.out _ _ ⟨HD8.out.d.c1, HC8.out.c1, HC8.out.c3⟩ (fun hHeld => ?_)
    clear hK K
    try simp only [Act.put, List.setIfInBounds_toArray, List.set_cons_zero, List.set_cons_succ]
    refine wpAnyH_ready (rs := [15]) (by kernel_rfl) (by simp) ?_
    refine AllReadyH.cons (by simp only [List.getElem?_toArray, List.getElem?_cons_succ, List.getElem?_cons_zero]; rfl) (fun K hK => ?_) AllReadyH.nil
    go_simp
    refine (put_to w8 b c L name p8 cap8 zs HD8.out.d HD8.out.m HD8.out.ne HD8.out.own.shp (small_key HS.out.n1).1 (small_len (Nat.le_succ_of_le HS.out.ml)).1 (Nat.le_trans HZL.out (by decide)) (by rw [← HYS.out]; exact Nat.le_trans HSN.out (by decide)) HR.out.1 (Int.le_trans HR.out.2 (by decide)) (small_key HS.out.n1).2.1).mono ?_
    rintro e w9 ⟨rfl, hd, hm, ho⟩
    have H9 := Lib.hid (And.intro hd (And.intro hm ho))
    have HC9 := Lib.hid (HC8.out.kept ho (by rintro (e | e); exact absurd e (by have := HD.out.d.lt; omega); exact absurd e (by have := HD.out.m.lt; omega)))
    clear hd hm ho
    go_wp2_with fail
    refine hK.out _ _ ⟨H9.out.1.c1, HC9.out.c1, HC9.out.c3⟩ (fun hHeld => ?_)
    clear hK K
    try simp only [Act.put, List.setIfInBounds_toArray, List.set_cons_zero, List.set_cons_succ]
    refine wpAnyH_done (by kernel_rfl) ?_ _
    refine NoPanic.normal ?_
    go_wp2_with fail
    go_end0
    refine ⟨rfl, _, _, put_dto2 _ HD.out.less (HO8.out _) HD8.out.d HD8.out.m HD8.out.p (HD8.out.less.own.del name) O8.out A8.out (small_len (Nat.le_succ_of_le HS.out.ml)).2 (fun k hk => foot_less hk) H9.out.1 H9.out.2.1 H9.out.2.2, ?_⟩
    rw [fb_put, HZS.out, HTF2.out]
theorem tear_to (w : World) (B b : Nat) (c : Cst) (L : List (Key × Ent)) (Pf P : List Chg) (g : Chg) (cut : Int) (h : DC w B b c L Pf (P ++ [g])) (hs : Undoable L g) :
    Calls Tryz.prog 32 #[.pointer (some ⟨b,0,none⟩), g.val, .int .i64 cut] w (TearPost w B b c L Pf P g cut) := by
  by_cases h0 : g.kind = 0
  · have hz := hs.size h0
    have hlo : BOwn w B g.lost g.xs := h.own.lost g (by simp)
    have hsm := hs.small
    clear hs
    obtain ⟨kind, name, to, size, was, lost, xs⟩ := g
    simp only at h0
    subst h0
    replace hlo : BOwn w B lost xs := hlo
    obtain ⟨p, cap, rfl⟩ := own_slice hlo
    exact tear_app w B b c L Pf P name to size was p cap xs cut h hsm hz
  · exact tear_other w B b c L Pf P g cut h hs h0
end Go.Proofs.YtfneadlknieppaaGreatDoor
namespace Go.Proofs.YtfneadlknieppaaGreatDoor
open Go.RowKit
open Go.Maps

/-- A work: 0 append, 1 truncate, 2 rename, 3 remove. -/
structure Wk where
  kind : Nat
  name : Key
  to : Key
  bs : List Int
  n : Nat
def turn (F : Fil) (k : Wk) : Fil :=
  if k.kind = 0 then aput k.name (fbytes k.name F ++ k.bs) F
  else if k.kind = 1 then aput k.name ((fbytes k.name F).take k.n) F
  else if k.kind = 2 then aput k.to (fbytes k.name F) (adel k.name F)
  else adel k.name F
/-- What a work wants of the files. -/
structure Fits (F : Fil) (k : Wk) : Prop where
  kind : k.kind ≤ 3
  n1 : k.name.length ≤ 20
  n2 : k.to.length ≤ 20
  there : k.kind ≠ 0 → (aget k.name F).isSome = true
  long : k.kind = 1 → k.n ≤ (fbytes k.name F).length
/-- The change that remembers a work. -/
structure Ch (F : Fil) (k : Wk) (g : Chg) : Prop where
  kind : g.kind = (k.kind : Int)
  name : g.name = k.name
  n2 : g.to.length ≤ 20
  a1 : k.kind = 0 → g.size = (fbytes k.name F).length ∧ g.was = (aget k.name F).isSome
  a2 : k.kind = 1 → g.xs = (fbytes k.name F).drop k.n
  a3 : k.kind = 2 → g.to = k.to ∧ g.was = (aget k.to (adel k.name F)).isSome ∧ g.xs = fbytes k.to (adel k.name F)
  a4 : k.kind = 3 → g.xs = fbytes k.name F
  xl : g.xs.length ≤ totF F
theorem fbytes_le (n : Key) (F : Fil) : (fbytes n F).length ≤ totF F := by
  unfold fbytes
  cases h : aget n F with
  | none => simp
  | some x => exact asum_pos (f := List.length) (e := (n, x)) (aget_mem h)
theorem fbytes_put_same (n : Key) (xs : List Int) (F : Fil) : fbytes n (aput n xs F) = xs := by unfold fbytes; rw [aget_put_same]; rfl
theorem fbytes_put_other (n m : Key) (xs : List Int) (h : m ≠ n) (F : Fil) : fbytes m (aput n xs F) = fbytes m F := by unfold fbytes; rw [aget_put_other n m xs h]
theorem fbytes_del_other (n m : Key) (h : m ≠ n) (F : Fil) : fbytes m (adel n F) = fbytes m F := by unfold fbytes; rw [aget_del_other n m h]
theorem fbytes_none {n : Key} {F : Fil} (h : (aget n F).isSome = false) : fbytes n F = [] := by unfold fbytes; cases hg : aget n F <;> simp_all
theorem aget_of_some {n : Key} {F : Fil} (h : (aget n F).isSome = true) : aget n F = some (fbytes n F) := by unfold fbytes; cases hg : aget n F <;> simp_all
theorem turn_asc {F : Fil} (h : AAsc F) (k : Wk) : AAsc (turn F k) := by
  unfold turn
  split
  · exact h.put _ _
  · split
    · exact h.put _ _
    · split
      · exact (h.del _).put _ _
      · exact h.del _
/-- An undone work leaves the files as they were. -/
theorem undo_turn {F : Fil} {k : Wk} {g : Chg} (hF : AAsc F) (hf : Fits F k) (hc : Ch F k g) : undoF g (turn F k) = F := by
  have hT := turn_asc hF k
  have hk := hf.kind
  by_cases k0 : k.kind = 0
  · obtain ⟨hs, hw⟩ := hc.a1 k0
    have hg0 : g.kind = 0 := by rw [hc.kind, k0]; rfl
    unfold undoF
    rw [if_pos hg0, hc.name]
    have ht : turn F k = aput k.name (fbytes k.name F ++ k.bs) F := by unfold turn; rw [if_pos k0]
    cases hsome : (aget k.name F).isSome with
    | true =>
      rw [hw, hsome, if_pos rfl, ht, fbytes_put_same, hs, List.take_left]
      refine aext ((hF.put _ _).put _ _) hF fun n => ?_
      by_cases hn : n = k.name
      · subst hn; rw [aget_put_same, aget_of_some hsome]
      · rw [aget_put_other _ _ _ hn, aget_put_other _ _ _ hn]
    | false =>
      rw [hw, hsome, ht]
      simp only [Bool.false_eq_true, if_false]
      refine aext ((hF.put _ _).del _) hF fun n => ?_
      by_cases hn : n = k.name
      · subst hn; rw [aget_del_same]; cases hg : aget k.name F <;> simp_all
      · rw [aget_del_other _ _ hn, aget_put_other _ _ _ hn]
  by_cases k1 : k.kind = 1
  · have hxs := hc.a2 k1
    have hg1 : g.kind = 1 := by rw [hc.kind, k1]; rfl
    have ht : turn F k = aput k.name ((fbytes k.name F).take k.n) F := by unfold turn; rw [if_neg k0, if_pos k1]
    unfold undoF
    rw [if_neg (by omega), if_pos hg1, hc.name, ht, fbytes_put_same, hxs, List.take_append_drop]
    refine aext ((hF.put _ _).put _ _) hF fun n => ?_
    by_cases hn : n = k.name
    · subst hn; rw [aget_put_same, aget_of_some (hf.there k0)]
    · rw [aget_put_other _ _ _ hn, aget_put_other _ _ _ hn]
  by_cases k2 : k.kind = 2
  · obtain ⟨hto, hw, hxs⟩ := hc.a3 k2
    have hg2 : g.kind = 2 := by rw [hc.kind, k2]; rfl
    have ht : turn F k = aput k.to (fbytes k.name F) (adel k.name F) := by unfold turn; rw [if_neg k0, if_neg k1, if_pos k2]
    unfold undoF
    rw [if_neg (by omega), if_neg (by omega), if_pos hg2, hc.name, hto, ht, fbytes_put_same]
    cases hsome : (aget k.to (adel k.name F)).isSome with
    | true =>
      rw [hw, hsome, if_pos rfl, hxs]
      refine aext ((((hF.del _).put _ _).put _ _).put _ _) hF fun n => ?_
      by_cases hn : n = k.name
      · subst hn; rw [aget_put_same, aget_of_some (hf.there k0)]
      · rw [aget_put_other _ _ _ hn]
        by_cases hn2 : n = k.to
        · subst hn2
          rw [aget_put_same, ← aget_of_some hsome, aget_del_other _ _ hn]
        · rw [aget_put_other _ _ _ hn2, aget_put_other _ _ _ hn2, aget_del_other _ _ hn]
    | false =>
      rw [hw, hsome]
      simp only [Bool.false_eq_true, if_false]
      refine aext ((((hF.del _).put _ _).del _).put _ _) hF fun n => ?_
      by_cases hn : n = k.name
      · subst hn; rw [aget_put_same, aget_of_some (hf.there k0)]
      · rw [aget_put_other _ _ _ hn]
        by_cases hn2 : n = k.to
        · subst hn2
          rw [aget_del_same]
          rw [aget_del_other _ _ hn] at hsome
          cases hg : aget k.to F <;> simp_all
        · rw [aget_del_other _ _ hn2, aget_put_other _ _ _ hn2, aget_del_other _ _ hn]
  · have k3 : k.kind = 3 := by omega
    have hg3 : g.kind = 3 := by rw [hc.kind, k3]; rfl
    have ht : turn F k = adel k.name F := by unfold turn; rw [if_neg k0, if_neg k1, if_neg k2]
    unfold undoF
    rw [if_neg (by omega), if_neg (by omega), if_neg (by omega), hc.name, ht, hc.a4 k3]
    refine aext ((hF.del _).put _ _) hF fun n => ?_
    by_cases hn : n = k.name
    · subst hn; rw [aget_put_same, aget_of_some (hf.there k0)]
    · rw [aget_put_other _ _ _ hn, aget_del_other _ _ hn]
/-- What is left of a work that is cut. -/
def part (F : Fil) (k : Wk) (cut : Int) : Fil :=
  if k.kind = 0 then (if cut % ((k.bs.length : Int) + 1) = 0 then F else aput k.name (fbytes k.name F ++ k.bs.take (cut % ((k.bs.length : Int) + 1)).toNat) F) else F
theorem tear_turn {F : Fil} {k : Wk} {g : Chg} (cut : Int) (hF : AAsc F) (hf : Fits F k) (hc : Ch F k g) : tearF g cut (turn F k) = part F k cut := by
  have hu := undo_turn hF hf hc
  unfold tearF part
  by_cases k0 : k.kind = 0
  · obtain ⟨hs, hw⟩ := hc.a1 k0
    have hg0 : g.kind = 0 := by rw [hc.kind, k0]; rfl
    have ht : turn F k = aput k.name (fbytes k.name F ++ k.bs) F := by unfold turn; rw [if_pos k0]
    have hl : ((fbytes g.name (turn F k)).length : Int) - g.size + 1 = (k.bs.length : Int) + 1 := by
      rw [hc.name, ht, fbytes_put_same, hs, List.length_append]; omega
    rw [if_pos hg0, if_pos k0, hl, hu]
    by_cases h0 : cut % ((k.bs.length : Int) + 1) = 0
    · rw [if_pos h0, if_pos h0]
    · rw [if_neg h0, if_neg h0, hc.name, ht, fbytes_put_same, hs]
      rw [List.take_append, List.take_of_length_le (by omega), show (fbytes k.name F).length + (cut % ((k.bs.length : Int) + 1)).toNat - (fbytes k.name F).length = (cut % ((k.bs.length : Int) + 1)).toNat by omega]
      refine aext ((hF.put _ _).put _ _) (hF.put _ _) fun n => ?_
      by_cases hn : n = k.name
      · subst hn; rw [aget_put_same, aget_put_same]
      · rw [aget_put_other _ _ _ hn, aget_put_other _ _ _ hn, aget_put_other _ _ _ hn]
  · have hg0 : ¬ g.kind = 0 := by rw [hc.kind]; omega
    rw [if_neg hg0, if_neg k0, hu]

/-- Files within what a disk holds. -/
structure SmF (N : Nat) (F : Fil) : Prop where
  asc : AAsc F
  tot : totF F ≤ 16777216
  many : F.length ≤ N
def run (F : Fil) (ks : List Wk) : Fil := ks.foldl turn F
/-- The changes gs remember the works ks from F on. -/
def Hist (N : Nat) : Fil → List Wk → List Chg → Prop
  | F, [], [] => SmF N F
  | F, k :: ks, g :: gs => SmF N F ∧ Fits F k ∧ Ch F k g ∧ Hist N (turn F k) ks gs
  | _, _, _ => False
theorem Hist.length {N : Nat} : ∀ {F : Fil} {ks : List Wk} {gs : List Chg}, Hist N F ks gs → gs.length = ks.length
  | _, [], [], _ => rfl
  | _, [], _ :: _, h => h.elim
  | _, _ :: _, [], h => h.elim
  | _, _ :: _, _ :: _, h => by simp [Hist.length h.2.2.2]
theorem Hist.last {N : Nat} : ∀ {F : Fil} {ks : List Wk} {gs : List Chg}, Hist N F ks gs → SmF N (run F ks)
  | _, [], [], h => h
  | _, [], _ :: _, h => h.elim
  | _, _ :: _, [], h => h.elim
  | _, _ :: _, _ :: _, h => by have := Hist.last h.2.2.2; exact this
theorem Hist.first {N : Nat} : ∀ {F : Fil} {ks : List Wk} {gs : List Chg}, Hist N F ks gs → SmF N F
  | _, [], [], h => h
  | _, [], _ :: _, h => h.elim
  | _, _ :: _, [], h => h.elim
  | _, _ :: _, _ :: _, h => h.1
theorem Hist.take {N : Nat} : ∀ {F : Fil} {ks : List Wk} {gs : List Chg} (i : Nat), Hist N F ks gs → Hist N F (ks.take i) (gs.take i)
  | _, _, _, 0, h => by rw [List.take_zero, List.take_zero]; exact h.first
  | _, [], [], _ + 1, h => h
  | _, [], _ :: _, _ + 1, h => h.elim
  | _, _ :: _, [], _ + 1, h => h.elim
  | _, _ :: _, _ :: _, i + 1, h => ⟨h.1, h.2.1, h.2.2.1, Hist.take i h.2.2.2⟩
theorem Hist.at {N : Nat} : ∀ {F : Fil} {ks : List Wk} {gs : List Chg} (i : Nat) (_ : Hist N F ks gs) (hi : i < ks.length) (hj : i < gs.length), SmF N (run F (ks.take i)) ∧ Fits (run F (ks.take i)) ks[i] ∧ Ch (run F (ks.take i)) ks[i] gs[i]
  | _, [], _, _, _, hi, _ => by simp at hi
  | _, _ :: _, [], _, h, _, _ => h.elim
  | _, _ :: _, _ :: _, 0, h, _, _ => ⟨h.1, h.2.1, h.2.2.1⟩
  | _, _ :: _, _ :: _, i + 1, h, hi, hj => by have := Hist.at i h.2.2.2 (by simpa using hi) (by simpa using hj); exact this
theorem Hist.snoc {N : Nat} : ∀ {F : Fil} {ks : List Wk} {gs : List Chg} {k : Wk} {g : Chg}, Hist N F ks gs → Fits (run F ks) k → Ch (run F ks) k g → SmF N (turn (run F ks) k) → Hist N F (ks ++ [k]) (gs ++ [g])
  | _, [], [], _, _, h, h1, h2, h3 => ⟨h, h1, h2, h3⟩
  | _, [], _ :: _, _, _, h, _, _, _ => h.elim
  | _, _ :: _, [], _, _, h, _, _, _ => h.elim
  | _, _ :: _, _ :: _, _, _, h, h1, h2, h3 => ⟨h.1, h.2.1, h.2.2.1, Hist.snoc h.2.2.2 h1 h2 h3⟩
theorem Hist.mono {N M : Nat} (hN : N ≤ M) : ∀ {F : Fil} {ks : List Wk} {gs : List Chg}, Hist N F ks gs → Hist M F ks gs
  | _, [], [], h => ⟨h.asc, h.tot, Nat.le_trans h.many hN⟩
  | _, [], _ :: _, h => h.elim
  | _, _ :: _, [], h => h.elim
  | _, _ :: _, _ :: _, h => ⟨⟨h.1.asc, h.1.tot, Nat.le_trans h.1.many hN⟩, h.2.1, h.2.2.1, Hist.mono hN h.2.2.2⟩
theorem run_snoc (F : Fil) (ks : List Wk) (k : Wk) : run F (ks ++ [k]) = turn (run F ks) k := by simp [run]
theorem run_take_succ (F : Fil) (ks : List Wk) {i : Nat} (hi : i < ks.length) : run F (ks.take (i + 1)) = turn (run F (ks.take i)) ks[i] := by
  rw [List.take_add_one, List.getElem?_eq_getElem hi]
  exact run_snoc _ _ _
end Go.Proofs.YtfneadlknieppaaGreatDoor
