/- What undo does with an appended file. Conditions: the numbers are no greater than a program's may be. -/
import Derived.Test.YtemfblhlkonlpaaDoorDskV
import Derived.Deep.RegionHeld3
namespace Go.Proofs.YtemfblhlkonlpaaDoor
open Go.RowKit
open Go.Maps

set_option maxRecDepth 20000 in
set_option maxHeartbeats 2000000 in
theorem undo_app_true (w : World) (B b : Nat) (c : Cst) (L : List (Key × Ent)) (Pf P : List Chg) (name to : Key) (size : Nat) (p : Option Addr) (cap : Nat) (xs : List Int) (h : DC w B b c L Pf (P ++ [{ kind := 0, name := name, to := to, size := size, was := true, lost := .slice p xs.length cap, xs := xs }])) (hs : Small L { kind := 0, name := name, to := to, size := size, was := true, lost := .slice p xs.length cap, xs := xs }) (hz : size ≤ (bytesAt name L).length) :
    Calls Tryd.prog 68 #[.pointer (some ⟨b,0,none⟩), .agg #[.int .i64 0, stv name, stv to, .int .i64 size, .bool true, .slice p xs.length cap]] w (UndoPost w B b c L Pf P { kind := 0, name := name, to := to, size := size, was := true, lost := .slice p xs.length cap, xs := xs }) := by
  have hb1 : Below w.heap.size w (w.alloc (.cells #[.int .i64 0, stv name, stv to, .int .i64 size, .bool true, .slice p xs.length cap] 126)) := (Below.refl _ w).alloc (Nat.le_refl _) _
  have h1 := h.kb hb1
  obtain ⟨p2, cap2, hv2⟩ := h.own.shp.at name
  have HD := Lib.hid h
  have HD1 : Hid (DC (w.alloc (.cells #[.int .i64 0, stv name, stv to, .int .i64 size, .bool true, .slice p xs.length cap] 126)) B b c L Pf (P ++ [{ kind := 0, name := name, to := to, size := size, was := true, lost := .slice p xs.length cap, xs := xs }])) := Lib.hid h1
  have HC1 : Hid (CAt (w.alloc (.cells #[.int .i64 0, stv name, stv to, .int .i64 size, .bool true, .slice p xs.length cap] 126)) w.heap.size { kind := 0, name := name, to := to, size := size, was := true, lost := .slice p xs.length cap, xs := xs }) := Lib.hid (heap_alloc_last w _)
  have HB := Lib.hid hb1
  have HV := Lib.hid hv2
  have HSN := Lib.hid (small_bytes hs name)
  have HU := Lib.hid (used_range h hs.tl)
  have HS := Lib.hid hs
  have HZ := Lib.hid hz
  clear h h1 hs hb1 hv2 hz
  go_enter Tryd.func68, Tryd.ntmps68
  go_wp2_with fail
  generalize w.alloc (.cells #[.int .i64 0, stv name, stv to, .int .i64 size, .bool true, .slice p xs.length cap] 126) = W1 at *
  have e1 := HC1.out.c1
  have e3 := HC1.out.c3
  have e4 := HC1.out.c4
  have hc1 := HD1.out.d.c1
  obtain ⟨ys, hys⟩ : ∃ ys, ys = bytesAt name L := ⟨_, rfl⟩
  have HYS := Lib.hid hys
  rw [← hys] at HV HSN HZ
  clear hys
  have hlk : (Instr.lookup 119 (.map (some c.mb)) (stv name) false).run Tryd.prog W1.drew = .ok (.slice p2 ys.length cap2) W1.drew := by
    rw [← HV.out]; exact MAt.look (w := W1.drew) HD1.out.m name (small_key HS.out.n1).1
  have HOF : Hid (BOwn W1.drew B (.slice p2 ys.length cap2) ys) := Lib.hid (by rw [← HV.out, HYS.out]; exact HD1.out.own.at name)
  have HBB : Hid (B ≤ W1.drew.heap.size) := Lib.hid HD1.out.base
  have HFT : Hid (ys.length ≤ 140737488351232) := Lib.hid (by have := HSN.out; omega)
  try simp only [List.append]
  refine wp_region_noPanic ?_
  refine wp_region_held_drew (S := (fun W => W.cell? ⟨b, 1, none⟩ = some (.map (some c.mb)) ∧ W.cell? ⟨w.heap.size, 1, none⟩ = some (stv name) ∧ W.cell? ⟨w.heap.size, 3, none⟩ = some (.int .i64 size) ∧ W.cell? ⟨w.heap.size, 4, none⟩ = some (.bool true))) (by kernel_rfl) ⟨hc1, e1, e3, e4⟩ (fun hHeld => ?_)
  refine wpAnyH_take (i := 0) (v := ?_) (by simp only [List.getElem?_toArray, List.getElem?_cons_zero]; rfl) (by kernel_rfl) (by kernel_rfl) (by kernel_rfl) (fun _ _ _ h => h) (Or.inl ⟨by rfl, ?_⟩) (by assumption) ?_
  rotate_left
  · intro w hSw
    try dsimp only at hSw
    go_simp
    try with_reducible rfl
  try simp only [Act.put, List.setIfInBounds_toArray, List.set_cons_zero, List.set_cons_succ]
  refine wpAnyH_take (i := 1) (v := ?_) (by simp only [List.getElem?_toArray, List.getElem?_cons_succ, List.getElem?_cons_zero]; rfl) (by kernel_rfl) (by kernel_rfl) (by kernel_rfl) (fun _ _ _ h => h) (Or.inl ⟨by rfl, ?_⟩) (by assumption) ?_
  rotate_left
  · intro w hSw
    try dsimp only at hSw
    go_simp
    try with_reducible rfl
  try simp only [Act.put, List.setIfInBounds_toArray, List.set_cons_zero, List.set_cons_succ]
  refine wpAnyH_take (i := 2) (v := ?_) (by simp only [List.getElem?_toArray, List.getElem?_cons_succ, List.getElem?_cons_zero]; rfl) (by kernel_rfl) (by kernel_rfl) (by kernel_rfl) (fun _ _ _ h => h) (Or.inl ⟨by rfl, ?_⟩) (by assumption) ?_
  rotate_left
  · intro w hSw
    try dsimp only at hSw
    go_simp
    try with_reducible rfl
  try simp only [Act.put, List.setIfInBounds_toArray, List.set_cons_zero, List.set_cons_succ]
  refine wpAnyH_take (i := 3) (v := ?_) (by simp only [List.getElem?_toArray, List.getElem?_cons_succ, List.getElem?_cons_zero]; rfl) (by kernel_rfl) (by kernel_rfl) (by kernel_rfl) (fun _ _ _ h => h) (Or.inl ⟨by rfl, ?_⟩) (by assumption) ?_
  rotate_left
  · intro w hSw
    try dsimp only at hSw
    go_simp
    try with_reducible rfl
  try simp only [Act.put, List.setIfInBounds_toArray, List.set_cons_zero, List.set_cons_succ]
  refine wpAnyH_take (i := 4) (v := ?_) (by simp only [List.getElem?_toArray, List.getElem?_cons_succ, List.getElem?_cons_zero]; rfl) (by kernel_rfl) (by kernel_rfl) (by kernel_rfl) (fun _ _ _ h => h) (Or.inl ⟨by rfl, ?_⟩) (by assumption) ?_
  rotate_left
  · intro w hSw
    try dsimp only at hSw
    go_simp
    try with_reducible rfl
  try simp only [Act.put, List.setIfInBounds_toArray, List.set_cons_zero, List.set_cons_succ]
  refine wpAnyH_take (i := 5) (v := ?_) (by simp only [List.getElem?_toArray, List.getElem?_cons_succ, List.getElem?_cons_zero]; rfl) (by kernel_rfl) (by kernel_rfl) (by kernel_rfl) (fun _ _ _ h => h) (Or.inl ⟨by rfl, ?_⟩) (by assumption) ?_
  rotate_left
  · intro w hSw
    try dsimp only at hSw
    go_simp
    try with_reducible rfl
  try simp only [Act.put, List.setIfInBounds_toArray, List.set_cons_zero, List.set_cons_succ]
  refine wpAnyH_take (i := 6) (v := ?_) (by simp only [List.getElem?_toArray, List.getElem?_cons_succ, List.getElem?_cons_zero]; rfl) (by kernel_rfl) (by kernel_rfl) (by kernel_rfl) (fun _ _ _ h => h) (Or.inl ⟨by rfl, ?_⟩) (by assumption) ?_
  rotate_left
  · intro w hSw
    try dsimp only at hSw
    go_simp
    try with_reducible rfl
  try simp only [Act.put, List.setIfInBounds_toArray, List.set_cons_zero, List.set_cons_succ]
  refine wpAnyH_take (i := 7) (v := ?_) (by simp only [List.getElem?_toArray, List.getElem?_cons_succ, List.getElem?_cons_zero]; rfl) (by kernel_rfl) (by kernel_rfl) (by kernel_rfl) (fun _ _ _ h => h) (Or.inl ⟨by rfl, ?_⟩) (by assumption) ?_
  rotate_left
  · intro w hSw
    try dsimp only at hSw
    go_simp
    try with_reducible rfl
  try simp only [Act.put, List.setIfInBounds_toArray, List.set_cons_zero, List.set_cons_succ]
  refine wpAnyH_take (i := 8) (v := ?_) (by simp only [List.getElem?_toArray, List.getElem?_cons_succ, List.getElem?_cons_zero]; rfl) (by kernel_rfl) (by kernel_rfl) (by kernel_rfl) (fun _ _ _ h => h) (Or.inl ⟨by rfl, ?_⟩) (by assumption) ?_
  rotate_left
  · intro w hSw
    try dsimp only at hSw
    go_simp
    try with_reducible rfl
  try simp only [Act.put, List.setIfInBounds_toArray, List.set_cons_zero, List.set_cons_succ]
  refine wpAnyH_take (i := 10) (v := ?_) (by simp only [List.getElem?_toArray, List.getElem?_cons_succ, List.getElem?_cons_zero]; rfl) (by kernel_rfl) (by kernel_rfl) (by kernel_rfl) (fun _ _ _ h => h) (Or.inl ⟨by rfl, ?_⟩) (by assumption) ?_
  rotate_left
  · intro w hSw
    try dsimp only at hSw
    go_simp
    try with_reducible rfl
  try simp only [Act.put, List.setIfInBounds_toArray, List.set_cons_zero, List.set_cons_succ]
  refine wpAnyH_take (i := 11) (v := ?_) (by simp only [List.getElem?_toArray, List.getElem?_cons_succ, List.getElem?_cons_zero]; rfl) (by kernel_rfl) (by kernel_rfl) (by kernel_rfl) (fun _ _ _ h => h) (Or.inl ⟨by rfl, ?_⟩) (by assumption) ?_
  rotate_left
  · intro w hSw
    try dsimp only at hSw
    go_simp
    try with_reducible rfl
  try simp only [Act.put, List.setIfInBounds_toArray, List.set_cons_zero, List.set_cons_succ]
  refine wpAnyH_take (i := 13) (v := ?_) (by simp only [List.getElem?_toArray, List.getElem?_cons_succ, List.getElem?_cons_zero]; rfl) (by kernel_rfl) (by kernel_rfl) (by kernel_rfl) (fun _ _ _ h => h) (Or.inl ⟨by rfl, ?_⟩) (by assumption) ?_
  rotate_left
  · intro w hSw
    try dsimp only at hSw
    go_simp
    try with_reducible rfl
  try simp only [Act.put, List.setIfInBounds_toArray, List.set_cons_zero, List.set_cons_succ]
  refine wpAnyH_take (i := 14) (v := ?_) (by simp only [List.getElem?_toArray, List.getElem?_cons_succ, List.getElem?_cons_zero]; rfl) (by kernel_rfl) (by kernel_rfl) (by kernel_rfl) (fun _ _ _ h => h) (Or.inl ⟨by rfl, ?_⟩) (by assumption) ?_
  rotate_left
  · intro w hSw
    try dsimp only at hSw
    go_simp
    try with_reducible rfl
  try simp only [Act.put, List.setIfInBounds_toArray, List.set_cons_zero, List.set_cons_succ]
  refine wpAnyH_ready (rs := [9]) (by kernel_rfl) (by simp) ?_
  refine AllReadyH.cons (by simp only [List.getElem?_toArray, List.getElem?_cons_succ, List.getElem?_cons_zero]; rfl) (fun K hK => ?_) AllReadyH.nil
  go_simp
  refine hK.out _ _ ⟨hc1, e1, e3, e4⟩ (fun hHeld => ?_)
  clear hK K
  try simp only [Act.put, List.setIfInBounds_toArray, List.set_cons_zero, List.set_cons_succ]
  refine wpAnyH_ready (rs := [12]) (by kernel_rfl) (by simp) ?_
  refine AllReadyH.cons (by simp only [List.getElem?_toArray, List.getElem?_cons_succ, List.getElem?_cons_zero]; rfl) (fun K hK => ?_) AllReadyH.nil
  go_simp
  refine (shorten_to W1.drew B (.slice p2 ys.length cap2) ys size HZ.out HOF.out HBB.out HFT.out).mono ?_
  rintro e w8 ⟨v8, rfl, o8, b8, a8⟩
  obtain ⟨zs, hzs⟩ : ∃ zs, zs = ys.take size := ⟨_, rfl⟩
  have HZS := Lib.hid hzs
  rw [← hzs] at o8
  clear hzs
  have HZL : Hid (zs.length ≤ 1000000000) := Lib.hid (by rw [HZS.out, List.length_take]; have := HSN.out; omega)
  obtain ⟨p8, cap8, rfl⟩ := own_slice o8
  have HD8 := Lib.hid (HD1.out.kb (w' := w8) ⟨b8.os, b8.tape, b8.output, b8.size, b8.block⟩)
  have HC8 := Lib.hid (HC1.out.kb (w' := w8) ⟨b8.os, b8.tape, b8.output, b8.size, b8.block⟩)
  have HO8 : Hid (∀ S, Only S w w8) := Lib.hid (fun S => (Only.of_below (HB.out.trans (Below.mono (w := W1) (w' := w8) ⟨b8.os, b8.tape, b8.output, b8.size, b8.block⟩ HB.out.size))))
  have O8 := Lib.hid o8
  have A8 : Hid (∀ k, Value.ownBlock (.slice p8 zs.length cap8) = some k → (valAt name L).ownBlock = some k ∨ w.heap.size ≤ k) := Lib.hid (fun k hk => by
    rcases a8 k hk with e | e
    · exact .inl (by rw [HV.out]; exact e)
    · exact .inr (Nat.le_trans HB.out.size e))
  clear o8 b8 a8
  go_wp2_with fail
  refine hK.out _ _ ⟨HD8.out.d.c1, HC8.out.c1, HC8.out.c3, HC8.out.c4⟩ (fun hHeld => ?_)
  clear hK K
  try simp only [Act.put, List.setIfInBounds_toArray, List.set_cons_zero, List.set_cons_succ]
  refine wpAnyH_ready (rs := [15]) (by kernel_rfl) (by simp) ?_
  refine AllReadyH.cons (by simp only [List.getElem?_toArray, List.getElem?_cons_succ, List.getElem?_cons_zero]; rfl) (fun K hK => ?_) AllReadyH.nil
  go_simp
  refine (restore_put w8 b c L name p8 cap8 zs HD8.out.d HD8.out.m HD8.out.ne HD8.out.own.shp (small_key HS.out.n1).1 (small_len (Nat.le_succ_of_le HS.out.ml)).1 (Nat.le_trans HZL.out (by decide)) (by rw [← HYS.out]; exact Nat.le_trans HSN.out (by decide)) HU.out.1 (Int.le_trans HU.out.2 (by decide)) (small_key HS.out.n1).2.1).mono ?_
  rintro e w9 ⟨rfl, hd, hm, ho⟩
  have H9 := Lib.hid (And.intro hd (And.intro hm ho))
  have HC9 := Lib.hid (HC8.out.kept ho (by rintro (e | e); exact absurd e (by have := HD.out.d.lt; omega); exact absurd e (by have := HD.out.m.lt; omega)))
  clear hd hm ho
  go_wp2_with fail
  refine hK.out _ _ ⟨H9.out.1.c1, HC9.out.c1, HC9.out.c3, HC9.out.c4⟩ (fun hHeld => ?_)
  clear hK K
  try simp only [Act.put, List.setIfInBounds_toArray, List.set_cons_zero, List.set_cons_succ]
  refine wpAnyH_done (by kernel_rfl) ?_ _
  refine NoPanic.normal ?_
  go_wp2_with fail
  go_end0
  refine ⟨rfl, _, _, put_dto2 _ HD.out.less (HO8.out _) HD8.out.d HD8.out.m HD8.out.p (HD8.out.less.own.del name) O8.out A8.out (small_len (Nat.le_succ_of_le HS.out.ml)).2 (fun k hk => foot_less hk) H9.out.1 H9.out.2.1 H9.out.2.2, ?_⟩
  rw [fb_put, HZS.out, HYS.out]; simp [undoF, fb_bytes]
set_option maxRecDepth 20000 in
set_option maxHeartbeats 2000000 in
theorem undo_app_false (w : World) (B b : Nat) (c : Cst) (L : List (Key × Ent)) (Pf P : List Chg) (name to : Key) (size : Nat) (p : Option Addr) (cap : Nat) (xs : List Int) (h : DC w B b c L Pf (P ++ [{ kind := 0, name := name, to := to, size := size, was := false, lost := .slice p xs.length cap, xs := xs }])) (hs : Small L { kind := 0, name := name, to := to, size := size, was := false, lost := .slice p xs.length cap, xs := xs }) (hz : size ≤ (bytesAt name L).length) :
    Calls Tryd.prog 68 #[.pointer (some ⟨b,0,none⟩), .agg #[.int .i64 0, stv name, stv to, .int .i64 size, .bool false, .slice p xs.length cap]] w (UndoPost w B b c L Pf P { kind := 0, name := name, to := to, size := size, was := false, lost := .slice p xs.length cap, xs := xs }) := by
  have hb1 : Below w.heap.size w (w.alloc (.cells #[.int .i64 0, stv name, stv to, .int .i64 size, .bool false, .slice p xs.length cap] 126)) := (Below.refl _ w).alloc (Nat.le_refl _) _
  have h1 := h.kb hb1
  obtain ⟨p2, cap2, hv2⟩ := h.own.shp.at name
  have HD := Lib.hid h
  have HD1 : Hid (DC (w.alloc (.cells #[.int .i64 0, stv name, stv to, .int .i64 size, .bool false, .slice p xs.length cap] 126)) B b c L Pf (P ++ [{ kind := 0, name := name, to := to, size := size, was := false, lost := .slice p xs.length cap, xs := xs }])) := Lib.hid h1
  have HC1 : Hid (CAt (w.alloc (.cells #[.int .i64 0, stv name, stv to, .int .i64 size, .bool false, .slice p xs.length cap] 126)) w.heap.size { kind := 0, name := name, to := to, size := size, was := false, lost := .slice p xs.length cap, xs := xs }) := Lib.hid (heap_alloc_last w _)
  have HB := Lib.hid hb1
  have HV := Lib.hid hv2
  have HSN := Lib.hid (small_bytes hs name)
  have HU := Lib.hid (used_range h hs.tl)
  have HS := Lib.hid hs
  have HZ := Lib.hid hz
  clear h h1 hs hb1 hv2 hz
  go_enter Tryd.func68, Tryd.ntmps68
  go_wp2_with fail
  generalize w.alloc (.cells #[.int .i64 0, stv name, stv to, .int .i64 size, .bool false, .slice p xs.length cap] 126) = W1 at *
  have e1 := HC1.out.c1
  have e3 := HC1.out.c3
  have e4 := HC1.out.c4
  have hc1 := HD1.out.d.c1
  obtain ⟨ys, hys⟩ : ∃ ys, ys = bytesAt name L := ⟨_, rfl⟩
  have HYS := Lib.hid hys
  rw [← hys] at HV HSN HZ
  clear hys
  have hlk : (Instr.lookup 119 (.map (some c.mb)) (stv name) false).run Tryd.prog W1.drew = .ok (.slice p2 ys.length cap2) W1.drew := by
    rw [← HV.out]; exact MAt.look (w := W1.drew) HD1.out.m name (small_key HS.out.n1).1
  have HOF : Hid (BOwn W1.drew B (.slice p2 ys.length cap2) ys) := Lib.hid (by rw [← HV.out, HYS.out]; exact HD1.out.own.at name)
  have HBB : Hid (B ≤ W1.drew.heap.size) := Lib.hid HD1.out.base
  have HFT : Hid (ys.length ≤ 140737488351232) := Lib.hid (by have := HSN.out; omega)
  try simp only [List.append]
  refine wp_region_noPanic ?_
  refine wp_region_held_drew (S := (fun W => W.cell? ⟨b, 1, none⟩ = some (.map (some c.mb)) ∧ W.cell? ⟨w.heap.size, 1, none⟩ = some (stv name) ∧ W.cell? ⟨w.heap.size, 3, none⟩ = some (.int .i64 size) ∧ W.cell? ⟨w.heap.size, 4, none⟩ = some (.bool false))) (by kernel_rfl) ⟨hc1, e1, e3, e4⟩ (fun hHeld => ?_)
  refine wpAnyH_take (i := 0) (v := ?_) (by simp only [List.getElem?_toArray, List.getElem?_cons_zero]; rfl) (by kernel_rfl) (by kernel_rfl) (by kernel_rfl) (fun _ _ _ h => h) (Or.inl ⟨by rfl, ?_⟩) (by assumption) ?_
  rotate_left
  · intro w hSw
    try dsimp only at hSw
    go_simp
    try with_reducible rfl
  try simp only [Act.put, List.setIfInBounds_toArray, List.set_cons_zero, List.set_cons_succ]
  refine wpAnyH_take (i := 1) (v := ?_) (by simp only [List.getElem?_toArray, List.getElem?_cons_succ, List.getElem?_cons_zero]; rfl) (by kernel_rfl) (by kernel_rfl) (by kernel_rfl) (fun _ _ _ h => h) (Or.inl ⟨by rfl, ?_⟩) (by assumption) ?_
  rotate_left
  · intro w hSw
    try dsimp only at hSw
    go_simp
    try with_reducible rfl
  try simp only [Act.put, List.setIfInBounds_toArray, List.set_cons_zero, List.set_cons_succ]
  refine wpAnyH_take (i := 2) (v := ?_) (by simp only [List.getElem?_toArray, List.getElem?_cons_succ, List.getElem?_cons_zero]; rfl) (by kernel_rfl) (by kernel_rfl) (by kernel_rfl) (fun _ _ _ h => h) (Or.inl ⟨by rfl, ?_⟩) (by assumption) ?_
  rotate_left
  · intro w hSw
    try dsimp only at hSw
    go_simp
    try with_reducible rfl
  try simp only [Act.put, List.setIfInBounds_toArray, List.set_cons_zero, List.set_cons_succ]
  refine wpAnyH_take (i := 3) (v := ?_) (by simp only [List.getElem?_toArray, List.getElem?_cons_succ, List.getElem?_cons_zero]; rfl) (by kernel_rfl) (by kernel_rfl) (by kernel_rfl) (fun _ _ _ h => h) (Or.inl ⟨by rfl, ?_⟩) (by assumption) ?_
  rotate_left
  · intro w hSw
    try dsimp only at hSw
    go_simp
    try with_reducible rfl
  try simp only [Act.put, List.setIfInBounds_toArray, List.set_cons_zero, List.set_cons_succ]
  refine wpAnyH_take (i := 4) (v := ?_) (by simp only [List.getElem?_toArray, List.getElem?_cons_succ, List.getElem?_cons_zero]; rfl) (by kernel_rfl) (by kernel_rfl) (by kernel_rfl) (fun _ _ _ h => h) (Or.inl ⟨by rfl, ?_⟩) (by assumption) ?_
  rotate_left
  · intro w hSw
    try dsimp only at hSw
    go_simp
    try with_reducible rfl
  try simp only [Act.put, List.setIfInBounds_toArray, List.set_cons_zero, List.set_cons_succ]
  refine wpAnyH_take (i := 5) (v := ?_) (by simp only [List.getElem?_toArray, List.getElem?_cons_succ, List.getElem?_cons_zero]; rfl) (by kernel_rfl) (by kernel_rfl) (by kernel_rfl) (fun _ _ _ h => h) (Or.inl ⟨by rfl, ?_⟩) (by assumption) ?_
  rotate_left
  · intro w hSw
    try dsimp only at hSw
    go_simp
    try with_reducible rfl
  try simp only [Act.put, List.setIfInBounds_toArray, List.set_cons_zero, List.set_cons_succ]
  refine wpAnyH_take (i := 6) (v := ?_) (by simp only [List.getElem?_toArray, List.getElem?_cons_succ, List.getElem?_cons_zero]; rfl) (by kernel_rfl) (by kernel_rfl) (by kernel_rfl) (fun _ _ _ h => h) (Or.inl ⟨by rfl, ?_⟩) (by assumption) ?_
  rotate_left
  · intro w hSw
    try dsimp only at hSw
    go_simp
    try with_reducible rfl
  try simp only [Act.put, List.setIfInBounds_toArray, List.set_cons_zero, List.set_cons_succ]
  refine wpAnyH_take (i := 7) (v := ?_) (by simp only [List.getElem?_toArray, List.getElem?_cons_succ, List.getElem?_cons_zero]; rfl) (by kernel_rfl) (by kernel_rfl) (by kernel_rfl) (fun _ _ _ h => h) (Or.inl ⟨by rfl, ?_⟩) (by assumption) ?_
  rotate_left
  · intro w hSw
    try dsimp only at hSw
    go_simp
    try with_reducible rfl
  try simp only [Act.put, List.setIfInBounds_toArray, List.set_cons_zero, List.set_cons_succ]
  refine wpAnyH_take (i := 8) (v := ?_) (by simp only [List.getElem?_toArray, List.getElem?_cons_succ, List.getElem?_cons_zero]; rfl) (by kernel_rfl) (by kernel_rfl) (by kernel_rfl) (fun _ _ _ h => h) (Or.inl ⟨by rfl, ?_⟩) (by assumption) ?_
  rotate_left
  · intro w hSw
    try dsimp only at hSw
    go_simp
    try with_reducible rfl
  try simp only [Act.put, List.setIfInBounds_toArray, List.set_cons_zero, List.set_cons_succ]
  refine wpAnyH_take (i := 10) (v := ?_) (by simp only [List.getElem?_toArray, List.getElem?_cons_succ, List.getElem?_cons_zero]; rfl) (by kernel_rfl) (by kernel_rfl) (by kernel_rfl) (fun _ _ _ h => h) (Or.inl ⟨by rfl, ?_⟩) (by assumption) ?_
  rotate_left
  · intro w hSw
    try dsimp only at hSw
    go_simp
    try with_reducible rfl
  try simp only [Act.put, List.setIfInBounds_toArray, List.set_cons_zero, List.set_cons_succ]
  refine wpAnyH_take (i := 11) (v := ?_) (by simp only [List.getElem?_toArray, List.getElem?_cons_succ, List.getElem?_cons_zero]; rfl) (by kernel_rfl) (by kernel_rfl) (by kernel_rfl) (fun _ _ _ h => h) (Or.inl ⟨by rfl, ?_⟩) (by assumption) ?_
  rotate_left
  · intro w hSw
    try dsimp only at hSw
    go_simp
    try with_reducible rfl
  try simp only [Act.put, List.setIfInBounds_toArray, List.set_cons_zero, List.set_cons_succ]
  refine wpAnyH_take (i := 13) (v := ?_) (by simp only [List.getElem?_toArray, List.getElem?_cons_succ, List.getElem?_cons_zero]; rfl) (by kernel_rfl) (by kernel_rfl) (by kernel_rfl) (fun _ _ _ h => h) (Or.inl ⟨by rfl, ?_⟩) (by assumption) ?_
  rotate_left
  · intro w hSw
    try dsimp only at hSw
    go_simp
    try with_reducible rfl
  try simp only [Act.put, List.setIfInBounds_toArray, List.set_cons_zero, List.set_cons_succ]
  refine wpAnyH_take (i := 14) (v := ?_) (by simp only [List.getElem?_toArray, List.getElem?_cons_succ, List.getElem?_cons_zero]; rfl) (by kernel_rfl) (by kernel_rfl) (by kernel_rfl) (fun _ _ _ h => h) (Or.inl ⟨by rfl, ?_⟩) (by assumption) ?_
  rotate_left
  · intro w hSw
    try dsimp only at hSw
    go_simp
    try with_reducible rfl
  try simp only [Act.put, List.setIfInBounds_toArray, List.set_cons_zero, List.set_cons_succ]
  refine wpAnyH_ready (rs := [9]) (by kernel_rfl) (by simp) ?_
  refine AllReadyH.cons (by simp only [List.getElem?_toArray, List.getElem?_cons_succ, List.getElem?_cons_zero]; rfl) (fun K hK => ?_) AllReadyH.nil
  go_simp
  refine hK.out _ _ ⟨hc1, e1, e3, e4⟩ (fun hHeld => ?_)
  clear hK K
  try simp only [Act.put, List.setIfInBounds_toArray, List.set_cons_zero, List.set_cons_succ]
  refine wpAnyH_ready (rs := [12]) (by kernel_rfl) (by simp) ?_
  refine AllReadyH.cons (by simp only [List.getElem?_toArray, List.getElem?_cons_succ, List.getElem?_cons_zero]; rfl) (fun K hK => ?_) AllReadyH.nil
  go_simp
  refine (shorten_to W1.drew B (.slice p2 ys.length cap2) ys size HZ.out HOF.out HBB.out HFT.out).mono ?_
  rintro e w8 ⟨v8, rfl, o8, b8, a8⟩
  obtain ⟨zs, hzs⟩ : ∃ zs, zs = ys.take size := ⟨_, rfl⟩
  have HZS := Lib.hid hzs
  rw [← hzs] at o8
  clear hzs
  have HZL : Hid (zs.length ≤ 1000000000) := Lib.hid (by rw [HZS.out, List.length_take]; have := HSN.out; omega)
  obtain ⟨p8, cap8, rfl⟩ := own_slice o8
  have HD8 := Lib.hid (HD1.out.kb (w' := w8) ⟨b8.os, b8.tape, b8.output, b8.size, b8.block⟩)
  have HC8 := Lib.hid (HC1.out.kb (w' := w8) ⟨b8.os, b8.tape, b8.output, b8.size, b8.block⟩)
  have HO8 : Hid (∀ S, Only S w w8) := Lib.hid (fun S => (Only.of_below (HB.out.trans (Below.mono (w := W1) (w' := w8) ⟨b8.os, b8.tape, b8.output, b8.size, b8.block⟩ HB.out.size))))
  have O8 := Lib.hid o8
  have A8 : Hid (∀ k, Value.ownBlock (.slice p8 zs.length cap8) = some k → (valAt name L).ownBlock = some k ∨ w.heap.size ≤ k) := Lib.hid (fun k hk => by
    rcases a8 k hk with e | e
    · exact .inl (by rw [HV.out]; exact e)
    · exact .inr (Nat.le_trans HB.out.size e))
  clear o8 b8 a8
  go_wp2_with fail
  refine hK.out _ _ ⟨HD8.out.d.c1, HC8.out.c1, HC8.out.c3, HC8.out.c4⟩ (fun hHeld => ?_)
  clear hK K
  try simp only [Act.put, List.setIfInBounds_toArray, List.set_cons_zero, List.set_cons_succ]
  refine wpAnyH_ready (rs := [15]) (by kernel_rfl) (by simp) ?_
  refine AllReadyH.cons (by simp only [List.getElem?_toArray, List.getElem?_cons_succ, List.getElem?_cons_zero]; rfl) (fun K hK => ?_) AllReadyH.nil
  go_simp
  refine (restore_drop w8 b c L name (.slice p8 zs.length cap8) HD8.out.d HD8.out.m HD8.out.ne HD8.out.own.shp (small_key HS.out.n1).1 (by rw [← HYS.out]; exact Nat.le_trans HSN.out (by decide)) HU.out.1 (Int.le_trans HU.out.2 (by decide))).mono ?_
  rintro e w9 ⟨rfl, hd, hm, ho⟩
  have H9 := Lib.hid (And.intro hd (And.intro hm ho))
  have HC9 := Lib.hid (HC8.out.kept ho (by rintro (e | e); exact absurd e (by have := HD.out.d.lt; omega); exact absurd e (by have := HD.out.m.lt; omega)))
  clear hd hm ho
  go_wp2_with fail
  refine hK.out _ _ ⟨H9.out.1.c1, HC9.out.c1, HC9.out.c3, HC9.out.c4⟩ (fun hHeld => ?_)
  clear hK K
  try simp only [Act.put, List.setIfInBounds_toArray, List.set_cons_zero, List.set_cons_succ]
  refine wpAnyH_done (by kernel_rfl) ?_ _
  refine NoPanic.normal ?_
  go_wp2_with fail
  go_end0
  refine ⟨rfl, _, _, ⟨drop_dc HD8.out.less H9.out.1 H9.out.2.1 H9.out.2.2, (HO8.out _).trans H9.out.2.2 (fun _ h => h) (fun k _ e => by rcases e with rfl | rfl; exact .inl rfl; exact .inr (.inl rfl)), fun k hk => .inl (foot_less (foot_drop HD.out.asc hk))⟩, ?_⟩
  rw [fb_del]; simp [undoF]

/-- What undo wants to know of a change. -/
structure Undoable (L : List (Key × Ent)) (g : Chg) : Prop where
  small : Small L g
  kind : 0 ≤ g.kind ∧ g.kind ≤ 3
  size : g.kind = 0 → g.size ≤ (bytesAt g.name L).length
theorem undo_to (w : World) (B b : Nat) (c : Cst) (L : List (Key × Ent)) (Pf P : List Chg) (g : Chg) (h : DC w B b c L Pf (P ++ [g])) (hs : Undoable L g) :
    Calls Tryd.prog 68 #[.pointer (some ⟨b,0,none⟩), g.val] w (UndoPost w B b c L Pf P g) := by
  obtain ⟨k0, k3⟩ := hs.kind
  by_cases h0 : g.kind = 0
  · have hz := hs.size h0
    have hlo : BOwn w B g.lost g.xs := h.own.lost g (by simp)
    have hsm := hs.small
    clear hs k0 k3
    obtain ⟨kind, name, to, size, was, lost, xs⟩ := g
    simp only at h0
    subst h0
    replace hlo : BOwn w B lost xs := hlo
    obtain ⟨p, cap, rfl⟩ := own_slice hlo
    cases was with
    | true => exact undo_app_true w B b c L Pf P name to size p cap xs h hsm hz
    | false => exact undo_app_false w B b c L Pf P name to size p cap xs h hsm hz
  by_cases h1 : g.kind = 1
  · exact undo_tru w B b c L Pf P g h h1 hs.small
  by_cases h2 : g.kind = 2
  · exact undo_ren w B b c L Pf P g h h2 hs.small
  · exact undo_rem w B b c L Pf P g h (by omega) hs.small
end Go.Proofs.YtemfblhlkonlpaaDoor
