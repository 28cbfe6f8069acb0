/- What the statements' own hand 'one' makes of a raw root. No condition. · The statements' own hands plain, SameInts, SameRoot; which numbers the reference holds fine. No condition. · What the reference's LayRoot answers. Condition: no more than a million lengths. -/
import Derived.Test.YtfneadlknieppaaGreatDoorRootR
import Derived.Test.YtfneadlknieppaaGreatDoorGenPick
import Derived.Deep.CutRange
import Derived.Deep.CutBlock
import Derived.BigQuiet
import Derived.Test.YtfneadlknieppaaGreatDoorOctXv
import Derived.Test.YtfneadlknieppaaGreatDoorFrmX
namespace Go.Proofs.YtfneadlknieppaaGreatDoor
open Go.RowKit
open Go.Maps

/-- A raw root by value. -/
abbrev rwv (x : Rw) (v : Value) : Value := .agg #[.int .i64 x.gen, .int .i64 x.idx, .int .i64 x.how, v]
theorem set4 {w : World} {b : Nat} {x y z g v i : Value} {T : TypeId} (h : w.heap[b]? = some (.cells #[x, y, z] T (0, 0))) : (w.setCell ⟨b, 0, none⟩ g).heap[b]? = some (.cells #[g, y, z] T (0, 0)) ∧ (w.setCell ⟨b, 1, none⟩ v).heap[b]? = some (.cells #[x, v, z] T (0, 0)) ∧ (w.setCell ⟨b, 2, none⟩ i).heap[b]? = some (.cells #[x, y, i] T (0, 0)) :=
  ⟨Lib.heap_setCell_same (i := 0) h g, Lib.heap_setCell_same (i := 1) h v, Lib.heap_setCell_same (i := 2) h i⟩
theorem four_cells {w : World} {b : Nat} {x y z u : Value} {T : TypeId} (h : w.heap[b]? = some (.cells #[x, y, z, u] T (0, 0))) : w.cell? ⟨b, 0, none⟩ = some x ∧ w.cell? ⟨b, 1, none⟩ = some y ∧ w.cell? ⟨b, 2, none⟩ = some z ∧ w.cell? ⟨b, 3, none⟩ = some u :=
  ⟨by rw [cell_of_row w b 0 _ _ _ h]; rfl, by rw [cell_of_row w b 1 _ _ _ h]; rfl, by rw [cell_of_row w b 2 _ _ _ h]; rfl, by rw [cell_of_row w b 3 _ _ _ h]; rfl⟩
/-- The lengths of the first k. -/
def lgs (x : Rw) (k : Nat) : List Int := (x.logs.take k).map (· % 1073741824)
theorem lgs_len (x : Rw) {k : Nat} (h : k ≤ x.logs.length) : (lgs x k).length = k := by unfold lgs; rw [List.length_map, List.length_take]; omega
theorem lgs_snoc (x : Rw) {k : Nat} {y : Int} (h : x.logs[k]? = some y) : lgs x (k + 1) = lgs x k ++ [y % 1073741824] := by unfold lgs; rw [List.take_add_one, h]; simp
/-- 'one' at work. -/
structure On (w wr : World) (x : Rw) (xv : Value) (ls : List Int) (g i : Int) (lv : Value) : Prop where
  box : wr.heap[w.heap.size]? = some (.cells #[.int .i64 x.gen, .int .i64 x.idx, .int .i64 x.how, xv] 31 (0, 0))
  res : wr.heap[w.heap.size + 1]? = some (.cells #[.int .i64 0, .slice none 0 0, .int .i64 0] 45 (0, 0))
  obj : wr.heap[w.heap.size + 2]? = some (.cells #[.int .i64 g, lv, .int .i64 i] 45 (0, 0))
  own : IOwn wr (w.heap.size + 3) lv ls
  bel : Below w.heap.size w wr
section
variable {w wr w1 : World} {x : Rw} {xv lv : Value} {ls : List Int} {g i : Int}
theorem On.drew (h : On w wr x xv ls g i lv) : On w wr.drew x xv ls g i lv := ⟨h.box, h.res, h.obj, own_kb h.own (below_dw (Below.refl _ _)), below_dw h.bel⟩
theorem On.size (h : On w wr x xv ls g i lv) : w.heap.size + 3 ≤ wr.heap.size := lt_of_block h.obj
theorem On.only (h : On w wr x xv ls g i lv) {w' : World} {S : Nat → Prop} (ho : Only S wr w') (hs : ∀ k, S k → w.heap.size + 3 ≤ k) (hl : ∀ k, lv.ownBlock = some k → ¬ S k) : On w w' x xv ls g i lv := by
  refine ⟨(ho.block _ (lt_of_block h.box) (fun e => by have := hs _ e; omega)).trans h.box, (ho.block _ (lt_of_block h.res) (fun e => by have := hs _ e; omega)).trans h.res, (ho.block _ (lt_of_block h.obj) (fun e => by have := hs _ e; omega)).trans h.obj, own_kept h.own ho hl, h.bel.trans (ho.below h.bel.size (fun k e => by have := hs k e; omega))⟩
/-- A field of the root set anew. -/
theorem On.gen (h : On w wr x xv ls g i lv) (a : Int) : On w (wr.setCell ⟨w.heap.size + 2, 0, none⟩ (.int .i64 a)) x xv ls a i lv := by
  have o : Only (fun k => k = w.heap.size + 2) wr (wr.setCell ⟨w.heap.size + 2, 0, none⟩ (.int .i64 a)) := Only.one (S := fun k => k = w.heap.size + 2) (Only.refl _ _) rfl _
  exact ⟨(o.block _ (lt_of_block h.box) (by omega)).trans h.box, (o.block _ (lt_of_block h.res) (by omega)).trans h.res, (set4 h.obj (g := .int .i64 a) (v := lv) (i := lv)).1, own_kept h.own o (fun k hk e => by have := (h.own.lt k hk).1; omega), h.bel.trans (o.below h.bel.size (fun k e => by omega))⟩
theorem On.idx (h : On w wr x xv ls g i lv) (a : Int) : On w (wr.setCell ⟨w.heap.size + 2, 2, none⟩ (.int .i64 a)) x xv ls g a lv := by
  have o : Only (fun k => k = w.heap.size + 2) wr (wr.setCell ⟨w.heap.size + 2, 2, none⟩ (.int .i64 a)) := Only.one (S := fun k => k = w.heap.size + 2) (Only.refl _ _) rfl _
  exact ⟨(o.block _ (lt_of_block h.box) (by omega)).trans h.box, (o.block _ (lt_of_block h.res) (by omega)).trans h.res, (set4 h.obj (g := lv) (v := lv) (i := .int .i64 a)).2.2, own_kept h.own o (fun k hk e => by have := (h.own.lt k hk).1; omega), h.bel.trans (o.below h.bel.size (fun k e => by omega))⟩
theorem On.laid (h : On w wr x xv ls g i lv) {w2 w3 : World} {gg cc H : Nat} {y : Int} (hb : Below wr.heap.size wr w2)
    (own : w3.ownsRow (w.heap.size + 3) 3 1 (.slice (some ⟨gg, 0, none⟩) (ls.length + 1) cc) (ls.length + 1) (iv ls ++ [.int .i64 y])) (grow : w2.grownBy w3 lv.ownBlock) (hat : lv.ownBlock = some gg ∨ gg = H) (hH : wr.heap.size ≤ H) :
    (w3.heap[w.heap.size]? = some (.cells #[.int .i64 x.gen, .int .i64 x.idx, .int .i64 x.how, xv] 31 (0, 0)) ∧ Below w.heap.size w w3) ∧ w3.heap[w.heap.size + 2]? = some (.cells #[.int .i64 g, lv, .int .i64 i] 45 (0, 0)) ∧ On w (w3.setCell ⟨w.heap.size + 2, 1, none⟩ (.slice (some ⟨gg, 0, none⟩) (ls.length + 1) cc)) x xv (ls ++ [y]) g i (.slice (some ⟨gg, 0, none⟩) (ls.length + 1) cc) := by
  have hz := h.size
  have o3 : Only (fun k => lv.ownBlock = some k) wr w3 := Only.grown (Only.of_below hb) grow (fun k _ e => e)
  have hlv : ∀ k, lv.ownBlock = some k → w.heap.size + 3 ≤ k := fun k hk => (h.own.lt k hk).1
  have hgg : w.heap.size + 3 ≤ gg := by
    rcases hat with e | e
    · exact hlv _ e
    · omega
  have hq3 := (o3.block _ (lt_of_block h.obj) (fun e => by have := hlv _ e; omega)).trans h.obj
  have o : Only (fun k => k = w.heap.size + 2) w3 (w3.setCell ⟨w.heap.size + 2, 1, none⟩ (.slice (some ⟨gg, 0, none⟩) (ls.length + 1) cc)) := Only.one (S := fun k => k = w.heap.size + 2) (Only.refl _ _) rfl _
  have o4 : Only (fun k => lv.ownBlock = some k ∨ k = w.heap.size + 2) wr (w3.setCell ⟨w.heap.size + 2, 1, none⟩ (.slice (some ⟨gg, 0, none⟩) (ls.length + 1) cc)) := (o3.mono (fun _ _ e => .inl e)).one (.inr rfl) _
  refine ⟨⟨(o3.block _ (lt_of_block h.box) (fun e => by have := hlv _ e; omega)).trans h.box, h.bel.trans (o3.below h.bel.size (fun k e => by have := hlv _ e; omega))⟩, hq3, (o4.block _ (lt_of_block h.box) ?_).trans h.box, (o4.block _ (lt_of_block h.res) ?_).trans h.res, (set4 hq3 (g := lv) (v := .slice (some ⟨gg, 0, none⟩) (ls.length + 1) cc) (i := lv)).2.1, ?_, h.bel.trans (o4.below h.bel.size ?_)⟩
  · rintro (e | e)
    · have := hlv _ e; omega
    · omega
  · rintro (e | e)
    · have := hlv _ e; omega
    · omega
  · have h1 : IOwn w3 (w.heap.size + 3) (.slice (some ⟨gg, 0, none⟩) (ls.length + 1) cc) (ls ++ [y]) := by
      have e1 : (ls ++ [y]).length = ls.length + 1 := by simp
      unfold IOwn
      rw [e1, show iv (ls ++ [y]) = iv ls ++ [.int .i64 y] from by simp]
      exact own
    exact own_kept h1 o (fun k hk e => by
      simp only [Value.ownBlock, Option.some.injEq] at hk
      omega)
  · rintro k (e | e)
    · have := hlv _ e; omega
    · omega
theorem On.done (h : On w wr x xv ls g i lv) : IOwn (((wr.setCell ⟨w.heap.size + 1, 0, none⟩ (.int .i64 g)).setCell ⟨w.heap.size + 1, 1, none⟩ lv).setCell ⟨w.heap.size + 1, 2, none⟩ (.int .i64 i)) w.heap.size lv ls ∧ Below w.heap.size w (((wr.setCell ⟨w.heap.size + 1, 0, none⟩ (.int .i64 g)).setCell ⟨w.heap.size + 1, 1, none⟩ lv).setCell ⟨w.heap.size + 1, 2, none⟩ (.int .i64 i)) := by
  have o := only3 (Only.refl (fun k => k = w.heap.size + 1) wr) rfl (.int .i64 g) lv (.int .i64 i)
  exact ⟨(own_kept h.own o (fun k hk e => by have := (h.own.lt k hk).1; omega)).mono (by omega), h.bel.trans (o.below h.bel.size (fun k e => by omega))⟩
end
/-- What 'one' answers. -/
def OnePost (w : World) (r : Rt) (e : Ending) (w' : World) : Prop := ∃ v, e = .returned (rtv r.gen v r.idx) ∧ IOwn w' w.heap.size v r.logs ∧ Below w.heap.size w w'
theorem oneR_0 {x : Rw} (h : x.how % 12 = 0) : oneR x = ⟨x.gen, lgs x 9, x.idx % 1000⟩ := if_pos h
theorem oneR_1 {x : Rw} (h : x.how % 12 = 1) : oneR x = ⟨x.gen % 100000, lgs x 9, x.idx⟩ := by unfold oneR; rw [if_neg (by omega), if_pos h]; rfl
theorem oneR_2 {x : Rw} (h : x.how % 12 = 2) : oneR x = ⟨x.gen % 100000, lgs x 9 ++ [x.how], x.idx % 1000⟩ := by unfold oneR; rw [if_neg (by omega), if_neg (by omega), if_pos h]; rfl
theorem oneR_3 {x : Rw} (h0 : ¬ x.how % 12 = 0) (h1 : ¬ x.how % 12 = 1) (h2 : ¬ x.how % 12 = 2) : oneR x = ⟨x.gen % 100000, lgs x 9, x.idx % 1000⟩ := by unfold oneR; rw [if_neg h0, if_neg h1, if_neg h2]; rfl
set_option maxRecDepth 20000 in
set_option maxHeartbeats 8000000 in
theorem one_to (w : World) (x : Rw) (v : Value) (hs : ISeen w v x.logs) : Calls Tryz.prog 16 #[rwv x v] w (OnePost w (oneR x)) := by
  unfold OnePost
  obtain ⟨p, c, rfl, hcell⟩ := hs.form
  obtain ⟨n, hn⟩ : ∃ n, n = x.logs.length := ⟨_, rfl⟩
  rw [← hn]
  have HN := Lib.hid hn
  have HC := Lib.hid hcell
  obtain ⟨i0, hi0, hz0, hz1, hz2⟩ := info_parts iinfo
  clear hs hcell hn
  go_enter Tryz.func16, Tryz.ntmps16
  go_upto_region 1 with fail
  have HX1 : Hid (((w.alloc (.cells #[.int .i64 x.gen, .int .i64 x.idx, .int .i64 x.how, .slice p n c] 31)).alloc (.cells #[.int .i64 0, .slice none 0 0, .int .i64 0] 45)).heap[w.heap.size]? = some (.cells #[.int .i64 x.gen, .int .i64 x.idx, .int .i64 x.how, .slice p n c] 31 (0, 0))) := Lib.hid (by
    rw [Below.heap_alloc _ _ _ (by simp)]; exact heap_alloc_last w _)
  have HR1 : Hid (((w.alloc (.cells #[.int .i64 x.gen, .int .i64 x.idx, .int .i64 x.how, .slice p n c] 31)).alloc (.cells #[.int .i64 0, .slice none 0 0, .int .i64 0] 45)).heap[w.heap.size + 1]? = some (.cells #[.int .i64 0, .slice none 0 0, .int .i64 0] 45 (0, 0))) := Lib.hid (by
    have := heap_alloc_last (w.alloc (.cells #[.int .i64 x.gen, .int .i64 x.idx, .int .i64 x.how, .slice p n c] 31)) (.cells #[.int .i64 0, .slice none 0 0, .int .i64 0] 45)
    rwa [show (w.alloc (.cells #[.int .i64 x.gen, .int .i64 x.idx, .int .i64 x.how, .slice p n c] 31)).heap.size = w.heap.size + 1 from by simp] at this)
  have B1 : Hid (Below w.heap.size w ((w.alloc (.cells #[.int .i64 x.gen, .int .i64 x.idx, .int .i64 x.how, .slice p n c] 31)).alloc (.cells #[.int .i64 0, .slice none 0 0, .int .i64 0] 45))) := Lib.hid (((Below.refl _ w).alloc (Nat.le_refl _) _).alloc (by simp) _)
  have hz : ((w.alloc (.cells #[.int .i64 x.gen, .int .i64 x.idx, .int .i64 x.how, .slice p n c] 31)).alloc (.cells #[.int .i64 0, .slice none 0 0, .int .i64 0] 45)).heap.size = w.heap.size + 2 := by simp
  generalize (w.alloc (.cells #[.int .i64 x.gen, .int .i64 x.idx, .int .i64 x.how, .slice p n c] 31)).alloc (.cells #[.int .i64 0, .slice none 0 0, .int .i64 0] 45) = w1 at HX1 HR1 B1 hz ⊢
  have HZ := Lib.hid hz
  obtain ⟨x0, x1, _, _⟩ := four_cells HX1.out
  have x0d : w1.drew.cell? ⟨w.heap.size, 0, none⟩ = some (.int .i64 x.gen) := x0
  have x1d : w1.drew.cell? ⟨w.heap.size, 1, none⟩ = some (.int .i64 x.idx) := x1
  have x0a : ∀ o, (w1.drew.alloc o).cell? ⟨w.heap.size, 0, none⟩ = some (.int .i64 x.gen) := fun o => by rw [World.cell?_of_block (w := w1) (Below.heap_alloc w1.drew _ _ (lt_of_block HX1.out))]; exact x0
  have x1a : ∀ o, (w1.drew.alloc o).cell? ⟨w.heap.size, 1, none⟩ = some (.int .i64 x.idx) := fun o => by rw [World.cell?_of_block (w := w1) (Below.heap_alloc w1.drew _ _ (lt_of_block HX1.out))]; exact x1
  have hz1' : w1.drew.heap.size = w.heap.size + 2 := hz
  clear x0 x1
  go_cut [3] from 5 to 11 (fun v wx => v = .pointer (some ⟨w.heap.size + 2, 0, none⟩) ∧ Hid (On w wx x (.slice p n c) [] (x.gen % 100000) (x.idx % 1000) (.slice none 0 0)))
  case first =>
    try simp only [List.append]
    refine wp_region_noPanic ?_
    refine wp_region_held_drew (S := (fun W => W.cell? ⟨w.heap.size, 0, none⟩ = some (.int .i64 x.gen) ∧ W.cell? ⟨w.heap.size, 1, none⟩ = some (.int .i64 x.idx))) (by kernel_rfl) ⟨x0d, x1d⟩ (fun hHeld => ?_)
    refine wpAnyH_take (i := 0) (v := ?_) (by simp only [List.getElem?_toArray, List.getElem?_cons_zero]; rfl) (by kernel_rfl) (by kernel_rfl) (by kernel_rfl) (fun _ _ _ h => h) (Or.inl ⟨by rfl, ?_⟩) (by assumption) ?_
    rotate_left
    · intro w hSw
      try dsimp only at hSw
      go_simp
      try with_reducible rfl
    try simp only [Act.put, List.setIfInBounds_toArray, List.set_cons_zero, List.set_cons_succ]
    refine wpAnyH_take (i := 1) (v := ?_) (by simp only [List.getElem?_toArray, List.getElem?_cons_succ, List.getElem?_cons_zero]; rfl) (by kernel_rfl) (by kernel_rfl) (by kernel_rfl) (fun _ _ _ h => h) (Or.inl ⟨by rfl, ?_⟩) (by assumption) ?_
    rotate_left
    · intro w hSw
      try dsimp only at hSw
      go_simp
      try with_reducible rfl
    try simp only [Act.put, List.setIfInBounds_toArray, List.set_cons_zero, List.set_cons_succ]
    refine wpAnyH_take (i := 3) (v := ?_) (by simp only [List.getElem?_toArray, List.getElem?_cons_succ, List.getElem?_cons_zero]; rfl) (by kernel_rfl) (by kernel_rfl) (by kernel_rfl) (fun _ _ _ h => h) (Or.inl ⟨by rfl, ?_⟩) (by assumption) ?_
    rotate_left
    · intro w hSw
      try dsimp only at hSw
      go_simp
      try with_reducible rfl
    try simp only [Act.put, List.setIfInBounds_toArray, List.set_cons_zero, List.set_cons_succ]
    refine wpAnyH_take (i := 4) (v := ?_) (by simp only [List.getElem?_toArray, List.getElem?_cons_succ, List.getElem?_cons_zero]; rfl) (by kernel_rfl) (by kernel_rfl) (by kernel_rfl) (fun _ _ _ h => h) (Or.inl ⟨by rfl, ?_⟩) (by assumption) ?_
    rotate_left
    · intro w hSw
      try dsimp only at hSw
      go_simp
      try with_reducible rfl
    try simp only [Act.put, List.setIfInBounds_toArray, List.set_cons_zero, List.set_cons_succ]
    refine wpAnyH_ready (rs := [2, 7]) (by kernel_rfl) (by simp) ?_
    refine (AllReadyH.cons (by simp only [List.getElem?_toArray, List.getElem?_cons_succ, List.getElem?_cons_zero]; rfl) (fun K hK => ?_) (AllReadyH.cons (by simp only [List.getElem?_toArray, List.getElem?_cons_succ, List.getElem?_cons_zero]; rfl) (fun K hK => ?_) AllReadyH.nil))
    · go_simp
      refine (pick_any _ x.gen 100000 (by decide) (by decide)).mono ?_
      rintro e w' ⟨rfl, rfl⟩
      go_wp2_with fail
      refine hK.out _ _ (by first | exact ⟨x0d, x1d⟩ | exact ⟨x0a _, x1a _⟩) (fun hHeld => ?_)
      clear hK K
      try simp only [Act.put, List.setIfInBounds_toArray, List.set_cons_zero, List.set_cons_succ]
      refine wpAnyH_ready (rs := [5, 7]) (by kernel_rfl) (by simp) ?_
      refine (AllReadyH.cons (by simp only [List.getElem?_toArray, List.getElem?_cons_succ, List.getElem?_cons_zero]; rfl) (fun K hK => ?_) (AllReadyH.cons (by simp only [List.getElem?_toArray, List.getElem?_cons_succ, List.getElem?_cons_zero]; rfl) (fun K hK => ?_) AllReadyH.nil))
      · go_simp
        refine (pick_any _ x.idx 1000 (by decide) (by decide)).mono ?_
        rintro e w' ⟨rfl, rfl⟩
        go_wp2_with fail
        refine hK.out _ _ (by first | exact ⟨x0d, x1d⟩ | exact ⟨x0a _, x1a _⟩) (fun hHeld => ?_)
        clear hK K
        try simp only [Act.put, List.setIfInBounds_toArray, List.set_cons_zero, List.set_cons_succ]
        refine wpAnyH_take (i := 6) (v := ?_) (by simp only [List.getElem?_toArray, List.getElem?_cons_succ, List.getElem?_cons_zero]; rfl) (by kernel_rfl) (by kernel_rfl) (by kernel_rfl) (fun _ _ _ h => h) (Or.inl ⟨by rfl, ?_⟩) (by assumption) ?_
        rotate_left
        · intro w hSw
          try dsimp only at hSw
          go_simp
          try with_reducible rfl
        try simp only [Act.put, List.setIfInBounds_toArray, List.set_cons_zero, List.set_cons_succ]
        refine wpAnyH_ready (rs := [7]) (by kernel_rfl) (by simp) ?_
        refine (AllReadyH.cons (by simp only [List.getElem?_toArray, List.getElem?_cons_succ, List.getElem?_cons_zero]; rfl) (fun K hK => ?_) AllReadyH.nil)
        go_simp
        refine hK.out _ _ (by exact ⟨x0a _, x1a _⟩) (fun hHeld => ?_)
        clear hK K
        try simp only [Act.put, List.setIfInBounds_toArray, List.set_cons_zero, List.set_cons_succ]
        refine wpAnyH_ready (rs := [8]) (by kernel_rfl) (by simp) ?_
        refine (AllReadyH.cons (by simp only [List.getElem?_toArray, List.getElem?_cons_succ, List.getElem?_cons_zero]; rfl) (fun K hK => ?_) AllReadyH.nil)
        go_simp
        refine hK.out _ _ (by exact ⟨x0a _, x1a _⟩) (fun hHeld => ?_)
        clear hK K
        try simp only [Act.put, List.setIfInBounds_toArray, List.set_cons_zero, List.set_cons_succ]
        refine wpAnyH_done (by kernel_rfl) ?_ _
        refine NoPanic.normal ?_
        go_wp2_with fail
        go_meet
        case rel =>
          have B3 : Below w.heap.size w (w1.drew.alloc (.cells #[.int .i64 (x.gen % 100000), .slice none 0 0, .int .i64 (x.idx % 1000)] 45)) := (below_dw B1.out).alloc (B1.out.size) _
          refine ⟨rfl, Lib.hid ⟨(Below.heap_alloc w1.drew _ _ (lt_of_block HX1.out)).trans HX1.out, (Below.heap_alloc w1.drew _ _ (lt_of_block HR1.out)).trans HR1.out, ?_, World.ownsRow_nil _ _ _ _, B3⟩⟩
          have := heap_alloc_last w1.drew (.cells #[.int .i64 (x.gen % 100000), .slice none 0 0, .int .i64 (x.idx % 1000)] 45)
          rwa [hz1'] at this
      · go_simp
        refine hK.out _ _ (by exact ⟨x0a _, x1a _⟩) (fun hHeld => ?_)
        clear hK K
        try simp only [Act.put, List.setIfInBounds_toArray, List.set_cons_zero, List.set_cons_succ]
        refine wpAnyH_ready (rs := [5]) (by kernel_rfl) (by simp) ?_
        refine (AllReadyH.cons (by simp only [List.getElem?_toArray, List.getElem?_cons_succ, List.getElem?_cons_zero]; rfl) (fun K hK => ?_) AllReadyH.nil)
        go_simp
        refine (pick_any _ x.idx 1000 (by decide) (by decide)).mono ?_
        rintro e w' ⟨rfl, rfl⟩
        go_wp2_with fail
        refine hK.out _ _ (by first | exact ⟨x0d, x1d⟩ | exact ⟨x0a _, x1a _⟩) (fun hHeld => ?_)
        clear hK K
        try simp only [Act.put, List.setIfInBounds_toArray, List.set_cons_zero, List.set_cons_succ]
        refine wpAnyH_take (i := 6) (v := ?_) (by simp only [List.getElem?_toArray, List.getElem?_cons_succ, List.getElem?_cons_zero]; rfl) (by kernel_rfl) (by kernel_rfl) (by kernel_rfl) (fun _ _ _ h => h) (Or.inl ⟨by rfl, ?_⟩) (by assumption) ?_
        rotate_left
        · intro w hSw
          try dsimp only at hSw
          go_simp
          try with_reducible rfl
        try simp only [Act.put, List.setIfInBounds_toArray, List.set_cons_zero, List.set_cons_succ]
        refine wpAnyH_ready (rs := [8]) (by kernel_rfl) (by simp) ?_
        refine (AllReadyH.cons (by simp only [List.getElem?_toArray, List.getElem?_cons_succ, List.getElem?_cons_zero]; rfl) (fun K hK => ?_) AllReadyH.nil)
        go_simp
        refine hK.out _ _ (by exact ⟨x0a _, x1a _⟩) (fun hHeld => ?_)
        clear hK K
        try simp only [Act.put, List.setIfInBounds_toArray, List.set_cons_zero, List.set_cons_succ]
        refine wpAnyH_done (by kernel_rfl) ?_ _
        refine NoPanic.normal ?_
        go_wp2_with fail
        go_meet
        case rel =>
          have B3 : Below w.heap.size w (w1.drew.alloc (.cells #[.int .i64 (x.gen % 100000), .slice none 0 0, .int .i64 (x.idx % 1000)] 45)) := (below_dw B1.out).alloc (B1.out.size) _
          refine ⟨rfl, Lib.hid ⟨(Below.heap_alloc w1.drew _ _ (lt_of_block HX1.out)).trans HX1.out, (Below.heap_alloc w1.drew _ _ (lt_of_block HR1.out)).trans HR1.out, ?_, World.ownsRow_nil _ _ _ _, B3⟩⟩
          have := heap_alloc_last w1.drew (.cells #[.int .i64 (x.gen % 100000), .slice none 0 0, .int .i64 (x.idx % 1000)] 45)
          rwa [hz1'] at this
    · go_simp
      refine hK.out _ _ (by exact ⟨x0a _, x1a _⟩) (fun hHeld => ?_)
      clear hK K
      try simp only [Act.put, List.setIfInBounds_toArray, List.set_cons_zero, List.set_cons_succ]
      refine wpAnyH_ready (rs := [2]) (by kernel_rfl) (by simp) ?_
      refine (AllReadyH.cons (by simp only [List.getElem?_toArray, List.getElem?_cons_succ, List.getElem?_cons_zero]; rfl) (fun K hK => ?_) AllReadyH.nil)
      go_simp
      refine (pick_any _ x.gen 100000 (by decide) (by decide)).mono ?_
      rintro e w' ⟨rfl, rfl⟩
      go_wp2_with fail
      refine hK.out _ _ (by first | exact ⟨x0d, x1d⟩ | exact ⟨x0a _, x1a _⟩) (fun hHeld => ?_)
      clear hK K
      try simp only [Act.put, List.setIfInBounds_toArray, List.set_cons_zero, List.set_cons_succ]
      refine wpAnyH_ready (rs := [5]) (by kernel_rfl) (by simp) ?_
      refine (AllReadyH.cons (by simp only [List.getElem?_toArray, List.getElem?_cons_succ, List.getElem?_cons_zero]; rfl) (fun K hK => ?_) AllReadyH.nil)
      go_simp
      refine (pick_any _ x.idx 1000 (by decide) (by decide)).mono ?_
      rintro e w' ⟨rfl, rfl⟩
      go_wp2_with fail
      refine hK.out _ _ (by first | exact ⟨x0d, x1d⟩ | exact ⟨x0a _, x1a _⟩) (fun hHeld => ?_)
      clear hK K
      try simp only [Act.put, List.setIfInBounds_toArray, List.set_cons_zero, List.set_cons_succ]
      refine wpAnyH_take (i := 6) (v := ?_) (by simp only [List.getElem?_toArray, List.getElem?_cons_succ, List.getElem?_cons_zero]; rfl) (by kernel_rfl) (by kernel_rfl) (by kernel_rfl) (fun _ _ _ h => h) (Or.inl ⟨by rfl, ?_⟩) (by assumption) ?_
      rotate_left
      · intro w hSw
        try dsimp only at hSw
        go_simp
        try with_reducible rfl
      try simp only [Act.put, List.setIfInBounds_toArray, List.set_cons_zero, List.set_cons_succ]
      refine wpAnyH_ready (rs := [8]) (by kernel_rfl) (by simp) ?_
      refine (AllReadyH.cons (by simp only [List.getElem?_toArray, List.getElem?_cons_succ, List.getElem?_cons_zero]; rfl) (fun K hK => ?_) AllReadyH.nil)
      go_simp
      refine hK.out _ _ (by exact ⟨x0a _, x1a _⟩) (fun hHeld => ?_)
      clear hK K
      try simp only [Act.put, List.setIfInBounds_toArray, List.set_cons_zero, List.set_cons_succ]
      refine wpAnyH_done (by kernel_rfl) ?_ _
      refine NoPanic.normal ?_
      go_wp2_with fail
      go_meet
      case rel =>
        have B3 : Below w.heap.size w (w1.drew.alloc (.cells #[.int .i64 (x.gen % 100000), .slice none 0 0, .int .i64 (x.idx % 1000)] 45)) := (below_dw B1.out).alloc (B1.out.size) _
        refine ⟨rfl, Lib.hid ⟨(Below.heap_alloc w1.drew _ _ (lt_of_block HX1.out)).trans HX1.out, (Below.heap_alloc w1.drew _ _ (lt_of_block HR1.out)).trans HR1.out, ?_, World.ownsRow_nil _ _ _ _, B3⟩⟩
        have := heap_alloc_last w1.drew (.cells #[.int .i64 (x.gen % 100000), .slice none 0 0, .int .i64 (x.idx % 1000)] 45)
        rwa [hz1'] at this
  case rest =>
    clear x0d x1d x0a x1a hz1' HX1 HR1 B1 HZ
    obtain ⟨rfl, HO⟩ := hcut
    go_wp2_with fail
    go_loopw [4] (fun t wr => ∃ (k : Nat) (lv : Value), k ≤ n ∧ k ≤ 9 ∧ t = .int .i64 k ∧ Hid (On w wr x (.slice p n c) (lgs x k) (x.gen % 100000) (x.idx % 1000) lv)) (fun t _ => 9 - (intOf t).toNat)
    case atStart => exact ⟨0, _, Nat.zero_le _, Nat.zero_le _, rfl, HO⟩
    case round =>
      clear HO
      obtain ⟨k, lv, hkn, hk9, rfl, HO⟩ := hrel
      obtain ⟨_, _, x2, x3⟩ := four_cells HO.out.box
      by_cases hlt : k < n ∧ k < 9
      case pos =>
        obtain ⟨hl1, hl2⟩ := hlt
        have hl1' : (k : Int) < n := by omega
        have hl2' : (k : Int) < 9 := by omega
        obtain ⟨y, hy⟩ : ∃ y, x.logs[k]? = some y := ⟨x.logs[k]'(by rw [← HN.out]; exact hl1), List.getElem?_eq_getElem _⟩
        obtain ⟨a, rfl, hca⟩ := HC.out k y hy
        have HS : Hid (∀ W : World, W.heap[w.heap.size]? = some (.cells #[.int .i64 x.gen, .int .i64 x.idx, .int .i64 x.how, .slice (some a) n c] 31 (0, 0)) → Below w.heap.size w W → W.cell? ⟨w.heap.size, 3, none⟩ = some (.slice (some a) n c) ∧ W.cell? (a.add k) = some (.int .i64 y)) := Lib.hid (fun W h1 h2 => ⟨(four_cells h1).2.2.2, by
          rw [World.cell?_of_block (w := w) (h2.block _ (World.block_lt_of_cell? w _ hca))]; exact hca⟩)
        have HLS := Lib.hid (lgs_snoc x hy)
        have HLL : Hid ((lgs x k).length = k) := Lib.hid (lgs_len x (by rw [← HN.out]; exact hkn))
        obtain ⟨p4, c4, rfl⟩ := own_slice HO.out.own
        rw [HLL.out] at HO
        have OD := Lib.hid HO.out.drew
        have c1d := (three_cells OD.out.obj).2.1
        have OA := Lib.hid (HO.out.only (w' := wr.alloc (.cells #[.int .i64 (y % 1073741824)] 3)) (S := fun _ => False) (Only.of_below ((Below.refl _ _).alloc (Nat.le_refl _) _)) (fun _ h => h.elim) (fun _ _ h => h)).drew
        have c1a := (three_cells OA.out.obj).2.1
        have s0 := HS.out _ OD.out.box OD.out.bel
        have s1 := HS.out _ OA.out.box OA.out.bel
        have HN4 : Hid (∀ j u, ([.int .i64 (y % 1073741824)] : List Value)[j]? = some u → (wr.alloc (.cells #[.int .i64 (y % 1073741824)] 3)).drew.cell? ((⟨wr.heap.size, 0, none⟩ : Addr).add j) = some u) := Lib.hid (World.news_of_block (cs := #[.int .i64 (y % 1073741824)]) (t := 3) (fr := (0, 0)) (heap_alloc_new wr _))
        have HFT := Lib.hid (rdec_fit (j := k) (by omega))
        have HZ3 := Lib.hid HO.out.size
        clear hca hy x2
        go_wp2_with fail
        clear x3
        try simp only [List.append]
        refine wp_region_noPanic ?_
        refine wp_region_held_drew (S := (fun W => W.cell? ⟨w.heap.size, 3, none⟩ = some (.slice (some a) n c) ∧ W.cell? (a.add k) = some (.int .i64 y))) (by kernel_rfl) s0 (fun hHeld => ?_)
        refine wpAnyH_take (i := 0) (v := ?_) (by simp only [List.getElem?_toArray, List.getElem?_cons_zero]; rfl) (by kernel_rfl) (by kernel_rfl) (by kernel_rfl) (fun _ _ _ h => h) (Or.inl ⟨by rfl, ?_⟩) (by assumption) ?_
        rotate_left
        · intro w hSw
          try dsimp only at hSw
          go_simp
          try with_reducible rfl
        try simp only [Act.put, List.setIfInBounds_toArray, List.set_cons_zero, List.set_cons_succ]
        refine wpAnyH_take (i := 2) (v := ?_) (by simp only [List.getElem?_toArray, List.getElem?_cons_succ, List.getElem?_cons_zero]; rfl) (by kernel_rfl) (by kernel_rfl) (by kernel_rfl) (fun _ _ _ h => h) (Or.inl ⟨by rfl, ?_⟩) (by assumption) ?_
        rotate_left
        · intro w hSw
          try dsimp only at hSw
          go_simp
          try with_reducible rfl
        try simp only [Act.put, List.setIfInBounds_toArray, List.set_cons_zero, List.set_cons_succ]
        refine wpAnyH_take (i := 3) (v := ?_) (by simp only [List.getElem?_toArray, List.getElem?_cons_succ, List.getElem?_cons_zero]; rfl) (by kernel_rfl) (by kernel_rfl) (by kernel_rfl) (fun _ _ _ h => h) (Or.inl ⟨by rfl, ?_⟩) (by assumption) ?_
        rotate_left
        · intro w hSw
          try dsimp only at hSw
          go_simp
          try with_reducible rfl
        try simp only [Act.put, List.setIfInBounds_toArray, List.set_cons_zero, List.set_cons_succ]
        refine wpAnyH_take (i := 4) (v := ?_) (by simp only [List.getElem?_toArray, List.getElem?_cons_succ, List.getElem?_cons_zero]; rfl) (by kernel_rfl) (by kernel_rfl) (by kernel_rfl) (fun _ _ _ h => h) (Or.inl ⟨by rfl, ?_⟩) (by assumption) ?_
        rotate_left
        · intro w hSw
          try dsimp only at hSw
          go_simp
          try with_reducible rfl
        try simp only [Act.put, List.setIfInBounds_toArray, List.set_cons_zero, List.set_cons_succ]
        refine wpAnyH_take (i := 5) (v := ?_) (by simp only [List.getElem?_toArray, List.getElem?_cons_succ, List.getElem?_cons_zero]; rfl) (by kernel_rfl) (by kernel_rfl) (by kernel_rfl) (fun _ _ _ h => h) (Or.inl ⟨by rfl, ?_⟩) (by assumption) ?_
        rotate_left
        · intro w hSw
          try dsimp only at hSw
          go_simp
          try with_reducible rfl
        try simp only [Act.put, List.setIfInBounds_toArray, List.set_cons_zero, List.set_cons_succ]
        refine wpAnyH_take (i := 6) (v := ?_) (by simp only [List.getElem?_toArray, List.getElem?_cons_succ, List.getElem?_cons_zero]; rfl) (by kernel_rfl) (by kernel_rfl) (by kernel_rfl) (fun _ _ _ h => h) (Or.inl ⟨by rfl, ?_⟩) (by assumption) ?_
        rotate_left
        · intro w hSw
          try dsimp only at hSw
          go_simp
          try with_reducible rfl
        try simp only [Act.put, List.setIfInBounds_toArray, List.set_cons_zero, List.set_cons_succ]
        refine wpAnyH_ready (rs := [1, 7]) (by kernel_rfl) (by simp) ?_
        refine (AllReadyH.cons (by simp only [List.getElem?_toArray, List.getElem?_cons_succ, List.getElem?_cons_zero]; rfl) (fun K hK => ?_) (AllReadyH.cons (by simp only [List.getElem?_toArray, List.getElem?_cons_succ, List.getElem?_cons_zero]; rfl) (fun K hK => ?_) AllReadyH.nil))
        · go_simp
          refine hK.out _ _ (by first | exact s0 | exact s1) (fun hHeld => ?_)
          clear hK K
          try simp only [Act.put, List.setIfInBounds_toArray, List.set_cons_zero, List.set_cons_succ]
          refine wpAnyH_ready (rs := [7]) (by kernel_rfl) (by simp) ?_
          refine (AllReadyH.cons (by simp only [List.getElem?_toArray, List.getElem?_cons_succ, List.getElem?_cons_zero]; rfl) (fun K hK => ?_) AllReadyH.nil)
          go_simp
          refine (pick_any _ y 1073741824 (by decide) (by decide)).mono ?_
          rintro e w' ⟨rfl, rfl⟩
          go_wp2_with fail
          refine hK.out _ _ (by exact s0) (fun hHeld => ?_)
          clear hK K
          try simp only [Act.put, List.setIfInBounds_toArray, List.set_cons_zero, List.set_cons_succ]
          refine wpAnyH_ready (rs := [8]) (by kernel_rfl) (by simp) ?_
          refine (AllReadyH.cons (by simp only [List.getElem?_toArray, List.getElem?_cons_succ, List.getElem?_cons_zero]; rfl) (fun K hK => ?_) AllReadyH.nil)
          go_simp
          refine hK.out _ _ (by exact s1) (fun hHeld => ?_)
          clear hK K
          try simp only [Act.put, List.setIfInBounds_toArray, List.set_cons_zero, List.set_cons_succ]
          refine wpAnyH_ready (rs := [9]) (by kernel_rfl) (by simp) ?_
          refine (AllReadyH.cons (by simp only [List.getElem?_toArray, List.getElem?_cons_succ, List.getElem?_cons_zero]; rfl) (fun K hK => ?_) AllReadyH.nil)
          refine step_append_lies _ (by rfl) _ _ _ (by rfl) (w.heap.size + 3) 3 i0 _ 1 8 Tryz.underlying29 hi0 hz0 hz1 hz2 rfl (by omega) (.slice p4 k c4) k (iv (lgs x k)) (by rfl) (by have := OA.out.own; unfold IOwn at this; rw [HLL.out] at this; exact this) ⟨wr.heap.size, 0, none⟩ 1 1 [.int .i64 (y % 1073741824)] (by rfl) (by rfl) (fun j u hj => HN4.out j u hj) (by simp [Value.oneCell']) (by decide) HFT.out.1 HFT.out.2 (Nat.le_trans HZ3.out (by simp)) (wr.heap.size + 1) (by simp) ?_
          intro gg cc w5 own5 grow5 hat5 hlt5
          have HL5 := Lib.hid (OA.out.laid (gg := gg) (cc := cc) (w3 := w5) (y := y % 1073741824) (Below.refl _ _) (by rw [HLL.out]; exact own5) grow5 hat5 (by simp))
          rw [HLL.out] at HL5
          have s5 := HS.out w5 HL5.out.1.1 HL5.out.1.2
          have s6 := HS.out _ HL5.out.2.2.box HL5.out.2.2.bel
          obtain ⟨_, c5, _, f5⟩ := three_cells HL5.out.2.1
          clear own5 grow5 hat5 hlt5
          refine hK.out _ _ (by exact s5) (fun hHeld => ?_)
          clear hK K
          try simp only [Act.put, List.setIfInBounds_toArray, List.set_cons_zero, List.set_cons_succ]
          refine wpAnyH_take (i := 10) (v := ?_) (by simp only [List.getElem?_toArray, List.getElem?_cons_succ, List.getElem?_cons_zero]; rfl) (by kernel_rfl) (by kernel_rfl) (by kernel_rfl) (fun _ _ _ h => h) (Or.inl ⟨by rfl, ?_⟩) (by assumption) ?_
          rotate_left
          · intro w hSw
            try dsimp only at hSw
            go_simp
            try with_reducible rfl
          try simp only [Act.put, List.setIfInBounds_toArray, List.set_cons_zero, List.set_cons_succ]
          refine wpAnyH_ready (rs := [11]) (by kernel_rfl) (by simp) ?_
          refine (AllReadyH.cons (by simp only [List.getElem?_toArray, List.getElem?_cons_succ, List.getElem?_cons_zero]; rfl) (fun K hK => ?_) AllReadyH.nil)
          go_simp
          refine hK.out _ _ (by exact s6) (fun hHeld => ?_)
          clear hK K
          try simp only [Act.put, List.setIfInBounds_toArray, List.set_cons_zero, List.set_cons_succ]
          refine wpAnyH_done (by kernel_rfl) ?_ _
          refine NoPanic.normal ?_
          clear s0 s1 s5 s6 c1d c1a c5 f5
          go_wp2_with fail
          refine ⟨⟨k + 1, .slice (some ⟨gg, 0, none⟩) (k + 1) cc, by omega, by omega, by go_num, Lib.hid ?_⟩, by simp [intOf]; omega⟩
          rw [HLS.out]
          exact HL5.out.2.2
        · go_simp
          refine (pick_any _ y 1073741824 (by decide) (by decide)).mono ?_
          rintro e w' ⟨rfl, rfl⟩
          go_wp2_with fail
          refine hK.out _ _ (by exact s0) (fun hHeld => ?_)
          clear hK K
          try simp only [Act.put, List.setIfInBounds_toArray, List.set_cons_zero, List.set_cons_succ]
          refine wpAnyH_ready (rs := [1, 8]) (by kernel_rfl) (by simp) ?_
          refine (AllReadyH.cons (by simp only [List.getElem?_toArray, List.getElem?_cons_succ, List.getElem?_cons_zero]; rfl) (fun K hK => ?_) (AllReadyH.cons (by simp only [List.getElem?_toArray, List.getElem?_cons_succ, List.getElem?_cons_zero]; rfl) (fun K hK => ?_) AllReadyH.nil))
          · go_simp
            refine hK.out _ _ (by first | exact s0 | exact s1) (fun hHeld => ?_)
            clear hK K
            try simp only [Act.put, List.setIfInBounds_toArray, List.set_cons_zero, List.set_cons_succ]
            refine wpAnyH_ready (rs := [8]) (by kernel_rfl) (by simp) ?_
            refine (AllReadyH.cons (by simp only [List.getElem?_toArray, List.getElem?_cons_succ, List.getElem?_cons_zero]; rfl) (fun K hK => ?_) AllReadyH.nil)
            go_simp
            refine hK.out _ _ (by exact s1) (fun hHeld => ?_)
            clear hK K
            try simp only [Act.put, List.setIfInBounds_toArray, List.set_cons_zero, List.set_cons_succ]
            refine wpAnyH_ready (rs := [9]) (by kernel_rfl) (by simp) ?_
            refine (AllReadyH.cons (by simp only [List.getElem?_toArray, List.getElem?_cons_succ, List.getElem?_cons_zero]; rfl) (fun K hK => ?_) AllReadyH.nil)
            refine step_append_lies _ (by rfl) _ _ _ (by rfl) (w.heap.size + 3) 3 i0 _ 1 8 Tryz.underlying29 hi0 hz0 hz1 hz2 rfl (by omega) (.slice p4 k c4) k (iv (lgs x k)) (by rfl) (by have := OA.out.own; unfold IOwn at this; rw [HLL.out] at this; exact this) ⟨wr.heap.size, 0, none⟩ 1 1 [.int .i64 (y % 1073741824)] (by rfl) (by rfl) (fun j u hj => HN4.out j u hj) (by simp [Value.oneCell']) (by decide) HFT.out.1 HFT.out.2 (Nat.le_trans HZ3.out (by simp)) (wr.heap.size + 1) (by simp) ?_
            intro gg cc w5 own5 grow5 hat5 hlt5
            have HL5 := Lib.hid (OA.out.laid (gg := gg) (cc := cc) (w3 := w5) (y := y % 1073741824) (Below.refl _ _) (by rw [HLL.out]; exact own5) grow5 hat5 (by simp))
            rw [HLL.out] at HL5
            have s5 := HS.out w5 HL5.out.1.1 HL5.out.1.2
            have s6 := HS.out _ HL5.out.2.2.box HL5.out.2.2.bel
            obtain ⟨_, c5, _, f5⟩ := three_cells HL5.out.2.1
            clear own5 grow5 hat5 hlt5
            refine hK.out _ _ (by exact s5) (fun hHeld => ?_)
            clear hK K
            try simp only [Act.put, List.setIfInBounds_toArray, List.set_cons_zero, List.set_cons_succ]
            refine wpAnyH_take (i := 10) (v := ?_) (by simp only [List.getElem?_toArray, List.getElem?_cons_succ, List.getElem?_cons_zero]; rfl) (by kernel_rfl) (by kernel_rfl) (by kernel_rfl) (fun _ _ _ h => h) (Or.inl ⟨by rfl, ?_⟩) (by assumption) ?_
            rotate_left
            · intro w hSw
              try dsimp only at hSw
              go_simp
              try with_reducible rfl
            try simp only [Act.put, List.setIfInBounds_toArray, List.set_cons_zero, List.set_cons_succ]
            refine wpAnyH_ready (rs := [11]) (by kernel_rfl) (by simp) ?_
            refine (AllReadyH.cons (by simp only [List.getElem?_toArray, List.getElem?_cons_succ, List.getElem?_cons_zero]; rfl) (fun K hK => ?_) AllReadyH.nil)
            go_simp
            refine hK.out _ _ (by exact s6) (fun hHeld => ?_)
            clear hK K
            try simp only [Act.put, List.setIfInBounds_toArray, List.set_cons_zero, List.set_cons_succ]
            refine wpAnyH_done (by kernel_rfl) ?_ _
            refine NoPanic.normal ?_
            clear s0 s1 s5 s6 c1d c1a c5 f5
            go_wp2_with fail
            refine ⟨⟨k + 1, .slice (some ⟨gg, 0, none⟩) (k + 1) cc, by omega, by omega, by go_num, Lib.hid ?_⟩, by simp [intOf]; omega⟩
            rw [HLS.out]
            exact HL5.out.2.2
          · go_simp
            refine hK.out _ _ (by exact s1) (fun hHeld => ?_)
            clear hK K
            try simp only [Act.put, List.setIfInBounds_toArray, List.set_cons_zero, List.set_cons_succ]
            refine wpAnyH_ready (rs := [1]) (by kernel_rfl) (by simp) ?_
            refine (AllReadyH.cons (by simp only [List.getElem?_toArray, List.getElem?_cons_succ, List.getElem?_cons_zero]; rfl) (fun K hK => ?_) AllReadyH.nil)
            go_simp
            refine hK.out _ _ (by first | exact s0 | exact s1) (fun hHeld => ?_)
            clear hK K
            try simp only [Act.put, List.setIfInBounds_toArray, List.set_cons_zero, List.set_cons_succ]
            refine wpAnyH_ready (rs := [9]) (by kernel_rfl) (by simp) ?_
            refine (AllReadyH.cons (by simp only [List.getElem?_toArray, List.getElem?_cons_succ, List.getElem?_cons_zero]; rfl) (fun K hK => ?_) AllReadyH.nil)
            refine step_append_lies _ (by rfl) _ _ _ (by rfl) (w.heap.size + 3) 3 i0 _ 1 8 Tryz.underlying29 hi0 hz0 hz1 hz2 rfl (by omega) (.slice p4 k c4) k (iv (lgs x k)) (by rfl) (by have := OA.out.own; unfold IOwn at this; rw [HLL.out] at this; exact this) ⟨wr.heap.size, 0, none⟩ 1 1 [.int .i64 (y % 1073741824)] (by rfl) (by rfl) (fun j u hj => HN4.out j u hj) (by simp [Value.oneCell']) (by decide) HFT.out.1 HFT.out.2 (Nat.le_trans HZ3.out (by simp)) (wr.heap.size + 1) (by simp) ?_
            intro gg cc w5 own5 grow5 hat5 hlt5
            have HL5 := Lib.hid (OA.out.laid (gg := gg) (cc := cc) (w3 := w5) (y := y % 1073741824) (Below.refl _ _) (by rw [HLL.out]; exact own5) grow5 hat5 (by simp))
            rw [HLL.out] at HL5
            have s5 := HS.out w5 HL5.out.1.1 HL5.out.1.2
            have s6 := HS.out _ HL5.out.2.2.box HL5.out.2.2.bel
            obtain ⟨_, c5, _, f5⟩ := three_cells HL5.out.2.1
            clear own5 grow5 hat5 hlt5
            refine hK.out _ _ (by exact s5) (fun hHeld => ?_)
            clear hK K
            try simp only [Act.put, List.setIfInBounds_toArray, List.set_cons_zero, List.set_cons_succ]
            refine wpAnyH_take (i := 10) (v := ?_) (by simp only [List.getElem?_toArray, List.getElem?_cons_succ, List.getElem?_cons_zero]; rfl) (by kernel_rfl) (by kernel_rfl) (by kernel_rfl) (fun _ _ _ h => h) (Or.inl ⟨by rfl, ?_⟩) (by assumption) ?_
            rotate_left
            · intro w hSw
              try dsimp only at hSw
              go_simp
              try with_reducible rfl
            try simp only [Act.put, List.setIfInBounds_toArray, List.set_cons_zero, List.set_cons_succ]
            refine wpAnyH_ready (rs := [11]) (by kernel_rfl) (by simp) ?_
            refine (AllReadyH.cons (by simp only [List.getElem?_toArray, List.getElem?_cons_succ, List.getElem?_cons_zero]; rfl) (fun K hK => ?_) AllReadyH.nil)
            go_simp
            refine hK.out _ _ (by exact s6) (fun hHeld => ?_)
            clear hK K
            try simp only [Act.put, List.setIfInBounds_toArray, List.set_cons_zero, List.set_cons_succ]
            refine wpAnyH_done (by kernel_rfl) ?_ _
            refine NoPanic.normal ?_
            clear s0 s1 s5 s6 c1d c1a c5 f5
            go_wp2_with fail
            refine ⟨⟨k + 1, .slice (some ⟨gg, 0, none⟩) (k + 1) cc, by omega, by omega, by go_num, Lib.hid ?_⟩, by simp [intOf]; omega⟩
            rw [HLS.out]
            exact HL5.out.2.2
      case neg =>
        have HO9 : Hid (On w wr x (.slice p n c) (lgs x 9) (x.gen % 100000) (x.idx % 1000) lv) := Lib.hid (by
          have h1 : lgs x k = lgs x 9 := by
            unfold lgs
            by_cases e : k = 9
            · rw [e]
            · rw [List.take_of_length_le (show x.logs.length ≤ k by rw [← HN.out]; omega), List.take_of_length_le (show x.logs.length ≤ 9 by rw [← HN.out]; omega)]
          rw [← h1]; exact HO.out)
        have H9 : Hid ((lgs x 9).length ≤ 9) := Lib.hid (by unfold lgs; rw [List.length_map, List.length_take]; omega)
        clear HO
        obtain ⟨p4, c4, rfl⟩ := own_slice HO9.out.own
        obtain ⟨m, hm⟩ : ∃ m, m = (lgs x 9).length := ⟨_, rfl⟩
        rw [← hm] at HO9 H9
        have HM := Lib.hid hm
        clear hm
        obtain ⟨x0, x1, x2', _⟩ := four_cells HO9.out.box
        obtain ⟨q0, q1, q2, qf⟩ := three_cells HO9.out.obj
        obtain ⟨r0, r1, r2, rf⟩ := three_cells HO9.out.res
        have h4 : x.how % 12 = 0 ∨ x.how % 12 = 1 ∨ x.how % 12 = 2 ∨ (¬ x.how % 12 = 0 ∧ ¬ x.how % 12 = 1 ∧ ¬ x.how % 12 = 2) := by omega
        have hcond : (¬ (k : Int) < n) ∨ ((k : Int) < n ∧ ¬ (k : Int) < 9) := by omega
        clear hlt x2'
        rcases h4 with h4 | h4 | h4 | ⟨h40, h41, h42⟩
        · have HR := Lib.hid (oneR_0 h4)
          have HP := Lib.hid (fun W => pick_to W x.how 12 0 (by decide) (by decide) h4)
          have HG := Lib.hid (HO9.out.gen x.gen)
          obtain ⟨g0, g1, g2, gf⟩ := three_cells HG.out.obj
          clear h4
          rcases hcond with h1 | ⟨h1, h2⟩
          all_goals
            go_wp2_with (go_at_call 5; refine (HP.out _).mono ?_; rintro e w' ⟨rfl, rfl⟩)
            (try simp only [Exit.inBlock, Exit.then])
            refine bodyPost_ret (results_cell_row rfl _ _ (w.heap.size + 1) _ _ (0, 0) _ rfl (set3 HG.out.res) Tryz.underlying45 rfl (by kernel_rfl)) rfl ?_
            rw [HR.out]
            have h := HG.out
            rw [HM.out] at h ⊢
            exact ⟨_, rfl, h.done⟩
        · have HR := Lib.hid (oneR_1 h4)
          have HP := Lib.hid (fun W => pick_to W x.how 12 1 (by decide) (by decide) h4)
          have HG := Lib.hid (HO9.out.idx x.idx)
          obtain ⟨g0, g1, g2, gf⟩ := three_cells HG.out.obj
          clear h4
          rcases hcond with h1 | ⟨h1, h2⟩
          all_goals
            go_wp2_with (go_at_call 5; refine (HP.out _).mono ?_; rintro e w' ⟨rfl, rfl⟩)
            (try simp only [Exit.inBlock, Exit.then])
            refine bodyPost_ret (results_cell_row rfl _ _ (w.heap.size + 1) _ _ (0, 0) _ rfl (set3 HG.out.res) Tryz.underlying45 rfl (by kernel_rfl)) rfl ?_
            rw [HR.out]
            have h := HG.out
            rw [HM.out] at h ⊢
            exact ⟨_, rfl, h.done⟩
        · have HR := Lib.hid (oneR_2 h4)
          have HP := Lib.hid (fun W => pick_to W x.how 12 2 (by decide) (by decide) h4)
          have OA := Lib.hid (HO9.out.only (w' := wr.alloc (.cells #[.int .i64 x.how] 3)) (S := fun _ => False) (Only.of_below ((Below.refl _ _).alloc (Nat.le_refl _) _)) (fun _ h => h.elim) (fun _ _ h => h))
          have HN4 : Hid (∀ j u, ([.int .i64 x.how] : List Value)[j]? = some u → (wr.alloc (.cells #[.int .i64 x.how] 3)).cell? ((⟨wr.heap.size, 0, none⟩ : Addr).add j) = some u) := Lib.hid (World.news_of_block (cs := #[.int .i64 x.how]) (t := 3) (fr := (0, 0)) (heap_alloc_new wr _))
          have HFT := Lib.hid (rdec_fit (j := m) (Nat.le_trans H9.out (by decide)))
          have HZ3 := Lib.hid HO9.out.size
          clear h4
          rcases hcond with h1 | ⟨h1, h2⟩
          all_goals
            go_wp2_with (first | (go_at_call 5; refine (HP.out _).mono ?_; rintro e w' ⟨rfl, rfl⟩) | (at_builtin; refine wpList_append_lies _ (by rfl) _ _ _ (by rfl) (w.heap.size + 3) 3 i0 _ 1 8 Tryz.underlying29 hi0 hz0 hz1 hz2 rfl (by omega) (.slice p4 m c4) m (iv (lgs x 9)) (by rfl) (by have := OA.out.own; unfold IOwn at this; rw [← HM.out] at this; exact this) ⟨wr.heap.size, 0, none⟩ 1 1 [.int .i64 x.how] (by rfl) (by rfl) (fun j u hj => HN4.out j u hj) (by simp [Value.oneCell']) (by decide) HFT.out.1 HFT.out.2 (Nat.le_trans HZ3.out (by simp)) (wr.heap.size + 1) (by simp) ?_; intro gg cc w5 own5 grow5 hat5 hlt5; have HL5 := Lib.hid (OA.out.laid (gg := gg) (cc := cc) (w3 := w5) (y := x.how) (Below.refl _ _) (by rw [← HM.out]; exact own5) grow5 hat5 (by simp)); rw [← HM.out] at HL5; obtain ⟨_, c5, _, f5⟩ := three_cells HL5.out.2.1; obtain ⟨g0, g1, g2, gf⟩ := three_cells HL5.out.2.2.obj; obtain ⟨t0, t1, t2, tf⟩ := three_cells HL5.out.2.2.res; clear own5 grow5 hat5 hlt5))
            (try simp only [Exit.inBlock, Exit.then])
            refine bodyPost_ret (results_cell_row rfl _ _ (w.heap.size + 1) _ _ (0, 0) _ rfl (set3 HL5.out.2.2.res) Tryz.underlying45 rfl (by kernel_rfl)) rfl ?_
            rw [HR.out]
            have h := HL5.out.2.2
            exact ⟨_, rfl, h.done⟩
        · have HR := Lib.hid (oneR_3 h40 h41 h42)
          obtain ⟨hw, hhw⟩ : ∃ z, x.how % 12 = z := ⟨_, rfl⟩
          have HP := Lib.hid (fun W => pick_to W x.how 12 hw (by decide) (by decide) hhw)
          rw [hhw] at h40 h41 h42
          have e0 : (hw == 0) = false := by simpa using h40
          have e1 : (hw == 1) = false := by simpa using h41
          have e2 : (hw == 2) = false := by simpa using h42
          clear hhw h40 h41 h42
          rcases hcond with h1 | ⟨h1, h2⟩
          all_goals
            go_wp2_with (go_at_call 5; refine (HP.out _).mono ?_; rintro e w' ⟨rfl, rfl⟩)
            (try simp only [Exit.inBlock, Exit.then])
            refine bodyPost_ret (results_cell_row rfl _ _ (w.heap.size + 1) _ _ (0, 0) _ rfl (set3 HO9.out.res) Tryz.underlying45 rfl (by kernel_rfl)) rfl ?_
            rw [HR.out]
            have h := HO9.out
            rw [HM.out] at h ⊢
            exact ⟨_, rfl, h.done⟩
end Go.Proofs.YtfneadlknieppaaGreatDoor
namespace Go.Proofs.YtfneadlknieppaaGreatDoor
open Go.RowKit
open Go.Maps

/-- A root of the reference by value lies as one of the program's. -/
theorem plain_to (w : World) (g i : Int) (p : Option Addr) (n c : Nat) : Calls Tryz.prog 19 #[rtv g (.slice p n c) i] w fun e w' => e = .returned (rtv g (.slice p n c) i) ∧ Below w.heap.size w w' := by
  have B2 : Hid (Below w.heap.size w ((w.alloc (.cells #[.int .i64 g, .slice p n c, .int .i64 i] 45)).alloc (.cells #[.int .i64 g, .slice p n c, .int .i64 i] 49))) := Lib.hid (((Below.refl _ w).alloc (Nat.le_refl _) _).alloc (by simp) _)
  have H2 : Hid (((w.alloc (.cells #[.int .i64 g, .slice p n c, .int .i64 i] 45)).alloc (.cells #[.int .i64 g, .slice p n c, .int .i64 i] 49)).heap[w.heap.size + 1]? = some (.cells #[.int .i64 g, .slice p n c, .int .i64 i] 49 (0, 0))) := Lib.hid (heap_alloc2_new w _ _)
  go_enter Tryz.func19, Tryz.ntmps19
  go_wp2_with fail
  (try simp only [Exit.inBlock, Exit.then])
  refine bodyPost_ret (results_cell_row rfl _ _ (w.heap.size + 1) _ _ (0, 0) _ rfl H2.out Tryz.underlying49 rfl (by kernel_rfl)) rfl ?_
  exact ⟨rfl, B2.out⟩
set_option maxRecDepth 20000 in
set_option maxHeartbeats 4000000 in
theorem sameInts_to (w : World) (u v : Value) (l m : List Int) (hl : l.length ≤ 1000000) (hu : ISeen w u l) (hv : ISeen w v m) : Calls Tryz.prog 54 #[u, v] w fun e w' => e = .returned (.bool (decide (l = m))) ∧ Below w.heap.size w w' := by
  obtain ⟨pu, cu, rfl, hcu⟩ := hu.form
  obtain ⟨pv, cv, rfl, hcv⟩ := hv.form
  obtain ⟨n, hn⟩ : ∃ n, n = l.length := ⟨_, rfl⟩
  obtain ⟨k, hk⟩ : ∃ n, n = m.length := ⟨_, rfl⟩
  rw [← hn, ← hk]
  have hn6 : n ≤ 1000000 := by rw [hn]; exact hl
  have HN := Lib.hid hn
  have HK := Lib.hid hk
  have HCU := Lib.hid hcu
  have HCV := Lib.hid hcv
  clear hu hv hcu hcv hn hk hl
  by_cases hnk : n = k
  case neg =>
    have hd : decide (l = m) = false := decide_eq_false (fun e => hnk (by rw [HN.out, HK.out, e]))
    have h1 : ¬ (n : Int) = k := by omega
    rw [hd]
    clear hd hnk
    go_enter Tryz.func54, Tryz.ntmps54
    go_wp2_with fail
    go_ret
    exact ⟨rfl, Below.refl _ _⟩
  case pos =>
    subst hnk
    go_enter Tryz.func54, Tryz.ntmps54
    go_wp2_with fail
    go_loopw [5] (fun t wr => ∃ (j : Nat), j ≤ n ∧ t = .int .i64 j ∧ Hid (l.take j = m.take j) ∧ Hid (Below w.heap.size w wr)) (fun t _ => n - (intOf t).toNat)
    case atStart => exact ⟨0, Nat.zero_le _, rfl, Lib.hid rfl, Lib.hid (Below.refl _ _)⟩
    case round =>
      obtain ⟨j, hj, rfl, HT, HB⟩ := hrel
      by_cases hlt : j < n
      · have hlt' : (j : Int) < n := by omega
        obtain ⟨x, hx⟩ : ∃ x, l[j]? = some x := ⟨l[j]'(by rw [← HN.out]; exact hlt), List.getElem?_eq_getElem _⟩
        obtain ⟨y, hy⟩ : ∃ x, m[j]? = some x := ⟨m[j]'(by rw [← HK.out]; exact hlt), List.getElem?_eq_getElem _⟩
        obtain ⟨a, rfl, hca⟩ := HCU.out j x hx
        obtain ⟨b, rfl, hcb⟩ := HCV.out j y hy
        have ha : ∀ q, (wr.drewN q).cell? (a.add j) = some (.int .i64 x) := fun q => by
          show wr.cell? (a.add j) = _
          rw [World.cell?_of_block (w := w) (HB.out.block _ (World.block_lt_of_cell? w _ hca))]; exact hca
        have hb : ∀ q, (wr.drewN q).cell? (b.add j) = some (.int .i64 y) := fun q => by
          show wr.cell? (b.add j) = _
          rw [World.cell?_of_block (w := w) (HB.out.block _ (World.block_lt_of_cell? w _ hcb))]; exact hcb
        have HX := Lib.hid hx
        have HY := Lib.hid hy
        clear hca hcb hx hy
        by_cases hxy : x = y
        · subst hxy
          have h1 : (x != x) = false := by simp
          go_wp2_with fail
          go_quiet (fail)
          have HB9 : Hid (Below w.heap.size w (wr.drewN nq)) := Lib.hid ⟨HB.out.os, HB.out.tape, HB.out.output, HB.out.size, HB.out.block⟩
          clear ha hb
          generalize wr.drewN nq = W at *
          go_wp2_with fail
          refine ⟨⟨j + 1, by omega, by go_num, Lib.hid ?_, HB9⟩, by simp [intOf]; omega⟩
          rw [List.take_add_one, List.take_add_one, HX.out, HY.out, HT.out]
        · have h1 : (x != y) = true := by simpa using hxy
          have hd : decide (l = m) = false := decide_eq_false (fun e => hxy (by have := HX.out; rw [e, HY.out] at this; exact (Option.some.inj this).symm))
          have HD := Lib.hid hd
          clear hd hxy
          go_wp2_with fail
          go_quiet (fail)
          have HB9 : Hid (Below w.heap.size w (wr.drewN nq)) := Lib.hid ⟨HB.out.os, HB.out.tape, HB.out.output, HB.out.size, HB.out.block⟩
          clear ha hb
          generalize wr.drewN nq = W at *
          go_wp2_with fail
          go_ret
          exact ⟨by rw [HD.out]; rfl, HB9.out⟩
      · have hlt' : ¬ (j : Int) < n := by omega
        have hd : decide (l = m) = true := decide_eq_true (by
          have := HT.out
          rwa [List.take_of_length_le (by rw [← HN.out]; omega), List.take_of_length_le (by rw [← HK.out]; omega)] at this)
        have HD := Lib.hid hd
        clear hd
        go_wp2_with fail
        go_ret
        exact ⟨by rw [HD.out]; rfl, HB.out⟩
/-- Whether two roots are the same. -/
def sameR (a b : Rt) : Bool := decide (a.gen = b.gen) && decide (a.idx = b.idx) && decide (a.logs = b.logs)
theorem sameR_iff {a b : Rt} : sameR a b = true ↔ a = b := by
  unfold sameR
  cases a
  cases b
  simp [and_assoc, and_comm]
theorem sameR_self (a : Rt) : sameR a a = true := sameR_iff.2 rfl
set_option maxRecDepth 20000 in
set_option maxHeartbeats 4000000 in
theorem sameRoot_to (w : World) (g i g' i' : Int) (u v : Value) (l m : List Int) (hl : l.length ≤ 1000000) (hu : ISeen w u l) (hv : ISeen w v m) :
    Calls Tryz.prog 22 #[rtv g u i, rtv g' v i'] w fun e w' => e = .returned (.bool (sameR ⟨g, l, i⟩ ⟨g', m, i'⟩)) ∧ Below w.heap.size w w' := by
  obtain ⟨pu, cu, rfl, _⟩ := hu.form
  obtain ⟨pv, cv, rfl, _⟩ := hv.form
  obtain ⟨n, hn⟩ : ∃ n, n = l.length := ⟨_, rfl⟩
  obtain ⟨k, hk⟩ : ∃ n, n = m.length := ⟨_, rfl⟩
  rw [← hn] at hu ⊢
  rw [← hk] at hv ⊢
  have B2 : Hid (Below w.heap.size w ((w.alloc (.cells #[.int .i64 g, .slice pu n cu, .int .i64 i] 49)).alloc (.cells #[.int .i64 g', .slice pv k cv, .int .i64 i'] 49))) := Lib.hid (((Below.refl _ w).alloc (Nat.le_refl _) _).alloc (by simp) _)
  have HI := Lib.hid (sameInts_to _ _ _ l m hl (hu.kb B2.out) (hv.kb B2.out))
  have e : sameR ⟨g, l, i⟩ ⟨g', m, i'⟩ = (decide (g = g') && decide (i = i') && decide (l = m)) := rfl
  rw [e]
  clear e hu hv hn hk
  by_cases hg : g = g'
  case neg =>
    have h1 : (g == g') = false := by simpa using hg
    rw [decide_eq_false hg]
    clear hg
    go_enter Tryz.func22, Tryz.ntmps22
    go_wp2_with fail
    go_ret
    exact ⟨rfl, B2.out⟩
  subst hg
  have h1 : (g == g) = true := by simp
  rw [decide_eq_true rfl]
  by_cases hi : i = i'
  case neg =>
    have h2 : (i == i') = false := by simpa using hi
    rw [decide_eq_false hi]
    clear hi
    go_enter Tryz.func22, Tryz.ntmps22
    go_wp2_with fail
    go_ret
    exact ⟨rfl, B2.out⟩
  subst hi
  have h2 : (i == i) = true := by simp
  rw [decide_eq_true rfl]
  go_enter Tryz.func22, Tryz.ntmps22
  go_wp2_with (go_at_call 54; refine HI.out.mono ?_; rintro e w' ⟨rfl, R⟩; have HR := Lib.hid R; clear R)
  go_ret
  exact ⟨rfl, B2.out.trans (HR.out.mono B2.out.size)⟩
theorem fine_to (w : World) (n : Int) : Calls Tryz.prog 77 #[.int .i64 n] w fun e w' => e = .returned (.bool (fin n)) ∧ w = w' := by
  unfold fin
  by_cases h1 : 0 ≤ n
  · by_cases h2 : n ≤ 1099511627776
    all_goals
      go_enter Tryz.func77, Tryz.ntmps77
      go_wp2
      go_ret
      simp [h1, h2]
  · have h1' : ¬ n ≥ 0 := h1
    go_enter Tryz.func77, Tryz.ntmps77
    go_wp2
    go_ret
    simp
    omega
end Go.Proofs.YtfneadlknieppaaGreatDoor
namespace Go.Proofs.YtfneadlknieppaaGreatDoor
open Go.RowKit
open Go.Maps

theorem xvar_wro (w W : World) (b : Nat) (xs : List Int) (n : Int) (hn : xs.length < 1000000000) (h : Wro 137 w W b xs) :
    Calls Tryz.prog 78 #[.pointer (some ⟨b,0,none⟩), .int .i64 n] W fun e w' => e = .returned (.tuple #[]) ∧ Wro 137 w w' b (xs ++ vr n) := by
  obtain ⟨v, hv⟩ := h.wr
  refine (xvar_any W b v xs n _ hn hv).mono ?_
  rintro e w' ⟨rfl, h2⟩
  exact ⟨rfl, Wro.step h.bel hv h2⟩
/-- What the reference's LayRoot answers. -/
def XLayPost (w : World) (r : Rt) (e : Ending) (w' : World) : Prop := ∃ v, e = .returned (.tuple #[v, .int .i64 (layR r).1]) ∧ BOwn w' w.heap.size v (layR r).2 ∧ Below w.heap.size w w'
theorem all_snoc {ls : List Int} {j : Nat} {x : Int} (h : ls[j]? = some x) : (ls.take (j + 1)).all fin = ((ls.take j).all fin && fin x) := by rw [List.take_add_one, h]; simp
set_option maxRecDepth 20000 in
set_option maxHeartbeats 8000000 in
theorem xlay_to (w : World) (g i : Int) (v : Value) (ls : List Int) (h : ISeen w v ls) (hl : ls.length ≤ 1000000) :
    Calls Tryz.prog 46 #[rtv g v i] w (XLayPost w ⟨g, ls, i⟩) := by
  unfold XLayPost
  have HS := Lib.hid h
  obtain ⟨p, c, rfl, hcell⟩ := h.form
  obtain ⟨n, hn⟩ : ∃ n, n = ls.length := ⟨_, rfl⟩
  have HC := Lib.hid hcell
  have B1 : Hid (Below w.heap.size w (w.alloc (.cells #[.int .i64 g, .slice p ls.length c, .int .i64 i] 49))) := Lib.hid ((Below.refl _ w).alloc (Nat.le_refl _) _)
  have hx1 := heap_alloc_new w (.cells #[.int .i64 g, .slice p ls.length c, .int .i64 i] 49)
  have hn6 : n ≤ 1000000 := by rw [hn]; exact hl
  rw [← hn] at B1 hx1 ⊢
  have HN := Lib.hid hn
  have HXK : Hid (∀ W, Below (w.heap.size + 1) (w.alloc (.cells #[.int .i64 g, .slice p n c, .int .i64 i] 49)) W → W.cell? ⟨w.heap.size, 0, none⟩ = some (.int .i64 g) ∧ W.cell? ⟨w.heap.size, 1, none⟩ = some (.slice p n c) ∧ W.cell? ⟨w.heap.size, 2, none⟩ = some (.int .i64 i)) := Lib.hid (fun W hb => by
    have := (hb.block _ (Nat.lt_succ_self _)).trans hx1
    exact ⟨by rw [cell_of_row W _ 0 _ _ _ this]; rfl, by rw [cell_of_row W _ 1 _ _ _ this]; rfl, by rw [cell_of_row W _ 2 _ _ _ this]; rfl⟩)
  have HZ1 : Hid ((w.alloc (.cells #[.int .i64 g, .slice p n c, .int .i64 i] 49)).heap.size = w.heap.size + 1) := Lib.hid (by simp)
  have HB0 : Hid (Below (w.heap.size + 1) (w.alloc (.cells #[.int .i64 g, .slice p n c, .int .i64 i] 49)) (w.alloc (.cells #[.int .i64 g, .slice p n c, .int .i64 i] 49))) := Lib.hid (Below.refl _ _)
  have HP0 : Hid (okR ⟨g, ls, i⟩ = (fin g && fin i && decide (n ≤ 8) && ls.all fin)) := Lib.hid (by rw [HN.out]; rfl)
  obtain ⟨pre, hpre⟩ : ∃ z : Bool, z = (fin g && fin i && decide (n ≤ 8)) := ⟨_, rfl⟩
  have HPRE := Lib.hid hpre
  clear h hcell hn hx1 hl
  go_enter Tryz.func46, Tryz.ntmps46
  go_upto_region 1 with fail
  generalize w.alloc (.cells #[.int .i64 g, .slice p n c, .int .i64 i] 49) = w1 at B1 HXK HZ1 HB0 ⊢
  obtain ⟨c0, c1, c2⟩ := HXK.out _ HB0.out
  go_cut [4] from 8 to 21 (fun t wr => t = .bool pre ∧ wr = w1)
  case first =>
    cases hg : fin g with
    | false =>
      go_wp2_with (go_at_call 77; refine (fine_to _ _).mono ?_; rintro e w' ⟨rfl, rfl⟩; rw [hg])
      go_meet
      case rel => exact ⟨by rw [hpre, hg]; rfl, rfl⟩
    | true =>
      cases hi : fin i with
      | false =>
        go_wp2_with (go_at_call 77; refine (fine_to _ _).mono ?_; rintro e w' ⟨rfl, rfl⟩; first | rw [hg] | rw [hi])
        go_meet
        case rel => exact ⟨by rw [hpre, hg, hi]; rfl, rfl⟩
      | true =>
        by_cases h8 : n ≤ 8
        · have h8' : (n : Int) ≤ 8 := by omega
          go_wp2_with (go_at_call 77; refine (fine_to _ _).mono ?_; rintro e w' ⟨rfl, rfl⟩; first | rw [hg] | rw [hi])
          go_meet
          case rel => exact ⟨congrArg Value.bool (by rw [hpre, hg, hi, Bool.true_and, Bool.true_and]; first | exact decide_eq_decide.2 (by omega) | simp [h8]), rfl⟩
        · have h8' : ¬ (n : Int) ≤ 8 := by omega
          go_wp2_with (go_at_call 77; refine (fine_to _ _).mono ?_; rintro e w' ⟨rfl, rfl⟩; first | rw [hg] | rw [hi])
          go_meet
          case rel => exact ⟨congrArg Value.bool (by rw [hpre, hg, hi, Bool.true_and, Bool.true_and]; first | exact decide_eq_decide.2 (by omega) | simp [h8]), rfl⟩
  case rest =>
    obtain ⟨rfl, hw⟩ := hcut
    have HB1 : Hid (Below (w.heap.size + 1) w1 wc) := Lib.hid (by rw [hw]; exact HB0.out)
    clear hpre hw c0 c1 c2
    go_wp2_with fail
    go_loopw [4, 5] (fun t u wr => ∃ (j : Nat) (b : Bool), j ≤ n ∧ u = .int .i64 j ∧ t = .bool b ∧ Hid (b = (pre && (ls.take j).all fin)) ∧ Hid (Below (w.heap.size + 1) w1 wr)) (fun _ u _ => n - (intOf u).toNat)
    case atStart => exact ⟨0, pre, Nat.zero_le _, rfl, rfl, Lib.hid (by simp), HB1⟩
    case round =>
      clear HB1
      obtain ⟨j, b, hj, rfl, rfl, HBB, HB⟩ := hrel
      obtain ⟨c0, c1, c2⟩ := HXK.out _ HB.out
      by_cases hlt : j < n
      case pos =>
        have hlt' : (j : Int) < n := by omega
        obtain ⟨x, hx⟩ : ∃ x, ls[j]? = some x := ⟨ls[j]'(by rw [← HN.out]; exact hlt), List.getElem?_eq_getElem _⟩
        obtain ⟨a, rfl, hca⟩ := HC.out j x hx
        have hc : wr.cell? (a.add j) = some (.int .i64 x) := by
          rw [World.cell?_of_block (w := w) ((B1.out.trans (HB.out.mono (Nat.le_succ _))).block _ (World.block_lt_of_cell? w _ hca))]; exact hca
        have HA := Lib.hid (all_snoc hx)
        clear hca hx
        cases b with
        | false =>
          go_wp2_with fail
          refine ⟨⟨j + 1, false, by omega, by go_num, rfl, Lib.hid ?_, HB⟩, by simp [intOf]; omega⟩
          rw [HA.out, ← Bool.and_assoc, ← HBB.out, Bool.false_and]
        | true =>
          obtain ⟨f, hf⟩ : ∃ f, fin x = f := ⟨_, rfl⟩
          have HF := Lib.hid hf
          have HFI := Lib.hid (fun W => fine_to W x)
          rw [hf] at HFI
          clear hf
          go_wp2_with (go_at_call 77; refine (HFI.out _).mono ?_; rintro e w' ⟨rfl, rfl⟩)
          refine ⟨⟨j + 1, f, by omega, by go_num, rfl, Lib.hid ?_, HB⟩, by simp [intOf]; omega⟩
          rw [HA.out, ← Bool.and_assoc, ← HBB.out, Bool.true_and, HF.out]
      case neg =>
        have hlt' : ¬ (j : Int) < n := by omega
        have HOK : Hid (okR ⟨g, ls, i⟩ = b) := Lib.hid (by
          have h1 := HBB.out
          rw [List.take_of_length_le (by rw [← HN.out]; omega), HPRE.out] at h1
          rw [HP0.out, h1])
        clear HBB hlt hj
        cases b with
        | false =>
          have HR := Lib.hid (layR_no (r := ⟨g, ls, i⟩) (by rw [HOK.out]; decide))
          go_wp2_with fail
          go_ret2
          exact ⟨_, by rw [HR.out]; rfl, by rw [HR.out]; exact World.ownsRow_nil _ _ _ _, B1.out.trans (HB.out.mono (Nat.le_succ _))⟩
        | true =>
          have HR := Lib.hid (layR_yes (r := ⟨g, ls, i⟩) HOK.out)
          have HOI := Lib.hid (okR_iff.1 HOK.out)
          have hn8 : n ≤ 8 := by have := HOI.out.2.2.1; rw [HN.out]; exact this
          have b2 : Below wr.heap.size wr (wr.alloc (.cells #[.slice none 0 0] 137)) := (Below.refl _ wr).alloc (Nat.le_refl _) _
          have W2 : Hid (Wro 137 wr (wr.alloc (.cells #[.slice none 0 0] 137)) wr.heap.size []) := Lib.hid ⟨⟨_, Nat.le_refl _, heap_alloc_last wr _, World.ownsRow_nil _ _ _ _⟩, b2⟩
          have HXW : Hid (∀ W, Below wr.heap.size wr W → W.cell? ⟨w.heap.size, 0, none⟩ = some (.int .i64 g) ∧ W.cell? ⟨w.heap.size, 1, none⟩ = some (.slice p n c) ∧ W.cell? ⟨w.heap.size, 2, none⟩ = some (.int .i64 i)) := Lib.hid (fun W hb => HXK.out W (HB.out.trans (hb.mono (by have h1 := HB.out.size; rw [HZ1.out] at h1; exact h1))))
          have BW : Hid (Below w.heap.size w wr) := Lib.hid (B1.out.trans (HB.out.mono (Nat.le_succ _)))
          obtain ⟨d0, d1, d2⟩ := HXW.out _ b2
          clear b2 HXK HB B1 HZ1 HB0 HPRE HP0
          go_wp2_with fail
          generalize wr.alloc (.cells #[.slice none 0 0] 137) = w2 at W2 d0 d1 d2 ⊢
          obtain ⟨b, hb⟩ : ∃ b, b = wr.heap.size := ⟨_, rfl⟩
          rw [← hb] at W2 ⊢
          have HBW := Lib.hid hb
          clear hb c0 c1 c2 d0 d1 d2
          refine (xvar_wro wr w2 b _ g (by decide) W2.out).mono ?_
          rintro e w3 ⟨rfl, W3'⟩
          have W3 := Lib.hid W3'
          clear W3' W2
          obtain ⟨c0, c1, c2⟩ := HXW.out _ W3.out.bel
          go_wp2_with fail
          refine (xvar_wro wr w3 b _ i (by have := vr_len g; simp only [List.length_append, List.length_nil]; omega) W3.out).mono ?_
          rintro e w4 ⟨rfl, W4'⟩
          have W4 := Lib.hid W4'
          clear W4' W3 c0 c1 c2
          obtain ⟨c0, c1, c2⟩ := HXW.out _ W4.out.bel
          go_wp2_with fail
          refine (xvar_wro wr w4 b _ (n : Int) (by have := vr_len g; have := vr_len i; simp only [List.length_append, List.length_nil]; omega) W4.out).mono ?_
          rintro e w5 ⟨rfl, W5'⟩
          have W5 : Hid (Wro 137 wr w5 b (hdR g i n ++ vrs (ls.take 0))) := Lib.hid (by
            have : hdR g i n ++ vrs (ls.take 0) = [] ++ vr g ++ vr i ++ vr (n : Int) := by simp [hdR, vrs]
            rw [this]; exact W5')
          clear W5' W4 c0 c1 c2
          obtain ⟨wA, rfl⟩ : ∃ wA, wA = wr := ⟨_, rfl⟩
          go_wp2_with fail
          go_loopw [7] (fun k wx => ∃ j : Nat, j ≤ n ∧ k = .int .i64 j ∧ Hid (Wro 137 wA wx b (hdR g i n ++ vrs (ls.take j)))) (fun k _ => n - (intOf k).toNat)
          case atStart => exact ⟨0, Nat.zero_le _, rfl, W5⟩
          case round =>
            clear W5
            obtain ⟨k, hk, rfl, HV⟩ := hrel
            obtain ⟨c0, c1, c2⟩ := HXW.out _ HV.out.bel
            by_cases hlt : k < n
            · have hlt' : (k : Int) < n := by omega
              obtain ⟨x, hx⟩ : ∃ x, ls[k]? = some x := ⟨ls[k]'(by rw [← HN.out]; exact hlt), List.getElem?_eq_getElem _⟩
              obtain ⟨a, rfl, hca⟩ := HC.out k x hx
              have hc : wr.cell? (a.add k) = some (.int .i64 x) := by
                rw [World.cell?_of_block (w := w) ((BW.out.trans (HV.out.bel.mono BW.out.size)).block _ (World.block_lt_of_cell? w _ hca))]; exact hca
              have HT : Hid (vrs (ls.take (k + 1)) = vrs (ls.take k) ++ vr x) := Lib.hid (by rw [List.take_add_one, hx, ← vrs_snoc]; rfl)
              have HLB : Hid ((hdR g i n ++ vrs (ls.take k)).length < 1000000000) := Lib.hid (by
                have h1 := hdR_len g i n
                have h2 := vrs_len (ls.take k)
                have h4 : (ls.take k).length ≤ k := by rw [List.length_take]; exact Nat.min_le_left _ _
                rw [List.length_append]; omega)
              clear hca hx
              go_wp2_with fail
              refine (xvar_wro wA wr b _ x HLB.out HV.out).mono ?_
              rintro e w6 ⟨rfl, W6'⟩
              have W6 := Lib.hid W6'
              clear W6' hc
              go_wp2_with fail
              refine ⟨⟨k + 1, by omega, by go_num, Lib.hid ?_⟩, by simp [intOf]; omega⟩
              rw [HT.out, ← List.append_assoc]
              exact W6.out
            · have hlt' : ¬ (k : Int) < n := by omega
              have W7 : Hid (Wro 137 wA wr b (bodyR ⟨g, ls, i⟩)) := Lib.hid (by
                have := HV.out
                rw [List.take_of_length_le (by rw [← HN.out]; omega)] at this
                rw [bodyR_hd, ← HN.out]
                exact this)
              have HBL : Hid ((bodyR ⟨g, ls, i⟩).length ≤ 110) := Lib.hid (bodyR_len HOI.out.2.2.1)
              clear HV hlt hk
              obtain ⟨v7, hv7⟩ := W7.out.wr
              have hc7 := hv7.cell
              have HV7 := Lib.hid hv7
              obtain ⟨p7, c7, rfl⟩ := own_slice hv7.2.2
              have HF := Lib.hid (xframe_any wr 1 _ _ (by decide) (by decide) (bodyR_ok ⟨g, ls, i⟩) (by have := HBL.out; omega) (Seen.own HV7.out.2.2))
              have B7 := Lib.hid W7.out.bel
              clear hv7 W7
              go_wp2_with fail
              refine HF.out.mono ?_
              rintro e w9 ⟨v9, rfl, o9, b9⟩
              have O9 := Lib.hid o9
              have B9 : Hid (Below w.heap.size w w9) := Lib.hid (BW.out.trans ((B7.out.trans (b9.mono B7.out.size)).mono BW.out.size))
              have HSZ : Hid (w.heap.size ≤ wr.heap.size) := Lib.hid (Nat.le_trans BW.out.size B7.out.size)
              clear o9 b9
              go_wp2_with fail
              go_ret2
              exact ⟨v9, by rw [HR.out]; rfl, by rw [HR.out]; exact O9.out.mono HSZ.out, B9.out⟩
end Go.Proofs.YtfneadlknieppaaGreatDoor
