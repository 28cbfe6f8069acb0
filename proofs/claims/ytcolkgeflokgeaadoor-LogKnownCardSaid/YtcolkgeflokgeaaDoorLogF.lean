/- Delete of the last records; keep. Condition: the log lies so. -/
import Derived.Test.YtcolkgeflokgeaaDoorLogS
import Derived.Test.YtcolkgeflokgeaaDoorLogB
namespace Go.Proofs.YtcolkgeflokgeaaDoor
open Go.RowKit
open Go.Maps

def rzer : Array Value := #[.int .i64 0, .slice none 0 0, .int .i64 0]
theorem rzero (w : World) : (zeroValue 135).run Tryd.prog w = .ok (.agg rzer) w := by kernel_rfl
theorem rz_one (m : Nat) : ∀ u ∈ (Builtin.zeroCells rzer m).toList, u.oneCell' = true := by
  intro u hu
  unfold Builtin.zeroCells at hu
  simp only [Array.toList_map, List.mem_map] at hu
  obtain ⟨i, _, rfl⟩ := hu
  have h : i % 3 = 0 ∨ i % 3 = 1 ∨ i % 3 = 2 := by omega
  rcases h with h | h | h <;> (show (rzer[i % 3]!).oneCell' = true; rw [h]; rfl)
theorem rz_len (m : Nat) : (Builtin.zeroCells rzer m).toList.length = m * 3 := by
  unfold Builtin.zeroCells
  simp [rzer]
theorem clear_rec (w : World) (ty : TypeId) (g o n c : Nat) (hn : 0 < n) (ht : w.there g o (n * 3)) :
    (Builtin.clear_ #[123] ty #[.slice (some ⟨g, o, none⟩) n c]).run Tryd.prog w = .ok (.tuple #[]) (w.setCells g o (Builtin.zeroCells rzer n).toList) := by
  have hst := run_storeCells_cells (P := Tryd.prog) g o (Builtin.zeroCells rzer n).toList 0 w (fun j hj => by
      rw [rz_len] at hj
      have := (ht j hj).1
      rwa [Nat.add_zero]) (fun j hj => by
      rw [rz_len] at hj
      have := (ht j hj).2
      rwa [Nat.add_zero]) (rz_one n)
  simp only [Nat.add_zero] at hst
  obtain ⟨m, rfl⟩ : ∃ m, n = m + 1 := ⟨n - 1, by omega⟩
  have hv := rzero w
  have hzc : (Value.agg rzer).cells = rzer := rfl
  simp [Builtin.clear_, run_underlying Tryd.underlying123, hv, hzc, hst]
theorem append_zero {w : World} {p q : Option Addr} {n cap c : Nat} (hn : n ≤ cap) (ty : TypeId) : (Builtin.append_ #[123, 123] ty #[.slice p n cap, .slice q 0 c]).run Tryd.prog w = .ok (.slice p n cap) w := by
  obtain ⟨i0, hi0, hz0, hz1, hz2⟩ := info_parts rinfo
  cases p <;> cases q <;> simp [Builtin.append_, run_underlying Tryd.underlying123, sizeOf, typeInfo, hi0, Builtin.lenOf, Builtin.firstCells, hn, storeCells, loadCells, loadCellsFrom]
theorem wpList_append_zero {ops : Array Oper} {rest : List Oper} {o : Oper} {a : Act} {w : World} {Q : Exit → Act → World → Prop} (hgd : o.guard = none) (s x : Operand)
    (ho : o.op = .call { callee := .builtin .append, args := #[s, x], argTypes := #[123, 123] }) (p q : Option Addr) (n cap c : Nat) (hs : a.eval s = .slice p n cap) (hx : a.eval x = .slice q 0 c) (hn : n ≤ cap)
    (h : wpList Tryd.prog ops Q rest (a.put o.dst (.slice p n cap)) w) : wpList Tryd.prog ops Q (o :: rest) a w :=
  wpList_plain hgd fun _ hK => by
    have hrun := append_zero (w := w) (p := p) (q := q) (c := c) hn o.type
    unfold Oper.wp
    simp [execOp, ho, resolve, invoke, builtin, hs, hx, hrun, Result.andThen]
    exact hK _ _ h
theorem slice3 (W : World) (p : Option Addr) (n cap i : Nat) (hi : i ≤ n) (hn : n ≤ cap) (hp : p = none → n = 0) : ∃ v, (Instr.slice 123 (.slice p n cap) (some (.int .i64 i)) (some (.int .i64 n)) (some (.int .i64 n))).run Tryd.prog W = .ok v W := by
  obtain ⟨i0, hi0, hz0, hz1, hz2⟩ := info_parts rinfo
  have h1 : (i : Int) ≤ n := by omega
  have h2 : (n : Int) ≤ cap := by omega
  cases p with
  | none =>
    obtain rfl := hp rfl
    obtain rfl : i = 0 := by omega
    exact ⟨_, by simp [Instr.slice, run_underlying Tryd.underlying123, go_sem]; rfl⟩
  | some a => exact ⟨_, by simp [Instr.slice, run_underlying Tryd.underlying123, sizeOf, typeInfo, hi0, go_sem, h2, hi]; rfl⟩
/-- The first records of a row, where cells behind them have turned. -/
theorem RAt.cut {w : World} {B g n cap i : Nat} {E : List Re} (h : RAt w B (.slice (some ⟨g, 0, none⟩) n cap) E) (hn : n = E.length) (hi : i ≤ n) {vs : List Value} (hv : vs.length = (n - i) * 3) :
    RAt (w.setCells g (i * 3) vs) B (.slice (some ⟨g, 0, none⟩) i cap) (E.take i) := by
  subst hn
  have hl : (E.take i).length = i := by rw [List.length_take]; omega
  have hne : ∀ e ∈ E, ¬ e.1.ownBlock = some g := h.row_bod rfl
  have ho : Only (fun k => k = g) w (w.setCells g (i * 3) vs) := Only.setCells (S := fun k => k = g) (b := g) rfl _ _ (Only.refl _ _)
  refine ⟨?_, fun e he => own_kept (h.bod e (List.mem_of_mem_take he)) ho (fun k hk e2 => hne e (List.mem_of_mem_take he) (e2 ▸ hk)), fun e he => h.rok e (List.mem_of_mem_take he), ?_⟩
  · rcases h.row.2 with ⟨h1, _⟩ | ⟨g', cap', cur, h1, h2, h3, h4, h5, h6, h7⟩
    · cases h1
    · cases h1
      have h3' : w.heap[g]? = some (.cells cur.toList.toArray 135 (0, 0)) := by simpa using h3
      have hcs : cur.toList.length = cap * 3 := by rw [Array.length_toList, h6]
      have hb := cells_puts vs (i * 3) cur.toList w h3' (by omega)
      refine ⟨by rw [lrows_length], .inr ⟨g, cap, _, by rw [hl], h2, hb, by rw [hl]; omega, h5, ?_, ?_⟩⟩
      · rw [List.size_toArray, puts_length _ _ _ (by omega), hcs]
      · rw [hl, puts_take _ _ _ (Nat.le_refl _) (by omega), lrows_take, ← h7, List.take_take, Nat.min_eq_left (by omega)]
  · have h1 := h.small
    have e := List.take_append_drop i E
    rw [← e, rcs_app, ends_app] at h1
    omega
def DelPost (w : World) (B : Nat) (p : Option Addr) (cap i : Nat) (E : List Re) (e : Ending) (w' : World) : Prop := e = .returned (.slice p i cap) ∧ RAt w' B (.slice p i cap) (E.take i) ∧ Only (fun k => (Value.slice p i cap).ownBlock = some k) w w'
set_option maxRecDepth 20000 in
set_option maxHeartbeats 4000000 in
theorem delete_to (w : World) (B : Nat) (p : Option Addr) (n cap i : Nat) (E : List Re) (h : RAt w B (.slice p n cap) E) (hn : n = E.length) (hi : i ≤ n) :
    Calls Tryd.prog 87 #[.slice p n cap, .int .i64 i, .int .i64 n] w (DelPost w B p cap i E) := by
  have hcp : n ≤ cap ∧ (p = none → n = 0) := by
    rcases h.row.2 with ⟨h1, h2⟩ | ⟨g, cap', cur, h1, _, _, h3, _⟩
    · injection h1 with e1 e2 e3
      exact ⟨by omega, fun _ => e2⟩
    · injection h1 with e1 e2 e3
      subst e1 e3
      exact ⟨by omega, fun h => by cases h⟩
  obtain ⟨v3, hv3⟩ := slice3 w p n cap i hi hcp.1 hcp.2
  have hmm := h.many
  rw [← hn] at hmm
  have HN := Lib.hid hn
  have H := Lib.hid h
  by_cases he : i = n
  · subst he
    have HT : Hid (E.take i = E) := Lib.hid (List.take_of_length_le (by omega))
    clear h hn hi
    go_enter Tryd.func87, Tryd.ntmps87
    go_wp2
    go_ret
    exact ⟨rfl, by rw [HT.out]; exact H.out, Only.refl _ _⟩
  · obtain ⟨g, rfl⟩ : ∃ g, p = some ⟨g, 0, none⟩ := by
      rcases h.row.2 with ⟨h1, h2⟩ | ⟨g, cap', cur, h1, _⟩
      · injection h1; omega
      · injection h1 with e1 e2 e3
        exact ⟨g, e1⟩
    have hin : i < n := by omega
    have hne : ((i : Int) == (n : Int)) = false := by simp; omega
    have hic : (i : Int) ≤ cap := by omega
    have hnc : (n : Int) ≤ cap := by omega
    have hinn : (i : Int) ≤ n := by omega
    have hi0 : 0 ≤ (i : Int) := by omega
    have hap := fun (W : World) (q : Option Addr) (c : Nat) (ty : TypeId) => append_zero (w := W) (p := some ⟨g, 0, none⟩) (q := q) (n := i) (cap := cap) (c := c) (by omega) ty
    have hth : w.there g (i * 3) ((n - i) * 3) := by
      rcases h.row.2 with ⟨h1, _⟩ | ⟨g', cap', cur, h1, h2, h3, h4, h5, h6, h7⟩
      · cases h1
      · cases h1
        have h3' : w.heap[g]? = some (.cells cur.toList.toArray 135 (0, 0)) := by simpa using h3
        intro j hj
        constructor
        · rw [cell_of_row w g _ _ _ _ h3', List.getElem?_toArray, List.getElem?_eq_getElem (by rw [Array.length_toList, h6]; omega)]; rfl
        · simp [World.frozen?, h3]
    have hcl := fun ty c => clear_rec w.drew ty g (i * 3) (n - i) c (by omega) hth
    have hicN : i ≤ cap := by omega
    have hinN : i ≤ n := by omega
    clear h hn hi hth hap
    by_cases hcn : cap = n
    all_goals
      go_enter Tryd.func87, Tryd.ntmps87
      go_wp2_with fail
      try simp only [List.append]
      refine wp_region_noPanic ?_
      refine wp_region_held_drew (S := (fun _ => True)) (by kernel_rfl) trivial (fun hHeld => ?_)
      refine wpAnyH_take (i := 0) (v := ?_) (by simp only [List.getElem?_toArray, List.getElem?_cons_zero]; rfl) (by kernel_rfl) (by kernel_rfl) (by kernel_rfl) (fun _ _ _ h => h) (Or.inl ⟨by rfl, ?_⟩) (by assumption) ?_
      rotate_left
      · intro w hSw
        try dsimp only at hSw
        go_simp
        try with_reducible rfl
      try simp only [Act.put, List.setIfInBounds_toArray, List.set_cons_zero, List.set_cons_succ]
      refine wpAnyH_take (i := 1) (v := ?_) (by simp only [List.getElem?_toArray, List.getElem?_cons_succ, List.getElem?_cons_zero]; rfl) (by kernel_rfl) (by kernel_rfl) (by kernel_rfl) (fun _ _ _ h => h) (Or.inl ⟨by rfl, ?_⟩) (by assumption) ?_
      rotate_left
      · intro w hSw
        try dsimp only at hSw
        go_simp
        try with_reducible rfl
      try simp only [Act.put, List.setIfInBounds_toArray, List.set_cons_zero, List.set_cons_succ]
      refine wpAnyH_take (i := 2) (v := ?_) (by simp only [List.getElem?_toArray, List.getElem?_cons_succ, List.getElem?_cons_zero]; rfl) (by kernel_rfl) (by kernel_rfl) (by kernel_rfl) (fun _ _ _ h => h) (Or.inl ⟨by rfl, ?_⟩) (by assumption) ?_
      rotate_left
      · intro w hSw
        try dsimp only at hSw
        go_simp
        try with_reducible rfl
      try simp only [Act.put, List.setIfInBounds_toArray, List.set_cons_zero, List.set_cons_succ]
      refine wpAnyH_take (i := 3) (v := ?_) (by simp only [List.getElem?_toArray, List.getElem?_cons_succ, List.getElem?_cons_zero]; rfl) (by kernel_rfl) (by kernel_rfl) (by kernel_rfl) (fun _ _ _ h => h) (Or.inl ⟨by rfl, ?_⟩) (by assumption) ?_
      rotate_left
      · intro w hSw
        try dsimp only at hSw
        go_simp
        try with_reducible rfl
      try simp only [Act.put, List.setIfInBounds_toArray, List.set_cons_zero, List.set_cons_succ]
      refine wpAnyH_take (i := 4) (v := ?_) (by simp only [List.getElem?_toArray, List.getElem?_cons_succ, List.getElem?_cons_zero]; rfl) (by kernel_rfl) (by kernel_rfl) (by kernel_rfl) (fun _ _ _ h => h) (Or.inl ⟨by rfl, ?_⟩) (by assumption) ?_
      rotate_left
      · intro w hSw
        try dsimp only at hSw
        go_simp
        try with_reducible rfl
      try simp only [Act.put, List.setIfInBounds_toArray, List.set_cons_zero, List.set_cons_succ]
      refine wpAnyH_take (i := 5) (v := ?_) (by simp only [List.getElem?_toArray, List.getElem?_cons_succ, List.getElem?_cons_zero]; rfl) (by kernel_rfl) (by kernel_rfl) (by kernel_rfl) (fun _ _ _ h => h) (Or.inl ⟨by rfl, ?_⟩) (by assumption) ?_
      rotate_left
      · intro w hSw
        try dsimp only at hSw
        go_simp
        try with_reducible rfl
      try simp only [Act.put, List.setIfInBounds_toArray, List.set_cons_zero, List.set_cons_succ]
      refine wpAnyH_take (i := 6) (v := ?_) (by simp only [List.getElem?_toArray, List.getElem?_cons_succ, List.getElem?_cons_zero]; rfl) (by kernel_rfl) (by kernel_rfl) (by kernel_rfl) (fun _ _ _ h => h) (Or.inl ⟨by rfl, ?_⟩) (by assumption) ?_
      rotate_left
      · intro w hSw
        try dsimp only at hSw
        go_simp
        try with_reducible rfl
      try simp only [Act.put, List.setIfInBounds_toArray, List.set_cons_zero, List.set_cons_succ]
      refine wpAnyH_take (i := 7) (v := ?_) (by simp only [List.getElem?_toArray, List.getElem?_cons_succ, List.getElem?_cons_zero]; rfl) (by kernel_rfl) (by kernel_rfl) (by kernel_rfl) (fun _ _ _ h => h) (Or.inl ⟨by rfl, ?_⟩) (by assumption) ?_
      rotate_left
      · intro w hSw
        try dsimp only at hSw
        go_simp
        try with_reducible rfl
      try simp only [Act.put, List.setIfInBounds_toArray, List.set_cons_zero]
      refine wpAnyH_done (by kernel_rfl) ?_ _
      refine NoPanic.normal ?_
      go_wp2_with fail
      go_ret
      refine ⟨by first | rfl | (rw [hcn]; rfl), (H.out.kept (w' := w.drew) (T := fun _ => False) ⟨rfl, rfl, rfl, Nat.le_refl _, fun _ _ _ => rfl⟩ (fun _ _ h => h)).cut HN.out hinN (rz_len (n - i)), Only.setCells (S := fun k => (Value.slice (some ⟨g, 0, none⟩) i cap).ownBlock = some k) (b := g) rfl _ _ (Only.refl _ w).drew⟩
theorem lrows_one' : ∀ (a : Nat) (E : List Re), (∀ e ∈ E, e.1.oneCell' = true) → ∀ u ∈ lrows a E, u.oneCell' = true
  | _, [], _, u, hu => by simp [lrows] at hu
  | a, e :: E, h, u, hu => by
    rw [lrows] at hu
    rcases List.mem_append.1 hu with hu | hu
    · exact rrow_one a (h e (List.mem_cons_self ..)) u hu
    · exact lrows_one' _ E (fun x hx => h x (List.mem_cons_of_mem _ hx)) u hu
/-- Behind keep. -/
def KeepPost (w : World) (B l d : Nat) (nm : Key) (rv : Value) (E : List Re) (i : Nat) (e : Ending) (w' : World) : Prop :=
  e = .returned (.tuple #[]) ∧ ∃ rv', LAt w' B l d nm rv' (E.take i) ∧ Only (fun k => k = l ∨ rv.ownBlock = some k) w w' ∧ ∀ k, rv'.ownBlock = some k → (rv.ownBlock = some k ∨ w.heap.size ≤ k) ∧ k < w'.heap.size
theorem keep_end {w w2 : World} {B l d : Nat} {nm : Key} {rv rv2 : Value} {E F : List Re} (h : LAt w B l d nm rv E) (hl : w2.heap[l]? = w.heap[l]?) (h2 : RAt w2 B rv2 F) (ho : Only (fun k => k = l ∨ rv.ownBlock = some k) w w2) (hb : ∀ k, rv2.ownBlock = some k → rv.ownBlock = some k ∨ w.heap.size ≤ k) :
    LAt (w2.setCell ⟨l, 2, none⟩ rv2) B l d nm rv2 F ∧ Only (fun k => k = l ∨ rv.ownBlock = some k) w (w2.setCell ⟨l, 2, none⟩ rv2) ∧ ∀ k, rv2.ownBlock = some k → (rv.ownBlock = some k ∨ w.heap.size ≤ k) ∧ k < (w2.setCell ⟨l, 2, none⟩ rv2).heap.size := by
  have hl2 := hl.trans h.cell
  have hsz : (w2.setCell ⟨l, 2, none⟩ rv2).heap.size = w2.heap.size := by simp [World.setCell]
  have o : Only (fun j => j = l) w2 (w2.setCell ⟨l, 2, none⟩ rv2) := (Only.refl _ _).one (S := fun j => j = l) rfl _
  refine ⟨⟨Lib.heap_setCell_same hl2 _, h2.kept o ?_, h.bl⟩, ho.one (.inl rfl) _, fun k hk => ⟨hb k hk, by rw [hsz]; exact (h2.row.lt k hk).2⟩⟩
  rintro k (hk | ⟨e, he, hk⟩) rfl
  · obtain ⟨cs', hcs⟩ := own_type h2.row hk
    rw [hl2] at hcs
    simp at hcs
  · obtain ⟨cs', hcs⟩ := own_type (h2.bod e he) hk
    rw [hl2] at hcs
    simp at hcs
theorem keep_fits {n : Nat} (h : n ≤ 111111111) : 0 + n ≤ maxLen ∧ (0 + n) * 40 ≤ 140737488355328 := by unfold maxLen; omega
set_option maxRecDepth 20000 in
set_option maxHeartbeats 4000000 in
theorem keep_to (w : World) (B l d : Nat) (nm : Key) (rv : Value) (E : List Re) (i : Nat) (h : LAt w B l d nm rv E) (hi : i ≤ E.length) :
    Calls Tryd.prog 60 #[.pointer (some ⟨l, 0, none⟩), .int .i64 i] w (KeepPost w B l d nm rv E i) := by
  obtain ⟨p, cap, rfl⟩ := h.ra.slice
  obtain ⟨i0, hi0, hz0, hz1, hz2⟩ := info_parts rinfo
  have hmm := h.ra.many
  have c2 := h.c2
  have H := Lib.hid h
  obtain ⟨n, hn⟩ : ∃ n, n = E.length := ⟨_, rfl⟩
  have HN := Lib.hid hn
  have hd := delete_to w.drew B p n cap i E (by rw [hn]; exact h.ra.kept (T := fun _ => False) ⟨rfl, rfl, rfl, Nat.le_refl _, fun _ _ _ => rfl⟩ (fun _ _ h => h)) hn (by omega)
  have HD := Lib.hid hd
  have hcm : cap ≤ maxLen := by
    rcases h.ra.row.2 with ⟨h1, h2⟩ | ⟨g, cap', cur, h1, _, _, _, h5, _⟩
    · injection h1 with e1 e2 e3
      rw [e3]; exact Nat.zero_le _
    · injection h1 with e1 e2 e3
      rw [e3]; exact h5
  have hq : IntKind.i64.wrap ((cap : Int) / 4) = (cap : Int) / 4 := IntWalk.i64_in _ (by unfold maxLen at hcm; omega)
  rw [← hn] at c2 hmm hi ⊢
  clear h hn hd hcm
  go_enter Tryd.func60, Tryd.ntmps60
  go_wp2_with fail
  try simp only [List.append]
  refine wp_region_noPanic ?_
  refine wp_region_held_drew (S := (fun W => W.cell? ⟨l, 2, none⟩ = some (.slice p n cap))) (by kernel_rfl) c2 (fun hHeld => ?_)
  refine wpAnyH_take (i := 0) (v := ?_) (by simp only [List.getElem?_toArray, List.getElem?_cons_zero]; rfl) (by kernel_rfl) (by kernel_rfl) (by kernel_rfl) (fun _ _ _ h => h) (Or.inl ⟨by rfl, ?_⟩) (by assumption) ?_
  rotate_left
  · intro w hSw
    try dsimp only at hSw
    go_simp
    try with_reducible rfl
  try simp only [Act.put, List.setIfInBounds_toArray, List.set_cons_zero, List.set_cons_succ]
  refine wpAnyH_take (i := 1) (v := ?_) (by simp only [List.getElem?_toArray, List.getElem?_cons_succ, List.getElem?_cons_zero]; rfl) (by kernel_rfl) (by kernel_rfl) (by kernel_rfl) (fun _ _ _ h => h) (Or.inl ⟨by rfl, ?_⟩) (by assumption) ?_
  rotate_left
  · intro w hSw
    try dsimp only at hSw
    go_simp
    try with_reducible rfl
  try simp only [Act.put, List.setIfInBounds_toArray, List.set_cons_zero, List.set_cons_succ]
  refine wpAnyH_take (i := 2) (v := ?_) (by simp only [List.getElem?_toArray, List.getElem?_cons_succ, List.getElem?_cons_zero]; rfl) (by kernel_rfl) (by kernel_rfl) (by kernel_rfl) (fun _ _ _ h => h) (Or.inl ⟨by rfl, ?_⟩) (by assumption) ?_
  rotate_left
  · intro w hSw
    try dsimp only at hSw
    go_simp
    try with_reducible rfl
  try simp only [Act.put, List.setIfInBounds_toArray, List.set_cons_zero, List.set_cons_succ]
  refine wpAnyH_take (i := 3) (v := ?_) (by simp only [List.getElem?_toArray, List.getElem?_cons_succ, List.getElem?_cons_zero]; rfl) (by kernel_rfl) (by kernel_rfl) (by kernel_rfl) (fun _ _ _ h => h) (Or.inl ⟨by rfl, ?_⟩) (by assumption) ?_
  rotate_left
  · intro w hSw
    try dsimp only at hSw
    go_simp
    try with_reducible rfl
  try simp only [Act.put, List.setIfInBounds_toArray, List.set_cons_zero, List.set_cons_succ]
  refine wpAnyH_take (i := 4) (v := ?_) (by simp only [List.getElem?_toArray, List.getElem?_cons_succ, List.getElem?_cons_zero]; rfl) (by kernel_rfl) (by kernel_rfl) (by kernel_rfl) (fun _ _ _ h => h) (Or.inl ⟨by rfl, ?_⟩) (by assumption) ?_
  rotate_left
  · intro w hSw
    try dsimp only at hSw
    go_simp
    try with_reducible rfl
  try simp only [Act.put, List.setIfInBounds_toArray, List.set_cons_zero, List.set_cons_succ]
  refine wpAnyH_take (i := 5) (v := ?_) (by simp only [List.getElem?_toArray, List.getElem?_cons_succ, List.getElem?_cons_zero]; rfl) (by kernel_rfl) (by kernel_rfl) (by kernel_rfl) (fun _ _ _ h => h) (Or.inl ⟨by rfl, ?_⟩) (by assumption) ?_
  rotate_left
  · intro w hSw
    try dsimp only at hSw
    go_simp
    try with_reducible rfl
  try simp only [Act.put, List.setIfInBounds_toArray, List.set_cons_zero, List.set_cons_succ]
  refine wpAnyH_take (i := 6) (v := ?_) (by simp only [List.getElem?_toArray, List.getElem?_cons_succ, List.getElem?_cons_zero]; rfl) (by kernel_rfl) (by kernel_rfl) (by kernel_rfl) (fun _ _ _ h => h) (Or.inl ⟨by rfl, ?_⟩) (by assumption) ?_
  rotate_left
  · intro w hSw
    try dsimp only at hSw
    go_simp
    try with_reducible rfl
  try simp only [Act.put, List.setIfInBounds_toArray, List.set_cons_zero, List.set_cons_succ]
  refine wpAnyH_take (i := 7) (v := ?_) (by simp only [List.getElem?_toArray, List.getElem?_cons_succ, List.getElem?_cons_zero]; rfl) (by kernel_rfl) (by kernel_rfl) (by kernel_rfl) (fun _ _ _ h => h) (Or.inl ⟨by rfl, ?_⟩) (by assumption) ?_
  rotate_left
  · intro w hSw
    try dsimp only at hSw
    go_simp
    try with_reducible rfl
  try simp only [Act.put, List.setIfInBounds_toArray, List.set_cons_zero, List.set_cons_succ]
  refine wpAnyH_take (i := 8) (v := ?_) (by simp only [List.getElem?_toArray, List.getElem?_cons_succ, List.getElem?_cons_zero]; rfl) (by kernel_rfl) (by kernel_rfl) (by kernel_rfl) (fun _ _ _ h => h) (Or.inl ⟨by rfl, ?_⟩) (by assumption) ?_
  rotate_left
  · intro w hSw
    try dsimp only at hSw
    go_simp
    try with_reducible rfl
  try simp only [Act.put, List.setIfInBounds_toArray, List.set_cons_zero, List.set_cons_succ]
  refine wpAnyH_take (i := 9) (v := ?_) (by simp only [List.getElem?_toArray, List.getElem?_cons_succ, List.getElem?_cons_zero]; rfl) (by kernel_rfl) (by kernel_rfl) (by kernel_rfl) (fun _ _ _ h => h) (Or.inl ⟨by rfl, ?_⟩) (by assumption) ?_
  rotate_left
  · intro w hSw
    try dsimp only at hSw
    go_simp
    try with_reducible rfl
  try simp only [Act.put, List.setIfInBounds_toArray, List.set_cons_zero, List.set_cons_succ]
  refine wpAnyH_ready (rs := [10]) (by kernel_rfl) (by simp) ?_
  refine AllReadyH.cons (by simp only [List.getElem?_toArray, List.getElem?_cons_succ, List.getElem?_cons_zero]; rfl) (fun K hK => ?_) AllReadyH.nil
  go_simp
  refine HD.out.mono ?_
  rintro e w2 ⟨rfl, r2, o2⟩
  have R2 := Lib.hid r2
  have O2 : Hid (Only (fun k => (Value.slice p i cap).ownBlock = some k) w w2) := Lib.hid ⟨o2.os, o2.tape, o2.output, o2.size, o2.block⟩
  have hlr : ¬ (Value.slice p i cap).ownBlock = some l := by have := H.out.ne_row; cases p <;> exact this
  have HL2 : Hid (w2.heap[l]? = w.heap[l]?) := Lib.hid (o2.block l (lt_of_block H.out.cell) hlr)
  have hl2 := HL2.out.trans H.out.cell
  have c2' : w2.cell? ⟨l, 2, none⟩ = some (.slice p n cap) := by rw [HN.out, cell_of_row w2 l 2 _ _ _ hl2]; rfl
  have f2 : w2.frozen? ⟨l, 2, none⟩ = false := by simp [World.frozen?, hl2]
  have HLT2 := Lib.hid (lt_of_block hl2)
  clear r2 o2 HD hl2 hlr
  go_wp2_with fail
  refine hK.out _ _ c2' (fun hHeld => ?_)
  clear hK K
  try simp only [Act.put, List.setIfInBounds_toArray, List.set_cons_zero, List.set_cons_succ]
  refine wpAnyH_take (i := 11) (v := ?_) (by simp only [List.getElem?_toArray, List.getElem?_cons_succ, List.getElem?_cons_zero]; rfl) (by kernel_rfl) (by kernel_rfl) (by kernel_rfl) (fun _ _ _ h => h) (Or.inl ⟨by rfl, ?_⟩) (by assumption) ?_
  rotate_left
  · intro w hSw
    try dsimp only at hSw
    go_simp
    try with_reducible rfl
  try simp only [Act.put, List.setIfInBounds_toArray, List.set_cons_zero, List.set_cons_succ]
  refine wpAnyH_done (by kernel_rfl) ?_ _
  refine NoPanic.normal ?_
  have HO2 : Hid (Only (fun k => k = l ∨ (Value.slice p n cap).ownBlock = some k) w w2) := Lib.hid (O2.out.mono (fun k _ e => by cases p with | none => simp [Value.ownBlock] at e | some a => exact .inr e))
  by_cases hsm : (i : Int) < (cap : Int) / 4
  case' neg =>
    clear c2 c2'
    go_wp2_with fail
    go_end0
    have hk := keep_end (rv := .slice p n cap) (by have := H.out; rw [← HN.out] at this; exact this) HL2.out R2.out HO2.out (fun k hk => by cases p with | none => simp [Value.ownBlock] at hk | some a => exact .inl hk)
    exact ⟨rfl, _, hk⟩
  case' pos =>
    by_cases hi1 : i = 0
    case' pos =>
      subst hi1
      clear c2 c2'
      go_wp2_with (at_builtin; refine wpList_append_zero (by rfl) _ _ (by rfl) none p 0 0 cap (by rfl) (by rfl) (Nat.le_refl _) ?_)
      go_end0
      have hk := keep_end (rv := .slice p n cap) (rv2 := .slice none 0 0) (by have := H.out; rw [← HN.out] at this; exact this) HL2.out (RAt.nil w2 B) HO2.out (fun k hk => by simp [Value.ownBlock] at hk)
      exact ⟨rfl, _, hk⟩
    case' neg =>
      have hi2 : 0 < i := by omega
      obtain ⟨g, hg⟩ : ∃ g, p = some ⟨g, 0, none⟩ := by
        rcases R2.out.row.2 with ⟨h1, h2⟩ | ⟨g, cap', cur, h1, _⟩
        · rw [List.length_take] at h2
          have := HN.out
          omega
        · injection h1 with e1 e2 e3
          exact ⟨g, e1⟩
      subst hg
      have hlt : (E.take i).length = i := by rw [List.length_take, ← HN.out]; omega
      have HFT := Lib.hid (keep_fits (n := i) (by omega))
      have HNW : Hid (∀ j u, (lrows 0 (E.take i))[j]? = some u → w2.cell? ((⟨g, 0, none⟩ : Addr).add j) = some u) := Lib.hid (fun j u hj => R2.out.row.cells (g := g) rfl j u hj)
      have HLL : Hid ((lrows 0 (E.take i)).length = i * 3) := Lib.hid (by rw [lrows_length, hlt])
      have HON : Hid (∀ u ∈ lrows 0 (E.take i), u.oneCell' = true) := Lib.hid (lrows_one' 0 _ (fun e he => own_one (R2.out.bod e he)))
      have HB2 : Hid (B ≤ w2.heap.size) := Lib.hid (Nat.le_trans H.out.bl (Nat.le_of_lt (Nat.lt_of_lt_of_le (lt_of_block H.out.cell) HO2.out.size)))
      have HTL := Lib.hid hlt
      clear c2 c2' f2 hi1 hlt
      go_wp2_with (at_builtin; refine wpList_append_lies _ (by rfl) _ _ _ (by rfl) B 135 i0 _ 3 40 Tryd.underlying123 hi0 hz0 hz1 hz2 rfl (by omega) (.slice none 0 0) 0 [] (by rfl) (World.ownsRow_nil _ _ _ _) ⟨g, 0, none⟩ i cap (lrows 0 (E.take i)) (by rfl) HLL.out HNW.out HON.out hi2 HFT.out.1 HFT.out.2 HB2.out _ rfl ?_; intro gg cc w3 own3 grow3 hat3 hlt3; have O3 := Lib.hid own3; have G3 : Hid (Only (fun _ => False) w2 w3) := Lib.hid ((Only.refl _ _).grown grow3 (fun k _ e => by simp [Value.ownBlock] at e)); have A3 := Lib.hid hat3; have hl3 := (G3.out.block l HLT2.out (fun h => h)).trans (HL2.out.trans H.out.cell); have c3 : w3.cell? ⟨l, 2, none⟩ = some (.slice (some ⟨g, 0, none⟩) n cap) := (by rw [HN.out, cell_of_row w3 l 2 _ _ _ hl3]; rfl); have f3 : w3.frozen? ⟨l, 2, none⟩ = false := (by simp [World.frozen?, hl3]); clear own3 grow3 hat3 hlt3 hl3)
      go_end0
      have h3 : RAt w3 B (.slice (some ⟨gg, 0, none⟩) i cc) (E.take i) := {
        row := by have := O3.out; rw [HTL.out]; simpa only [Nat.zero_add, List.nil_append] using this
        bod := fun e he => own_kept (R2.out.bod e he) G3.out (fun _ _ h => h)
        rok := R2.out.rok
        small := R2.out.small }
      have hk := keep_end (rv := .slice (some ⟨g, 0, none⟩) n cap) (by have := H.out; rw [← HN.out] at this; exact this) ((G3.out.block l HLT2.out (fun h => h)).trans HL2.out) h3 (HO2.out.trans G3.out (fun _ h => h) (fun _ _ h => h.elim)) (fun k hk => by
        simp only [Value.ownBlock, Option.some.injEq] at hk
        subst hk
        rcases A3.out with e | e
        · simp [Value.ownBlock] at e
        · exact .inr (by rw [e]; exact HO2.out.size))
      exact ⟨rfl, _, hk⟩
end Go.Proofs.YtcolkgeflokgeaaDoor
