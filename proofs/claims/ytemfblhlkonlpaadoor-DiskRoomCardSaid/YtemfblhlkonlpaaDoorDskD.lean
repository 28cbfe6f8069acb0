/- How a disk lies in memory: its struct, the map of its files, what is pending. No condition. -/
import Derived.Test.YtemfblhlkonlpaaDoorDskM
import Derived.Lib.BufferMore
namespace Go.Proofs.YtemfblhlkonlpaaDoor
open Go.RowKit
open Go.Maps

/-- An error of the project, by its number. -/
abbrev eno (k : Int) : Value := .iface 29 (.int .i64 k)
/-- An error's value; 0: none. -/
def enoOf (k : Int) : Value := if k = 0 then .nilIface else eno k
abbrev stv (n : Key) : Value := .string ⟨n.toArray⟩

/-- What the struct's cells hold. -/
structure Cst where
  room : Int
  mb : Nat
  used : Int
  pv : Value
  fuse : Int
  dead : Bool
  works : Int
def DAt (w : World) (b : Nat) (c : Cst) : Prop :=
  w.heap[b]? = some (.cells #[.int .i64 c.room, .map (some c.mb), .int .i64 c.used, c.pv, .int .i64 c.fuse, .bool c.dead, .int .i64 c.works] 122 (0, 0))
section
variable {w w' : World} {b : Nat} {c : Cst}
theorem DAt.lt (h : DAt w b c) : b < w.heap.size := lt_of_block h
theorem DAt.c0 (h : DAt w b c) : w.cell? ⟨b, 0, none⟩ = some (.int .i64 c.room) := by rw [cell_of_row w b 0 _ _ _ h]; rfl
theorem DAt.c1 (h : DAt w b c) : w.cell? ⟨b, 1, none⟩ = some (.map (some c.mb)) := by rw [cell_of_row w b 1 _ _ _ h]; rfl
theorem DAt.c2 (h : DAt w b c) : w.cell? ⟨b, 2, none⟩ = some (.int .i64 c.used) := by rw [cell_of_row w b 2 _ _ _ h]; rfl
theorem DAt.c3 (h : DAt w b c) : w.cell? ⟨b, 3, none⟩ = some c.pv := by rw [cell_of_row w b 3 _ _ _ h]; rfl
theorem DAt.c4 (h : DAt w b c) : w.cell? ⟨b, 4, none⟩ = some (.int .i64 c.fuse) := by rw [cell_of_row w b 4 _ _ _ h]; rfl
theorem DAt.c5 (h : DAt w b c) : w.cell? ⟨b, 5, none⟩ = some (.bool c.dead) := by rw [cell_of_row w b 5 _ _ _ h]; rfl
theorem DAt.c6 (h : DAt w b c) : w.cell? ⟨b, 6, none⟩ = some (.int .i64 c.works) := by rw [cell_of_row w b 6 _ _ _ h]; rfl
theorem DAt.fz (h : DAt w b c) (i : Nat) : w.frozen? ⟨b, i, none⟩ = false := by
  have h' : w.heap[b]? = some _ := h
  simp [World.frozen?, h']
theorem DAt.set2 (h : DAt w b c) (u : Int) : DAt (w.setCell ⟨b, 2, none⟩ (.int .i64 u)) b { c with used := u } := Lib.heap_setCell_same h _
theorem DAt.set3 (h : DAt w b c) (v : Value) : DAt (w.setCell ⟨b, 3, none⟩ v) b { c with pv := v } := Lib.heap_setCell_same h _
theorem DAt.set4 (h : DAt w b c) (u : Int) : DAt (w.setCell ⟨b, 4, none⟩ (.int .i64 u)) b { c with fuse := u } := Lib.heap_setCell_same h _
theorem DAt.set5 (h : DAt w b c) (u : Bool) : DAt (w.setCell ⟨b, 5, none⟩ (.bool u)) b { c with dead := u } := Lib.heap_setCell_same h _
theorem DAt.set6 (h : DAt w b c) (u : Int) : DAt (w.setCell ⟨b, 6, none⟩ (.int .i64 u)) b { c with works := u } := Lib.heap_setCell_same h _
theorem DAt.kept {S : Nat → Prop} (h : DAt w b c) (ho : Only S w w') (hb : ¬ S b) : DAt w' b c := (ho.block b h.lt hb).trans h
theorem DAt.kb (h : DAt w b c) (hb : Below w.heap.size w w') : DAt w' b c := h.kept (S := fun _ => False) (Only.of_below hb) (fun h => h)
theorem Only.one {a : World} {S : Nat → Prop} (h : Only S a w) {b i : Nat} (hb : S b) (v : Value) : Only S a (w.setCell ⟨b, i, none⟩ v) := h.setCell (p := ⟨b, i, none⟩) hb v
end

/-- The keys' law and the elements' zero. -/
theorem skeyed : Keyed Tryd.prog 9 := string_keyed Tryd.underlying9
theorem szero (w : World) : (zeroValue 70).run Tryd.prog w = .ok (.slice none 0 0) w := by kernel_rfl
theorem rdv_nil : rdv (.slice none 0 0) = some (.held (.slice none 0 0), []) := rfl
theorem skey (n : Key) (h : n.length ≤ maxLen) : keyOf Tryd.prog 9 (stv n) = some (.string n) := by
  have h1 := WideMaps.keyOf_string_mk (s := ⟨n.toArray⟩) Tryd.underlying9 (by exact h)
  simpa using h1

/-- Block mb is the map of the files L. -/
def MAt (w : World) (mb : Nat) (L : List (Key × Ent)) : Prop := w.ownsMap Tryd.prog 9 rdv mb L.length (mapOf L)
theorem fold_len : ∀ l : List (Lit × DataW Value), (l.foldr DataW.insert []).length = l.length := length_sorted
theorem MAt.of {w : World} {mb n : Nat} {L : List (Key × Ent)} (h : w.ownsMap Tryd.prog 9 rdv mb n (mapOf L)) : MAt w mb L := by
  obtain ⟨es, clock, h1, h2, _, h4⟩ := h
  refine ⟨es, clock, h1, h2, ?_, h4⟩
  have h5 : (mapOf L) = _ := h4
  unfold mapOf at h5
  have h6 := congrArg List.length (DataW.map.inj h5)
  rw [length_sorted] at h6
  simp at h6
  omega
section
variable {w w' : World} {mb : Nat} {L : List (Key × Ent)}
theorem MAt.lt (h : MAt w mb L) : mb < w.heap.size := World.ownsMap.lt h
theorem MAt.kept {S : Nat → Prop} (h : MAt w mb L) (ho : Only S w w') (hb : ¬ S mb) : MAt w' mb L := by
  obtain ⟨es, clock, h1, h2⟩ := h
  exact ⟨es, clock, (ho.block mb (Array.getElem?_eq_some_iff.1 h1).1 hb).trans h1, h2⟩
theorem MAt.kb (h : MAt w mb L) (hb : Below w.heap.size w w') : MAt w' mb L := h.kept (S := fun _ => False) (Only.of_below hb) (fun h => h)
/-- Which slice a name has; nil where there is none. -/
def valAt (n : Key) (L : List (Key × Ent)) : Value := match aget n L with | some x => x.1 | none => .slice none 0 0
def bytesAt (n : Key) (L : List (Key × Ent)) : List Int := match aget n L with | some x => x.2 | none => []
theorem MAt.look (h : MAt w mb L) (n : Key) (hn : n.length ≤ maxLen) : (Instr.lookup 119 (.map (some mb)) (stv n) false).run Tryd.prog w = .ok (valAt n L) w := by
  obtain ⟨v, ps, hrun, hv⟩ := World.ownsMap.lookup h skeyed Tryd.underlying119 (szero w) rdv_nil (skey n hn)
  rw [mapOf_at] at hv
  have e := congrArg Prod.fst (Option.some.inj hv)
  simp only [DataW.held.injEq] at e
  rw [hrun, e]; rfl
theorem MAt.lookOk (h : MAt w mb L) (n : Key) (hn : n.length ≤ maxLen) : (Instr.lookup 119 (.map (some mb)) (stv n) true).run Tryd.prog w = .ok (.tuple #[valAt n L, .bool (aget n L).isSome]) w := by
  obtain ⟨v, ps, hrun, hv⟩ := World.ownsMap.look_ok h skeyed Tryd.underlying119 (szero w) rdv_nil (skey n hn)
  rw [mapOf_at] at hv
  rw [mapOf_has] at hrun
  have e := congrArg Prod.fst (Option.some.inj hv)
  simp only [DataW.held.injEq] at e
  rw [hrun, e]; rfl
theorem MAt.store (h : MAt w mb L) (n : Key) (hn : n.length ≤ maxLen) (hl : L.length < maxLen) (v : Value) (xs : List Int) :
    ∃ w', (Instr.mapUpdate 119 (.map (some mb)) (stv n) v).run Tryd.prog w = .ok () w' ∧ MAt w' mb (aput n (v, xs) L) ∧ Only (fun k => k = mb) w w' := by
  obtain ⟨w', hrun, h1, h2⟩ := World.ownsMap.update h skeyed Tryd.underlying119 hl (skey n hn) (R := rdv) (val := v) rfl
  rw [mapOf_put n v xs] at h1
  exact ⟨w', hrun, MAt.of h1, (Only.refl _ w).grown h2 (fun k _ e => by cases e; rfl)⟩
theorem MAt.drop (h : MAt w mb L) (n : Key) (hn : n.length ≤ maxLen) (ty : TypeId) :
    ∃ w', (Builtin.delete_ #[119, 9] ty #[.map (some mb), stv n]).run Tryd.prog w = .ok (.tuple #[]) w' ∧ MAt w' mb (adel n L) ∧ Only (fun k => k = mb) w w' := by
  obtain ⟨w', hrun, h1, h2⟩ := World.ownsMap.drop h skeyed Tryd.underlying119 (skey n hn) ty
  rw [mapOf_del] at h1
  exact ⟨w', hrun, MAt.of h1, (Only.refl _ w).grown h2.grown (fun k _ e => by cases e; rfl)⟩
end

/-- A pending change. -/
structure Chg where
  kind : Int
  name : Key
  to : Key
  size : Nat
  was : Bool
  lost : Value
  xs : List Int
def Chg.row (c : Chg) : List Value := [.int .i64 c.kind, stv c.name, stv c.to, .int .i64 c.size, .bool c.was, c.lost]
def crows (P : List Chg) : List Value := P.flatMap Chg.row
theorem crows_length : ∀ P, (crows P).length = P.length * 6
  | [] => rfl
  | c :: P => by
    have := crows_length P
    unfold crows at this ⊢
    rw [List.flatMap_cons, List.length_append, this]; simp [Chg.row]; omega
/-- pv is the slice of the pending changes P. -/
abbrev PAt (w : World) (B : Nat) (pv : Value) (P : List Chg) : Prop := w.ownsRow B 126 6 pv P.length (crows P)
theorem own_kept {w w' : World} {B e size n : Nat} {v : Value} {xs : List Value} {S : Nat → Prop} (h : w.ownsRow B e size v n xs) (ho : Only S w w') (hS : ∀ k, v.ownBlock = some k → ¬ S k) : w'.ownsRow B e size v n xs := by
  refine ⟨h.1, ?_⟩
  rcases h.2 with h1 | ⟨g, cap, cur, rfl, h2, hg, h3⟩
  · exact .inl h1
  · exact .inr ⟨g, cap, cur, rfl, h2, (ho.block g (Array.getElem?_eq_some_iff.1 hg).1 (hS g rfl)).trans hg, h3⟩
theorem own_slice {w : World} {B e size n : Nat} {v : Value} {xs : List Value} (h : w.ownsRow B e size v n xs) : ∃ p cap, v = .slice p n cap := by
  rcases h.2 with ⟨rfl, rfl⟩ | ⟨g, cap, cur, rfl, _⟩
  · exact ⟨none, 0, rfl⟩
  · exact ⟨_, _, rfl⟩
theorem own_type {w : World} {B e size n : Nat} {v : Value} {xs : List Value} (h : w.ownsRow B e size v n xs) {k : Nat} (hk : v.ownBlock = some k) : ∃ cs, w.heap[k]? = some (.cells cs e (0, 0)) := by
  rcases h.2 with ⟨rfl, _⟩ | ⟨g, cap, cur, rfl, h2, hg, h3⟩
  · simp [Value.ownBlock] at hk
  · simp [Value.ownBlock] at hk; subst hk; exact ⟨_, hg⟩
/-- A slice of bytes that the call owns. -/
abbrev BOwn (w : World) (B : Nat) (v : Value) (xs : List Int) : Prop := w.ownsRow B 5 1 v xs.length (us xs)
/-- Every file and every lost piece owns its bytes. -/
structure Own (w : World) (B : Nat) (L : List (Key × Ent)) (P : List Chg) : Prop where
  file : ∀ e ∈ L, BOwn w B e.2.1 e.2.2
  lost : ∀ c ∈ P, BOwn w B c.lost c.xs
/-- Whether v lies in block k. -/
def own1 (k : Nat) (v : Value) : Nat := if v.ownBlock = some k then 1 else 0
def cntL (k : Nat) (L : List (Key × Ent)) : Nat := asum (fun x => own1 k x.1) L
def cntP (k : Nat) (P : List Chg) : Nat := (P.map fun c => own1 k c.lost).sum
/-- No two of them lie in one block. -/
def Sep (L : List (Key × Ent)) (P : List Chg) : Prop := ∀ k, cntL k L + cntP k P ≤ 1
theorem own1_nil (k : Nat) : own1 k (.slice none 0 0) = 0 := by simp [own1, Value.ownBlock]
theorem own1_self {k : Nat} {v : Value} (h : v.ownBlock = some k) : own1 k v = 1 := by simp [own1, h]
theorem own1_le (k : Nat) (v : Value) : own1 k v ≤ 1 := by unfold own1; split <;> omega
theorem olen_val (k : Nat) (n : Key) (L : List (Key × Ent)) : olen (fun x : Ent => own1 k x.1) (aget n L) = own1 k (valAt n L) := by
  unfold valAt; cases aget n L with
  | none => rw [olen, own1_nil]
  | some x => rfl
theorem cntL_del (k : Nat) (n : Key) {L : List (Key × Ent)} (h : AAsc L) : cntL k (adel n L) + own1 k (valAt n L) = cntL k L := by rw [← olen_val]; exact asum_del _ n h
theorem cntL_put (k : Nat) (n : Key) (x : Ent) {L : List (Key × Ent)} (h : AAsc L) : cntL k (aput n x L) + own1 k (valAt n L) = own1 k x.1 + cntL k L := by rw [← olen_val]; exact asum_put _ n x h
theorem asum_pos {α : Type} {f : α → Nat} {l : List (Key × α)} {e : Key × α} (h : e ∈ l) : f e.2 ≤ asum f l := by
  induction l with
  | nil => cases h
  | cons y l ih =>
    simp only [asum, List.map_cons, List.sum_cons] at ih ⊢
    rcases List.mem_cons.1 h with rfl | h
    · omega
    · have := ih h; omega
theorem cntL_mem {k : Nat} {L : List (Key × Ent)} {e : Key × Ent} (h : e ∈ L) : own1 k e.2.1 ≤ cntL k L := asum_pos (f := fun x : Ent => own1 k x.1) h
theorem cntP_mem {k : Nat} {P : List Chg} {c : Chg} (h : c ∈ P) : own1 k c.lost ≤ cntP k P := by
  induction P with
  | nil => cases h
  | cons y l ih =>
    simp only [cntP, List.map_cons, List.sum_cons] at ih ⊢
    rcases List.mem_cons.1 h with rfl | h
    · omega
    · have := ih h; omega
theorem cntP_app (k : Nat) (P Q : List Chg) : cntP k (P ++ Q) = cntP k P + cntP k Q := by simp [cntP]
/-- What all files come to. -/
def tot (L : List (Key × Ent)) : Nat := asum (fun x => x.2.length) L
theorem olen_bytes (n : Key) (L : List (Key × Ent)) : olen (fun x : Ent => x.2.length) (aget n L) = (bytesAt n L).length := by
  unfold bytesAt; cases aget n L <;> rfl
theorem tot_del (n : Key) {L : List (Key × Ent)} (h : AAsc L) : tot (adel n L) + (bytesAt n L).length = tot L := by rw [← olen_bytes]; exact asum_del _ n h
theorem tot_put (n : Key) (x : Ent) {L : List (Key × Ent)} (h : AAsc L) : tot (aput n x L) + (bytesAt n L).length = x.2.length + tot L := by rw [← olen_bytes]; exact asum_put _ n x h
theorem tot_mem {L : List (Key × Ent)} {e : Key × Ent} (h : e ∈ L) : e.2.2.length ≤ tot L := asum_pos (f := fun x : Ent => x.2.length) h
theorem bytesAt_le (n : Key) (L : List (Key × Ent)) : (bytesAt n L).length ≤ tot L := by
  unfold bytesAt
  cases h : aget n L with
  | none => simp
  | some x => exact tot_mem (e := (n, x)) (aget_mem h)
/-- Each file's slice has its bytes' length. -/
def Shp (L : List (Key × Ent)) : Prop := ∀ e ∈ L, ∃ p cap, e.2.1 = .slice p e.2.2.length cap
theorem Own.shp {w : World} {B : Nat} {L : List (Key × Ent)} {P : List Chg} (h : Own w B L P) : Shp L := fun e he => own_slice (h.file e he)
theorem Shp.at {L : List (Key × Ent)} (h : Shp L) (n : Key) : ∃ p cap, valAt n L = .slice p (bytesAt n L).length cap := by
  unfold valAt bytesAt
  cases hg : aget n L with
  | none => exact ⟨none, 0, rfl⟩
  | some x => exact h _ (aget_mem hg)
theorem Shp.del {L : List (Key × Ent)} (h : Shp L) (n : Key) : Shp (adel n L) := fun e he => h e ((adel_mem n L e).1 he).1
theorem Shp.put {L : List (Key × Ent)} (h : Shp L) (n : Key) {v : Value} {xs : List Int} (hv : ∃ p cap, v = .slice p xs.length cap) : Shp (aput n (v, xs) L) := fun e he => by
  rcases (ains_mem _ _ _).1 he with rfl | he
  · exact hv
  · exact h.del n e he
theorem Own.at {w : World} {B : Nat} {L : List (Key × Ent)} {P : List Chg} (h : Own w B L P) (n : Key) : BOwn w B (valAt n L) (bytesAt n L) := by
  unfold valAt bytesAt
  cases hg : aget n L with
  | none => exact World.ownsRow_nil _ _ _ _
  | some x => exact h.file _ (aget_mem hg)
end Go.Proofs.YtemfblhlkonlpaaDoor
