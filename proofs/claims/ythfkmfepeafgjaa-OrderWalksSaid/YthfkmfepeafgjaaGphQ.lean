/- Maps whose keys are hashes, in memory: look-ups, stores, deletes, ranges. Conditions: the keys are hashes of 32 bytes; a map that is stored into has room. · A graph in memory: the map of its commits' parents; sets of hashes; has, Has, New, Count. Conditions: hashes of 32 bytes. -/
import Derived.Test.YthfkmfepeafgjaaGenAsc
import Derived.Test.YthfkmfepeafgjaaHexSk
import Derived.DeepKeys4
import Derived.ChangeSlices
import Derived.WideKeyEntry
import Derived.Maps.RangeWalk
import Derived.Sort.MapsRangeIn
import Derived.Test.YthfkmfepeafgjaaHexPo
namespace Go.Proofs.Ythfkmfepeafgjaa
open Go.RowKit
open Go.Maps

theorem hlaw : WideMaps.KeyLaw Try.prog 28 := deep_law (m := 2) (by decide) (by kernel_rfl) (by kernel_rfl) (by rw [Try.underlying28])
theorem hkeyed : Keyed Try.prog 28 := Keyed.of_law hlaw
theorem bytes_one (b : UInt8) : (Lit.int IntKind.u8 (b.toNat : Int)).keyBytes = [b] := by
  have h : b.toNat < 256 := b.toNat_lt
  simp only [Lit.keyBytes, bytesBE, IntKind.bits, bytesLE]
  have e : ((b.toNat : Int) % 256).toNat % 256 = b.toNat := by omega
  simp [e]
theorem bytes_hash : ∀ h : Key, keyBytes (h.map fun b => Lit.int IntKind.u8 (b.toNat : Int)) = h
  | [] => rfl
  | b :: h => by
    have ih := bytes_hash h
    unfold keyBytes at ih ⊢
    rw [List.map_cons, List.flatMap_cons, ih, bytes_one]; rfl
theorem lits_hash (d : Nat) (h : Key) (hl : h.length = 32) : Try.prog.keyLits (d + 2) 28 (us (nmb h)) = some (h.map fun b => Lit.int IntKind.u8 (b.toNat : Int)) := by
  have c1 : Try.prog.cellsOf 28 = 32 := by kernel_rfl
  have c2 : Try.prog.cellsOf 5 = 1 := by kernel_rfl
  unfold Program.keyLits
  have hlen : (us (nmb h)).length = 32 := by rw [usn_length, hl]
  simp only [Try.underlying28, c1, c2, hlen, if_true]
  have hm : (List.range 32).mapM (fun i => Try.prog.keyLits (d + 1) 5 (((us (nmb h)).drop (i * 1)).take 1)) = some ((List.range 32).map fun i => [Lit.int IntKind.u8 ((h.getD i 0).toNat : Int)]) := by
    refine ChangeShapes.mapM_range_of 32 fun i hi => ?_
    have hi' : i < h.length := by omega
    have e : ((us (nmb h)).drop (i * 1)).take 1 = [.int .u8 ((h.getD i 0).toNat : Int)] := by
      rw [Nat.mul_one, List.take_one, List.head?_drop]
      simp [us, nmb, hi', List.getD]
    rw [e]
    unfold Program.keyLits
    have hw : (Lit.int IntKind.u8 ((h.getD i 0).toNat : Int)).wf = true := by
      generalize h.getD i 0 = x
      have := x.toNat_lt
      have h1 : (0 : Int) ≤ (x.toNat : Int) := by omega
      have h2 : (x.toNat : Int) ≤ 255 := by omega
      exact Bool.and_eq_true_iff.2 ⟨decide_eq_true h1, decide_eq_true h2⟩
    simp only [Try.underlying5]
    rw [if_pos ⟨trivial, hw⟩]
  rw [hm]
  simp only [Option.map_some, Option.some.injEq]
  have e2 : ∀ n, ((List.range n).map fun i => [Lit.int IntKind.u8 ((h.getD i 0).toNat : Int)]).flatten = (List.range n).map fun i => Lit.int IntKind.u8 ((h.getD i 0).toNat : Int) := fun n => by
    induction n with
    | zero => rfl
    | succ n ih => rw [List.range_succ, List.map_append, List.map_append, List.flatten_append, ih]; simp
  rw [e2, ← hl]
  apply List.ext_getElem
  · simp
  · intro i h1 h2
    simp at h1
    simp [List.getD, h1]
theorem hkey (h : Key) (hl : h.length = 32) : keyOf Try.prog 28 (.agg (hv h)) = some (.string h) := by
  obtain ⟨n, hn⟩ : ∃ n, Try.prog.types.size + 1 = n + 2 := by
    obtain ⟨m, hm⟩ : ∃ m, Try.prog.types.size = m + 1 := ⟨Try.prog.types.size - 1, by kernel_rfl⟩
    exact ⟨m, by omega⟩
  have hk : Try.prog.keyType 28 = true := by kernel_rfl
  have c1 : Try.prog.cellsOf 28 = 32 := by kernel_rfl
  have hf : (Value.agg (hv h)).formed Try.prog 28 = true := by
    simp [Value.formed, Try.underlying28, c1, hv_size, hl]
  unfold keyOf
  simp only [Try.underlying28, hk, hf, Bool.and_self, if_true]
  rw [show (Value.agg (hv h)).cells = hv h from rfl, hv_list, hn, lits_hash n h hl]
  simp [bytes_hash]

/-- What a map of values by hash reads as. -/
abbrev Kv := List (Key × Value)
def mapV (M : Kv) : DataW Value := .map (M.map fun e => (.string e.1, .held e.2))
theorem mapV_ins (n : Key) (x : Value) : ∀ M : Kv, DataW.insert (Lit.string n, DataW.held x) (M.map fun e => (Lit.string e.1, DataW.held e.2)) = (ains (n, x) M).map fun e => (Lit.string e.1, DataW.held e.2)
  | [] => rfl
  | y :: L => by
    have ih := mapV_ins n x L
    simp only [ains, List.map_cons, DataW.insert, Lit.before] at ih ⊢
    by_cases hb : bytesBefore n y.1 = true
    · simp [hb]
    · simp [hb, ih]
theorem mapV_del (n : Key) (M : Kv) : (mapV M).del (.string n) = mapV (adel n M) := by
  unfold mapV DataW.del adel
  simp only [List.filter_map]
  rfl
theorem mapV_put (n : Key) (v : Value) (M : Kv) : (mapV M).put (.string n) (.held v) = mapV (aput n v M) := by
  have h := mapV_del n M
  unfold mapV DataW.del at h
  unfold mapV DataW.put
  simp only [DataW.map.injEq] at h ⊢
  rw [h]
  exact mapV_ins n v _
theorem mapV_find (n : Key) : ∀ M : Kv, ((M.map fun e => (Lit.string e.1, (DataW.held e.2 : DataW Value))).find? fun p => p.1.sameKey (.string n)) = (aget n M).map fun x => (Lit.string n, DataW.held x)
  | [] => rfl
  | y :: L => by
    have ih := mapV_find n L
    rw [List.map_cons]
    by_cases hy : (y.1 == n) = true
    · rw [List.find?_cons_of_pos (p := fun p : Lit × DataW Value => p.1.sameKey (.string n)) (by exact hy)]
      simp only [beq_iff_eq] at hy
      rw [gpos hy, hy]; rfl
    · rw [List.find?_cons_of_neg (p := fun p : Lit × DataW Value => p.1.sameKey (.string n)) (by exact hy), ih, gneg (by simpa using hy)]
theorem mapV_at (n : Key) (z : Value) (M : Kv) : (mapV M).atKey (.string n) (.held z) = .held ((aget n M).getD z) := by
  unfold mapV DataW.atKey
  simp only [mapV_find]
  cases aget n M <;> rfl
theorem mapV_has (n : Key) (M : Kv) : Maps.has (mapV M) (.string n) = (aget n M).isSome := by
  unfold mapV Maps.has
  simp only
  rw [← List.isSome_find?]
  rw [mapV_find]
  cases aget n M <;> rfl
theorem mapV_size (M : Kv) : Maps.size (mapV M) = M.length := by simp [mapV, Maps.size]

/-- Block b is the map of the values M by hash. -/
structure MpH (w : World) (b : Nat) (M : Kv) : Prop where
  own : w.ownsMap Try.prog 28 rdv b M.length (mapV M)
  asc : AAsc M
  h32 : ∀ p ∈ M, p.1.length = 32
theorem MpH.of {w : World} {b n : Nat} {M : Kv} (h : w.ownsMap Try.prog 28 rdv b n (mapV M)) (ha : AAsc M) (hh : ∀ p ∈ M, p.1.length = 32) : MpH w b M := by
  refine ⟨?_, ha, hh⟩
  obtain ⟨es, clock, h1, h2, _, h4⟩ := h
  refine ⟨es, clock, h1, h2, ?_, h4⟩
  have h5 : (mapV M) = _ := h4
  unfold mapV at h5
  have h6 := congrArg List.length (DataW.map.inj h5)
  rw [length_sorted] at h6
  simp at h6
  omega
theorem aput_h32 {M : Kv} (hh : ∀ p ∈ M, p.1.length = 32) {n : Key} (hn : n.length = 32) (v : Value) : ∀ p ∈ aput n v M, p.1.length = 32 := fun p hp => by
  rcases (ains_mem _ _ _).1 hp with rfl | hp
  · exact hn
  · exact hh p ((adel_mem _ _ _).1 hp).1
theorem adel_h32 {M : Kv} (hh : ∀ p ∈ M, p.1.length = 32) (n : Key) : ∀ p ∈ adel n M, p.1.length = 32 := fun p hp => hh p ((adel_mem _ _ _).1 hp).1
section
variable {w w' : World} {b : Nat} {M : Kv}
theorem MpH.made (w : World) : MpH (w.alloc (.map #[] 0)) w.heap.size [] := ⟨World.ownsMap_made w Try.prog 28 rdv, .nil, fun _ h => by cases h⟩
theorem MpH.lt (h : MpH w b M) : b < w.heap.size := World.ownsMap.lt h.own
theorem MpH.same (h : MpH w b M) (hb : w'.heap[b]? = w.heap[b]?) : MpH w' b M := by
  obtain ⟨es, clock, h1, h2⟩ := h.own
  exact ⟨⟨es, clock, hb.trans h1, h2⟩, h.asc, h.h32⟩
theorem MpH.kept {S : Nat → Prop} (h : MpH w b M) (ho : Only S w w') (hb : ¬ S b) : MpH w' b M := h.same (ho.block b h.lt hb)
theorem MpH.kb {B : Nat} (h : MpH w b M) (hb : Below B w w') (hB : b < B) : MpH w' b M := h.same (hb.block b hB)
theorem MpH.drew (h : MpH w b M) (n : Nat) : MpH (w.drewN n) b M := h.same rfl
theorem MpH.ismap (h : MpH w b M) : ∃ es clock, w.heap[b]? = some (.map es clock) := by
  obtain ⟨es, clock, h1, _⟩ := h.own
  exact ⟨es, clock, h1⟩
theorem MpH.look {t e : TypeId} {z : Value} (h : MpH w b M) (ht : Try.prog.underlying t = some (.map 28 e)) (hz : (zeroValue e).run Try.prog w = .ok z w) (n : Key) (hn : n.length = 32) :
    (Instr.lookup t (.map (some b)) (.agg (hv n)) false).run Try.prog w = .ok ((aget n M).getD z) w := by
  obtain ⟨v, ps, hrun, hv'⟩ := World.ownsMap.lookup h.own hkeyed ht hz (zd := .held z) (zp := []) rfl (hkey n hn)
  rw [mapV_at] at hv'
  have e' := congrArg Prod.fst (Option.some.inj hv')
  simp only [DataW.held.injEq] at e'
  rw [hrun, e']
theorem MpH.lookOk {t e : TypeId} {z : Value} (h : MpH w b M) (ht : Try.prog.underlying t = some (.map 28 e)) (hz : (zeroValue e).run Try.prog w = .ok z w) (n : Key) (hn : n.length = 32) :
    (Instr.lookup t (.map (some b)) (.agg (hv n)) true).run Try.prog w = .ok (.tuple #[(aget n M).getD z, .bool (aget n M).isSome]) w := by
  obtain ⟨v, ps, hrun, hv'⟩ := World.ownsMap.look_ok h.own hkeyed ht hz (zd := .held z) (zp := []) rfl (hkey n hn)
  rw [mapV_at] at hv'
  rw [mapV_has] at hrun
  have e' := congrArg Prod.fst (Option.some.inj hv')
  simp only [DataW.held.injEq] at e'
  rw [hrun, e']
theorem MpH.store {t e : TypeId} (h : MpH w b M) (ht : Try.prog.underlying t = some (.map 28 e)) (n : Key) (hn : n.length = 32) (hl : M.length < maxLen) (v : Value) :
    ∃ w', (Instr.mapUpdate t (.map (some b)) (.agg (hv n)) v).run Try.prog w = .ok () w' ∧ MpH w' b (aput n v M) ∧ Only (fun k => k = b) w w' := by
  obtain ⟨w', hrun, h1, h2⟩ := World.ownsMap.update h.own hkeyed ht hl (hkey n hn) (R := rdv) (val := v) rfl
  rw [mapV_put n v] at h1
  exact ⟨w', hrun, MpH.of h1 (h.asc.put n v) (aput_h32 h.h32 hn v), (Only.refl _ w).grown h2 (fun k _ e => by cases e; rfl)⟩
theorem MpH.drop {t e : TypeId} (h : MpH w b M) (ht : Try.prog.underlying t = some (.map 28 e)) (n : Key) (hn : n.length = 32) (ty : TypeId) :
    ∃ w', (Builtin.delete_ #[t, 28] ty #[.map (some b), .agg (hv n)]).run Try.prog w = .ok (.tuple #[]) w' ∧ MpH w' b (adel n M) ∧ Only (fun k => k = b) w w' := by
  obtain ⟨w', hrun, h1, h2⟩ := World.ownsMap.drop h.own hkeyed ht (hkey n hn) ty
  rw [mapV_del] at h1
  exact ⟨w', hrun, MpH.of h1 (h.asc.del n) (adel_h32 h.h32 n), (Only.refl _ w).grown h2.grown (fun k _ e => by cases e; rfl)⟩
theorem MpH.len {t e : TypeId} (h : MpH w b M) (ht : Try.prog.underlying t = some (.map 28 e)) (ty : TypeId) : (Builtin.len_ #[t] ty #[.map (some b)]).run Try.prog w = .ok (.int .i64 M.length) w := by
  rw [World.ownsMap.len h.own ht ty, mapV_size]
/-- 'children[p] = append(children[p], h)': what is there is handed out, and a store at this entry is a store at this key. -/
theorem MpH.entry {t e : TypeId} {z : Value} (h : MpH w b M) (ht : Try.prog.underlying t = some (.map 28 e)) (hz : ∀ u : World, (zeroValue e).run Try.prog u = .ok z u) (n : Key) (hn : n.length = 32) (hl : M.length < maxLen) :
    ∃ st w1, (Instr.mapEntry t (.map (some b)) (.agg (hv n))).run Try.prog w = .ok (.tuple #[(aget n M).getD z, st]) w1 ∧ Only (fun k => k = b) w w1 ∧ (∃ es clock, w1.heap[b]? = some (.map es clock)) ∧
      ∀ (w2 : World) (v : Value), w2.heap[b]? = w1.heap[b]? → ∃ w3, (Instr.entryStore t (.map (some b)) st v).run Try.prog w2 = .ok () w3 ∧ MpH w3 b (aput n v M) ∧ Only (fun k => k = b) w2 w3 := by
  obtain ⟨es, clock, hb, F, hs, hD⟩ := h.own
  obtain ⟨v0, st, es1, clock1, hrun, hv0, hback⟩ := WideElems.entry_then_store (z := z) hlaw ht hz hb F (hkey n hn)
  have hlk := h.look ht (hz w) n hn
  have hv : v0 = (aget n M).getD z := by
    rcases Maps.fit_look (P := Try.prog) false hkeyed ht (hz w) hb F (hkey n hn) with ⟨hr, hno, _⟩ | ⟨e0, y, he0, hk0, hr, _⟩
    · rw [hlk] at hr
      have e1 : (aget n M).getD z = z := by simpa using hr
      rw [e1]
      rcases hv0 with ⟨e0, hm, hk, rfl⟩ | ⟨_, rfl⟩
      · exact absurd hk (hno e0 hm)
      · rfl
    · rw [hlk] at hr
      have e1 : (aget n M).getD z = e0.val := by simpa using hr
      rw [e1]
      rcases hv0 with ⟨e1, hm, hk, rfl⟩ | ⟨hno, rfl⟩
      · rw [entry_eq_of_key ((MapKept.stamped_iff es clock).1 F.stamped).2.2 hm he0 (hk.trans hk0.symm)]
      · exact absurd hk0 (hno e0 he0)
  have hblt : b < w.heap.size := h.lt
  have hon : ∀ (u : World) (o : Obj), Only (fun k => k = b) u (ChangeMaps.setBlock u b o) := fun u o => ⟨rfl, rfl, rfl, by simp [ChangeMaps.setBlock], fun i _ hi => by simp [ChangeMaps.setBlock, Ne.symm hi]⟩
  have hsb : ∀ (u : World) (o : Obj), b < u.heap.size → (ChangeMaps.setBlock u b o).heap[b]? = some o := fun u o hu => by simp [ChangeMaps.setBlock, hu]
  refine ⟨goInt st, _, by rw [← hv]; exact hrun, hon _ _, ⟨es1, clock1, hsb _ _ hblt⟩, fun w2 v hw2 => ?_⟩
  rw [hsb _ _ hblt] at hw2
  obtain ⟨es', clock', hst, hup⟩ := hback w2 v hw2
  obtain ⟨w', hru, h1, _⟩ := h.store ht n hn hl v
  rw [hup] at hru
  have ew : ChangeMaps.setBlock w b (.map es' clock') = w' := by simpa using hru
  refine ⟨_, hst, ?_, hon _ _⟩
  refine h1.same ?_
  rw [← ew, hsb _ _ hblt, hsb _ _ (Array.getElem?_eq_some_iff.1 hw2).1]
end
end Go.Proofs.Ythfkmfepeafgjaa
namespace Go.Proofs.Ythfkmfepeafgjaa
open Go.RowKit
open Go.Maps
attribute [local go_sem ↓] hld_open

theorem lzero (w : World) : (zeroValue 25).run Try.prog w = .ok (.slice none 0 0) w := by kernel_rfl
theorem uzero (w : World) : (zeroValue 93).run Try.prog w = .ok (.agg #[]) w := by kernel_rfl
theorem cell_nomap {w : World} {a : Addr} {u : Value} {es : Array MapEntry} {c : Nat} (h : w.cell? a = some u) (hm : w.heap[a.block]? = some (.map es c)) : False := by
  simp [World.cell?, hm] at h
/-- A step that turns no cells but in new memory. -/
structure Mild (w w' : World) : Prop where
  only : Only (fun k => ∀ cs t f, w.heap[k]? ≠ some (.cells cs t f)) w w'
theorem mild_below {w w' : World} (h : Below w.heap.size w w') : Mild w w' := ⟨Only.of_below h⟩
theorem mild_map {w w' : World} {b : Nat} {M : Kv} (h : MpH w b M) (ho : Only (fun k => k = b) w w') : Mild w w' := by
  obtain ⟨es, c, hb⟩ := h.ismap
  exact ⟨ho.mono fun k _ e cs t f hk => by rw [e, hb] at hk; cases hk⟩
theorem Mild.cells {w w' : World} (h : Mild w w') {k : Nat} {cs : Array Value} {t : TypeId} {f : Nat × Nat} (hk : w.heap[k]? = some (.cells cs t f)) : w'.heap[k]? = some (.cells cs t f) :=
  (h.only.block k (Array.getElem?_eq_some_iff.1 hk).1 (fun e => e cs t f hk)).trans hk
theorem Mild.cell {w w' : World} (h : Mild w w') {a : Addr} {u : Value} (ha : w.cell? a = some u) : w'.cell? a = some u := by
  have hlt := World.block_lt_of_cell? _ _ ha
  cases hb : w.heap[a.block]? with
  | none => simp [World.cell?, hb] at ha
  | some o =>
    cases o with
    | cells cs t f => rw [World.cell?_of_block (w := w) (a := a) (by rw [h.cells hb, hb])]; exact ha
    | _ => simp [World.cell?, hb] at ha
theorem Mild.trans {a b c : World} (h : Mild a b) (k : Mild b c) : Mild a c := ⟨h.only.trans k.only (fun _ h => h) (fun _ _ hT cs t f e => hT cs t f (h.cells e))⟩
theorem HSeen.mild {w w' : World} {v : Value} {E : List Key} (h : HSeen w v E) (m : Mild w w') : HSeen w' v E := by
  rcases h with h | ⟨a, cap, h1, h2, h3⟩
  · exact .inl h
  · exact .inr ⟨a, cap, h1, h2, fun j u hj => m.cell (h3 j u hj)⟩
theorem HSeen.shape {w : World} {v : Value} {E : List Key} (h : HSeen w v E) : ∃ p cap, v = .slice p E.length cap := by
  rcases h with ⟨rfl, rfl⟩ | ⟨a, cap, h1, _⟩
  · exact ⟨_, _, rfl⟩
  · exact ⟨_, _, h1⟩
/-- A hash of a slice that is read. -/
theorem HSeen.at {w : World} {v : Value} {E : List Key} (h : HSeen w v E) (hE : H32 E) {i : Nat} (hi : i < E.length) : ∃ b o cap, v = .slice (some ⟨b, o, none⟩) E.length cap ∧ w.rangeAt b (o + i * 32) (us (nmb E[i])) := by
  rcases h with ⟨_, rfl⟩ | ⟨⟨b, o, s⟩, cap, h1, h2, h3⟩
  · simp at hi
  · have hs : s = none := by
      have h0 : (fl E)[0]? ≠ none := by
        rw [Ne, List.getElem?_eq_none_iff, fl_length hE]; omega
      obtain ⟨u, hu⟩ := Option.ne_none_iff_exists'.1 h0
      have := h3 0 u hu
      cases s with
      | none => rfl
      | some x => simp only [World.cell?, Addr.add] at this; split at this <;> simp at this
    subst hs
    refine ⟨b, o, cap, h1, fun j u hj => ?_⟩
    have hjl : j < 32 := by
      have := (List.getElem?_eq_some_iff.1 hj).1
      rw [usn_length, hE.at hi] at this; exact this
    have := h3 (i * 32 + j) u (by rw [fl_at hE hi hjl]; exact hj)
    rw [Addr.add_lit] at this
    rw [← Nat.add_assoc] at this
    exact this
theorem hsr_kb {w w' : World} {b o : Nat} {l : List Value} (h : w.rangeAt b o l) (k : Mild w w') : w'.rangeAt b o l := fun j u hj => k.cell (h j u hj)

/-- Commits by hash: the slice of the parents, and the parents. -/
abbrev Lx := List (Key × (Value × List Key))
abbrev Gr := List (Key × List Key)
abbrev gr (X : Lx) : Gr := amap (fun y : Value × List Key => y.2) X
abbrev kvs (X : Lx) : Kv := amap (fun y : Value × List Key => y.1) X
/-- Block b is the map of the lists of hashes X. -/
structure LAt (w : World) (b : Nat) (X : Lx) : Prop where
  mp : MpH w b (kvs X)
  seen : ∀ x ∈ X, HSeen w x.2.1 x.2.2 ∧ H32 x.2.2
/-- Block g is a graph: it leads to the map at block bm. -/
structure GA (w : World) (g bm : Nat) (X : Lx) : Prop where
  cell : w.heap[g]? = some (.cells #[.map (some bm)] 83 (0, 0))
  at_ : LAt w bm X
theorem LAt.mild {w w' : World} {b : Nat} {X : Lx} (h : LAt w b X) (m : Mild w w') (hb : w'.heap[b]? = w.heap[b]?) : LAt w' b X :=
  ⟨h.mp.same hb, fun x hx => ⟨(h.seen x hx).1.mild m, (h.seen x hx).2⟩⟩
theorem LAt.kb {w w' : World} {b : Nat} {X : Lx} (h : LAt w b X) (k : Below w.heap.size w w') : LAt w' b X := h.mild (mild_below k) (k.block b h.mp.lt)
theorem GA.kb {w w' : World} {g bm : Nat} {X : Lx} (h : GA w g bm X) (k : Below w.heap.size w w') : GA w' g bm X := ⟨(k.block g (Array.getElem?_eq_some_iff.1 h.cell).1).trans h.cell, h.at_.kb k⟩
theorem GA.c0 {w : World} {g bm : Nat} {X : Lx} (h : GA w g bm X) : w.cell? ⟨g, 0, none⟩ = some (.map (some bm)) := by rw [cell_of_row w g 0 _ _ _ h.cell]; rfl
/-- Block b is the set of the hashes R. -/
structure SetH (w : World) (b : Nat) (R : List Key) : Prop where
  ex : ∃ M, MpH w b M ∧ (∀ p ∈ M, p.2 = .agg #[]) ∧ R = M.map (·.1)
theorem SetH.kb {w w' : World} {b : Nat} {R : List Key} {B : Nat} (h : SetH w b R) (k : Below B w w') (hB : b < B) : SetH w' b R := by
  obtain ⟨M, h1, h2, h3⟩ := h.ex
  exact ⟨M, h1.kb k hB, h2, h3⟩
theorem aget_isSome {α : Type} {n : Key} : ∀ {M : List (Key × α)}, (aget n M).isSome = decide (n ∈ M.map (·.1))
  | [] => by simp [aget]
  | y :: M => by
    have ih := aget_isSome (n := n) (M := M)
    by_cases hy : y.1 = n
    · rw [gpos hy]; simp [hy]
    · rw [gneg hy, ih]; simp [Ne.symm hy]
theorem set_get {M : Kv} (h : ∀ p ∈ M, p.2 = .agg #[]) (n : Key) : (aget n M).getD (.agg #[]) = .agg #[] := by
  cases hg : aget n M with
  | none => rfl
  | some v => exact h _ (aget_mem hg)
theorem kvs_get (n : Key) (X : Lx) : aget n (kvs X) = (aget n X).map (·.1) := amap_get _ _ _

set_option maxRecDepth 20000 in
/-- Is a hash in a map of lists? -/
theorem lhas_to (w : World) (b : Nat) (M : Kv) (h : Key) (hh : h.length = 32) (H : MpH w b M) : Calls Try.prog 47 #[.map (some b), .agg (hv h)] w fun e w' => e = .returned (.bool (aget h M).isSome) ∧ Below w.heap.size w w' := by
  have b1 : Below w.heap.size w (w.alloc (.cells (hv h) 28)) := (Below.refl _ w).alloc (Nat.le_refl _) _
  have hl := Lib.hid (range_new w (hv h) 28)
  have hz := Lib.hid (hinfo' (hv h) (by rw [hv_size, hh]))
  have hlk := (H.kb b1 H.lt).lookOk Try.underlying81 (lzero _) h hh
  generalize (aget h M).getD (.slice none 0 0) = zv at hlk
  generalize (aget h M).isSome = ok at hlk ⊢
  have B1 := Lib.hid b1
  clear b1 H hh
  go_enter Try.func47, Try.ntmps47
  go_wp2_with (refine load_to hl.out Try.underlying28 rfl hz.out ?hx ?_; (case hx => rfl))
  go_ret
  exact ⟨rfl, B1.out⟩
set_option maxRecDepth 20000 in
/-- Is a hash in a set? -/
theorem shas_to (w : World) (b : Nat) (R : List Key) (h : Key) (hh : h.length = 32) (H : SetH w b R) : Calls Try.prog 55 #[.map (some b), .agg (hv h)] w fun e w' => e = .returned (.bool (decide (h ∈ R))) ∧ Below w.heap.size w w' := by
  obtain ⟨M, HM, hu, rfl⟩ := H.ex
  have b1 : Below w.heap.size w (w.alloc (.cells (hv h) 28)) := (Below.refl _ w).alloc (Nat.le_refl _) _
  have hl := Lib.hid (range_new w (hv h) 28)
  have hz := Lib.hid (hinfo' (hv h) (by rw [hv_size, hh]))
  have hlk := (HM.kb b1 HM.lt).lookOk Try.underlying79 (uzero _) h hh
  rw [set_get hu, aget_isSome] at hlk
  generalize decide (h ∈ M.map (·.1)) = ok at hlk ⊢
  have B1 := Lib.hid b1
  clear b1 H HM hh
  go_enter Try.func55, Try.ntmps55
  go_wp2_with (refine load_to hl.out Try.underlying28 rfl hz.out ?hx ?_; (case hx => rfl))
  go_ret
  exact ⟨rfl, B1.out.alloc B1.out.size _⟩
end Go.Proofs.Ythfkmfepeafgjaa
