/- Maps whose keys are hashes, in memory: look-ups, stores, deletes, ranges. Conditions: the keys are hashes of 32 bytes; a map that is stored into has room. -/
import Derived.Test.YtakbdnkodnlkdaaDoorGenAsc
import Derived.Test.YtakbdnkodnlkdaaDoorHexSk
import Derived.DeepKeys4
import Derived.ChangeSlices
import Derived.WideKeyEntry
import Derived.Maps.RangeWalk
import Derived.Sort.MapsRangeIn
namespace Go.Proofs.YtakbdnkodnlkdaaDoor
open Go.RowKit
open Go.Maps

theorem hlaw : WideMaps.KeyLaw Tryd.prog 26 := deep_law (m := 2) (by decide) (by kernel_rfl) (by kernel_rfl) (by rw [Tryd.underlying26])
theorem hkeyed : Keyed Tryd.prog 26 := Keyed.of_law hlaw
theorem bytes_one (b : UInt8) : (Lit.int IntKind.u8 (b.toNat : Int)).keyBytes = [b] := by
  have h : b.toNat < 256 := b.toNat_lt
  simp only [Lit.keyBytes, bytesBE, IntKind.bits, bytesLE]
  have e : ((b.toNat : Int) % 256).toNat % 256 = b.toNat := by omega
  simp [e]
theorem bytes_hash : ∀ h : Key, keyBytes (h.map fun b => Lit.int IntKind.u8 (b.toNat : Int)) = h
  | [] => rfl
  | b :: h => by
    have ih := bytes_hash h
    unfold keyBytes at ih ⊢
    rw [List.map_cons, List.flatMap_cons, ih, bytes_one]; rfl
theorem lits_hash (d : Nat) (h : Key) (hl : h.length = 32) : Tryd.prog.keyLits (d + 2) 26 (us (nmb h)) = some (h.map fun b => Lit.int IntKind.u8 (b.toNat : Int)) := by
  have c1 : Tryd.prog.cellsOf 26 = 32 := by kernel_rfl
  have c2 : Tryd.prog.cellsOf 5 = 1 := by kernel_rfl
  unfold Program.keyLits
  have hlen : (us (nmb h)).length = 32 := by rw [usn_length, hl]
  simp only [Tryd.underlying26, c1, c2, hlen, if_true]
  have hm : (List.range 32).mapM (fun i => Tryd.prog.keyLits (d + 1) 5 (((us (nmb h)).drop (i * 1)).take 1)) = some ((List.range 32).map fun i => [Lit.int IntKind.u8 ((h.getD i 0).toNat : Int)]) := by
    refine ChangeShapes.mapM_range_of 32 fun i hi => ?_
    have hi' : i < h.length := by omega
    have e : ((us (nmb h)).drop (i * 1)).take 1 = [.int .u8 ((h.getD i 0).toNat : Int)] := by
      rw [Nat.mul_one, List.take_one, List.head?_drop]
      simp [us, nmb, hi', List.getD]
    rw [e]
    unfold Program.keyLits
    have hw : (Lit.int IntKind.u8 ((h.getD i 0).toNat : Int)).wf = true := by
      generalize h.getD i 0 = x
      have := x.toNat_lt
      have h1 : (0 : Int) ≤ (x.toNat : Int) := by omega
      have h2 : (x.toNat : Int) ≤ 255 := by omega
      exact Bool.and_eq_true_iff.2 ⟨decide_eq_true h1, decide_eq_true h2⟩
    simp only [Tryd.underlying5]
    rw [if_pos ⟨trivial, hw⟩]
  rw [hm]
  simp only [Option.map_some, Option.some.injEq]
  have e2 : ∀ n, ((List.range n).map fun i => [Lit.int IntKind.u8 ((h.getD i 0).toNat : Int)]).flatten = (List.range n).map fun i => Lit.int IntKind.u8 ((h.getD i 0).toNat : Int) := fun n => by
    induction n with
    | zero => rfl
    | succ n ih => rw [List.range_succ, List.map_append, List.map_append, List.flatten_append, ih]; simp
  rw [e2, ← hl]
  apply List.ext_getElem
  · simp
  · intro i h1 h2
    simp at h1
    simp [List.getD, h1]
theorem hkey (h : Key) (hl : h.length = 32) : keyOf Tryd.prog 26 (.agg (hv h)) = some (.string h) := by
  obtain ⟨n, hn⟩ : ∃ n, Tryd.prog.types.size + 1 = n + 2 := by
    obtain ⟨m, hm⟩ : ∃ m, Tryd.prog.types.size = m + 1 := ⟨Tryd.prog.types.size - 1, by kernel_rfl⟩
    exact ⟨m, by omega⟩
  have hk : Tryd.prog.keyType 26 = true := by kernel_rfl
  have c1 : Tryd.prog.cellsOf 26 = 32 := by kernel_rfl
  have hf : (Value.agg (hv h)).formed Tryd.prog 26 = true := by
    simp [Value.formed, Tryd.underlying26, c1, hv_size, hl]
  unfold keyOf
  simp only [Tryd.underlying26, hk, hf, Bool.and_self, if_true]
  rw [show (Value.agg (hv h)).cells = hv h from rfl, hv_list, hn, lits_hash n h hl]
  simp [bytes_hash]

/-- What a map of values by hash reads as. -/
abbrev Kv := List (Key × Value)
def mapV (M : Kv) : DataW Value := .map (M.map fun e => (.string e.1, .held e.2))
theorem mapV_ins (n : Key) (x : Value) : ∀ M : Kv, DataW.insert (Lit.string n, DataW.held x) (M.map fun e => (Lit.string e.1, DataW.held e.2)) = (ains (n, x) M).map fun e => (Lit.string e.1, DataW.held e.2)
  | [] => rfl
  | y :: L => by
    have ih := mapV_ins n x L
    simp only [ains, List.map_cons, DataW.insert, Lit.before] at ih ⊢
    by_cases hb : bytesBefore n y.1 = true
    · simp [hb]
    · simp [hb, ih]
theorem mapV_del (n : Key) (M : Kv) : (mapV M).del (.string n) = mapV (adel n M) := by
  unfold mapV DataW.del adel
  simp only [List.filter_map]
  rfl
theorem mapV_put (n : Key) (v : Value) (M : Kv) : (mapV M).put (.string n) (.held v) = mapV (aput n v M) := by
  have h := mapV_del n M
  unfold mapV DataW.del at h
  unfold mapV DataW.put
  simp only [DataW.map.injEq] at h ⊢
  rw [h]
  exact mapV_ins n v _
theorem mapV_find (n : Key) : ∀ M : Kv, ((M.map fun e => (Lit.string e.1, (DataW.held e.2 : DataW Value))).find? fun p => p.1.sameKey (.string n)) = (aget n M).map fun x => (Lit.string n, DataW.held x)
  | [] => rfl
  | y :: L => by
    have ih := mapV_find n L
    rw [List.map_cons]
    by_cases hy : (y.1 == n) = true
    · rw [List.find?_cons_of_pos (p := fun p : Lit × DataW Value => p.1.sameKey (.string n)) (by exact hy)]
      simp only [beq_iff_eq] at hy
      rw [gpos hy, hy]; rfl
    · rw [List.find?_cons_of_neg (p := fun p : Lit × DataW Value => p.1.sameKey (.string n)) (by exact hy), ih, gneg (by simpa using hy)]
theorem mapV_at (n : Key) (z : Value) (M : Kv) : (mapV M).atKey (.string n) (.held z) = .held ((aget n M).getD z) := by
  unfold mapV DataW.atKey
  simp only [mapV_find]
  cases aget n M <;> rfl
theorem mapV_has (n : Key) (M : Kv) : Maps.has (mapV M) (.string n) = (aget n M).isSome := by
  unfold mapV Maps.has
  simp only
  rw [← List.isSome_find?]
  rw [mapV_find]
  cases aget n M <;> rfl
theorem mapV_size (M : Kv) : Maps.size (mapV M) = M.length := by simp [mapV, Maps.size]

/-- Block b is the map of the values M by hash. -/
structure MpH (w : World) (b : Nat) (M : Kv) : Prop where
  own : w.ownsMap Tryd.prog 26 rdv b M.length (mapV M)
  asc : AAsc M
  h32 : ∀ p ∈ M, p.1.length = 32
theorem MpH.of {w : World} {b n : Nat} {M : Kv} (h : w.ownsMap Tryd.prog 26 rdv b n (mapV M)) (ha : AAsc M) (hh : ∀ p ∈ M, p.1.length = 32) : MpH w b M := by
  refine ⟨?_, ha, hh⟩
  obtain ⟨es, clock, h1, h2, _, h4⟩ := h
  refine ⟨es, clock, h1, h2, ?_, h4⟩
  have h5 : (mapV M) = _ := h4
  unfold mapV at h5
  have h6 := congrArg List.length (DataW.map.inj h5)
  rw [length_sorted] at h6
  simp at h6
  omega
theorem aput_h32 {M : Kv} (hh : ∀ p ∈ M, p.1.length = 32) {n : Key} (hn : n.length = 32) (v : Value) : ∀ p ∈ aput n v M, p.1.length = 32 := fun p hp => by
  rcases (ains_mem _ _ _).1 hp with rfl | hp
  · exact hn
  · exact hh p ((adel_mem _ _ _).1 hp).1
theorem adel_h32 {M : Kv} (hh : ∀ p ∈ M, p.1.length = 32) (n : Key) : ∀ p ∈ adel n M, p.1.length = 32 := fun p hp => hh p ((adel_mem _ _ _).1 hp).1
section
variable {w w' : World} {b : Nat} {M : Kv}
theorem MpH.made (w : World) : MpH (w.alloc (.map #[] 0)) w.heap.size [] := ⟨World.ownsMap_made w Tryd.prog 26 rdv, .nil, fun _ h => by cases h⟩
theorem MpH.lt (h : MpH w b M) : b < w.heap.size := World.ownsMap.lt h.own
theorem MpH.same (h : MpH w b M) (hb : w'.heap[b]? = w.heap[b]?) : MpH w' b M := by
  obtain ⟨es, clock, h1, h2⟩ := h.own
  exact ⟨⟨es, clock, hb.trans h1, h2⟩, h.asc, h.h32⟩
theorem MpH.kept {S : Nat → Prop} (h : MpH w b M) (ho : Only S w w') (hb : ¬ S b) : MpH w' b M := h.same (ho.block b h.lt hb)
theorem MpH.kb {B : Nat} (h : MpH w b M) (hb : Below B w w') (hB : b < B) : MpH w' b M := h.same (hb.block b hB)
theorem MpH.drew (h : MpH w b M) (n : Nat) : MpH (w.drewN n) b M := h.same rfl
theorem MpH.ismap (h : MpH w b M) : ∃ es clock, w.heap[b]? = some (.map es clock) := by
  obtain ⟨es, clock, h1, _⟩ := h.own
  exact ⟨es, clock, h1⟩
theorem MpH.look {t e : TypeId} {z : Value} (h : MpH w b M) (ht : Tryd.prog.underlying t = some (.map 26 e)) (hz : (zeroValue e).run Tryd.prog w = .ok z w) (n : Key) (hn : n.length = 32) :
    (Instr.lookup t (.map (some b)) (.agg (hv n)) false).run Tryd.prog w = .ok ((aget n M).getD z) w := by
  obtain ⟨v, ps, hrun, hv'⟩ := World.ownsMap.lookup h.own hkeyed ht hz (zd := .held z) (zp := []) rfl (hkey n hn)
  rw [mapV_at] at hv'
  have e' := congrArg Prod.fst (Option.some.inj hv')
  simp only [DataW.held.injEq] at e'
  rw [hrun, e']
theorem MpH.lookOk {t e : TypeId} {z : Value} (h : MpH w b M) (ht : Tryd.prog.underlying t = some (.map 26 e)) (hz : (zeroValue e).run Tryd.prog w = .ok z w) (n : Key) (hn : n.length = 32) :
    (Instr.lookup t (.map (some b)) (.agg (hv n)) true).run Tryd.prog w = .ok (.tuple #[(aget n M).getD z, .bool (aget n M).isSome]) w := by
  obtain ⟨v, ps, hrun, hv'⟩ := World.ownsMap.look_ok h.own hkeyed ht hz (zd := .held z) (zp := []) rfl (hkey n hn)
  rw [mapV_at] at hv'
  rw [mapV_has] at hrun
  have e' := congrArg Prod.fst (Option.some.inj hv')
  simp only [DataW.held.injEq] at e'
  rw [hrun, e']
theorem MpH.store {t e : TypeId} (h : MpH w b M) (ht : Tryd.prog.underlying t = some (.map 26 e)) (n : Key) (hn : n.length = 32) (hl : M.length < maxLen) (v : Value) :
    ∃ w', (Instr.mapUpdate t (.map (some b)) (.agg (hv n)) v).run Tryd.prog w = .ok () w' ∧ MpH w' b (aput n v M) ∧ Only (fun k => k = b) w w' := by
  obtain ⟨w', hrun, h1, h2⟩ := World.ownsMap.update h.own hkeyed ht hl (hkey n hn) (R := rdv) (val := v) rfl
  rw [mapV_put n v] at h1
  exact ⟨w', hrun, MpH.of h1 (h.asc.put n v) (aput_h32 h.h32 hn v), (Only.refl _ w).grown h2 (fun k _ e => by cases e; rfl)⟩
theorem MpH.drop {t e : TypeId} (h : MpH w b M) (ht : Tryd.prog.underlying t = some (.map 26 e)) (n : Key) (hn : n.length = 32) (ty : TypeId) :
    ∃ w', (Builtin.delete_ #[t, 26] ty #[.map (some b), .agg (hv n)]).run Tryd.prog w = .ok (.tuple #[]) w' ∧ MpH w' b (adel n M) ∧ Only (fun k => k = b) w w' := by
  obtain ⟨w', hrun, h1, h2⟩ := World.ownsMap.drop h.own hkeyed ht (hkey n hn) ty
  rw [mapV_del] at h1
  exact ⟨w', hrun, MpH.of h1 (h.asc.del n) (adel_h32 h.h32 n), (Only.refl _ w).grown h2.grown (fun k _ e => by cases e; rfl)⟩
theorem MpH.len {t e : TypeId} (h : MpH w b M) (ht : Tryd.prog.underlying t = some (.map 26 e)) (ty : TypeId) : (Builtin.len_ #[t] ty #[.map (some b)]).run Tryd.prog w = .ok (.int .i64 M.length) w := by
  rw [World.ownsMap.len h.own ht ty, mapV_size]
/-- 'children[p] = append(children[p], h)': what is there is handed out, and a store at this entry is a store at this key. -/
theorem MpH.entry {t e : TypeId} {z : Value} (h : MpH w b M) (ht : Tryd.prog.underlying t = some (.map 26 e)) (hz : ∀ u : World, (zeroValue e).run Tryd.prog u = .ok z u) (n : Key) (hn : n.length = 32) (hl : M.length < maxLen) :
    ∃ st w1, (Instr.mapEntry t (.map (some b)) (.agg (hv n))).run Tryd.prog w = .ok (.tuple #[(aget n M).getD z, st]) w1 ∧ Only (fun k => k = b) w w1 ∧ (∃ es clock, w1.heap[b]? = some (.map es clock)) ∧
      ∀ (w2 : World) (v : Value), w2.heap[b]? = w1.heap[b]? → ∃ w3, (Instr.entryStore t (.map (some b)) st v).run Tryd.prog w2 = .ok () w3 ∧ MpH w3 b (aput n v M) ∧ Only (fun k => k = b) w2 w3 := by
  obtain ⟨es, clock, hb, F, hs, hD⟩ := h.own
  obtain ⟨v0, st, es1, clock1, hrun, hv0, hback⟩ := WideElems.entry_then_store (z := z) hlaw ht hz hb F (hkey n hn)
  have hlk := h.look ht (hz w) n hn
  have hv : v0 = (aget n M).getD z := by
    rcases Maps.fit_look (P := Tryd.prog) false hkeyed ht (hz w) hb F (hkey n hn) with ⟨hr, hno, _⟩ | ⟨e0, y, he0, hk0, hr, _⟩
    · rw [hlk] at hr
      have e1 : (aget n M).getD z = z := by simpa using hr
      rw [e1]
      rcases hv0 with ⟨e0, hm, hk, rfl⟩ | ⟨_, rfl⟩
      · exact absurd hk (hno e0 hm)
      · rfl
    · rw [hlk] at hr
      have e1 : (aget n M).getD z = e0.val := by simpa using hr
      rw [e1]
      rcases hv0 with ⟨e1, hm, hk, rfl⟩ | ⟨hno, rfl⟩
      · rw [entry_eq_of_key ((MapKept.stamped_iff es clock).1 F.stamped).2.2 hm he0 (hk.trans hk0.symm)]
      · exact absurd hk0 (hno e0 he0)
  have hblt : b < w.heap.size := h.lt
  have hon : ∀ (u : World) (o : Obj), Only (fun k => k = b) u (ChangeMaps.setBlock u b o) := fun u o => ⟨rfl, rfl, rfl, by simp [ChangeMaps.setBlock], fun i _ hi => by simp [ChangeMaps.setBlock, Ne.symm hi]⟩
  have hsb : ∀ (u : World) (o : Obj), b < u.heap.size → (ChangeMaps.setBlock u b o).heap[b]? = some o := fun u o hu => by simp [ChangeMaps.setBlock, hu]
  refine ⟨goInt st, _, by rw [← hv]; exact hrun, hon _ _, ⟨es1, clock1, hsb _ _ hblt⟩, fun w2 v hw2 => ?_⟩
  rw [hsb _ _ hblt] at hw2
  obtain ⟨es', clock', hst, hup⟩ := hback w2 v hw2
  obtain ⟨w', hru, h1, _⟩ := h.store ht n hn hl v
  rw [hup] at hru
  have ew : ChangeMaps.setBlock w b (.map es' clock') = w' := by simpa using hru
  refine ⟨_, hst, ?_, hon _ _⟩
  refine h1.same ?_
  rw [← ew, hsb _ _ hblt, hsb _ _ (Array.getElem?_eq_some_iff.1 hw2).1]
end
end Go.Proofs.YtakbdnkodnlkdaaDoor
