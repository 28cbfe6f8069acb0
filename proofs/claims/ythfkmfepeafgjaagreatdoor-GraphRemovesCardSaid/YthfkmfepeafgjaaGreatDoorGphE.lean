/- An error that names a hash: what oops.Of makes, and what errors.As, taproothand.Kind and taproothand.Whose tell of it. Condition: errors.errorType holds what its text lays. -/
import Derived.Test.YthfkmfepeafgjaaGreatDoorGenAs
import Derived.Stop.Asserts
import Derived.LaidEql
import Derived.RowKitTokens
namespace Go.Proofs.YthfkmfepeafgjaaGreatDoor
open Go.RowKit Go.Extern.Stop Go.Stop Go.Extern

theorem fold_get : ∀ (l : List Value) (k : Nat) (z : Array Value) (i : Nat),
    ((l.zipIdx k).foldl (fun (cs : Array Value) (p : Value × Nat) => cs.setIfInBounds (0 + p.2) p.1) z)[i]? = if k ≤ i ∧ i < k + l.length ∧ i < z.size then l[i - k]? else z[i]?
  | [], k, z, i => by
    have : ¬ (k ≤ i ∧ i < k + ([] : List Value).length ∧ i < z.size) := by simp; omega
    rw [if_neg this]; rfl
  | x :: l, k, z, i => by
    rw [List.zipIdx_cons, List.foldl_cons, fold_get l (k + 1)]
    simp only [Array.size_setIfInBounds, List.length_cons, Nat.zero_add]
    by_cases h1 : k = i
    · subst h1
      rw [if_neg (by omega)]
      by_cases h2 : k < z.size
      · rw [if_pos (by omega)]; simp [h2]
      · rw [if_neg (by omega)]; simp [h2]
    · by_cases h2 : k + 1 ≤ i ∧ i < k + 1 + l.length ∧ i < z.size
      · rw [if_pos h2, if_pos (by omega)]
        obtain ⟨j, rfl⟩ : ∃ j, i = k + 1 + j := ⟨i - (k + 1), by omega⟩
        rw [show k + 1 + j - (k + 1) = j from by omega, show k + 1 + j - k = j + 1 from by omega]
        rfl
      · rw [if_neg h2, if_neg (by omega)]
        simp [h1]

/-- A hash put together with an error: 33 cells. -/
theorem built_which (h : Array Value) (u : Value) (hs : h.size = 32) (hu : u.cells = #[u]) : Tryz.prog.built 104 [(0, .agg h), (1, u)] = some (h.push u) := by
  have hi : (Tryz.prog.info? 104).map (fun i => i.zero.map (·.cells.size)) = some (some 33) := by kernel_rfl
  have hf : (Tryz.prog.underlying 104).map (fun d => match d with | .struct fs => fs.toList.mapM (fun f => (Tryz.prog.info? f.type).map fun i => (f.offset, i.size)) | _ => none) = some (some [(0, 32), (32, 1)]) := by kernel_rfl
  unfold Program.built
  cases hit : Tryz.prog.info? 104 with
  | none => rw [hit] at hi; cases hi
  | some it =>
    rw [hit] at hi
    cases hun : Tryz.prog.underlying 104 with
    | none => rw [hun] at hf; cases hf
    | some d =>
      rw [hun] at hf
      cases d with
      | struct fs =>
        simp only [Option.map_some, Option.some.injEq] at hf
        simp only [hf]
        cases hz : it.zero with
        | none => simp [hz] at hi
        | some z =>
          simp only [Option.map_some, Option.some.injEq, hz] at hi
          have hsz : ∀ x : Array Value, (x.zipIdx.foldl (fun (cs : Array Value) (p : Value × Nat) => cs.setIfInBounds (0 + p.2) p.1) z.cells) = (x.toList.zipIdx.foldl (fun (cs : Array Value) (p : Value × Nat) => cs.setIfInBounds (0 + p.2) p.1) z.cells) := fun x => by
            rw [← Array.foldl_toList, Array.toList_zipIdx]
          have hg := fold_get h.toList 0 z.cells
          have hn : (h.toList.zipIdx.foldl (fun (cs : Array Value) (p : Value × Nat) => cs.setIfInBounds (0 + p.2) p.1) z.cells).size = 33 := by
            rw [← hi]
            generalize h.toList.zipIdx = q
            generalize z.cells = y
            induction q generalizing y with
            | nil => rfl
            | cons a q ih => rw [List.foldl_cons, ih]; simp
          simp only [Instr.fill, List.getElem?_toArray, List.getElem?_cons_zero, List.getElem?_cons_succ, show (Value.agg h).cells = h from rfl, hs, hi, hu, hsz]
          generalize h.toList.zipIdx.foldl (fun (cs : Array Value) (p : Value × Nat) => cs.setIfInBounds (0 + p.2) p.1) z.cells = y at hg hn
          simp only [hn]
          simp
          apply Array.ext_getElem?
          intro i
          have := hg i
          simp only [Array.length_toList, hs, hi] at this
          rw [Array.getElem?_setIfInBounds, Array.getElem?_push, hn, hs]
          by_cases h1 : i = 32
          · subst h1; simp
          · rw [if_neg (by omega), if_neg h1, this]
            by_cases h2 : i < 32
            · rw [if_pos (by omega)]; simp
            · rw [if_neg (by omega)]
              rw [Array.getElem?_eq_none (by omega), Array.getElem?_eq_none (by omega)]
      | _ => simp at hf

theorem size_hash (h : Array Value) (hs : h.size = 32) : (Tryz.prog.info? 40).map (·.size) = some h.size := by rw [hs]; kernel_rfl

theorem size_hash' (h : Array Value) (hs : h.size = 32) : (Tryz.prog.info? 40).map (·.size) = some h.toList.length := by rw [Array.length_toList]; exact size_hash h hs

set_option maxRecDepth 10000 in
theorem of_any (w : World) (q : Array Value) (hs : q.size = 32) (t : TypeId) (x : Value) : Calls Tryz.prog 56 #[.agg q, .iface t x] w fun e w' =>
    e = .returned (.iface 100 (.pointer (some ⟨w.heap.size + 1, 0, none⟩))) ∧ w' = (w.alloc (.cells q 40)).alloc (.cells (q.push (.iface t x)) 104) := by
  have hn := nil_iface
  have hb := Lib.hid (built_which q (.iface t x) hs rfl)
  have hl := Lib.hid (range_new w q 40)
  have hz := Lib.hid (size_hash' q hs)
  clear hs
  go_enter Tryz.func56, Tryz.ntmps56
  go_wp2_with (refine load_to hl.out Tryz.underlying40 rfl hz.out ?hx ?_; (case hx => rfl); refine move_to ?_; refine build_to (vals := #[(0, .agg q), (1, .iface t x)]) hb.out ?hv ?_; (case hv => simp [Act.put, Act.eval]))
  go_ret
  exact ⟨rfl, rfl⟩

theorem toW (v : Value) (w : World) : (ReflectliteType.typeOf #[.iface 100 v]).run Tryz.prog w = .ok (.iface 133 (.agg #[hd 100])) w := by kernel_rfl

theorem noAsW (v : Value) (xT : TypeId) (w : World) : (Instr.typeAssert (.iface 100 v) xT 138 true).run Tryz.prog w = .ok (.tuple #[.nilIface, .bool false]) w := run_typeAssert_lacksB Tryz.underlying138 (by kernel_rfl) (by kernel_rfl) v xT w

theorem hasUW (v : Value) (xT : TypeId) (w : World) : (Instr.typeAssert (.iface 100 v) xT 141 true).run Tryz.prog w = .ok (.tuple #[.iface 100 v, .bool true]) w := run_typeAssert_hasB Tryz.underlying141 (by kernel_rfl) v xT w

theorem mUW (v : Value) (w : World) : (Go.method 295 100 v "Unwrap").run Tryz.prog w = .ok (115, v) w := by kernel_rfl

/-- What errors.As asks of its target: tt points to a variable of type t. -/
structure Tgt (tt t : TypeId) (kd f0 f1 : Int) (ok : Value → Prop) : Prop where
  vo : ∀ (a : Addr) (w : World), (ReflectliteValue.unpack (.iface tt (.pointer (some a)))).run Tryz.prog w = .ok (.agg #[hd tt, .pointer (some ⟨w.heap.size, 0, none⟩), .int .u64 150]) (w.alloc (.cells #[.pointer (some a)] tt))
  ty : ∀ (a : Addr) (w : World), (ReflectliteValue.methodAny (ReflectliteValue.valueError "reflectlite.Value.Type" 0) (fun t _ _ _ => ReflectliteType.toType t) #[.agg #[hd tt, .pointer (some a), .int .u64 150]]).run Tryz.prog w = .ok (.iface 133 (.agg #[hd tt])) w
  k1 : ∀ w : World, ((ReflectliteType.abiMethod fun t => (fun a : Nat => Value.int IntKind.u8 (a : Int)) <$> Rtype.kind t) #[hd tt]).run Tryz.prog w = .ok (.int .u8 22) w
  k2 : ∀ w : World, ((ReflectliteType.abiMethod fun t => (fun a : Nat => Value.int IntKind.u8 (a : Int)) <$> Rtype.kind t) #[hd t]).run Tryz.prog w = .ok (.int .u8 kd) w
  kn : (kd != 20) = true
  nil : ∀ (a p : Addr) (W : World), W.cell? a = some (.pointer (some p)) → (ReflectliteValue.method (ReflectliteValue.valueError "reflectlite.Value.IsNil" 0) ReflectliteValue.isNil #[.agg #[hd tt, .pointer (some a), .int .u64 150]]).run Tryz.prog W = .ok (.bool false) W
  me : ∀ w : World, (ReflectliteType.method ReflectliteType.elem #[.agg #[hd tt]]).run Tryz.prog w = .ok (.iface 133 (.agg #[hd t])) w
  im : ∀ w : World, (ReflectliteType.relation "Implements" ReflectliteType.implements_ #[.agg #[hd t], .iface 133 (.agg #[hd 45])]).run Tryz.prog w = .ok (.bool true) w
  vs : ∀ (x : Value) (w : World), ok x → (ReflectliteValue.unpack (.iface t x)).run Tryz.prog w = .ok (.agg #[hd t, .pointer (some ⟨w.heap.size, 0, none⟩), .int .u64 f0]) (w.alloc (.cells #[x] t))
  el : ∀ (a p : Addr) (W : World), W.cell? a = some (.pointer (some p)) → (ReflectliteValue.method (ReflectliteValue.valueError "reflectlite.Value.Elem" 0) ReflectliteValue.elem #[.agg #[hd tt, .pointer (some a), .int .u64 150]]).run Tryz.prog W = .ok (.agg #[hd t, .pointer (some p), .int .u64 f1]) W
  st : ∀ (ta b : Addr) (x old : Value) (W : World), ok x → W.cell? b = some x → W.cell? ta = some old → W.frozen? ta = false →
    (ReflectliteValue.set #[.agg #[hd t, .pointer (some ta), .int .u64 f1], .agg #[hd t, .pointer (some b), .int .u64 f0]]).run Tryz.prog W = .ok (.tuple #[]) (W.setCell ta x)
  asg : ∀ s, s ∈ [100, 38] → ∀ w : World, (ReflectliteType.relation "AssignableTo" ReflectliteType.assignableTo #[.agg #[hd s], .iface 133 (.agg #[hd t])]).run Tryz.prog w = .ok (.bool (decide (s = t))) w


theorem partsW1 (a : Addr) (w : World) : (ReflectliteValue.parts (.agg #[hd 102, .pointer (some a), .int .u64 150])).run Tryz.prog w = .ok (some (102, a, 150)) w := by kernel_rfl
theorem partsW2 (a : Addr) (w : World) : (ReflectliteValue.parts (.agg #[hd 100, .pointer (some a), .int .u64 406])).run Tryz.prog w = .ok (some (100, a, 406)) w := by kernel_rfl
theorem partsW3 (a : Addr) (w : World) : (ReflectliteValue.parts (.agg #[hd 100, .pointer (some a), .int .u64 150])).run Tryz.prog w = .ok (some (100, a, 150)) w := by kernel_rfl
theorem eoW (w : World) : (Rtype.elem? 102).run Tryz.prog w = .ok (some 100) w := by kernel_rfl
theorem mkW (p : Addr) (w : World) : (ReflectliteValue.mk 100 p ReflectliteValue.flagAddr).run Tryz.prog w = .ok (.agg #[hd 100, .pointer (some p), .int .u64 406]) w := by kernel_rfl
theorem diW (w : World) : (Rtype.directlyAssignable 100 100).run Tryz.prog w = .ok true w := by kernel_rfl
theorem szW (w : World) : (sizeOf 100).run Tryz.prog w = .ok 1 w := by kernel_rfl
theorem tgtW : Tgt 102 100 22 150 406 (fun x => ∃ e, x = .pointer (some e)) where
  vo := fun a w => by kernel_rfl
  ty := fun a w => by kernel_rfl
  k1 := fun w => by kernel_rfl
  k2 := fun w => by kernel_rfl
  kn := by decide
  nil := fun a p W ha => by
    rw [rlm]
    simp only [Sem.run_bind, partsW1, Result.andThen]
    simp [ReflectliteValue.isNil, loadVar, isAgg, underlying, Tryz.underlying102, ha, Result.andThen]
  me := fun w => by kernel_rfl
  im := fun w => by kernel_rfl
  vs := fun x w ⟨e, he⟩ => by subst he; kernel_rfl
  el := fun a p W ha => by
    rw [rlm]
    simp only [Sem.run_bind, partsW1, Result.andThen]
    simp [ReflectliteValue.elem, loadVar, isAgg, underlying, Tryz.underlying102, ha, Result.andThen, eoW, mkW]
  st := fun ta b x old W ⟨e, he⟩ hb ht hf => by
    subst he
    rw [rls]
    simp only [Sem.run_bind, partsW2, partsW3, Result.andThen]
    simp [ReflectliteValue.flagAddr, loadVar, isAgg, underlying, Tryz.underlying100, hb, Result.andThen, diW, storeVar, Value.cells, storeCells, Addr.add]
    rw [run_store Tryz.prog W ta _ _ (by rfl)]
    simp [ht, hf]
  asg := fun s hs w => by
    simp only [List.mem_cons, List.not_mem_nil, or_false] at hs
    rcases hs with rfl | rfl
    · kernel_rfl
    · kernel_rfl


theorem tgtE : Tgt 105 38 2 130 386 (fun x => ∃ e, x = .int .i64 e) where
  vo := fun a w => by kernel_rfl
  ty := fun a w => by kernel_rfl
  k1 := fun w => by kernel_rfl
  k2 := fun w => by kernel_rfl
  kn := by decide
  nil := fun a p W ha => by
    rw [rlm]
    simp only [Sem.run_bind, partsE1, Result.andThen]
    simp [ReflectliteValue.isNil, loadVar, isAgg, underlying, Tryz.underlying105, ha, Result.andThen]
  me := fun w => by kernel_rfl
  im := fun w => by kernel_rfl
  vs := fun x w ⟨e, he⟩ => by subst he; kernel_rfl
  el := fun a p W ha => by
    rw [rlm]
    simp only [Sem.run_bind, partsE1, Result.andThen]
    simp [ReflectliteValue.elem, loadVar, isAgg, underlying, Tryz.underlying105, ha, Result.andThen, eoE, mkE]
  st := fun ta b x old W ⟨e, he⟩ hb ht hf => by
    subst he
    rw [rls]
    simp only [Sem.run_bind, partsE2, partsE3, Result.andThen]
    simp [ReflectliteValue.flagAddr, loadVar, isAgg, underlying, Tryz.underlying38, hb, Result.andThen, diE, storeVar, Value.cells, storeCells, Addr.add]
    rw [run_store Tryz.prog W ta _ _ (by rfl)]
    simp [ht, hf]
  asg := fun s hs w => by
    simp only [List.mem_cons, List.not_mem_nil, or_false] at hs
    rcases hs with rfl | rfl
    · kernel_rfl
    · kernel_rfl


theorem unwrapW (w : World) (p : Nat) (x : Array Value) (u : Value) (hx : x.size = 32) (h : w.heap[p]? = some (.cells (x.push u) 104 (0, 0))) : Calls Tryz.prog 115 #[.pointer (some ⟨p, 0, none⟩)] w fun e w' => e = .returned u ∧ w = w' := by
  have hc := cell_obj h 32 (u := u) (by rw [Array.getElem?_push, if_pos hx.symm])
  go_enter Tryz.func115, Tryz.ntmps115
  go_wp2
  go_ret
  exact ⟨rfl, rfl⟩

theorem post_miss {t : TypeId} {w : World} {tb : Nat} {old : Value} {r : Option Value} {o1 : Obj} (hr : r = none) (htb : w.heap[tb]? = some (.cells #[old] t (0, 0))) :
    AsPost w tb t old r (.returned (.bool false)) (w.alloc o1) := by
  subst hr
  have hlt := (Array.getElem?_eq_some_iff.1 htb).1
  refine ⟨rfl, (Only.refl _ _).alloc _, ?_⟩
  rw [Below.heap_alloc _ _ _ hlt]
  exact htb


/-- An error at block p that names the hash q, around the kind k. -/
def Wh (w : World) (p : Nat) (q : Array Value) (k : Int) : Prop := w.heap[p]? = some (.cells (q.push (kind k)) 104 (0, 0)) ∧ q.size = 32
abbrev whv (p : Nat) : Value := .iface 100 (.pointer (some ⟨p, 0, none⟩))
theorem Wh.kb {w w' : World} {p : Nat} {q : Array Value} {k : Int} (h : Wh w p q k) (hb : Below w.heap.size w w') : Wh w' p q k := ⟨(hb.block _ (Array.getElem?_eq_some_iff.1 h.1).1).trans h.1, h.2⟩

set_option maxHeartbeats 4000000 in
theorem asEW (w : World) (p : Nat) (q : Array Value) (k : Int) (hc : Wh w p q k) (a tb : Nat) (old : Value)
    (ha : w.cell? ⟨a, 0, none⟩ = some (.pointer (some ⟨tb, 0, none⟩))) (htb : w.heap[tb]? = some (.cells #[old] 38 (0, 0))) :
    Calls Tryz.prog 71 #[whv p, .iface 105 (.pointer (some ⟨tb, 0, none⟩)), .agg #[hd 105, .pointer (some ⟨a, 0, none⟩), .int .u64 150], .iface 133 (.agg #[hd 38])] w fun e w' => AsPost w tb 38 old (some (.int .i64 k)) e w' := by
  have xT := @run_callFunc_extern Tryz.prog 76 _ ReflectliteType.typeOf Tryz.func76 (by kernel_rfl) (by kernel_rfl) (by kernel_rfl) (by kernel_rfl)
  have xV := @run_callFunc_extern Tryz.prog 68 _ (fun args => ReflectliteValue.unpack (args.getD 0 (.tuple #[]))) Tryz.func68 (by kernel_rfl) (by kernel_rfl) (by kernel_rfl) (by kernel_rfl)
  have xA := @run_callFunc_extern Tryz.prog 120 _ (ReflectliteType.relation "AssignableTo" ReflectliteType.assignableTo) Tryz.func120 (by kernel_rfl) (by kernel_rfl) (by kernel_rfl) (by kernel_rfl)
  have xE := @run_callFunc_extern Tryz.prog 77 _ (ReflectliteValue.method (ReflectliteValue.valueError "reflectlite.Value.Elem" 0) ReflectliteValue.elem) Tryz.func77 (by kernel_rfl) (by kernel_rfl) (by kernel_rfl) (by kernel_rfl)
  have xS := @run_callFunc_extern Tryz.prog 78 _ ReflectliteValue.set Tryz.func78 (by kernel_rfl) (by kernel_rfl) (by kernel_rfl) (by kernel_rfl)
  have mA := m_asg
  have hlt : a < w.heap.size := World.block_lt_of_cell? w _ ha
  have htl := (Array.getElem?_eq_some_iff.1 htb).1
  have el := tgtE.el ⟨a, 0, none⟩ ⟨tb, 0, none⟩ (w.alloc (.cells #[hd 105, .pointer (some ⟨a, 0, none⟩), .int .u64 150] 118)) (by rw [World.cell?_alloc_lt _ _ ⟨a, 0, none⟩ hlt]; exact ha)
  have st := fun x (hx : ∃ e, x = .int .i64 e) => tgtE.st ⟨tb, 0, none⟩ ⟨w.heap.size + 1, 0, none⟩ x old ((w.alloc (.cells #[hd 105, .pointer (some ⟨a, 0, none⟩), .int .u64 150] 118)).alloc (.cells #[x] 38)) hx
    (by rw [World.cell?_alloc_at _ _ _ _ (by simp)]; rfl)
    (by rw [World.cell?_alloc_lt _ _ ⟨tb, 0, none⟩ (by simp; omega), World.cell?_alloc_lt _ _ ⟨tb, 0, none⟩ htl]; exact cell_obj htb 0 rfl)
    (by rw [World.frozen?_alloc_old _ _ ⟨tb, 0, none⟩ (by simp; omega), World.frozen?_alloc_old _ _ ⟨tb, 0, none⟩ (Nat.ne_of_lt htl)]; exact free_of_one htb)
  have HST := Lib.hid st
  have HVS := Lib.hid tgtE.vs
  have HAS := Lib.hid tgtE.asg
  have HTB := Lib.hid htb
  have HH := Lib.hid (Wh.kb hc ((Below.refl _ _).alloc (Nat.le_refl _) (.cells #[hd 105, .pointer (some ⟨a, 0, none⟩), .int .u64 150] 118))).1
  have HX := Lib.hid hc.2
  have hto := toW
  have hto' := toE
  have hna := noAsW
  have hna' := noAsE
  have hhu := hasUW
  have hmu := mUW
  have hnu := noUE
  have hnus := noUsE
  have hnn := nil_iface
  have hA := HAS.out 100 (by simp)
  have hA' := HAS.out 38 (by simp)
  simp only [show ¬ 100 = 38 from by decide, decide_true, decide_false] at hA hA' 
  clear st htb ha hlt htl hc
  have hvs := fun w => HVS.out (.int .i64 k) w ⟨_, rfl⟩
  have hst := HST.out (.int .i64 k) ⟨_, rfl⟩
  go_enter Tryz.func71, Tryz.ntmps71
  go_wp2
  refine wp_loop_rounds 2 ?_; rw [rounds_succ]
  go_wp2_with (go_at_call 115; refine (unwrapW _ _ _ _ HX.out HH.out).mono ?_; rintro e w' ⟨rfl, rfl⟩)
  rw [rounds_succ]
  go_wp2
  go_ret
  exact post_hit rfl HTB.out rfl

set_option maxHeartbeats 4000000 in
theorem asWW (w : World) (p : Nat) (q : Array Value) (k : Int) (hc : Wh w p q k) (a tb : Nat) (old : Value)
    (ha : w.cell? ⟨a, 0, none⟩ = some (.pointer (some ⟨tb, 0, none⟩))) (htb : w.heap[tb]? = some (.cells #[old] 100 (0, 0))) :
    Calls Tryz.prog 71 #[whv p, .iface 102 (.pointer (some ⟨tb, 0, none⟩)), .agg #[hd 102, .pointer (some ⟨a, 0, none⟩), .int .u64 150], .iface 133 (.agg #[hd 100])] w fun e w' => AsPost w tb 100 old (some (.pointer (some ⟨p, 0, none⟩))) e w' := by
  have xT := @run_callFunc_extern Tryz.prog 76 _ ReflectliteType.typeOf Tryz.func76 (by kernel_rfl) (by kernel_rfl) (by kernel_rfl) (by kernel_rfl)
  have xV := @run_callFunc_extern Tryz.prog 68 _ (fun args => ReflectliteValue.unpack (args.getD 0 (.tuple #[]))) Tryz.func68 (by kernel_rfl) (by kernel_rfl) (by kernel_rfl) (by kernel_rfl)
  have xA := @run_callFunc_extern Tryz.prog 120 _ (ReflectliteType.relation "AssignableTo" ReflectliteType.assignableTo) Tryz.func120 (by kernel_rfl) (by kernel_rfl) (by kernel_rfl) (by kernel_rfl)
  have xE := @run_callFunc_extern Tryz.prog 77 _ (ReflectliteValue.method (ReflectliteValue.valueError "reflectlite.Value.Elem" 0) ReflectliteValue.elem) Tryz.func77 (by kernel_rfl) (by kernel_rfl) (by kernel_rfl) (by kernel_rfl)
  have xS := @run_callFunc_extern Tryz.prog 78 _ ReflectliteValue.set Tryz.func78 (by kernel_rfl) (by kernel_rfl) (by kernel_rfl) (by kernel_rfl)
  have mA := m_asg
  have hlt : a < w.heap.size := World.block_lt_of_cell? w _ ha
  have htl := (Array.getElem?_eq_some_iff.1 htb).1
  have el := tgtW.el ⟨a, 0, none⟩ ⟨tb, 0, none⟩ (w.alloc (.cells #[hd 102, .pointer (some ⟨a, 0, none⟩), .int .u64 150] 118)) (by rw [World.cell?_alloc_lt _ _ ⟨a, 0, none⟩ hlt]; exact ha)
  have st := fun x (hx : ∃ e, x = .pointer (some e)) => tgtW.st ⟨tb, 0, none⟩ ⟨w.heap.size + 1, 0, none⟩ x old ((w.alloc (.cells #[hd 102, .pointer (some ⟨a, 0, none⟩), .int .u64 150] 118)).alloc (.cells #[x] 100)) hx
    (by rw [World.cell?_alloc_at _ _ _ _ (by simp)]; rfl)
    (by rw [World.cell?_alloc_lt _ _ ⟨tb, 0, none⟩ (by simp; omega), World.cell?_alloc_lt _ _ ⟨tb, 0, none⟩ htl]; exact cell_obj htb 0 rfl)
    (by rw [World.frozen?_alloc_old _ _ ⟨tb, 0, none⟩ (by simp; omega), World.frozen?_alloc_old _ _ ⟨tb, 0, none⟩ (Nat.ne_of_lt htl)]; exact free_of_one htb)
  have HST := Lib.hid st
  have HVS := Lib.hid tgtW.vs
  have HAS := Lib.hid tgtW.asg
  have HTB := Lib.hid htb
  have HH := Lib.hid (Wh.kb hc ((Below.refl _ _).alloc (Nat.le_refl _) (.cells #[hd 102, .pointer (some ⟨a, 0, none⟩), .int .u64 150] 118))).1
  have HX := Lib.hid hc.2
  have hto := toW
  have hto' := toE
  have hna := noAsW
  have hna' := noAsE
  have hhu := hasUW
  have hmu := mUW
  have hnu := noUE
  have hnus := noUsE
  have hnn := nil_iface
  have hA := HAS.out 100 (by simp)
  have hA' := HAS.out 38 (by simp)
  simp only [show ¬ 38 = 100 from by decide, decide_true, decide_false] at hA hA' 
  clear st htb ha hlt htl hc
  have hvs := fun w => HVS.out (.pointer (some ⟨p, 0, none⟩)) w ⟨_, rfl⟩
  have hst := HST.out (.pointer (some ⟨p, 0, none⟩)) ⟨_, rfl⟩
  go_enter Tryz.func71, Tryz.ntmps71
  go_wp2
  refine wp_loop_rounds 1 ?_; rw [rounds_succ]; go_wp2
  go_ret
  exact post_hit rfl HTB.out rfl

set_option maxHeartbeats 4000000 in
theorem asWE (w : World) (k : Int) (a tb : Nat) (old : Value)
    (ha : w.cell? ⟨a, 0, none⟩ = some (.pointer (some ⟨tb, 0, none⟩))) (htb : w.heap[tb]? = some (.cells #[old] 100 (0, 0))) :
    Calls Tryz.prog 71 #[kind k, .iface 102 (.pointer (some ⟨tb, 0, none⟩)), .agg #[hd 102, .pointer (some ⟨a, 0, none⟩), .int .u64 150], .iface 133 (.agg #[hd 100])] w fun e w' => AsPost w tb 100 old (none) e w' := by
  have xT := @run_callFunc_extern Tryz.prog 76 _ ReflectliteType.typeOf Tryz.func76 (by kernel_rfl) (by kernel_rfl) (by kernel_rfl) (by kernel_rfl)
  have xV := @run_callFunc_extern Tryz.prog 68 _ (fun args => ReflectliteValue.unpack (args.getD 0 (.tuple #[]))) Tryz.func68 (by kernel_rfl) (by kernel_rfl) (by kernel_rfl) (by kernel_rfl)
  have xA := @run_callFunc_extern Tryz.prog 120 _ (ReflectliteType.relation "AssignableTo" ReflectliteType.assignableTo) Tryz.func120 (by kernel_rfl) (by kernel_rfl) (by kernel_rfl) (by kernel_rfl)
  have xE := @run_callFunc_extern Tryz.prog 77 _ (ReflectliteValue.method (ReflectliteValue.valueError "reflectlite.Value.Elem" 0) ReflectliteValue.elem) Tryz.func77 (by kernel_rfl) (by kernel_rfl) (by kernel_rfl) (by kernel_rfl)
  have xS := @run_callFunc_extern Tryz.prog 78 _ ReflectliteValue.set Tryz.func78 (by kernel_rfl) (by kernel_rfl) (by kernel_rfl) (by kernel_rfl)
  have mA := m_asg
  have hlt : a < w.heap.size := World.block_lt_of_cell? w _ ha
  have htl := (Array.getElem?_eq_some_iff.1 htb).1
  have el := tgtW.el ⟨a, 0, none⟩ ⟨tb, 0, none⟩ (w.alloc (.cells #[hd 102, .pointer (some ⟨a, 0, none⟩), .int .u64 150] 118)) (by rw [World.cell?_alloc_lt _ _ ⟨a, 0, none⟩ hlt]; exact ha)
  have st := fun x (hx : ∃ e, x = .pointer (some e)) => tgtW.st ⟨tb, 0, none⟩ ⟨w.heap.size + 1, 0, none⟩ x old ((w.alloc (.cells #[hd 102, .pointer (some ⟨a, 0, none⟩), .int .u64 150] 118)).alloc (.cells #[x] 100)) hx
    (by rw [World.cell?_alloc_at _ _ _ _ (by simp)]; rfl)
    (by rw [World.cell?_alloc_lt _ _ ⟨tb, 0, none⟩ (by simp; omega), World.cell?_alloc_lt _ _ ⟨tb, 0, none⟩ htl]; exact cell_obj htb 0 rfl)
    (by rw [World.frozen?_alloc_old _ _ ⟨tb, 0, none⟩ (by simp; omega), World.frozen?_alloc_old _ _ ⟨tb, 0, none⟩ (Nat.ne_of_lt htl)]; exact free_of_one htb)
  have HST := Lib.hid st
  have HVS := Lib.hid tgtW.vs
  have HAS := Lib.hid tgtW.asg
  have HTB := Lib.hid htb
  have hto := toW
  have hto' := toE
  have hna := noAsW
  have hna' := noAsE
  have hhu := hasUW
  have hmu := mUW
  have hnu := noUE
  have hnus := noUsE
  have hnn := nil_iface
  have hA := HAS.out 100 (by simp)
  have hA' := HAS.out 38 (by simp)
  simp only [show ¬ 38 = 100 from by decide, decide_true, decide_false] at hA hA'
  clear st htb ha hlt htl
  clear HST HVS
  go_enter Tryz.func71, Tryz.ntmps71
  go_wp2
  refine wp_loop_rounds 1 ?_; rw [rounds_succ]; go_wp2
  go_ret
  exact post_miss rfl HTB.out

theorem as_nil (x : Value) (w : World) : Calls Tryz.prog 57 #[.nilIface, x] w fun e w' => e = .returned (.bool false) ∧ w = w' := by
  go_enter Tryz.func57, Tryz.ntmps57
  go_wp2
  go_ret
  exact ⟨rfl, rfl⟩

theorem post_up {t : TypeId} {w : World} {tb : Nat} {old : Value} {r : Option Value} {o1 o2 : Obj} {e : Ending} {w' : World} (h : AsPost ((w.alloc o1).alloc o2) tb t old r e w') : AsPost w tb t old r e w' :=
  ⟨h.1, (((Only.refl (fun k => k = tb) w).alloc o1).alloc o2).trans h.2.1 (fun _ h => h) (fun _ _ h => h), h.2.2⟩

set_option maxHeartbeats 4000000 in
theorem as_any11 {tt t : TypeId} {kd f0 f1 : Int} {ok : Value → Prop} (TG : Tgt tt t kd f0 f1 ok) (w : World) (sv : TypeId) (xv : Value) (r : Option Value) (hg : Glob w) (tb : Nat) (old : Value)
    (htb : w.heap[tb]? = some (.cells #[old] t (0, 0)))
    (hW : ∀ W : World, Below w.heap.size w W → ∀ a, W.cell? ⟨a, 0, none⟩ = some (.pointer (some ⟨tb, 0, none⟩)) → W.heap[tb]? = some (.cells #[old] t (0, 0)) →
      Calls Tryz.prog 71 #[.iface sv xv, .iface tt (.pointer (some ⟨tb, 0, none⟩)), .agg #[hd tt, .pointer (some ⟨a, 0, none⟩), .int .u64 150], .iface 133 (.agg #[hd t])] W fun e w' => AsPost W tb t old r e w') :
    Calls Tryz.prog 57 #[.iface sv xv, .iface tt (.pointer (some ⟨tb, 0, none⟩))] w fun e w' => AsPost w tb t old r e w' := by
  have xV := @run_callFunc_extern Tryz.prog 68 _ (fun args => ReflectliteValue.unpack (args.getD 0 (.tuple #[]))) Tryz.func68 (by kernel_rfl) (by kernel_rfl) (by kernel_rfl) (by kernel_rfl)
  have xY := @run_callFunc_extern Tryz.prog 69 _ (ReflectliteValue.methodAny (ReflectliteValue.valueError "reflectlite.Value.Type" 0) (fun t _ _ _ => ReflectliteType.toType t)) Tryz.func69 (by kernel_rfl) (by kernel_rfl) (by kernel_rfl) (by kernel_rfl)
  have xN := @run_callFunc_extern Tryz.prog 70 _ (ReflectliteValue.method (ReflectliteValue.valueError "reflectlite.Value.IsNil" 0) ReflectliteValue.isNil) Tryz.func70 (by kernel_rfl) (by kernel_rfl) (by kernel_rfl) (by kernel_rfl)
  have xK := @run_callFunc_extern Tryz.prog 110 _ (ReflectliteType.abiMethod fun t => do pure (.int .u8 (← Rtype.kind t))) Tryz.func110 (by kernel_rfl) (by kernel_rfl) (by kernel_rfl) (by kernel_rfl)
  have xE := @run_callFunc_extern Tryz.prog 122 _ (ReflectliteType.method ReflectliteType.elem) Tryz.func122 (by kernel_rfl) (by kernel_rfl) (by kernel_rfl) (by kernel_rfl)
  have xI := @run_callFunc_extern Tryz.prog 123 _ (ReflectliteType.relation "Implements" ReflectliteType.implements_) Tryz.func123 (by kernel_rfl) (by kernel_rfl) (by kernel_rfl) (by kernel_rfl)
  have mK := m_kind
  have mE := m_elem
  have mI := m_impl
  have vo := TG.vo
  have ty := TG.ty
  have k1 := TG.k1
  have k2 := TG.k2
  have kn := TG.kn
  have me := TG.me
  have im := TG.im
  have hlt := World.block_lt_of_cell? w _ hg
  have htl := (Array.getElem?_eq_some_iff.1 htb).1
  have n8 := TG.nil ⟨w.heap.size, 0, none⟩ ⟨tb, 0, none⟩ ((w.alloc (.cells #[.pointer (some ⟨tb, 0, none⟩)] tt)).alloc (.cells #[hd tt, .pointer (some ⟨w.heap.size, 0, none⟩), .int .u64 150] 118)) (by simp)
  have hg2 : ((w.alloc (.cells #[.pointer (some ⟨tb, 0, none⟩)] tt)).alloc (.cells #[hd tt, .pointer (some ⟨w.heap.size, 0, none⟩), .int .u64 150] 118)).cell? ⟨0, 0, none⟩ = some (.iface 133 (.agg #[hd 45])) := by
    rw [World.cell?_alloc_lt _ _ ⟨0, 0, none⟩ (Nat.lt_of_lt_of_le hlt (by simp)), World.cell?_alloc_lt _ _ ⟨0, 0, none⟩ hlt]; exact hg
  have HW := Lib.hid (hW ((w.alloc (.cells #[.pointer (some ⟨tb, 0, none⟩)] tt)).alloc (.cells #[hd tt, .pointer (some ⟨w.heap.size, 0, none⟩), .int .u64 150] 118))
    (((Below.refl _ _).alloc (Nat.le_refl _) _).alloc (by simp) _) w.heap.size (by simp)
    (by rw [Below.heap_alloc _ _ _ (by simp; omega), Below.heap_alloc _ _ _ htl]; exact htb))
  have hnn := nil_iface sv xv
  have hn2 : ∀ w : World, (binOp .eql 20 (.iface tt (.pointer (some ⟨tb, 0, none⟩))) .nilIface).run Tryz.prog w = .ok (.bool false) w := fun w => by kernel_rfl
  clear hW hg hlt htl htb TG
  go_enter Tryz.func57, Tryz.ntmps57
  go_wp2_with (go_at_call 71; refine HW.out.mono ?_; rintro e w' R; have HR := Lib.hid R; clear R; obtain rfl := HR.out.1)
  go_ret
  exact post_up HR.out


end Go.Proofs.YthfkmfepeafgjaaGreatDoor
