/- An error that names a hash: what oops.Of makes, and what errors.As, taproothand.Kind and taproothand.Whose tell of it. Condition: errors.errorType holds what its text lays. -/
import Derived.Test.YthfkmfepeafgjaaGenAs
import Derived.Stop.Asserts
import Derived.LaidEql
import Derived.RowKitTokens
namespace Go.Proofs.Ythfkmfepeafgjaa
open Go.RowKit Go.Extern.Stop Go.Stop Go.Extern

theorem fold_get : ∀ (l : List Value) (k : Nat) (z : Array Value) (i : Nat),
    ((l.zipIdx k).foldl (fun (cs : Array Value) (p : Value × Nat) => cs.setIfInBounds (0 + p.2) p.1) z)[i]? = if k ≤ i ∧ i < k + l.length ∧ i < z.size then l[i - k]? else z[i]?
  | [], k, z, i => by
    have : ¬ (k ≤ i ∧ i < k + ([] : List Value).length ∧ i < z.size) := by simp; omega
    rw [if_neg this]; rfl
  | x :: l, k, z, i => by
    rw [List.zipIdx_cons, List.foldl_cons, fold_get l (k + 1)]
    simp only [Array.size_setIfInBounds, List.length_cons, Nat.zero_add]
    by_cases h1 : k = i
    · subst h1
      rw [if_neg (by omega)]
      by_cases h2 : k < z.size
      · rw [if_pos (by omega)]; simp [h2]
      · rw [if_neg (by omega)]; simp [h2]
    · by_cases h2 : k + 1 ≤ i ∧ i < k + 1 + l.length ∧ i < z.size
      · rw [if_pos h2, if_pos (by omega)]
        obtain ⟨j, rfl⟩ : ∃ j, i = k + 1 + j := ⟨i - (k + 1), by omega⟩
        rw [show k + 1 + j - (k + 1) = j from by omega, show k + 1 + j - k = j + 1 from by omega]
        rfl
      · rw [if_neg h2, if_neg (by omega)]
        simp [h1]

/-- A hash put together with an error: 33 cells. -/
theorem built_which (h : Array Value) (u : Value) (hs : h.size = 32) (hu : u.cells = #[u]) : Try.prog.built 124 [(0, .agg h), (1, u)] = some (h.push u) := by
  have hi : (Try.prog.info? 124).map (fun i => i.zero.map (·.cells.size)) = some (some 33) := by kernel_rfl
  have hf : (Try.prog.underlying 124).map (fun d => match d with | .struct fs => fs.toList.mapM (fun f => (Try.prog.info? f.type).map fun i => (f.offset, i.size)) | _ => none) = some (some [(0, 32), (32, 1)]) := by kernel_rfl
  unfold Program.built
  cases hit : Try.prog.info? 124 with
  | none => rw [hit] at hi; cases hi
  | some it =>
    rw [hit] at hi
    cases hun : Try.prog.underlying 124 with
    | none => rw [hun] at hf; cases hf
    | some d =>
      rw [hun] at hf
      cases d with
      | struct fs =>
        simp only [Option.map_some, Option.some.injEq] at hf
        simp only [hf]
        cases hz : it.zero with
        | none => simp [hz] at hi
        | some z =>
          simp only [Option.map_some, Option.some.injEq, hz] at hi
          have hsz : ∀ x : Array Value, (x.zipIdx.foldl (fun (cs : Array Value) (p : Value × Nat) => cs.setIfInBounds (0 + p.2) p.1) z.cells) = (x.toList.zipIdx.foldl (fun (cs : Array Value) (p : Value × Nat) => cs.setIfInBounds (0 + p.2) p.1) z.cells) := fun x => by
            rw [← Array.foldl_toList, Array.toList_zipIdx]
          have hg := fold_get h.toList 0 z.cells
          have hn : (h.toList.zipIdx.foldl (fun (cs : Array Value) (p : Value × Nat) => cs.setIfInBounds (0 + p.2) p.1) z.cells).size = 33 := by
            rw [← hi]
            generalize h.toList.zipIdx = q
            generalize z.cells = y
            induction q generalizing y with
            | nil => rfl
            | cons a q ih => rw [List.foldl_cons, ih]; simp
          simp only [Instr.fill, List.getElem?_toArray, List.getElem?_cons_zero, List.getElem?_cons_succ, show (Value.agg h).cells = h from rfl, hs, hi, hu, hsz]
          generalize h.toList.zipIdx.foldl (fun (cs : Array Value) (p : Value × Nat) => cs.setIfInBounds (0 + p.2) p.1) z.cells = y at hg hn
          simp only [hn]
          simp
          apply Array.ext_getElem?
          intro i
          have := hg i
          simp only [Array.length_toList, hs, hi] at this
          rw [Array.getElem?_setIfInBounds, Array.getElem?_push, hn, hs]
          by_cases h1 : i = 32
          · subst h1; simp
          · rw [if_neg (by omega), if_neg h1, this]
            by_cases h2 : i < 32
            · rw [if_pos (by omega)]; simp
            · rw [if_neg (by omega)]
              rw [Array.getElem?_eq_none (by omega), Array.getElem?_eq_none (by omega)]
      | _ => simp at hf

theorem size_hash (h : Array Value) (hs : h.size = 32) : (Try.prog.info? 28).map (·.size) = some h.size := by rw [hs]; kernel_rfl

theorem size_hash' (h : Array Value) (hs : h.size = 32) : (Try.prog.info? 28).map (·.size) = some h.toList.length := by rw [Array.length_toList]; exact size_hash h hs

set_option maxRecDepth 10000 in
theorem of_any (w : World) (q : Array Value) (hs : q.size = 32) (t : TypeId) (x : Value) : Calls Try.prog 73 #[.agg q, .iface t x] w fun e w' =>
    e = .returned (.iface 122 (.pointer (some ⟨w.heap.size + 1, 0, none⟩))) ∧ w' = (w.alloc (.cells q 28)).alloc (.cells (q.push (.iface t x)) 124) := by
  have hn := nil_iface
  have hb := Lib.hid (built_which q (.iface t x) hs rfl)
  have hl := Lib.hid (range_new w q 28)
  have hz := Lib.hid (size_hash' q hs)
  clear hs
  go_enter Try.func73, Try.ntmps73
  go_wp2_with (refine load_to hl.out Try.underlying28 rfl hz.out ?hx ?_; (case hx => rfl); refine move_to ?_; refine build_to (vals := #[(0, .agg q), (1, .iface t x)]) hb.out ?hv ?_; (case hv => simp [Act.put, Act.eval]))
  go_ret
  exact ⟨rfl, rfl⟩

theorem partsW2 (a : Addr) (w : World) : (ReflectliteValue.parts (.agg #[hd 122, .pointer (some a), .int .u64 406])).run Try.prog w = .ok (some (122, a, 406)) w := by kernel_rfl
theorem partsW3 (a : Addr) (w : World) : (ReflectliteValue.parts (.agg #[hd 122, .pointer (some a), .int .u64 150])).run Try.prog w = .ok (some (122, a, 150)) w := by kernel_rfl
theorem mkW (p : Addr) (w : World) : (ReflectliteValue.mk 122 p ReflectliteValue.flagAddr).run Try.prog w = .ok (.agg #[hd 122, .pointer (some p), .int .u64 406]) w := by kernel_rfl
theorem diW (w : World) : (Rtype.directlyAssignable 122 122).run Try.prog w = .ok true w := by kernel_rfl
theorem szW (w : World) : (sizeOf 122).run Try.prog w = .ok 1 w := by kernel_rfl
theorem post_miss {t : TypeId} {w : World} {tb : Nat} {old : Value} {r : Option Value} {o1 : Obj} (hr : r = none) (htb : w.heap[tb]? = some (.cells #[old] t (0, 0))) :
    AsPost w tb t old r (.returned (.bool false)) (w.alloc o1) := by
  subst hr
  have hlt := (Array.getElem?_eq_some_iff.1 htb).1
  refine ⟨rfl, (Only.refl _ _).alloc _, ?_⟩
  rw [Below.heap_alloc _ _ _ hlt]
  exact htb


/-- An error at block p that names the hash q, around the kind k. -/
def Wh (w : World) (p : Nat) (q : Array Value) (k : Int) : Prop := w.heap[p]? = some (.cells (q.push (kind k)) 124 (0, 0)) ∧ q.size = 32
abbrev whv (p : Nat) : Value := .iface 122 (.pointer (some ⟨p, 0, none⟩))
theorem Wh.kb {w w' : World} {p : Nat} {q : Array Value} {k : Int} (h : Wh w p q k) (hb : Below w.heap.size w w') : Wh w' p q k := ⟨(hb.block _ (Array.getElem?_eq_some_iff.1 h.1).1).trans h.1, h.2⟩

theorem post_up {t : TypeId} {w : World} {tb : Nat} {old : Value} {r : Option Value} {o1 o2 : Obj} {e : Ending} {w' : World} (h : AsPost ((w.alloc o1).alloc o2) tb t old r e w') : AsPost w tb t old r e w' :=
  ⟨h.1, (((Only.refl (fun k => k = tb) w).alloc o1).alloc o2).trans h.2.1 (fun _ h => h) (fun _ _ h => h), h.2.2⟩

end Go.Proofs.Ythfkmfepeafgjaa
