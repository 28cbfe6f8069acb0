/- Chains of wrapped errors in memory, and what Wrap, At, Of make. No condition. -/
import Derived.Test.YtageblggakfbdaaDoorGenAs
namespace Go.Proofs.YtageblggakfbdaaDoor
open Go.RowKit

/-- One layer of a chain: its block, and what it was made of. -/
inductive Lnk where
  | step (p : Nat) (s : ByteArray)
  | place (p : Nat) (n : Int)
  | which (p : Nat) (h : Array Value)

def Lnk.blk : Lnk → Nat
  | .step p _ => p
  | .place p _ => p
  | .which p _ => p
def Lnk.ty : Lnk → TypeId
  | .step _ _ => 54
  | .place _ _ => 55
  | .which _ _ => 37

/-- The error: the layers L around the error b. -/
def val : List Lnk → Value → Value
  | [], b => b
  | l :: _, _ => .iface l.ty (.pointer (some ⟨l.blk, 0, none⟩))

/-- A number that falls from layer to layer. -/
def meas : Value → Nat
  | .iface _ (.pointer (some a)) => a.block + 1
  | _ => 0

/-- What a layer's block holds. -/
def Lnk.obj : Lnk → Value → Obj
  | .step _ s, u => .cells #[.string s, u] 59 (0, 0)
  | .place _ n, u => .cells #[.int .i64 n, u] 62 (0, 0)
  | .which _ h, u => .cells (h.push u) 41 (0, 0)
def Lnk.fine : Lnk → Prop
  | .which _ h => h.size = 32
  | _ => True

/-- The chain lies in memory. -/
def Ch (w : World) : List Lnk → Value → Prop
  | [], _ => True
  | l :: L, b => w.heap[l.blk]? = some (l.obj (val L b)) ∧ l.fine ∧ meas (val L b) ≤ l.blk ∧ Ch w L b

theorem Ch.kb {w w' : World} (hb : Below w.heap.size w w') : ∀ {L b}, Ch w L b → Ch w' L b
  | [], _, _ => trivial
  | _ :: _, _, ⟨h1, h2, h3, h4⟩ => ⟨(hb.block _ (Array.getElem?_eq_some_iff.1 h1).1).trans h1, h2, h3, Ch.kb hb h4⟩
theorem Ch.only {w w' : World} {S : Nat → Prop} (ho : Only S w w') : ∀ {L b}, Ch w L b → (∀ l ∈ L, ¬ S l.blk) → Ch w' L b
  | [], _, _, _ => trivial
  | l :: _, _, ⟨h1, h2, h3, h4⟩, hs => ⟨(ho.block _ (Array.getElem?_eq_some_iff.1 h1).1 (hs l (List.mem_cons_self ..))).trans h1, h2, h3, Ch.only ho h4 (fun x hx => hs x (List.mem_cons_of_mem _ hx))⟩
theorem Ch.lt {w : World} : ∀ {L b}, Ch w L b → ∀ l ∈ L, l.blk < w.heap.size
  | [], _, _, _, h => by cases h
  | l :: L, b, ⟨h1, _, _, h4⟩, x, hx => by
    rcases List.mem_cons.1 hx with rfl | hx
    · exact (Array.getElem?_eq_some_iff.1 h1).1
    · exact Ch.lt h4 x hx

/-- An error that wraps none: a kind, an error of nobody's, or one of errors.New. -/
def Base (b : Value) : Prop := (∃ k, b = .iface 29 (.int .i64 k)) ∨ b = .iface 65 (.agg #[]) ∨ ∃ p, b = .iface 93 (.pointer (some p))

theorem val_iface {b : Value} (hb : Base b) (L : List Lnk) : ∃ t x, val L b = .iface t x := by
  cases L with
  | nil =>
    rcases hb with ⟨k, rfl⟩ | rfl | ⟨p, rfl⟩
    · exact ⟨_, _, rfl⟩
    · exact ⟨_, _, rfl⟩
    · exact ⟨_, _, rfl⟩
  | cons l L => exact ⟨_, _, rfl⟩

/-- The first error of the dynamic type t in the chain: what it holds. -/
def fnd (t : TypeId) : List Lnk → Value → Option Value
  | [], .iface s x => if s = t then some x else none
  | [], _ => none
  | l :: L, b => if l.ty = t then some (.pointer (some ⟨l.blk, 0, none⟩)) else fnd t L b

theorem list32 {α : Type} (l : List α) (h : l.length = 32) : ∃ x0 x1 x2 x3 x4 x5 x6 x7 x8 x9 x10 x11 x12 x13 x14 x15 x16 x17 x18 x19 x20 x21 x22 x23 x24 x25 x26 x27 x28 x29 x30 x31, l = [x0, x1, x2, x3, x4, x5, x6, x7, x8, x9, x10, x11, x12, x13, x14, x15, x16, x17, x18, x19, x20, x21, x22, x23, x24, x25, x26, x27, x28, x29, x30, x31] :=
  match l, h with
  | [_, _, _, _, _, _, _, _, _, _, _, _, _, _, _, _, _, _, _, _, _, _, _, _, _, _, _, _, _, _, _, _], _ => ⟨_, _, _, _, _, _, _, _, _, _, _, _, _, _, _, _, _, _, _, _, _, _, _, _, _, _, _, _, _, _, _, _, rfl⟩

theorem fold_get : ∀ (l : List Value) (k : Nat) (z : Array Value) (i : Nat),
    ((l.zipIdx k).foldl (fun (cs : Array Value) (p : Value × Nat) => cs.setIfInBounds (0 + p.2) p.1) z)[i]? = if k ≤ i ∧ i < k + l.length ∧ i < z.size then l[i - k]? else z[i]?
  | [], k, z, i => by
    have : ¬ (k ≤ i ∧ i < k + ([] : List Value).length ∧ i < z.size) := by simp; omega
    rw [if_neg this]; rfl
  | x :: l, k, z, i => by
    rw [List.zipIdx_cons, List.foldl_cons, fold_get l (k + 1)]
    simp only [Array.size_setIfInBounds, List.length_cons, Nat.zero_add]
    by_cases h1 : k = i
    · subst h1
      rw [if_neg (by omega)]
      by_cases h2 : k < z.size
      · rw [if_pos (by omega)]; simp [h2]
      · rw [if_neg (by omega)]; simp [h2]
    · by_cases h2 : k + 1 ≤ i ∧ i < k + 1 + l.length ∧ i < z.size
      · rw [if_pos h2, if_pos (by omega)]
        obtain ⟨j, rfl⟩ : ∃ j, i = k + 1 + j := ⟨i - (k + 1), by omega⟩
        rw [show k + 1 + j - (k + 1) = j from by omega, show k + 1 + j - k = j + 1 from by omega]
        rfl
      · rw [if_neg h2, if_neg (by omega)]
        simp [h1]

/-- A hash put together with an error: 33 cells. -/
theorem built_which (h : Array Value) (u : Value) (hs : h.size = 32) (hu : u.cells = #[u]) : Tryd.prog.built 41 [(0, .agg h), (1, u)] = some (h.push u) := by
  have hi : (Tryd.prog.info? 41).map (fun i => i.zero.map (·.cells.size)) = some (some 33) := by kernel_rfl
  have hf : (Tryd.prog.underlying 41).map (fun d => match d with | .struct fs => fs.toList.mapM (fun f => (Tryd.prog.info? f.type).map fun i => (f.offset, i.size)) | _ => none) = some (some [(0, 32), (32, 1)]) := by kernel_rfl
  unfold Program.built
  cases hit : Tryd.prog.info? 41 with
  | none => rw [hit] at hi; cases hi
  | some it =>
    rw [hit] at hi
    cases hun : Tryd.prog.underlying 41 with
    | none => rw [hun] at hf; cases hf
    | some d =>
      rw [hun] at hf
      cases d with
      | struct fs =>
        simp only [Option.map_some, Option.some.injEq] at hf
        simp only [hf]
        cases hz : it.zero with
        | none => simp [hz] at hi
        | some z =>
          simp only [Option.map_some, Option.some.injEq, hz] at hi
          have hsz : ∀ x : Array Value, (x.zipIdx.foldl (fun (cs : Array Value) (p : Value × Nat) => cs.setIfInBounds (0 + p.2) p.1) z.cells) = (x.toList.zipIdx.foldl (fun (cs : Array Value) (p : Value × Nat) => cs.setIfInBounds (0 + p.2) p.1) z.cells) := fun x => by
            rw [← Array.foldl_toList, Array.toList_zipIdx]
          have hg := fold_get h.toList 0 z.cells
          have hn : (h.toList.zipIdx.foldl (fun (cs : Array Value) (p : Value × Nat) => cs.setIfInBounds (0 + p.2) p.1) z.cells).size = 33 := by
            rw [← hi]
            generalize h.toList.zipIdx = q
            generalize z.cells = y
            induction q generalizing y with
            | nil => rfl
            | cons a q ih => rw [List.foldl_cons, ih]; simp
          simp only [Instr.fill, List.getElem?_toArray, List.getElem?_cons_zero, List.getElem?_cons_succ, show (Value.agg h).cells = h from rfl, hs, hi, hu, hsz]
          generalize h.toList.zipIdx.foldl (fun (cs : Array Value) (p : Value × Nat) => cs.setIfInBounds (0 + p.2) p.1) z.cells = y at hg hn
          simp only [hn]
          simp
          apply Array.ext_getElem?
          intro i
          have := hg i
          simp only [Array.length_toList, hs, hi] at this
          rw [Array.getElem?_setIfInBounds, Array.getElem?_push, hn, hs]
          by_cases h1 : i = 32
          · subst h1; simp
          · rw [if_neg (by omega), if_neg h1, this]
            by_cases h2 : i < 32
            · rw [if_pos (by omega)]; simp
            · rw [if_neg (by omega)]
              rw [Array.getElem?_eq_none (by omega), Array.getElem?_eq_none (by omega)]
      | _ => simp at hf

theorem wrap_any (w : World) (s : ByteArray) (t : TypeId) (x : Value) : Calls Tryd.prog 7 #[.string s, .iface t x] w fun e w' =>
    e = .returned (.iface 54 (.pointer (some ⟨w.heap.size, 0, none⟩))) ∧ w' = w.alloc (.cells #[.string s, .iface t x] 59) := by
  have hn := nil_iface
  go_enter Tryd.func7, Tryd.ntmps7
  go_wp2
  go_ret
  exact ⟨rfl, rfl⟩

theorem at_any (w : World) (n : Int) (t : TypeId) (x : Value) : Calls Tryd.prog 9 #[.int .i64 n, .iface t x] w fun e w' =>
    e = .returned (.iface 55 (.pointer (some ⟨w.heap.size, 0, none⟩))) ∧ w' = w.alloc (.cells #[.int .i64 n, .iface t x] 62) := by
  have hn := nil_iface
  go_enter Tryd.func9, Tryd.ntmps9
  go_wp2
  go_ret
  exact ⟨rfl, rfl⟩

theorem size_hash (h : Array Value) (hs : h.size = 32) : (Tryd.prog.info? 23).map (·.size) = some h.size := by rw [hs]; kernel_rfl

theorem size_hash' (h : Array Value) (hs : h.size = 32) : (Tryd.prog.info? 23).map (·.size) = some h.toList.length := by rw [Array.length_toList]; exact size_hash h hs

set_option maxRecDepth 10000 in
theorem of_any (w : World) (q : Array Value) (hs : q.size = 32) (t : TypeId) (x : Value) : Calls Tryd.prog 8 #[.agg q, .iface t x] w fun e w' =>
    e = .returned (.iface 37 (.pointer (some ⟨w.heap.size + 1, 0, none⟩))) ∧ w' = (w.alloc (.cells q 23)).alloc (.cells (q.push (.iface t x)) 41) := by
  have hn := nil_iface
  have hb := Lib.hid (built_which q (.iface t x) hs rfl)
  have hl := Lib.hid (range_new w q 23)
  have hz := Lib.hid (size_hash' q hs)
  clear hs
  go_enter Tryd.func8, Tryd.ntmps8
  go_wp2_with (refine load_to hl.out Tryd.underlying23 rfl hz.out ?hx ?_; (case hx => rfl); refine move_to ?_; refine build_to (vals := #[(0, .agg q), (1, .iface t x)]) hb.out ?hv ?_; (case hv => simp [Act.put, Act.eval]))
  go_ret
  exact ⟨rfl, rfl⟩

end Go.Proofs.YtageblggakfbdaaDoor
