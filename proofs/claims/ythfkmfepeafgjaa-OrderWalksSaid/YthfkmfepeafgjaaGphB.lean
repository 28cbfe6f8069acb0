/- Literals of hashes, commits and slices of them, guarded or not. No condition. -/
import Derived.Test.YthfkmfepeafgjaaGphY
import Derived.BigFrame
import Derived.Great.BuildSlice
namespace Go.Proofs.Ythfkmfepeafgjaa
open Go.RowKit
open Go.Maps

section
variable {P : Program} {ops : Array Oper} {rest : List Oper} {a : Act} {w : World} {Q : Exit → Act → World → Prop} {dst : Option Tmp} {T : TypeId} {pos : String} {after : Array Edge}
theorem build_w {g : Option (Nat × Bool)} {t : TypeId} {parts : Array (Nat × Operand)} {vals : Array (Nat × Value)} {cells : Array Value} (hr : P.built t vals.toList = some cells) (hv' : (parts.map fun (i, x) => (i, a.eval x)) = vals)
    (hw : Region.wanted ⟨dst, .build t parts, T, pos, after, g⟩ (yielded ops a.tmps) = true) (h : wpList P ops Q rest (a.put dst (.agg cells)) w) : wpList P ops Q (⟨dst, .build t parts, T, pos, after, g⟩ :: rest) a w :=
  BigFrame.wpList_want hw fun _ hK => wp_build t parts rfl (by rw [hv', hr]; rfl) (by rw [hv', hr]; exact hK _ _ h)
end
/-- A commit put together. -/
theorem built_commit (h : Key) (u : Value) (hh : h.length = 32) (hu : u.cells = #[u]) : Try.prog.built 49 [(0, .agg (hv h)), (1, u)] = some (cmv h u) := by
  have hi : (Try.prog.info? 49).map (fun i => i.zero.map (·.cells.size)) = some (some 33) := by kernel_rfl
  have hf : (Try.prog.underlying 49).map (fun d => match d with | .struct fs => fs.toList.mapM (fun f => (Try.prog.info? f.type).map fun i => (f.offset, i.size)) | _ => none) = some (some [(0, 32), (32, 1)]) := by kernel_rfl
  have hs : (hv h).size = 32 := by rw [hv_size, hh]
  unfold cmv
  generalize hv h = h at hs ⊢
  unfold Program.built
  cases hit : Try.prog.info? 49 with
  | none => rw [hit] at hi; cases hi
  | some it =>
    rw [hit] at hi
    cases hun : Try.prog.underlying 49 with
    | none => rw [hun] at hf; cases hf
    | some d =>
      rw [hun] at hf
      cases d with
      | struct fs =>
        simp only [Option.map_some, Option.some.injEq] at hf
        simp only [hf]
        cases hz : it.zero with
        | none => simp [hz] at hi
        | some z =>
          simp only [Option.map_some, Option.some.injEq, hz] at hi
          have hsz : ∀ x : Array Value, (x.zipIdx.foldl (fun (cs : Array Value) (p : Value × Nat) => cs.setIfInBounds (0 + p.2) p.1) z.cells) = (x.toList.zipIdx.foldl (fun (cs : Array Value) (p : Value × Nat) => cs.setIfInBounds (0 + p.2) p.1) z.cells) := fun x => by
            rw [← Array.foldl_toList, Array.toList_zipIdx]
          have hg := fold_get h.toList 0 z.cells
          have hn : (h.toList.zipIdx.foldl (fun (cs : Array Value) (p : Value × Nat) => cs.setIfInBounds (0 + p.2) p.1) z.cells).size = 33 := by
            rw [← hi]
            generalize h.toList.zipIdx = q
            generalize z.cells = y
            induction q generalizing y with
            | nil => rfl
            | cons a q ih => rw [List.foldl_cons, ih]; simp
          simp only [Instr.fill, List.getElem?_toArray, List.getElem?_cons_zero, List.getElem?_cons_succ, show (Value.agg h).cells = h from rfl, hs, hi, hu, hsz]
          generalize h.toList.zipIdx.foldl (fun (cs : Array Value) (p : Value × Nat) => cs.setIfInBounds (0 + p.2) p.1) z.cells = y at hg hn
          simp only [hn]
          simp
          apply Array.ext_getElem?
          intro i
          have := hg i
          simp only [Array.length_toList, hs, hi] at this
          rw [Array.getElem?_setIfInBounds, Array.getElem?_push, hn, hs]
          by_cases h1 : i = 32
          · subst h1; simp
          · rw [if_neg (by omega), if_neg h1, this]
            by_cases h2 : i < 32
            · rw [if_pos (by omega)]; simp
            · rw [if_neg (by omega)]
              rw [Array.getElem?_eq_none (by omega), Array.getElem?_eq_none (by omega)]
      | _ => simp at hf
theorem built_commit0 (h : Key) (hh : h.length = 32) : Try.prog.built 49 [(0, .agg (hv h))] = some (cmv h (.slice none 0 0)) := by
  have hi : (Try.prog.info? 49).map (fun i => i.zero) = some (some (.agg czer)) := by kernel_rfl
  have hf : (Try.prog.underlying 49).map (fun d => match d with | .struct fs => fs.toList.mapM (fun f => (Try.prog.info? f.type).map fun i => (f.offset, i.size)) | _ => none) = some (some [(0, 32), (32, 1)]) := by kernel_rfl
  have hs : (hv h).size = 32 := by rw [hv_size, hh]
  have hcz : czer.size = 33 ∧ czer[32]? = some (.slice none 0 0) := ⟨rfl, rfl⟩
  unfold cmv
  generalize hv h = h at hs ⊢
  unfold Program.built
  cases hit : Try.prog.info? 49 with
  | none => rw [hit] at hi; cases hi
  | some it =>
    rw [hit] at hi
    cases hun : Try.prog.underlying 49 with
    | none => rw [hun] at hf; cases hf
    | some d =>
      rw [hun] at hf
      cases d with
      | struct fs =>
        simp only [Option.map_some, Option.some.injEq] at hf hi
        simp only [hf, hi]
        have hsz : ∀ x : Array Value, (x.zipIdx.foldl (fun (cs : Array Value) (p : Value × Nat) => cs.setIfInBounds (0 + p.2) p.1) czer) = (x.toList.zipIdx.foldl (fun (cs : Array Value) (p : Value × Nat) => cs.setIfInBounds (0 + p.2) p.1) czer) := fun x => by
          rw [← Array.foldl_toList, Array.toList_zipIdx]
        have hg := fold_get h.toList 0 czer
        have hn : (h.toList.zipIdx.foldl (fun (cs : Array Value) (p : Value × Nat) => cs.setIfInBounds (0 + p.2) p.1) czer).size = 33 := by
          rw [← hcz.1]
          generalize h.toList.zipIdx = q
          generalize czer = y
          induction q generalizing y with
          | nil => rfl
          | cons a q ih => rw [List.foldl_cons, ih]; simp
        simp only [Instr.fill, List.getElem?_toArray, List.getElem?_cons_zero, show (Value.agg h).cells = h from rfl, show (Value.agg czer).cells = czer from rfl, hs, hcz.1, hsz]
        generalize h.toList.zipIdx.foldl (fun (cs : Array Value) (p : Value × Nat) => cs.setIfInBounds (0 + p.2) p.1) czer = y at hg hn
        simp
        apply Array.ext_getElem?
        intro i
        have := hg i
        simp only [Array.length_toList, hs, hcz.1] at this
        rw [Array.getElem?_push, hs]
        by_cases h1 : i = 32
        · subst h1; rw [this, if_neg (by omega), hcz.2]; simp
        · rw [if_neg h1, this]
          by_cases h2 : i < 32
          · rw [if_pos (by omega)]; simp
          · rw [if_neg (by omega), Array.getElem?_eq_none (by rw [hcz.1]; omega), Array.getElem?_eq_none (by omega)]
      | _ => simp at hf
/-- Commits with the slices of their parents: their cells. -/
abbrev Cv := List (Key × Value)
def cf (C : Cv) : List Value := C.flatMap fun c => us (nmb c.1) ++ [c.2]
theorem cf_cons (c : Key × Value) (C : Cv) : cf (c :: C) = (us (nmb c.1) ++ [c.2]) ++ cf C := by simp [cf]
theorem cf_app (C D : Cv) : cf (C ++ D) = cf C ++ cf D := by simp [cf]
theorem cf_one (c : Key × Value) : cf [c] = us (nmb c.1) ++ [c.2] := by simp [cf]
theorem cf_length : ∀ {C : Cv}, (∀ c ∈ C, c.1.length = 32) → (cf C).length = C.length * 33
  | [], _ => rfl
  | c :: C, h => by
    rw [cf_cons, List.length_append, List.length_append, usn_length, h c List.mem_cons_self, cf_length fun d hd => h d (List.mem_cons_of_mem _ hd)]
    simp only [List.length_cons, List.length_nil]
    omega
theorem cf_at : ∀ {C : Cv} (_ : ∀ c ∈ C, c.1.length = 32) {i j : Nat} {c : Key × Value}, C[i]? = some c → j < 33 → (cf C)[i * 33 + j]? = (us (nmb c.1) ++ [c.2])[j]?
  | [], _, i, _, _, hc, _ => by simp at hc
  | d :: C, h, 0, j, c, hc, hj => by
    simp only [List.getElem?_cons_zero, Option.some.injEq] at hc
    subst hc
    rw [cf_cons, List.getElem?_append_left]
    · simp
    · rw [List.length_append, usn_length, h d List.mem_cons_self]; simp; omega
  | d :: C, h, i + 1, j, c, hc, hj => by
    rw [cf_cons, List.getElem?_append_right]
    · rw [List.length_append, usn_length, h d List.mem_cons_self, show (i + 1) * 33 + j - (32 + [d.2].length) = i * 33 + j by simp; omega]
      exact cf_at (fun e he => h e (List.mem_cons_of_mem _ he)) (by simpa using hc) hj
    · rw [List.length_append, usn_length, h d List.mem_cons_self]; simp; omega
theorem czinfo : (Try.prog.info? 49).map (fun i => (i.zero, i.size, i.bytes)) = some (some (.agg czer), 33, 56) := by kernel_rfl
theorem cf_flat (C : Cv) : (C.map fun c => Value.agg (cmv c.1 c.2)).flatMap (fun v => v.cells.toList) = cf C := by
  rw [List.flatMap_map]
  unfold cf
  congr 1
  funext c
  exact cmv_list c.1 c.2
section
variable {ops : Array Oper} {rest : List Oper} {a : Act} {w : World} {Q : Exit → Act → World → Prop} {dst : Option Tmp} {T : TypeId} {pos : String} {after : Array Edge}
theorem slice_w {g : Option (Nat × Bool)} {E : List Key} {parts : Array (Nat × Operand)} {len : Nat} (hE : H32 E) (hl : len = E.length) (h0 : 0 < E.length) (h1 : E.length ≤ 1000)
    (hv' : (parts.map fun (i, x) => (i, a.eval x)).toList = ((E.map fun h => Value.agg (hv h)).zipIdx 0).map fun x => (x.2, x.1))
    (hw : Region.wanted ⟨dst, .buildSlice 25 len parts, T, pos, after, g⟩ (yielded ops a.tmps) = true)
    (h : wpList Try.prog ops Q rest (a.put dst (.slice (some ⟨w.heap.size, 0, none⟩) len len)) (w.alloc (.cells (fl E).toArray 28))) : wpList Try.prog ops Q (⟨dst, .buildSlice 25 len parts, T, pos, after, g⟩ :: rest) a w := by
  subst hl
  obtain ⟨i0, hi0, hz0, hz1, hz2⟩ := info_parts hzinfo
  have hrun : (Instr.buildSlice 25 E.length (parts.map fun (i, x) => (i, a.eval x))).run Try.prog w = .ok (.slice (some ⟨w.heap.size, 0, none⟩) E.length E.length) (w.alloc (.cells (fl E).toArray 28)) := by
    refine run_buildSlice w 25 28 E.length _ (fl E).toArray i0 (.agg hzer) Try.underlying25 hi0 hz0 (by rw [hz1]; omega) (by rw [hz1]; omega) ?_
    rw [hv', hz1]
    exact (by
      have := Great.fill_whole (s := 32) (by decide) (E.map fun h => Value.agg (hv h)) ((Array.range (E.length * 32)).map ((Value.agg hzer).cells[· % (Value.agg hzer).cells.size]!)) (fun v hvm => by
        obtain ⟨h, hm, rfl⟩ := List.mem_map.1 hvm
        show (hv h).size = 32
        rw [hv_size, hE h hm]) (by simp)
      rw [fl_flat] at this
      exact this)
  refine BigFrame.wpList_want hw fun K hK => ?_
  unfold Oper.wp execOp
  simp only [Sem.run_bind, hrun, Result.andThen_ok]
  exact hK _ _ h
theorem slicec_w {g : Option (Nat × Bool)} {C : Cv} {parts : Array (Nat × Operand)} {len : Nat} (hE : ∀ c ∈ C, c.1.length = 32) (hl : len = C.length) (h0 : 0 < C.length) (h1 : C.length ≤ 1000)
    (hv' : (parts.map fun (i, x) => (i, a.eval x)).toList = ((C.map fun c => Value.agg (cmv c.1 c.2)).zipIdx 0).map fun x => (x.2, x.1))
    (hw : Region.wanted ⟨dst, .buildSlice 46 len parts, T, pos, after, g⟩ (yielded ops a.tmps) = true)
    (h : wpList Try.prog ops Q rest (a.put dst (.slice (some ⟨w.heap.size, 0, none⟩) len len)) (w.alloc (.cells (cf C).toArray 49))) : wpList Try.prog ops Q (⟨dst, .buildSlice 46 len parts, T, pos, after, g⟩ :: rest) a w := by
  subst hl
  obtain ⟨i0, hi0, hz0, hz1, hz2⟩ := info_parts czinfo
  have hrun : (Instr.buildSlice 46 C.length (parts.map fun (i, x) => (i, a.eval x))).run Try.prog w = .ok (.slice (some ⟨w.heap.size, 0, none⟩) C.length C.length) (w.alloc (.cells (cf C).toArray 49)) := by
    refine run_buildSlice w 46 49 C.length _ (cf C).toArray i0 (.agg czer) Try.underlying46 hi0 hz0 (by rw [hz1]; omega) (by rw [hz1]; omega) ?_
    rw [hv', hz1]
    exact (by
      have := Great.fill_whole (s := 33) (by decide) (C.map fun c => Value.agg (cmv c.1 c.2)) ((Array.range (C.length * 33)).map ((Value.agg czer).cells[· % (Value.agg czer).cells.size]!)) (fun v hvm => by
        obtain ⟨c, hm, rfl⟩ := List.mem_map.1 hvm
        exact cmv_size (hE c hm) c.2) (by simp)
      rw [cf_flat] at this
      exact this)
  refine BigFrame.wpList_want hw fun K hK => ?_
  unfold Oper.wp execOp
  simp only [Sem.run_bind, hrun, Result.andThen_ok]
  exact hK _ _ h
end
/-- New commits are seen. -/
theorem cseen_new {W : World} {b : Nat} {C : Cv} {cs : List Cm} (hb : W.heap[b]? = some (.cells (cf C).toArray 49 (0, 0))) (h32 : ∀ c ∈ C, c.1.length = 32) (hl : C.length = cs.length)
    (hc : ∀ (i : Nat) (c : Key × Value) (d : Cm), C[i]? = some c → cs[i]? = some d → c.1 = d.1 ∧ HSeen W c.2 d.2) (n : Nat) (hn : n = cs.length) : CSeen W (.slice (some ⟨b, 0, none⟩) n n) cs := by
  subst hn
  refine ⟨_, _, rfl, fun i d hi => ?_⟩
  have hlt := (List.getElem?_eq_some_iff.1 hi).1
  have hci : C[i]? = some C[i] := List.getElem?_eq_getElem (by omega)
  obtain ⟨h1, h2⟩ := hc i _ d hci hi
  refine ⟨b, 0, C[i].2, rfl, fun j u hj => ?_, h2⟩
  have hj33 : j < 33 := by
    have := (List.getElem?_eq_some_iff.1 hj).1
    rw [List.length_append, usn_length, ← h1, h32 _ (List.getElem_mem _)] at this
    simpa using this
  rw [cell_of_row W b _ _ _ _ hb, List.getElem?_toArray, Nat.zero_add, cf_at h32 hci hj33, h1]
  exact hj
theorem hseen_new {W : World} {b : Nat} {E : List Key} (hb : W.heap[b]? = some (.cells (fl E).toArray 28 (0, 0))) (n : Nat) (hn : n = E.length) : HSeen W (.slice (some ⟨b, 0, none⟩) n n) E := by
  subst hn
  refine .inr ⟨_, _, rfl, Nat.le_refl _, fun j u hj => ?_⟩
  rw [Addr.add_lit, cell_of_row W b _ _ _ _ hb, List.getElem?_toArray, Nat.zero_add]
  exact hj
end Go.Proofs.Ythfkmfepeafgjaa
