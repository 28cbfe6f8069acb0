/- slices.Clone over hashes; a row of hashes in memory. Condition: the slice is within what a slice may take up. · slices.Compact over hashes: neighbours that are alike are left out. Condition: the row is the call's own. -/
import Derived.Test.YtbpccbhlggcmfaaGreatDoorHexS
import Derived.Test.YtbpccbhlggcmfaaGreatDoorHexP
import Derived.Lib.SliceRun
import Derived.Test.YtbpccbhlggcmfaaGreatDoorHexE
import Derived.Deep.QuietTactic
import Derived.BigQuiet
namespace Go.Proofs.YtbpccbhlggcmfaaGreatDoor
open Go.RowKit

theorem hzinfo : (Tryz.prog.info? 36).map (fun i => (i.zero, i.size, i.bytes)) = some (some (.agg hzer), 32, 32) := by kernel_rfl

/-- The slice v holds the hashes E. -/
def HSeen (w : World) (v : Value) (E : List (List UInt8)) : Prop :=
  (v = .slice none 0 0 ∧ E = []) ∨ ∃ a cap, v = .slice (some a) E.length cap ∧ E.length ≤ cap ∧ ∀ j u, (fl E)[j]? = some u → w.cell? (a.add j) = some u
/-- It owns them. -/
abbrev HOwn (w : World) (B : Nat) (v : Value) (E : List (List UInt8)) : Prop := w.ownsRow B 36 32 v E.length (fl E)
theorem HSeen.own {w : World} {B : Nat} {v : Value} {E : List (List UInt8)} (h : HOwn w B v E) : HSeen w v E := by
  have hc : ∀ g, v.ownBlock = some g → _ := fun g hg => h.cells (g := g) hg
  rcases h.2 with ⟨rfl, h0⟩ | ⟨g, cap, cur, rfl, _, _, hn, _⟩
  · exact .inl ⟨rfl, List.eq_nil_of_length_eq_zero h0⟩
  · exact .inr ⟨_, cap, rfl, hn, hc _ rfl⟩
/-- The block of an owned row. -/
theorem HOwn.row {w : World} {B : Nat} {v : Value} {E : List (List UInt8)} (h : HOwn w B v E) (h0 : 0 < E.length) : ∃ g cap R, v = .slice (some ⟨g, 0, none⟩) E.length cap ∧ B ≤ g ∧ w.heap[g]? = some (.cells (fl E ++ R).toArray 36 (0, 0)) ∧ E.length ≤ cap ∧ cap ≤ maxLen ∧ R.length = (cap - E.length) * 32 := by
  rcases h.2 with ⟨_, hn⟩ | ⟨g, cap, cur, rfl, hb, hg, hn, hm, hs, ht⟩
  · omega
  · refine ⟨g, cap, cur.toList.drop (E.length * 32), rfl, hb, ?_, hn, hm, ?_⟩
    · rw [← ht, List.take_append_drop]; simpa using hg
    · rw [List.length_drop, Array.length_toList, hs, Nat.sub_mul]
theorem hown_mk {w : World} {B g cap n : Nat} {E : List (List UInt8)} {R : List Value} (hE : H32 E) (hn : n = E.length) (hb : B ≤ g) (hg : w.heap[g]? = some (.cells (fl E ++ R).toArray 36 (0, 0))) (hc : E.length ≤ cap) (hm : cap ≤ maxLen) (hR : R.length = (cap - E.length) * 32) : HOwn w B (.slice (some ⟨g, 0, none⟩) n cap) E := by
  subst hn
  refine ⟨fl_length hE, .inr ⟨g, cap, (fl E ++ R).toArray, rfl, hb, hg, hc, hm, ?_, ?_⟩⟩
  · show (fl E ++ R).length = cap * 32
    rw [List.length_append, fl_length hE, hR, ← Nat.add_mul]
    congr 1; omega
  · rw [show (fl E ++ R).toArray.toList = fl E ++ R from rfl, ← fl_length hE, List.take_left]

end Go.Proofs.YtbpccbhlggcmfaaGreatDoor
namespace Go.Proofs.YtbpccbhlggcmfaaGreatDoor
open Go.RowKit
attribute [local go_sem ↓] hld_open heq_open hne_open

theorem hzer_rep : hzer = Array.replicate 32 (.int .u8 0) := rfl
theorem fl_zero : ∀ n, fl (List.replicate n hz) = List.replicate (n * 32) (.int .u8 0)
  | 0 => rfl
  | n + 1 => by
    rw [List.replicate_succ, fl_cons, fl_zero n, show us (nmb hz) = List.replicate 32 (.int .u8 0) from rfl, List.replicate_append_replicate]
    congr 1; omega
theorem clear_hash (w : World) (ty : TypeId) (g o n c : Nat) (hn : 0 < n) (ht : w.there g o (n * 32)) :
    (Builtin.clear_ #[46] ty #[.slice (some ⟨g, o, none⟩) n c]).run Tryz.prog w = .ok (.tuple #[]) (w.setCells g o (fl (List.replicate n hz))) := by
  have hv : ∀ w, (zeroValue 36).run Tryz.prog w = .ok (.agg hzer) w := fun w => by kernel_rfl
  have hzc : (Builtin.zeroCells (Value.agg hzer).cells n).toList = fl (List.replicate n hz) := by
    rw [fl_zero, show (Value.agg hzer).cells = hzer from rfl, hzer_rep]
    apply List.ext_getElem
    · simp [Builtin.zeroCells]
    · intro i h1 h2
      have : i % 32 < 32 := by omega
      simp [Builtin.zeroCells, this]
  have hst := run_storeCells_cells (P := Tryz.prog) g o (fl (List.replicate n hz)) 0 w (fun j hj => by
      rw [fl_zero, List.length_replicate] at hj
      have := (ht j hj).1
      rwa [Nat.add_zero]) (fun j hj => by
      rw [fl_zero, List.length_replicate] at hj
      have := (ht j hj).2
      rwa [Nat.add_zero]) (fl_one' _)
  simp only [Nat.add_zero] at hst
  obtain ⟨m, rfl⟩ : ∃ m, n = m + 1 := ⟨n - 1, by omega⟩
  simp [Builtin.clear_, run_underlying Tryz.underlying46, hv, hzc, hst]

theorem row_range {w : World} {g i : Nat} {E : List (List UInt8)} {R : List Value} {t : TypeId} (hE : H32 E) (hi : i < E.length) (h : w.heap[g]? = some (.cells (fl E ++ R).toArray t (0, 0))) : w.rangeAt g (i * 32) (us (nmb E[i])) := fun j v hv => by
  have hj : j < 32 := by have := (List.getElem?_eq_some_iff.1 hv).1; rwa [usn_length, hE.at hi] at this
  rw [cell_of_row w g _ _ _ _ h, List.getElem?_toArray, List.getElem?_append_left (by rw [fl_length hE]; omega), fl_at hE hi hj]
  exact hv
theorem row_there {w : World} {g o n : Nat} {C : List Value} {t : TypeId} (h : w.heap[g]? = some (.cells C.toArray t (0, 0))) (hl : o + n ≤ C.length) : w.there g o n := fun j hj => by
  constructor
  · rw [cell_of_row w g _ _ _ _ h, List.getElem?_toArray, List.getElem?_eq_getElem (by omega)]; rfl
  · simp [World.frozen?, h]
theorem hld_at {w : World} {g i : Nat} {E : List (List UInt8)} {R : List Value} {t : TypeId} (hE : H32 E) (hi : i < E.length) (h : w.heap[g]? = some (.cells (fl E ++ R).toArray t (0, 0))) (q : Nat) : (hld ⟨g, i * 32, none⟩).run Tryz.prog (w.drewN q) = .ok (.agg (hv E[i])) (w.drewN q) :=
  hld_range (hE.at hi) (w := w.drewN q) (row_range hE hi h)

/-- What Compact leaves. -/
def CPost (w : World) (g cap : Nat) (E : List (List UInt8)) (e : Ending) (w' : World) : Prop :=
  e = .returned (.slice (some ⟨g, 0, none⟩) (cpt E).length cap) ∧ ∃ R', w'.heap[g]? = some (.cells (fl (cpt E) ++ R').toArray 36 (0, 0)) ∧ R'.length = (cap - (cpt E).length) * 32 ∧ Only (fun k => k = g) w w'
theorem cpost_same {w : World} {g cap n : Nat} {E : List (List UInt8)} {R : List Value} (hn : n = E.length) (hc : cpt E = E) (hg : w.heap[g]? = some (.cells (fl E ++ R).toArray 36 (0, 0))) (hR : R.length = (cap - E.length) * 32) (q : Nat) :
    CPost w g cap E (.returned (.slice (some ⟨g, 0, none⟩) n cap)) (w.drewN q) := by
  subst hn
  unfold CPost
  rw [hc]
  exact ⟨rfl, R, hg, hR, rfl, rfl, rfl, Nat.le_refl _, fun _ _ _ => rfl⟩

/-- Behind the first two that are alike: what is written, what is not read yet. -/
structure CInv (w : World) (g : Nat) (E : List (List UInt8)) (R : List Value) (kk m : Nat) (D : List (List UInt8)) (W : World) : Prop where
  h32 : H32 D
  len : D.length = E.length
  done : D.take kk = cpt (E.take m)
  rest : D.drop (m - 1) = E.drop (m - 1)
  row : W.heap[g]? = some (.cells (fl D ++ R).toArray 36 (0, 0))
  only : Only (fun k => k = g) w W
theorem CInv.at {w : World} {g kk m : Nat} {E D : List (List UInt8)} {R : List Value} {W : World} (h : CInv w g E R kk m D W) {i : Nat} (hi : m - 1 ≤ i) (h1 : i < D.length) (h2 : i < E.length) : D[i] = E[i] := by
  have e := congrArg (fun l => l[i - (m - 1)]?) h.rest
  simp only [List.getElem?_drop, show m - 1 + (i - (m - 1)) = i from by omega, List.getElem?_eq_getElem h1, List.getElem?_eq_getElem h2, Option.some.injEq] at e
  exact e
theorem CInv.skip {w : World} {g kk m : Nat} {E D : List (List UInt8)} {R : List Value} {W : World} (h : CInv w g E R kk m D W) (q : Nat) (m0 : 0 < m) (hm : m < E.length) (he : E[m] = E[m - 1]) : CInv w g E R kk (m + 1) D (W.drewN q) := by
  refine ⟨h.h32, h.len, ?_, ?_, h.row, ⟨h.only.os, h.only.tape, h.only.output, h.only.size, h.only.block⟩⟩
  · rw [cpt_step m0 hm, if_pos he, List.append_nil]; exact h.done
  · have := congrArg (List.drop 1) h.rest
    rw [List.drop_drop, List.drop_drop] at this
    rwa [show m - 1 + 1 = m + 1 - 1 from by omega] at this
theorem CInv.keep {w : World} {g kk m : Nat} {E D : List (List UInt8)} {R : List Value} {W : World} (h : CInv w g E R kk m D W) (q : Nat) (m0 : 0 < m) (hm : m < E.length) (hk : kk < m) (hE : H32 E) (he : ¬ E[m] = E[m - 1]) :
    CInv w g E R (kk + 1) (m + 1) (D.set kk E[m]) ((W.drewN q).setCells g (kk * 32) (us (nmb E[m]))) := by
  have hl := h.len
  have h1 := cells_puts (us (nmb E[m])) (kk * 32) (fl D ++ R) (W.drewN q) h.row (by rw [usn_length, hE.at hm, List.length_append, fl_length h.h32]; omega)
  rw [puts_fl h.h32 R (by omega) (hE.at hm)] at h1
  refine ⟨h.h32.set (hE.at hm), by rw [List.length_set, hl], ?_, ?_, h1, Only.setCells (S := fun k => k = g) (b := g) rfl _ _ ⟨h.only.os, h.only.tape, h.only.output, h.only.size, h.only.block⟩⟩
  · rw [cpt_step m0 hm, if_neg he, ← h.done, List.take_succ_eq_append_getElem (by rw [List.length_set]; omega), List.getElem_set_self, List.take_set_of_le (Nat.le_refl _)]
  · have := congrArg (List.drop 1) h.rest
    rw [List.drop_drop, List.drop_drop, show m - 1 + 1 = m + 1 - 1 from by omega] at this
    rw [List.drop_set_of_lt (by omega)]
    exact this
theorem CInv.ended {w : World} {g kk n cap : Nat} {E D : List (List UInt8)} {R : List Value} {W : World} (h : CInv w g E R kk n D W) (hn : n = E.length) (hk : kk < n) (hc : E.length ≤ cap) (hR : R.length = (cap - E.length) * 32) :
    CPost w g cap E (.returned (.slice (some ⟨g, 0, none⟩) kk cap)) (W.setCells g (kk * 32) (fl (List.replicate (n - kk) hz))) := by
  subst hn
  have hl := h.len
  have hd := h.done
  rw [List.take_of_length_le (Nat.le_refl _)] at hd
  have hkl : kk = (cpt E).length := by rw [← hd, List.length_take]; omega
  have hz32 : H32 (List.replicate (E.length - kk) hz) := fun x hx => by rw [List.eq_of_mem_replicate hx]; rfl
  have h1 := cells_puts (fl (List.replicate (E.length - kk) hz)) (kk * 32) (fl D ++ R) W h.row (by rw [fl_length hz32, List.length_replicate, List.length_append, fl_length h.h32]; omega)
  rw [puts_zero h.h32 R (by omega), fl_app, hd, List.append_assoc] at h1
  refine ⟨by rw [← hkl], _, h1, ?_, Only.setCells (S := fun k => k = g) (b := g) rfl _ _ h.only⟩
  rw [List.length_append, fl_length hz32, List.length_replicate, hR, ← Nat.add_mul, ← hkl]
  congr 1; omega

end Go.Proofs.YtbpccbhlggcmfaaGreatDoor
