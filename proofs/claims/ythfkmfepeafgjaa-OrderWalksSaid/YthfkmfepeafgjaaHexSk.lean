/- slices.Clone over hashes; a row of hashes in memory. Condition: the slice is within what a slice may take up. · slices.Compact over hashes: neighbours that are alike are left out. Condition: the row is the call's own. -/
import Derived.Test.YthfkmfepeafgjaaHexS
import Derived.Test.YthfkmfepeafgjaaHexP
import Derived.Lib.SliceRun
import Derived.Test.YthfkmfepeafgjaaHexE
import Derived.Deep.QuietTactic
import Derived.BigQuiet
namespace Go.Proofs.Ythfkmfepeafgjaa
open Go.RowKit

theorem hzinfo : (Try.prog.info? 28).map (fun i => (i.zero, i.size, i.bytes)) = some (some (.agg hzer), 32, 32) := by kernel_rfl

/-- The slice v holds the hashes E. -/
def HSeen (w : World) (v : Value) (E : List (List UInt8)) : Prop :=
  (v = .slice none 0 0 ∧ E = []) ∨ ∃ a cap, v = .slice (some a) E.length cap ∧ E.length ≤ cap ∧ ∀ j u, (fl E)[j]? = some u → w.cell? (a.add j) = some u
/-- It owns them. -/
abbrev HOwn (w : World) (B : Nat) (v : Value) (E : List (List UInt8)) : Prop := w.ownsRow B 28 32 v E.length (fl E)
theorem HSeen.own {w : World} {B : Nat} {v : Value} {E : List (List UInt8)} (h : HOwn w B v E) : HSeen w v E := by
  have hc : ∀ g, v.ownBlock = some g → _ := fun g hg => h.cells (g := g) hg
  rcases h.2 with ⟨rfl, h0⟩ | ⟨g, cap, cur, rfl, _, _, hn, _⟩
  · exact .inl ⟨rfl, List.eq_nil_of_length_eq_zero h0⟩
  · exact .inr ⟨_, cap, rfl, hn, hc _ rfl⟩
/-- The block of an owned row. -/
theorem HOwn.row {w : World} {B : Nat} {v : Value} {E : List (List UInt8)} (h : HOwn w B v E) (h0 : 0 < E.length) : ∃ g cap R, v = .slice (some ⟨g, 0, none⟩) E.length cap ∧ B ≤ g ∧ w.heap[g]? = some (.cells (fl E ++ R).toArray 28 (0, 0)) ∧ E.length ≤ cap ∧ cap ≤ maxLen ∧ R.length = (cap - E.length) * 32 := by
  rcases h.2 with ⟨_, hn⟩ | ⟨g, cap, cur, rfl, hb, hg, hn, hm, hs, ht⟩
  · omega
  · refine ⟨g, cap, cur.toList.drop (E.length * 32), rfl, hb, ?_, hn, hm, ?_⟩
    · rw [← ht, List.take_append_drop]; simpa using hg
    · rw [List.length_drop, Array.length_toList, hs, Nat.sub_mul]
theorem hown_mk {w : World} {B g cap n : Nat} {E : List (List UInt8)} {R : List Value} (hE : H32 E) (hn : n = E.length) (hb : B ≤ g) (hg : w.heap[g]? = some (.cells (fl E ++ R).toArray 28 (0, 0))) (hc : E.length ≤ cap) (hm : cap ≤ maxLen) (hR : R.length = (cap - E.length) * 32) : HOwn w B (.slice (some ⟨g, 0, none⟩) n cap) E := by
  subst hn
  refine ⟨fl_length hE, .inr ⟨g, cap, (fl E ++ R).toArray, rfl, hb, hg, hc, hm, ?_, ?_⟩⟩
  · show (fl E ++ R).length = cap * 32
    rw [List.length_append, fl_length hE, hR, ← Nat.add_mul]
    congr 1; omega
  · rw [show (fl E ++ R).toArray.toList = fl E ++ R from rfl, ← fl_length hE, List.take_left]

set_option maxRecDepth 20000 in
set_option maxHeartbeats 800000 in
theorem hclone_any (w : World) (v : Value) (E : List (List UInt8)) (hE : H32 E) (hl : E.length * 32 ≤ 140737488355328) (hs : HSeen w v E) :
    Calls Try.prog 30 #[v] w fun e w' => ∃ v', e = .returned v' ∧ HOwn w' w.heap.size v' E ∧ Below w.heap.size w w' := by
  obtain ⟨i0, hi0, hz0, hz1, hz2⟩ := info_parts hzinfo
  rcases hs with ⟨rfl, rfl⟩ | ⟨a, cap, rfl, hc, hu⟩
  · have hn1 : ∀ w : World, (binOp .eql 25 (.slice none 0 0) (.slice none 0 0)).run Try.prog w = .ok (.bool true) w := fun w => Lib.run_eql_slice_nil w _ _ none _ _ _ _ Try.underlying25
    clear hl hE
    go_enter Try.func30, Try.ntmps30
    go_wp2
    go_ret
    exact ⟨_, rfl, World.ownsRow_nil _ _ _ _, Below.refl _ _⟩
  · have hown := World.ownsRow_made (base := w.heap.size) (e := 28) (size := 32) w #[] 0 (Nat.le_refl _) (by decide) rfl
    have hn1 : ∀ w : World, (binOp .eql 25 (.slice (some a) E.length cap) (.slice none 0 0)).run Try.prog w = .ok (.bool false) w := fun w => Lib.run_eql_slice_nil w _ _ (some a) _ _ _ _ Try.underlying25
    have hnews : Hid (∀ j u, (fl E)[j]? = some u → (w.alloc (.cells #[] 28)).cell? (a.add j) = some u) := Lib.hid fun j u hj => by
      have h1 := hu j u hj
      have h2 := World.block_lt_of_cell? w _ h1
      rw [World.cell?_of_block (w := w) (Below.heap_alloc w _ _ h2)]; exact h1
    have HE := Lib.hid (fl_length hE)
    clear hu hE
    go_enter Try.func30, Try.ntmps30
    go_wp2_with (at_builtin; refine wpList_append_own _ (by rfl) (.tmp 5) (.tmp 6) _ (by rfl) w.heap.size 28 i0 _ 32 32 Try.underlying25 hi0 hz0 hz1 hz2 rfl (by omega) (.slice (some ⟨w.heap.size, 0, none⟩) 0 0) 0 [] (by rfl) hown a E.length cap (fl E) (by rfl) HE.out hnews.out (fl_one' E) (by simp [maxLen]; omega) (by omega) (by simp) ?_; intro v' w' hown' hgrow _)
    go_ret
    exact ⟨v', rfl, by simpa using hown', ((Below.refl _ _).alloc (Nat.le_refl _) _).grown hgrow (by simp) (by intro k hk; cases hk; exact Nat.le_refl _)⟩
end Go.Proofs.Ythfkmfepeafgjaa
namespace Go.Proofs.Ythfkmfepeafgjaa
open Go.RowKit
attribute [local go_sem ↓] hld_open heq_open hne_open

theorem hzer_rep : hzer = Array.replicate 32 (.int .u8 0) := rfl
theorem fl_zero : ∀ n, fl (List.replicate n hz) = List.replicate (n * 32) (.int .u8 0)
  | 0 => rfl
  | n + 1 => by
    rw [List.replicate_succ, fl_cons, fl_zero n, show us (nmb hz) = List.replicate 32 (.int .u8 0) from rfl, List.replicate_append_replicate]
    congr 1; omega
theorem clear_hash (w : World) (ty : TypeId) (g o n c : Nat) (hn : 0 < n) (ht : w.there g o (n * 32)) :
    (Builtin.clear_ #[25] ty #[.slice (some ⟨g, o, none⟩) n c]).run Try.prog w = .ok (.tuple #[]) (w.setCells g o (fl (List.replicate n hz))) := by
  have hv : ∀ w, (zeroValue 28).run Try.prog w = .ok (.agg hzer) w := fun w => by kernel_rfl
  have hzc : (Builtin.zeroCells (Value.agg hzer).cells n).toList = fl (List.replicate n hz) := by
    rw [fl_zero, show (Value.agg hzer).cells = hzer from rfl, hzer_rep]
    apply List.ext_getElem
    · simp [Builtin.zeroCells]
    · intro i h1 h2
      have : i % 32 < 32 := by omega
      simp [Builtin.zeroCells, this]
  have hst := run_storeCells_cells (P := Try.prog) g o (fl (List.replicate n hz)) 0 w (fun j hj => by
      rw [fl_zero, List.length_replicate] at hj
      have := (ht j hj).1
      rwa [Nat.add_zero]) (fun j hj => by
      rw [fl_zero, List.length_replicate] at hj
      have := (ht j hj).2
      rwa [Nat.add_zero]) (fl_one' _)
  simp only [Nat.add_zero] at hst
  obtain ⟨m, rfl⟩ : ∃ m, n = m + 1 := ⟨n - 1, by omega⟩
  simp [Builtin.clear_, run_underlying Try.underlying25, hv, hzc, hst]

theorem row_range {w : World} {g i : Nat} {E : List (List UInt8)} {R : List Value} {t : TypeId} (hE : H32 E) (hi : i < E.length) (h : w.heap[g]? = some (.cells (fl E ++ R).toArray t (0, 0))) : w.rangeAt g (i * 32) (us (nmb E[i])) := fun j v hv => by
  have hj : j < 32 := by have := (List.getElem?_eq_some_iff.1 hv).1; rwa [usn_length, hE.at hi] at this
  rw [cell_of_row w g _ _ _ _ h, List.getElem?_toArray, List.getElem?_append_left (by rw [fl_length hE]; omega), fl_at hE hi hj]
  exact hv
theorem row_there {w : World} {g o n : Nat} {C : List Value} {t : TypeId} (h : w.heap[g]? = some (.cells C.toArray t (0, 0))) (hl : o + n ≤ C.length) : w.there g o n := fun j hj => by
  constructor
  · rw [cell_of_row w g _ _ _ _ h, List.getElem?_toArray, List.getElem?_eq_getElem (by omega)]; rfl
  · simp [World.frozen?, h]
theorem hld_at {w : World} {g i : Nat} {E : List (List UInt8)} {R : List Value} {t : TypeId} (hE : H32 E) (hi : i < E.length) (h : w.heap[g]? = some (.cells (fl E ++ R).toArray t (0, 0))) (q : Nat) : (hld ⟨g, i * 32, none⟩).run Try.prog (w.drewN q) = .ok (.agg (hv E[i])) (w.drewN q) :=
  hld_range (hE.at hi) (w := w.drewN q) (row_range hE hi h)

/-- What Compact leaves. -/
def CPost (w : World) (g cap : Nat) (E : List (List UInt8)) (e : Ending) (w' : World) : Prop :=
  e = .returned (.slice (some ⟨g, 0, none⟩) (cpt E).length cap) ∧ ∃ R', w'.heap[g]? = some (.cells (fl (cpt E) ++ R').toArray 28 (0, 0)) ∧ R'.length = (cap - (cpt E).length) * 32 ∧ Only (fun k => k = g) w w'
theorem cpost_same {w : World} {g cap n : Nat} {E : List (List UInt8)} {R : List Value} (hn : n = E.length) (hc : cpt E = E) (hg : w.heap[g]? = some (.cells (fl E ++ R).toArray 28 (0, 0))) (hR : R.length = (cap - E.length) * 32) (q : Nat) :
    CPost w g cap E (.returned (.slice (some ⟨g, 0, none⟩) n cap)) (w.drewN q) := by
  subst hn
  unfold CPost
  rw [hc]
  exact ⟨rfl, R, hg, hR, rfl, rfl, rfl, Nat.le_refl _, fun _ _ _ => rfl⟩

/-- Behind the first two that are alike: what is written, what is not read yet. -/
structure CInv (w : World) (g : Nat) (E : List (List UInt8)) (R : List Value) (kk m : Nat) (D : List (List UInt8)) (W : World) : Prop where
  h32 : H32 D
  len : D.length = E.length
  done : D.take kk = cpt (E.take m)
  rest : D.drop (m - 1) = E.drop (m - 1)
  row : W.heap[g]? = some (.cells (fl D ++ R).toArray 28 (0, 0))
  only : Only (fun k => k = g) w W
theorem CInv.at {w : World} {g kk m : Nat} {E D : List (List UInt8)} {R : List Value} {W : World} (h : CInv w g E R kk m D W) {i : Nat} (hi : m - 1 ≤ i) (h1 : i < D.length) (h2 : i < E.length) : D[i] = E[i] := by
  have e := congrArg (fun l => l[i - (m - 1)]?) h.rest
  simp only [List.getElem?_drop, show m - 1 + (i - (m - 1)) = i from by omega, List.getElem?_eq_getElem h1, List.getElem?_eq_getElem h2, Option.some.injEq] at e
  exact e
theorem CInv.skip {w : World} {g kk m : Nat} {E D : List (List UInt8)} {R : List Value} {W : World} (h : CInv w g E R kk m D W) (q : Nat) (m0 : 0 < m) (hm : m < E.length) (he : E[m] = E[m - 1]) : CInv w g E R kk (m + 1) D (W.drewN q) := by
  refine ⟨h.h32, h.len, ?_, ?_, h.row, ⟨h.only.os, h.only.tape, h.only.output, h.only.size, h.only.block⟩⟩
  · rw [cpt_step m0 hm, if_pos he, List.append_nil]; exact h.done
  · have := congrArg (List.drop 1) h.rest
    rw [List.drop_drop, List.drop_drop] at this
    rwa [show m - 1 + 1 = m + 1 - 1 from by omega] at this
theorem CInv.keep {w : World} {g kk m : Nat} {E D : List (List UInt8)} {R : List Value} {W : World} (h : CInv w g E R kk m D W) (q : Nat) (m0 : 0 < m) (hm : m < E.length) (hk : kk < m) (hE : H32 E) (he : ¬ E[m] = E[m - 1]) :
    CInv w g E R (kk + 1) (m + 1) (D.set kk E[m]) ((W.drewN q).setCells g (kk * 32) (us (nmb E[m]))) := by
  have hl := h.len
  have h1 := cells_puts (us (nmb E[m])) (kk * 32) (fl D ++ R) (W.drewN q) h.row (by rw [usn_length, hE.at hm, List.length_append, fl_length h.h32]; omega)
  rw [puts_fl h.h32 R (by omega) (hE.at hm)] at h1
  refine ⟨h.h32.set (hE.at hm), by rw [List.length_set, hl], ?_, ?_, h1, Only.setCells (S := fun k => k = g) (b := g) rfl _ _ ⟨h.only.os, h.only.tape, h.only.output, h.only.size, h.only.block⟩⟩
  · rw [cpt_step m0 hm, if_neg he, ← h.done, List.take_succ_eq_append_getElem (by rw [List.length_set]; omega), List.getElem_set_self, List.take_set_of_le (Nat.le_refl _)]
  · have := congrArg (List.drop 1) h.rest
    rw [List.drop_drop, List.drop_drop, show m - 1 + 1 = m + 1 - 1 from by omega] at this
    rw [List.drop_set_of_lt (by omega)]
    exact this
theorem CInv.ended {w : World} {g kk n cap : Nat} {E D : List (List UInt8)} {R : List Value} {W : World} (h : CInv w g E R kk n D W) (hn : n = E.length) (hk : kk < n) (hc : E.length ≤ cap) (hR : R.length = (cap - E.length) * 32) :
    CPost w g cap E (.returned (.slice (some ⟨g, 0, none⟩) kk cap)) (W.setCells g (kk * 32) (fl (List.replicate (n - kk) hz))) := by
  subst hn
  have hl := h.len
  have hd := h.done
  rw [List.take_of_length_le (Nat.le_refl _)] at hd
  have hkl : kk = (cpt E).length := by rw [← hd, List.length_take]; omega
  have hz32 : H32 (List.replicate (E.length - kk) hz) := fun x hx => by rw [List.eq_of_mem_replicate hx]; rfl
  have h1 := cells_puts (fl (List.replicate (E.length - kk) hz)) (kk * 32) (fl D ++ R) W h.row (by rw [fl_length hz32, List.length_replicate, List.length_append, fl_length h.h32]; omega)
  rw [puts_zero h.h32 R (by omega), fl_app, hd, List.append_assoc] at h1
  refine ⟨by rw [← hkl], _, h1, ?_, Only.setCells (S := fun k => k = g) (b := g) rfl _ _ h.only⟩
  rw [List.length_append, fl_length hz32, List.length_replicate, hR, ← Nat.add_mul, ← hkl]
  congr 1; omega

set_option maxRecDepth 20000 in
set_option maxHeartbeats 4000000 in
theorem hcompact_to (w : World) (g cap : Nat) (E : List (List UInt8)) (hE : H32 E) (R : List Value) (hg : w.heap[g]? = some (.cells (fl E ++ R).toArray 28 (0, 0))) (hc : E.length ≤ cap) (hm : cap ≤ maxLen) (hR : R.length = (cap - E.length) * 32) :
    Calls Try.prog 70 #[.slice (some ⟨g, 0, none⟩) E.length cap] w (CPost w g cap E) := by
  unfold maxLen at hm
  have HE := Lib.hid hE
  have HG := Lib.hid hg
  have HR := Lib.hid hR
  have hgd := heq_guard
  have hgd2 := hne_guard
  clear hE hg hR
  obtain ⟨n, hn⟩ : ∃ n, n = E.length := ⟨_, rfl⟩
  rw [← hn] at hc ⊢
  have HN := Lib.hid hn
  clear hn
  by_cases h2 : n < 2
  · have hcc : cpt E = E := cpt_none E (fun i hi => by have := HN.out; omega)
    have HCC := Lib.hid hcc
    clear hcc
    go_enter Try.func70, Try.ntmps70
    go_wp2
    go_ret
    exact cpost_same HN.out HCC.out HG.out HR.out 0
  · go_enter Try.func70, Try.ntmps70
    go_wp2
    go_loopw [3] (fun i wr => ∃ (k : Nat), 1 ≤ k ∧ k ≤ n ∧ i = .int .i64 k ∧ Hid (∀ i, (h : i + 1 < E.length) → i + 1 < k → E[i + 1] ≠ E[i]) ∧ ∃ q, wr = w.drewN q) (fun i _ => n - (intOf i).toNat)
    case atStart => exact ⟨1, Nat.le_refl _, by omega, rfl, Lib.hid (fun i _ h => by omega), 0, rfl⟩
    case round =>
      obtain ⟨k, k1, k2, rfl, HK, q, rfl⟩ := hrel
      by_cases hlt : k < n
      · have hkE : k < E.length := by rw [← HN.out]; exact hlt
        have hk1E : k - 1 < E.length := by rw [← HN.out]; omega
        have l1 := fun m => hld_at HE.out hkE HG.out m
        have l2 := fun m => hld_at HE.out hk1E HG.out m
        have heq := heq_hv (HE.out.at hkE) (HE.out.at hk1E)
        have hk' : (k : Int) < n := by omega
        have m1 : IntKind.i64.wrap ((k : Int) - 1) = (k : Int) - 1 := IntWalk.i64_in _ (by omega)
        have m2 : (0 : Int) ≤ (k : Int) - 1 := by omega
        have m2' : (1 : Int) ≤ (k : Int) := by omega
        have m3 : ((k : Int) - 1).toNat = k - 1 := by omega
        have m4 : (k : Int) - 1 < n := by omega
        by_cases hdup : E[k]'hkE = E[k - 1]'hk1E
        · rw [decide_eq_true hdup] at heq
          have HD := Lib.hid hdup
          clear hdup
          go_wp2_with fail
          go_quiet (fail)
          go_wp2_with fail
          have hst0 : CInv w g E R k (k + 1) E (w.drewN (q + nq)) := by
            refine ⟨HE.out, rfl, ?_, rfl, HG.out, rfl, rfl, rfl, Nat.le_refl _, fun _ _ _ => rfl⟩
            rw [cpt_step (by omega) hkE, if_pos HD.out, List.append_nil]
            exact (cpt_none _ (fun i hi => by
              rw [List.getElem_take, List.getElem_take]
              rw [List.length_take] at hi
              exact HK.out i (by omega) (by omega))).symm
          have HS0 := Lib.hid hst0
          clear l1 l2 heq m1 m2 m3 m4 m2' hst0
          go_loopw [3, 5] (fun kv jv wr => ∃ (kk j : Nat) (D : List (List UInt8)), kv = .int .i64 kk ∧ jv = .int .i64 j ∧ 1 ≤ j ∧ j ≤ n - k ∧ kk + 1 ≤ k + j ∧ Hid (CInv w g E R kk (k + j) D wr)) (fun _ j _ => n - k - (intOf j).toNat)
          case atStart => exact ⟨k, 1, E, rfl, rfl, Nat.le_refl _, by omega, by omega, HS0⟩
          case round =>
            obtain ⟨kk, j, D, rfl, rfl, j1, j2, j3, HI⟩ := hrel
            by_cases hj : j < n - k
            · have hmE : k + j < E.length := by rw [← HN.out]; omega
              have hmD : k + j < D.length := by rw [HI.out.len]; exact hmE
              have hmE1 : k + j - 1 < E.length := by omega
              have hmD1 : k + (j - 1) < D.length := by omega
              have l1 := fun m => hld_at HI.out.h32 (i := k + j) hmD HI.out.row m
              have l2 := fun m => hld_at HI.out.h32 hmD1 HI.out.row m
              rw [HI.out.at (i := k + j) (by omega) hmD hmE, show (k + j) * 32 = k * 32 + j * 32 from by omega] at l1
              have e1 : D[k + (j - 1)]'hmD1 = E[k + j - 1]'hmE1 := by
                have := HI.out.at (i := k + j - 1) (by omega) (by omega) hmE1
                rw [← this]
                congr 1
                omega
              rw [e1, show (k + (j - 1)) * 32 = k * 32 + (j - 1) * 32 from by omega] at l2
              have hne := hne_hv (HE.out.at hmE) (HE.out.at hmE1)
              have x32 := Lib.hid (HE.out.at hmE)
              have hj' : (j : Int) < (n - k : Nat) := by omega
              have m1 : IntKind.i64.wrap ((j : Int) - 1) = (j : Int) - 1 := IntWalk.i64_in _ (by omega)
              have m2 : (0 : Int) ≤ (j : Int) - 1 := by omega
              have m2' : (1 : Int) ≤ (j : Int) := by omega
              have m3 : ((j : Int) - 1).toNat = j - 1 := by omega
              have m4 : (j : Int) - 1 < (n - k : Nat) := by omega
              by_cases heq2 : E[k + j]'hmE = E[k + j - 1]'hmE1
              · rw [decide_eq_true heq2] at hne
                have HNX := fun q => HI.out.skip q (by omega) hmE heq2
                have HNXX := Lib.hid HNX
                clear heq2 HNX e1
                go_wp2_with fail
                go_quiet (fail)
                go_wp2_with fail
                refine ⟨⟨kk, j + 1, D, rfl, by go_num, by omega, by omega, by omega, Lib.hid (HNXX.out _)⟩, by simp [intOf]; omega⟩
              · rw [decide_eq_false heq2] at hne
                have HNX := fun q => HI.out.keep q (by omega) hmE (by omega) HE.out heq2
                have HNXX := Lib.hid HNX
                have HT : Hid (wr.there g (kk * 32) (hv E[k + j]).size) := Lib.hid (row_there HI.out.row (by rw [hv_size, x32.out, List.length_append, fl_length HI.out.h32]; omega))
                clear heq2 HNX e1
                go_wp2_with fail
                go_quiet (fail)
                go_wp2_with (refine store_to (w := World.drewN wr _) HT.out (hinfo (hv E[k + j]) (by rw [hv_size, x32.out])) (hv_one _) ?hx ?hy ?_; (case hx => rfl); (case hy => simp [Act.eval]))
                refine ⟨⟨kk + 1, j + 1, D.set kk E[k + j], by go_num, by go_num, by omega, by omega, by omega, Lib.hid ?_⟩, by simp [intOf]; omega⟩
                have := HNXX.out nq
                rw [← hv_list] at this
                exact this
            · have hjn : k + j = n := by omega
              have HI2 := Lib.hid (hjn ▸ HI.out : CInv w g E R kk n D wr)
              have hkn : kk < n := by omega
              have hcl : ∀ ty, (Builtin.clear_ #[25] ty #[.slice (some ⟨g, kk * 32, none⟩) (n - kk) (cap - kk)]).run Try.prog wr = .ok (.tuple #[]) (wr.setCells g (kk * 32) (fl (List.replicate (n - kk) hz))) :=
                fun ty => clear_hash wr ty g (kk * 32) (n - kk) (cap - kk) (by omega) (row_there HI2.out.row (by rw [List.length_append, fl_length HI2.out.h32, HI2.out.len, ← HN.out]; omega))
              have HJ : Hid (k + j = n) := Lib.hid hjn
              clear hjn HI
              go_wp2_with fail
              go_ret
              exact HI2.out.ended HN.out hkn (by rw [← HN.out]; exact hc) HR.out
        · rw [decide_eq_false hdup] at heq
          have HD := Lib.hid hdup
          clear hdup
          go_wp2_with fail
          go_quiet (fail)
          go_wp2_with fail
          refine ⟨⟨k + 1, by omega, by omega, by go_num, Lib.hid ?_, _, rfl⟩, by simp [intOf]; omega⟩
          intro i hi h
          by_cases hik : i + 1 < k
          · exact HK.out i hi hik
          · obtain rfl : k = i + 1 := by omega
            exact HD.out
      · have : k = n := by omega
        subst this
        have hcc : cpt E = E := cpt_none E (fun i hi => HK.out i hi (by have := HN.out; omega))
        have HCC := Lib.hid hcc
        clear hcc
        go_wp2
        go_ret
        exact cpost_same HN.out HCC.out HG.out HR.out q
end Go.Proofs.Ythfkmfepeafgjaa
