/- each, All of a tree of digits. Condition: at most a million hashes are asked for. -/
import Derived.Test.YtbpccbhlggcmfaaDoorRadQ
import Derived.Test.YtbpccbhlggcmfaaDoorHexPu
import Derived.Test.YtbpccbhlggcmfaaDoorHexSm
namespace Go.Proofs.YtbpccbhlggcmfaaDoor
open Go.RowKit
attribute [local go_sem ↓] hld_open heq_open hne_open

theorem row_type9 {W : World} {B e size n k : Nat} {v : Value} {xs : List Value} (h : W.ownsRow B e size v n xs) (hk : v.ownBlock = some k) : ∃ cs, W.heap[k]? = some (.cells cs e (0, 0)) := by
  rcases h.2 with ⟨rfl, _⟩ | ⟨g, cap, cur, rfl, _, hg, _⟩
  · simp [Value.ownBlock] at hk
  · simp [Value.ownBlock] at hk
    exact ⟨cur, by rw [← hk]; exact hg⟩
/-- What All has gathered so far. -/
structure AL (W : World) (B cv cm : Nat) (M : Int) (E : List (List UInt8)) (v : Value) : Prop where
  cell : W.heap[cv]? = some (.cells #[v] 28 (0, 0))
  most : W.heap[cm]? = some (.cells #[.int .i64 M] 3 (0, 0))
  own : HOwn W B v E
  h32 : H32 E
  bv : B ≤ cv
  bm : B ≤ cm
  le : E.length ≤ M.toNat
theorem AL.kb {W W' : World} {B cv cm : Nat} {M : Int} {E : List (List UInt8)} {v : Value} (h : AL W B cv cm M E v) (hb : Below W.heap.size W W') : AL W' B cv cm M E v :=
  { h with
    cell := (hb.block cv (Array.getElem?_eq_some_iff.1 h.cell).1).trans h.cell
    most := (hb.block cm (Array.getElem?_eq_some_iff.1 h.most).1).trans h.most
    own := hown_kb h.own hb }
theorem AL.ne {W : World} {B cv cm : Nat} {M : Int} {E : List (List UInt8)} {v : Value} (h : AL W B cv cm M E v) : (¬ v.ownBlock = some cv) ∧ (¬ v.ownBlock = some cm) ∧ cm ≠ cv := by
  refine ⟨fun hk => ?_, fun hk => ?_, fun e => ?_⟩
  · obtain ⟨cs, hcs⟩ := row_type9 h.own hk
    rw [h.cell] at hcs
    simp at hcs
  · obtain ⟨cs, hcs⟩ := row_type9 h.own hk
    rw [h.most] at hcs
    simp at hcs
  · have h1 := h.most
    rw [e, h.cell] at h1
    simp at h1
theorem AL.lt {W : World} {B cv cm : Nat} {M : Int} {E : List (List UInt8)} {v : Value} (h : AL W B cv cm M E v) : cv < W.heap.size ∧ cm < W.heap.size := ⟨(Array.getElem?_eq_some_iff.1 h.cell).1, (Array.getElem?_eq_some_iff.1 h.most).1⟩
/-- The cell of the gathered slice is still there behind an append. -/
theorem al_store {W1 w6 : World} {B cv cm : Nat} {M : Int} {E : List (List UInt8)} {v : Value} (h : AL W1 B cv cm M E v) {o : Obj} (hg : (W1.alloc o).grownBy w6 v.ownBlock) : w6.heap[cv]? = some (.cells #[v] 28 (0, 0)) ∧ w6.frozen? ⟨cv, 0, none⟩ = false := by
  have h1 : w6.heap[cv]? = some (.cells #[v] 28 (0, 0)) := (hg.block cv (by simp; have := h.lt.1; omega) (fun e => h.ne.1 e.symm)).trans ((Below.heap_alloc _ _ _ h.lt.1).trans h.cell)
  exact ⟨h1, free_of_one h1⟩
theorem al_end {W W1 w6 : World} {B cv cm gg cap6 : Nat} {M : Int} {E : List (List UInt8)} {v : Value} {o : Obj} {h : List UInt8} (hA : AL W1 B cv cm M E v) (hb : Below W.heap.size W W1) (hB : B ≤ W.heap.size) (hh : h.length = 32) (hle : E.length + 1 ≤ M.toNat)
    (hg : (W1.alloc o).grownBy w6 v.ownBlock) (ho : w6.ownsRow B 33 32 (.slice (some ⟨gg, 0, none⟩) (E.length + 1) cap6) (E.length + 1) (fl E ++ fl [h])) :
    Below B W (w6.setCell ⟨cv, 0, none⟩ (.slice (some ⟨gg, 0, none⟩) (E.length + 1) cap6)) ∧ AL (w6.setCell ⟨cv, 0, none⟩ (.slice (some ⟨gg, 0, none⟩) (E.length + 1) cap6)) B cv cm M (E ++ [h]) (.slice (some ⟨gg, 0, none⟩) (E.length + 1) cap6) := by
  obtain ⟨h1, _⟩ := al_store hA hg
  have hmost : w6.heap[cm]? = some (.cells #[.int .i64 M] 3 (0, 0)) := (hg.block cm (by simp; have := hA.lt.2; omega) (fun e => hA.ne.2.1 e.symm)).trans ((Below.heap_alloc _ _ _ hA.lt.2).trans hA.most)
  have hown : HOwn w6 B (.slice (some ⟨gg, 0, none⟩) (E.length + 1) cap6) (E ++ [h]) := own_as ho (Nat.le_refl _) (by simp) (by rw [fl_app])
  have hgc : gg ≠ cv := fun e => by
    obtain ⟨cs, hcs⟩ := row_type9 hown (k := gg) rfl
    rw [e, h1] at hcs
    simp at hcs
  refine ⟨?_, { cell := one_setCell h1, most := by rw [Below.heap_setCell _ _ _ _ hA.ne.2.2]; exact hmost, own := ⟨hown.1, ?_⟩, h32 := hA.h32.app (H32.one hh), bv := hA.bv, bm := hA.bm, le := by simp; omega }⟩
  · have b1 : Below B W (W1.alloc o) := (hb.mono hB).alloc (Nat.le_trans hB hb.size) o
    have b2 : Below B W w6 := b1.grown hg (by simp; have := hb.size; omega) (fun k hk => (hA.own.lt k hk).1)
    have o1 : Only (fun k => B ≤ k) W w6 := ⟨b2.os, b2.tape, b2.output, b2.size, fun k hk hn => b2.block k (by omega)⟩
    exact (o1.setCell (p := ⟨cv, 0, none⟩) hA.bv _).below hB (fun _ h => h)
  · have e1 : (E ++ [h]).length = E.length + 1 := by simp
    rw [e1, fl_app]
    rcases ho.2 with ⟨hs, _⟩ | ⟨g', cap', cur, hs, hbg, hg', rest⟩
    · cases hs
    · cases hs
      exact .inr ⟨gg, cap6, cur, rfl, hbg, by rw [Below.heap_setCell _ _ _ _ hgc]; exact hg', rest⟩
/-- Behind a call that told the hashes ks. -/
def AlPost9 (W : World) (B cv cm : Nat) (M : Int) (E ks : List (List UInt8)) (e : Ending) (W' : World) : Prop :=
  e = .returned (.bool (decide (E.length + ks.length ≤ M.toNat))) ∧ Below B W W' ∧ ∃ v', AL W' B cv cm M (E ++ ks.take (M.toNat - E.length)) v'
theorem most_dec {M : Int} {n : Nat} (h : n ≤ M.toNat) : decide (M ≤ (n : Int)) = decide (M.toNat ≤ n) := by
  rw [decide_eq_decide]; omega
set_option maxRecDepth 20000 in
set_option maxHeartbeats 2000000 in
theorem tell_to (W : World) (B cv cm : Nat) (M : Int) (E : List (List UInt8)) (v : Value) (h : List UInt8) (hh : h.length = 32) (hM : M ≤ 1000000) (ha : AL W B cv cm M E v) (hB : B ≤ W.heap.size) :
    Calls Tryd.prog 32 #[.agg (hv h), .pointer (some ⟨cv, 0, none⟩), .pointer (some ⟨cm, 0, none⟩)] W (AlPost9 W B cv cm M E [h]) := by
  obtain ⟨i0, hi0, hz0, hz1, hz2⟩ := info_parts hzinfo
  have hle := ha.le
  have hmd := most_dec hle
  have bb := (Below.refl W.heap.size W).alloc (Nat.le_refl _) (.cells (hv h) 33)
  have HB1 := Lib.hid bb
  have HA := Lib.hid (ha.kb bb)
  have HH := Lib.hid (heap_alloc_last W (.cells (hv h) 33))
  have HL := Lib.hid hh
  have HBW := Lib.hid hB
  have c1 : (W.alloc (.cells (hv h) 33)).cell? ⟨cv, 0, none⟩ = some v := by rw [cell_of_row _ cv 0 _ _ _ HA.out.cell]; rfl
  have c2 : (W.alloc (.cells (hv h) 33)).cell? ⟨cm, 0, none⟩ = some (.int .i64 M) := by rw [cell_of_row _ cm 0 _ _ _ HA.out.most]; rfl
  obtain ⟨p, cap, rfl⟩ := own_shape ha.own
  by_cases hfull : M.toNat ≤ E.length
  · have hpost : E ++ [h].take (M.toNat - E.length) = E := by rw [show M.toNat - E.length = 0 from by omega]; simp
    rw [decide_eq_true hfull] at hmd
    have hend : decide (E.length + [h].length ≤ M.toNat) = false := decide_eq_false (by simp; omega)
    clear bb hh hB ha hfull hle
    show Calls _ _ _ _ fun e W' => e = .returned (.bool (decide (E.length + [h].length ≤ M.toNat))) ∧ Below B W W' ∧ ∃ v', AL W' B cv cm M (E ++ [h].take (M.toNat - E.length)) v'
    rw [hend, hpost]
    clear hend hpost
    go_enter Tryd.func32, Tryd.ntmps32
    go_wp2_with fail
    go_ret
    exact ⟨rfl, HB1.out.mono HBW.out, _, HA.out⟩
  · have hpost : E ++ [h].take (M.toNat - E.length) = E ++ [h] := by
      obtain ⟨n, hn⟩ : ∃ n, M.toNat - E.length = n + 1 := ⟨M.toNat - E.length - 1, by omega⟩
      rw [hn]; simp
    rw [decide_eq_false hfull] at hmd
    have hend : decide (E.length + [h].length ≤ M.toNat) = true := decide_eq_true (by simp; omega)
    have hf1 : E.length + 1 ≤ maxLen ∧ (E.length + 1) * 32 ≤ 140737488355328 := by unfold maxLen; omega
    have HF1 := Lib.hid hf1
    have HLE := Lib.hid (show E.length + 1 ≤ M.toNat from by omega)
    clear bb hh hB ha hfull hle hf1
    show Calls _ _ _ _ fun e W' => e = .returned (.bool (decide (E.length + [h].length ≤ M.toNat))) ∧ Below B W W' ∧ ∃ v', AL W' B cv cm M (E ++ [h].take (M.toNat - E.length)) v'
    rw [hend, hpost]
    clear hend hpost
    go_enter Tryd.func32, Tryd.ntmps32
    go_wp2_with fail
    generalize hW1 : W.alloc (.cells (hv h) 33) = W1 at *
    have hsz : W1.heap.size = W.heap.size + 1 := by rw [← hW1]; simp
    have HSZ := Lib.hid hsz
    clear hW1 hsz
    have hl := hld_row HL.out HH.out
    have hbw : B ≤ W1.heap.size := by rw [HSZ.out]; exact Nat.le_succ_of_le HBW.out
    have HBW1 := Lib.hid hbw
    clear hbw
    rw [hl]
    go_wp2_with (first
      | (refine build_hash (E := [h]) (H32.one HL.out) rfl (by simp) (by simp) ?hv ?_; (case hv => simp [Act.eval, hv]))
      | (at_builtin; refine wpList_append_lies _ (by rfl) (.tmp 9) (.tmp 11) _ (by rfl) B 33 i0 _ 32 32 Tryd.underlying28 hi0 hz0 hz1 hz2 rfl (by omega) (.slice p E.length cap) E.length _ (by rfl) (HA.out.own.alloc _) ⟨W1.heap.size, 0, none⟩ 1 1 (fl [h]) (by rfl) (by rw [fl_one, usn_length, HL.out]) (news_fl W1 [h]) (fl_one' [h]) (by decide) HF1.out.1 HF1.out.2 (Nat.le_trans HBW1.out (by simp)) (W1.heap.size + 1) (by simp) ?_; intro gg cap6 w6 own6 grow6 hat6 _; have HG6 := Lib.hid grow6; have O6 := Lib.hid own6; have HAT := Lib.hid hat6; obtain ⟨T1h, T2⟩ := al_store HA.out HG6.out; have T1 : w6.cell? ⟨cv, 0, none⟩ = some (.slice p E.length cap) := (by rw [cell_of_row _ cv 0 _ _ _ T1h]; rfl); clear own6 grow6 hat6))
    go_ret
    obtain ⟨R1, R2⟩ := al_end HA.out HB1.out HBW.out HL.out HLE.out HG6.out O6.out
    exact ⟨rfl, R1, _, R2⟩
end Go.Proofs.YtbpccbhlggcmfaaDoor
