/- each, All of a tree of digits. Condition: at most a million hashes are asked for. · each over a tree of digits, and All. Condition: at most a million hashes are asked for. -/
import Derived.Test.YtbpccbhlggcmfaaGreatDoorRadQ
import Derived.Test.YtbpccbhlggcmfaaGreatDoorHexPo
import Derived.Test.YtbpccbhlggcmfaaGreatDoorHexSm
namespace Go.Proofs.YtbpccbhlggcmfaaGreatDoor
open Go.RowKit
attribute [local go_sem ↓] hld_open heq_open hne_open

theorem row_type9 {W : World} {B e size n k : Nat} {v : Value} {xs : List Value} (h : W.ownsRow B e size v n xs) (hk : v.ownBlock = some k) : ∃ cs, W.heap[k]? = some (.cells cs e (0, 0)) := by
  rcases h.2 with ⟨rfl, _⟩ | ⟨g, cap, cur, rfl, _, hg, _⟩
  · simp [Value.ownBlock] at hk
  · simp [Value.ownBlock] at hk
    exact ⟨cur, by rw [← hk]; exact hg⟩
/-- What All has gathered so far. -/
structure AL (W : World) (B cv cm : Nat) (M : Int) (E : List (List UInt8)) (v : Value) : Prop where
  cell : W.heap[cv]? = some (.cells #[v] 46 (0, 0))
  most : W.heap[cm]? = some (.cells #[.int .i64 M] 3 (0, 0))
  own : HOwn W B v E
  h32 : H32 E
  bv : B ≤ cv
  bm : B ≤ cm
  le : E.length ≤ M.toNat
theorem AL.kb {W W' : World} {B cv cm : Nat} {M : Int} {E : List (List UInt8)} {v : Value} (h : AL W B cv cm M E v) (hb : Below W.heap.size W W') : AL W' B cv cm M E v :=
  { h with
    cell := (hb.block cv (Array.getElem?_eq_some_iff.1 h.cell).1).trans h.cell
    most := (hb.block cm (Array.getElem?_eq_some_iff.1 h.most).1).trans h.most
    own := hown_kb h.own hb }
theorem AL.ne {W : World} {B cv cm : Nat} {M : Int} {E : List (List UInt8)} {v : Value} (h : AL W B cv cm M E v) : (¬ v.ownBlock = some cv) ∧ (¬ v.ownBlock = some cm) ∧ cm ≠ cv := by
  refine ⟨fun hk => ?_, fun hk => ?_, fun e => ?_⟩
  · obtain ⟨cs, hcs⟩ := row_type9 h.own hk
    rw [h.cell] at hcs
    simp at hcs
  · obtain ⟨cs, hcs⟩ := row_type9 h.own hk
    rw [h.most] at hcs
    simp at hcs
  · have h1 := h.most
    rw [e, h.cell] at h1
    simp at h1
theorem AL.lt {W : World} {B cv cm : Nat} {M : Int} {E : List (List UInt8)} {v : Value} (h : AL W B cv cm M E v) : cv < W.heap.size ∧ cm < W.heap.size := ⟨(Array.getElem?_eq_some_iff.1 h.cell).1, (Array.getElem?_eq_some_iff.1 h.most).1⟩
/-- The cell of the gathered slice is still there behind an append. -/
theorem al_store {W1 w6 : World} {B cv cm : Nat} {M : Int} {E : List (List UInt8)} {v : Value} (h : AL W1 B cv cm M E v) {o : Obj} (hg : (W1.alloc o).grownBy w6 v.ownBlock) : w6.heap[cv]? = some (.cells #[v] 46 (0, 0)) ∧ w6.frozen? ⟨cv, 0, none⟩ = false := by
  have h1 : w6.heap[cv]? = some (.cells #[v] 46 (0, 0)) := (hg.block cv (by simp; have := h.lt.1; omega) (fun e => h.ne.1 e.symm)).trans ((Below.heap_alloc _ _ _ h.lt.1).trans h.cell)
  exact ⟨h1, free_of_one h1⟩
theorem al_end {W W1 w6 : World} {B cv cm gg cap6 : Nat} {M : Int} {E : List (List UInt8)} {v : Value} {o : Obj} {h : List UInt8} (hA : AL W1 B cv cm M E v) (hb : Below W.heap.size W W1) (hB : B ≤ W.heap.size) (hh : h.length = 32) (hle : E.length + 1 ≤ M.toNat)
    (hg : (W1.alloc o).grownBy w6 v.ownBlock) (ho : w6.ownsRow B 36 32 (.slice (some ⟨gg, 0, none⟩) (E.length + 1) cap6) (E.length + 1) (fl E ++ fl [h])) :
    Below B W (w6.setCell ⟨cv, 0, none⟩ (.slice (some ⟨gg, 0, none⟩) (E.length + 1) cap6)) ∧ AL (w6.setCell ⟨cv, 0, none⟩ (.slice (some ⟨gg, 0, none⟩) (E.length + 1) cap6)) B cv cm M (E ++ [h]) (.slice (some ⟨gg, 0, none⟩) (E.length + 1) cap6) := by
  obtain ⟨h1, _⟩ := al_store hA hg
  have hmost : w6.heap[cm]? = some (.cells #[.int .i64 M] 3 (0, 0)) := (hg.block cm (by simp; have := hA.lt.2; omega) (fun e => hA.ne.2.1 e.symm)).trans ((Below.heap_alloc _ _ _ hA.lt.2).trans hA.most)
  have hown : HOwn w6 B (.slice (some ⟨gg, 0, none⟩) (E.length + 1) cap6) (E ++ [h]) := own_as ho (Nat.le_refl _) (by simp) (by rw [fl_app])
  have hgc : gg ≠ cv := fun e => by
    obtain ⟨cs, hcs⟩ := row_type9 hown (k := gg) rfl
    rw [e, h1] at hcs
    simp at hcs
  refine ⟨?_, { cell := one_setCell h1, most := by rw [Below.heap_setCell _ _ _ _ hA.ne.2.2]; exact hmost, own := ⟨hown.1, ?_⟩, h32 := hA.h32.app (H32.one hh), bv := hA.bv, bm := hA.bm, le := by simp; omega }⟩
  · have b1 : Below B W (W1.alloc o) := (hb.mono hB).alloc (Nat.le_trans hB hb.size) o
    have b2 : Below B W w6 := b1.grown hg (by simp; have := hb.size; omega) (fun k hk => (hA.own.lt k hk).1)
    have o1 : Only (fun k => B ≤ k) W w6 := ⟨b2.os, b2.tape, b2.output, b2.size, fun k hk hn => b2.block k (by omega)⟩
    exact (o1.setCell (p := ⟨cv, 0, none⟩) hA.bv _).below hB (fun _ h => h)
  · have e1 : (E ++ [h]).length = E.length + 1 := by simp
    rw [e1, fl_app]
    rcases ho.2 with ⟨hs, _⟩ | ⟨g', cap', cur, hs, hbg, hg', rest⟩
    · cases hs
    · cases hs
      exact .inr ⟨gg, cap6, cur, rfl, hbg, by rw [Below.heap_setCell _ _ _ _ hgc]; exact hg', rest⟩
/-- Behind a call that told the hashes ks. -/
def AlPost9 (W : World) (B cv cm : Nat) (M : Int) (E ks : List (List UInt8)) (e : Ending) (W' : World) : Prop :=
  e = .returned (.bool (decide (E.length + ks.length ≤ M.toNat))) ∧ Below B W W' ∧ ∃ v', AL W' B cv cm M (E ++ ks.take (M.toNat - E.length)) v'
theorem most_dec {M : Int} {n : Nat} (h : n ≤ M.toNat) : decide (M ≤ (n : Int)) = decide (M.toNat ≤ n) := by
  rw [decide_eq_decide]; omega
set_option maxRecDepth 20000 in
set_option maxHeartbeats 2000000 in
theorem tell_to (W : World) (B cv cm : Nat) (M : Int) (E : List (List UInt8)) (v : Value) (h : List UInt8) (hh : h.length = 32) (hM : M ≤ 1000000) (ha : AL W B cv cm M E v) (hB : B ≤ W.heap.size) :
    Calls Tryz.prog 42 #[.agg (hv h), .pointer (some ⟨cv, 0, none⟩), .pointer (some ⟨cm, 0, none⟩)] W (AlPost9 W B cv cm M E [h]) := by
  obtain ⟨i0, hi0, hz0, hz1, hz2⟩ := info_parts hzinfo
  have hle := ha.le
  have hmd := most_dec hle
  have bb := (Below.refl W.heap.size W).alloc (Nat.le_refl _) (.cells (hv h) 36)
  have HB1 := Lib.hid bb
  have HA := Lib.hid (ha.kb bb)
  have HH := Lib.hid (heap_alloc_last W (.cells (hv h) 36))
  have HL := Lib.hid hh
  have HBW := Lib.hid hB
  have c1 : (W.alloc (.cells (hv h) 36)).cell? ⟨cv, 0, none⟩ = some v := by rw [cell_of_row _ cv 0 _ _ _ HA.out.cell]; rfl
  have c2 : (W.alloc (.cells (hv h) 36)).cell? ⟨cm, 0, none⟩ = some (.int .i64 M) := by rw [cell_of_row _ cm 0 _ _ _ HA.out.most]; rfl
  obtain ⟨p, cap, rfl⟩ := own_shape ha.own
  by_cases hfull : M.toNat ≤ E.length
  · have hpost : E ++ [h].take (M.toNat - E.length) = E := by rw [show M.toNat - E.length = 0 from by omega]; simp
    rw [decide_eq_true hfull] at hmd
    have hend : decide (E.length + [h].length ≤ M.toNat) = false := decide_eq_false (by simp; omega)
    clear bb hh hB ha hfull hle
    show Calls _ _ _ _ fun e W' => e = .returned (.bool (decide (E.length + [h].length ≤ M.toNat))) ∧ Below B W W' ∧ ∃ v', AL W' B cv cm M (E ++ [h].take (M.toNat - E.length)) v'
    rw [hend, hpost]
    clear hend hpost
    go_enter Tryz.func42, Tryz.ntmps42
    go_wp2_with fail
    go_ret
    exact ⟨rfl, HB1.out.mono HBW.out, _, HA.out⟩
  · have hpost : E ++ [h].take (M.toNat - E.length) = E ++ [h] := by
      obtain ⟨n, hn⟩ : ∃ n, M.toNat - E.length = n + 1 := ⟨M.toNat - E.length - 1, by omega⟩
      rw [hn]; simp
    rw [decide_eq_false hfull] at hmd
    have hend : decide (E.length + [h].length ≤ M.toNat) = true := decide_eq_true (by simp; omega)
    have hf1 : E.length + 1 ≤ maxLen ∧ (E.length + 1) * 32 ≤ 140737488355328 := by unfold maxLen; omega
    have HF1 := Lib.hid hf1
    have HLE := Lib.hid (show E.length + 1 ≤ M.toNat from by omega)
    clear bb hh hB ha hfull hle hf1
    show Calls _ _ _ _ fun e W' => e = .returned (.bool (decide (E.length + [h].length ≤ M.toNat))) ∧ Below B W W' ∧ ∃ v', AL W' B cv cm M (E ++ [h].take (M.toNat - E.length)) v'
    rw [hend, hpost]
    clear hend hpost
    go_enter Tryz.func42, Tryz.ntmps42
    go_wp2_with fail
    generalize hW1 : W.alloc (.cells (hv h) 36) = W1 at *
    have hsz : W1.heap.size = W.heap.size + 1 := by rw [← hW1]; simp
    have HSZ := Lib.hid hsz
    clear hW1 hsz
    have hl := hld_row HL.out HH.out
    have hbw : B ≤ W1.heap.size := by rw [HSZ.out]; exact Nat.le_succ_of_le HBW.out
    have HBW1 := Lib.hid hbw
    clear hbw
    rw [hl]
    go_wp2_with (first
      | (refine build_hash (E := [h]) (H32.one HL.out) rfl (by simp) (by simp) ?hv ?_; (case hv => simp [Act.eval, hv]))
      | (at_builtin; refine wpList_append_lies _ (by rfl) (.tmp 9) (.tmp 11) _ (by rfl) B 36 i0 _ 32 32 Tryz.underlying46 hi0 hz0 hz1 hz2 rfl (by omega) (.slice p E.length cap) E.length _ (by rfl) (HA.out.own.alloc _) ⟨W1.heap.size, 0, none⟩ 1 1 (fl [h]) (by rfl) (by rw [fl_one, usn_length, HL.out]) (news_fl W1 [h]) (fl_one' [h]) (by decide) HF1.out.1 HF1.out.2 (Nat.le_trans HBW1.out (by simp)) (W1.heap.size + 1) (by simp) ?_; intro gg cap6 w6 own6 grow6 hat6 _; have HG6 := Lib.hid grow6; have O6 := Lib.hid own6; have HAT := Lib.hid hat6; obtain ⟨T1h, T2⟩ := al_store HA.out HG6.out; have T1 : w6.cell? ⟨cv, 0, none⟩ = some (.slice p E.length cap) := (by rw [cell_of_row _ cv 0 _ _ _ T1h]; rfl); clear own6 grow6 hat6))
    go_ret
    obtain ⟨R1, R2⟩ := al_end HA.out HB1.out HBW.out HL.out HLE.out HG6.out O6.out
    exact ⟨rfl, R1, _, R2⟩
end Go.Proofs.YtbpccbhlggcmfaaGreatDoor
namespace Go.Proofs.YtbpccbhlggcmfaaGreatDoor
open Go.RowKit
attribute [local go_sem ↓] hld_open heq_open hne_open

/-- The keys below the first k ways. -/
def kk (ws : Fin 16 → Nd) (k : Nat) : List (List UInt8) := keys ((fins.take k).flatMap fun i => (ws i).ents)
theorem fins_at (k : Nat) (h : k < 16) : fins[k]? = some ⟨k, h⟩ := by unfold fins; simp [h]
theorem kk_zero (ws : Fin 16 → Nd) : kk ws 0 = [] := rfl
theorem kk_succ (ws : Fin 16 → Nd) (k : Nat) (h : k < 16) : kk ws (k + 1) = kk ws k ++ keys (ws ⟨k, h⟩).ents := by
  unfold kk
  rw [List.take_add_one, fins_at k h]
  simp [keys]
theorem kk_all (b g : Nat) (ws : Fin 16 → Nd) (k : Nat) : ∃ r, keys (Nd.fork b g ws).ents = kk ws k ++ r := by
  refine ⟨keys ((fins.drop k).flatMap fun i => (ws i).ents), ?_⟩
  unfold kk keys
  rw [← List.map_append, ← List.flatMap_append, List.take_append_drop]
  rfl
theorem kk_16 (b g : Nat) (ws : Fin 16 → Nd) : kk ws 16 = keys (Nd.fork b g ws).ents := by
  unfold kk
  rw [List.take_of_length_le (by decide)]
  rfl
theorem Bl_way {b g : Nat} {ws : Fin 16 → Nd} {i : Fin 16} {k : Nat} (h : (ws i).Bl k) : (Nd.fork b g ws).Bl k := .inr (.inr ⟨i, h⟩)
theorem TA.base {W W' : World} {ρ : Nat → Nat} {t : Nd} {B : Nat} (h : TA W ρ t) (hB : ∀ k, t.Bl k → k < B) (hb : Below B W W') : TA W' ρ t := h.agree (fun k hk => hb.block k (hB k hk)) (fun _ _ => rfl)
theorem stop_take {E a c r : List (List UInt8)} {m : Nat} (h1 : E.length + a.length ≤ m) (h2 : ¬ (E ++ a).length + c.length ≤ m) : E ++ (a ++ (c ++ r)).take (m - E.length) = (E ++ a) ++ c.take (m - (E ++ a).length) ∧ ¬ E.length + (a ++ (c ++ r)).length ≤ m := by
  rw [List.length_append] at h2
  refine ⟨?_, by simp; omega⟩
  rw [List.take_append, List.take_of_length_le (by omega), List.append_assoc, List.length_append, List.take_append_of_le_length (by omega)]
  congr 3
  omega
theorem go_take {E a c : List (List UInt8)} {m : Nat} (h2 : (E ++ a).length + c.length ≤ m) : (E ++ a) ++ c.take (m - (E ++ a).length) = E ++ (a ++ c) ∧ E.length + (a ++ c).length ≤ m := by
  rw [List.length_append] at h2
  rw [List.take_of_length_le (by rw [List.length_append]; omega), List.append_assoc]
  exact ⟨rfl, by simp; omega⟩
set_option maxRecDepth 20000 in
set_option maxHeartbeats 4000000 in
theorem each_to (ρ : Nat → Nat) (B cv cm : Nat) (M : Int) (hM : M ≤ 1000000) (t : Nd) : ∀ (W : World) (E : List (List UInt8)) (v : Value), TA W ρ t → (∀ k, t.Bl k → k < B) → AL W B cv cm M E v → B ≤ W.heap.size →
    Calls Tryz.prog 41 #[.pointer (pad t), .func (.func 42) #[] #[.pointer (some ⟨cv, 0, none⟩), .pointer (some ⟨cm, 0, none⟩)]] W (AlPost9 W B cv cm M E (keys t.ents)) := by
  induction t with
  | none =>
    intro W E v _ _ ha _
    have HA := Lib.hid ha
    have hend : decide (E.length + (keys Nd.none.ents).length ≤ M.toNat) = true := decide_eq_true (by have := ha.le; simp [keys, Nd.ents]; omega)
    have hE : E ++ (keys Nd.none.ents).take (M.toNat - E.length) = E := by simp [keys, Nd.ents]
    clear ha
    show Calls _ _ _ _ fun e W' => e = .returned (.bool (decide (E.length + (keys Nd.none.ents).length ≤ M.toNat))) ∧ Below B W W' ∧ ∃ v', AL W' B cv cm M (E ++ (keys Nd.none.ents).take (M.toNat - E.length)) v'
    rw [hend, hE, pad_none]
    clear hend hE
    go_enter Tryz.func41, Tryz.ntmps41
    go_wp2_with fail
    go_ret
    exact ⟨rfl, Below.refl _ _, v, HA.out⟩
  | leaf b h m =>
    intro W E v ht _ ha hB
    have hT := Lib.hid (tell_to W B cv cm M E v h ht.2 hM ha hB)
    have c34 := nd_34 ht.2 ht.1
    have l1 := nd_load ht.2 ht.1
    simp only [gptr] at c34
    rw [pad_leaf]
    clear ht ha hB
    go_enter Tryz.func41, Tryz.ntmps41
    go_wp2_with (go_at_call 42; refine hT.out.mono ?_; rintro e w1 ⟨rfl, b1, x1⟩; have B1 := Lib.hid b1; have X1 := Lib.hid x1; clear b1 x1)
    go_ret
    exact ⟨rfl, B1.out, X1.out⟩
  | fork b g ws ih =>
    intro W E v ht hbl ha hB
    have c34 := nd_34 hz_len ht.1
    simp only [gptr] at c34
    have HTW := Lib.hid ht
    have HBL := Lib.hid hbl
    have HA := Lib.hid ha
    have HBW := Lib.hid hB
    have HIH := Lib.hid ih
    have hgB : g < B := hbl g (.inr (.inl rfl))
    have HGB := Lib.hid hgB
    have hst : Hid (E.length + (kk ws 0).length ≤ M.toNat) := Lib.hid (by have := ha.le; rw [kk_zero]; simpa using this)
    have hst2 : Hid (AL W B cv cm M (E ++ kk ws 0) v) := Lib.hid (by rw [kk_zero, List.append_nil]; exact ha)
    rw [pad_fork]
    clear ht hbl ha hB ih hgB
    go_enter Tryz.func41, Tryz.ntmps41
    go_wp2_with fail
    go_loopw [24] (fun i wr => ∃ (k : Nat) (v' : Value), k ≤ 16 ∧ i = .int .i64 k ∧ Hid (Below B W wr) ∧ Hid (E.length + (kk ws k).length ≤ M.toNat) ∧ Hid (AL wr B cv cm M (E ++ kk ws k) v')) (fun i _ => 16 - (intOf i).toNat)
    case atStart => exact ⟨0, v, by omega, rfl, Lib.hid (Below.refl _ _), hst, hst2⟩
    case round =>
      obtain ⟨k, v', hk, rfl, HBB, HLE, HAL⟩ := hrel
      by_cases hlt : k < 16
      · have hway := way_at (W := wr) ((HBB.out.block g HGB.out).trans HTW.out.2.1) ⟨k, hlt⟩
        rw [ptr_pad] at hway
        have HC := Lib.hid (HIH.out ⟨k, hlt⟩ wr (E ++ kk ws k) v' ((HTW.out.2.2 ⟨k, hlt⟩).base (fun j hj => HBL.out j (Bl_way hj)) HBB.out) (fun j hj => HBL.out j (Bl_way hj)) HAL.out (Nat.le_trans HBW.out HBB.out.size))
        have hdc : decide ((k : Int) < 16) = true := decide_eq_true (by omega)
        have HKS := Lib.hid (kk_succ ws k hlt)
        have HKA := Lib.hid (kk_all b g ws (k + 1))
        simp only at hway
        generalize pad (ws ⟨k, hlt⟩) = P at hway HC
        by_cases hgo : (E ++ kk ws k).length + (keys (ws ⟨k, hlt⟩).ents).length ≤ M.toNat
        · have HG := Lib.hid (go_take hgo)
          have HC2 : Hid (Calls Tryz.prog 41 #[.pointer P, .func (.func 42) #[] #[.pointer (some ⟨cv, 0, none⟩), .pointer (some ⟨cm, 0, none⟩)]] wr fun e W' => e = .returned (.bool true) ∧ Below B wr W' ∧ ∃ v', AL W' B cv cm M (E ++ kk ws (k + 1)) v') := Lib.hid (HC.out.mono fun e W' hp => by
            obtain ⟨h1, h2, h3⟩ := hp
            rw [HG.out.1] at h3
            rw [decide_eq_true hgo] at h1
            rw [HKS.out]
            exact ⟨h1, h2, h3⟩)
          clear HC hgo HKA
          go_wp2_with (go_at_call 41; refine HC2.out.mono ?_; rintro e w1 ⟨rfl, b1, v1, x1⟩; have B1 := Lib.hid b1; have X1 := Lib.hid x1; clear b1 x1)
          go_round
          case rel => exact ⟨k + 1, v1, by omega, by go_num, Lib.hid (HBB.out.trans B1.out), Lib.hid (by rw [HKS.out]; exact HG.out.2), X1⟩
          case measure => simp [intOf]; omega
        · have HG := Lib.hid (fun r => stop_take (E := E) (a := kk ws k) (c := keys (ws ⟨k, hlt⟩).ents) (r := r) HLE.out hgo)
          have HC2 : Hid (Calls Tryz.prog 41 #[.pointer P, .func (.func 42) #[] #[.pointer (some ⟨cv, 0, none⟩), .pointer (some ⟨cm, 0, none⟩)]] wr fun e W' => e = .returned (.bool false) ∧ Below B wr W' ∧ (∃ v', AL W' B cv cm M (E ++ (keys (Nd.fork b g ws).ents).take (M.toNat - E.length)) v') ∧ decide (E.length + (keys (Nd.fork b g ws).ents).length ≤ M.toNat) = false) := Lib.hid (HC.out.mono fun e W' hp => by
            obtain ⟨h1, h2, h3⟩ := hp
            obtain ⟨r, hr⟩ := HKA.out
            obtain ⟨g1, g2⟩ := HG.out r
            rw [hr, HKS.out, List.append_assoc, g1]
            rw [decide_eq_false hgo] at h1
            exact ⟨h1, h2, h3, decide_eq_false g2⟩)
          clear HC hgo HKA
          go_wp2_with (go_at_call 41; refine HC2.out.mono ?_; rintro e w1 ⟨rfl, b1, x1, d1⟩; have B1 := Lib.hid b1; have X1 := Lib.hid x1; have D1 := Lib.hid d1; clear b1 x1 d1)
          go_ret
          exact ⟨by rw [D1.out]; rfl, HBB.out.trans B1.out, X1.out⟩
      · obtain rfl : k = 16 := by omega
        have hdc : decide (((16 : Nat) : Int) < 16) = false := by decide
        have hE : E ++ (keys (Nd.fork b g ws).ents).take (M.toNat - E.length) = E ++ kk ws 16 := by
          rw [← kk_16, List.take_of_length_le (by have := HLE.out; omega)]
        have hend : decide (E.length + (keys (Nd.fork b g ws).ents).length ≤ M.toNat) = true := decide_eq_true (by rw [← kk_16]; exact HLE.out)
        have HEE := Lib.hid hE
        have HEN := Lib.hid hend
        clear hE hend
        go_wp2_with fail
        go_ret
        exact ⟨by rw [HEN.out]; rfl, HBB.out, v', by rw [HEE.out]; exact HAL.out⟩
theorem str_ne {s : ByteArray} (h : ¬ s = ⟨#[]⟩) : s.toList.isEmpty = false := by
  rw [ByteArray.toList_eq]
  cases hl : s.data.toList with
  | nil => exact absurd (by cases s with | mk d => cases d with | mk l => cases hl; rfl) h
  | cons a l => rfl
/-- What All answers. -/
def allS (T : Nd) (s : List UInt8) (M : Int) : List (List UInt8) := if s = [] ∨ pre s = true then ((keys T.ents).filter fun x => s.isPrefixOf (tx x)).take M.toNat else []
theorem keys_filter (f : List UInt8 → Bool) (l : En) : keys (l.filter fun e => f e.1) = (keys l).filter f := by
  induction l with
  | nil => rfl
  | cons e l ih =>
    rw [List.filter_cons]
    show _ = (e.1 :: keys l).filter f
    rw [List.filter_cons]
    by_cases h : f e.1 = true
    · rw [if_pos h, if_pos h]; show e.1 :: keys _ = _; rw [ih]
    · rw [if_neg h, if_neg h]; exact ih
theorem fnd_keys {T : Nd} {s : List UInt8} (hw : T.Wf []) (hd : digs s = true) : keys ((T.fnd s).fin s).ents = (keys T.ents).filter fun x => s.isPrefixOf (tx x) := by
  have h := fnd_ents s hw hd
  rw [List.nil_append] at h
  rw [h]
  exact keys_filter (fun x => s.isPrefixOf (tx x)) T.ents
theorem fin_bl {t : Nd} {s : List UInt8} {k : Nat} (h : (t.fin s).Bl k) : t.Bl k := by
  cases t with
  | none => exact h
  | leaf b x m =>
    have h' : (if s <+: tx x then Nd.leaf b x m else .none).Bl k := h
    split at h'
    · exact h'
    · exact h'.elim
  | fork b g ws => exact h
theorem fnd_bl {k : Nat} : ∀ (s : List UInt8) {t : Nd}, (t.fnd s).Bl k → t.Bl k
  | [], t, h => by rw [fnd_nil] at h; exact h
  | _ :: _, .none, h => h
  | _ :: _, .leaf _ _ _, h => h
  | _ :: s, .fork _ _ _, h => Bl_way (fnd_bl s h)
set_option maxRecDepth 20000 in
set_option maxHeartbeats 2000000 in
theorem all_to (w : World) (tb : Nat) (T : Nd) (ρ : Nat → Nat) (s : ByteArray) (M : Int) (hM : M ≤ 1000000) (ht : TT w tb T ρ) :
    Calls Tryz.prog 18 #[.pointer (some ⟨tb, 0, none⟩), .string s, .int .i64 M] w fun e w' => ∃ v', e = .returned v' ∧ HOwn w' w.heap.size v' (allS T s.data.toList M) ∧ Below w.heap.size w w' := by
  have hP := fun w => pre_any w s
  have b1 := (Below.refl w.heap.size w).alloc (Nat.le_refl _) (.cells #[.int .i64 M] 3)
  have b2 := b1.alloc (by simp) (.cells #[.slice none 0 0] 46)
  have HB1 := Lib.hid b1
  have HB2 := Lib.hid b2
  have hc1 : ((w.alloc (.cells #[.int .i64 M] 3)).alloc (.cells #[.slice none 0 0] 46)).heap[w.heap.size]? = some (.cells #[.int .i64 M] 3 (0, 0)) := (Below.heap_alloc _ _ _ (by simp)).trans (heap_alloc_last w _)
  have hc2 : ((w.alloc (.cells #[.int .i64 M] 3)).alloc (.cells #[.slice none 0 0] 46)).heap[w.heap.size + 1]? = some (.cells #[.slice none 0 0] 46 (0, 0)) := by
    have := heap_alloc_last (w.alloc (.cells #[.int .i64 M] 3)) (.cells #[.slice none 0 0] 46)
    rwa [show (w.alloc (.cells #[.int .i64 M] 3)).heap.size = w.heap.size + 1 from by simp] at this
  have HAL : Hid (AL ((w.alloc (.cells #[.int .i64 M] 3)).alloc (.cells #[.slice none 0 0] 46)) w.heap.size (w.heap.size + 1) w.heap.size M [] (.slice none 0 0)) := Lib.hid { cell := hc2, most := hc1, own := World.ownsRow_nil _ _ _ _, h32 := H32.nil, bv := Nat.le_succ _, bm := Nat.le_refl _, le := Nat.zero_le _ }
  have HT2 := Lib.hid (ht.kb b2)
  have HLT := Lib.hid (fun k (hk : T.Bl k) => ht.ta.lt k hk)
  have HTB := Lib.hid ht.lt
  have HWF := Lib.hid ht.wf
  have HT := Lib.hid ht
  clear b1 b2 hc1 hc2 ht
  by_cases hq : s = ⟨#[]⟩ ∨ pre s.data.toList = true
  · have hd : digs s.data.toList = true ∧ s.size ≤ 64 := by
      rcases hq with rfl | hp
      · exact ⟨rfl, by decide⟩
      · exact pre_digs9 hp
    have hS : allS T s.data.toList M = (keys ((T.fnd s.data.toList).fin s.data.toList).ents).take M.toNat := by
      unfold allS
      rw [if_pos, fnd_keys HWF.out hd.1]
      rcases hq with rfl | hp
      · exact .inl rfl
      · exact .inr hp
    rw [hS]
    have HF := Lib.hid (fun W (hW : TT W tb T ρ) => find_to W tb T ρ _ s hd.2 hd.1 hW.ta hW.top)
    have hsub : ∀ k, ((T.fnd s.data.toList).fin s.data.toList).Bl k → k < w.heap.size := fun k hk => HLT.out k (fnd_bl _ (fin_bl hk))
    have hta := fin_ta s.data.toList (fnd_sub s.data.toList HT2.out.ta)
    generalize (T.fnd s.data.toList).fin s.data.toList = u at *
    have HSUB := Lib.hid hsub
    have HTA := Lib.hid hta
    have HE := Lib.hid (fun W h1 h2 h3 => each_to ρ w.heap.size (w.heap.size + 1) w.heap.size M hM u W [] (.slice none 0 0) h1 hsub h2 h3)
    clear hS hd hsub hta
    rw [ptr_pad] at HF
    generalize pad u = P at HF HE
    by_cases hem : s = ⟨#[]⟩
    · subst hem
      clear hP hq
      go_enter Tryz.func18, Tryz.ntmps18
      go_wp2_with (first
        | (go_at_call 36; refine (HF.out _ HT2.out).mono ?_; rintro e w1 ⟨rfl, b1⟩; have B1 := Lib.hid b1; clear b1)
        | (go_at_call 41; refine (HE.out _ (HTA.out.kb B1.out) (HAL.out.kb B1.out) (Nat.le_trans HB2.out.size B1.out.size)).mono ?_; rintro e w2 ⟨rfl, b2, v2, x2⟩; have B2 := Lib.hid b2; have X2 := Lib.hid x2; have c2 : w2.cell? ⟨w.heap.size + 1, 0, none⟩ = some v2 := (by rw [cell_of_row _ _ 0 _ _ _ x2.cell]; rfl); clear b2 x2))
      go_ret
      refine ⟨v2, rfl, ?_, (HB2.out.trans (B1.out.mono HB2.out.size)).trans B2.out⟩
      have := X2.out.own
      rwa [List.nil_append, List.length_nil, Nat.sub_zero] at this
    · have hp : pre s.data.toList = true := hq.resolve_left hem
      have hsne : s.toList.isEmpty = false := str_ne hem
      rw [hp] at hP
      have HP := Lib.hid hP
      clear hP hq hem hp
      go_enter Tryz.func18, Tryz.ntmps18
      go_wp2_with (first
        | (go_at_call 38; refine (HP.out _).mono ?_; rintro e w' ⟨rfl, rfl⟩)
        | (go_at_call 36; refine (HF.out _ HT2.out).mono ?_; rintro e w1 ⟨rfl, b1⟩; have B1 := Lib.hid b1; clear b1)
        | (go_at_call 41; refine (HE.out _ (HTA.out.kb B1.out) (HAL.out.kb B1.out) (Nat.le_trans HB2.out.size B1.out.size)).mono ?_; rintro e w2 ⟨rfl, b2, v2, x2⟩; have B2 := Lib.hid b2; have X2 := Lib.hid x2; have c2 : w2.cell? ⟨w.heap.size + 1, 0, none⟩ = some v2 := (by rw [cell_of_row _ _ 0 _ _ _ x2.cell]; rfl); clear b2 x2))
      go_ret
      refine ⟨v2, rfl, ?_, (HB2.out.trans (B1.out.mono HB2.out.size)).trans B2.out⟩
      have := X2.out.own
      rwa [List.nil_append, List.length_nil, Nat.sub_zero] at this
  · have hem : ¬ s = ⟨#[]⟩ := fun h => hq (.inl h)
    have hp : pre s.data.toList = false := by
      cases h : pre s.data.toList
      · rfl
      · exact absurd (.inr h) hq
    have hS : allS T s.data.toList M = [] := by
      unfold allS
      rw [if_neg]
      rintro (h | h)
      · exact hem (by cases s with | mk d => cases d with | mk l => cases l with | nil => rfl | cons a l => cases h)
      · rw [hp] at h; cases h
    have hsne : s.toList.isEmpty = false := str_ne hem
    rw [hS]
    rw [hp] at hP
    have HP := Lib.hid hP
    clear hP hq hem hp hS
    go_enter Tryz.func18, Tryz.ntmps18
    go_wp2_with (go_at_call 38; refine (HP.out _).mono ?_; rintro e w' ⟨rfl, rfl⟩)
    go_ret
    exact ⟨_, rfl, World.ownsRow_nil _ _ _ _, HB1.out⟩
end Go.Proofs.YtbpccbhlggcmfaaGreatDoor
