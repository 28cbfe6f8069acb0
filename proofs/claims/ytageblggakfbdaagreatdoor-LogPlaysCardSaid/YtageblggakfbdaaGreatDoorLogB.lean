/- The small calls of a log: end, Length, Count, Record. No condition but that it lies so. · decode: the records at the beginning of bytes. Condition: the bytes are no more than a program's may be. -/
import Derived.Test.YtageblggakfbdaaGreatDoorLogD
import Derived.BigQuiet
import Derived.Test.YtageblggakfbdaaGreatDoorFrmK
namespace Go.Proofs.YtageblggakfbdaaGreatDoor
open Go.RowKit
open Go.Maps

theorem lcell_kb {w w' : World} {a : Addr} {u : Value} (h : w.cell? a = some u) (hb : Below w.heap.size w w') : w'.cell? a = some u := by
  rw [World.cell?_of_block (w := w) (hb.block _ (World.block_lt_of_cell? w _ h))]; exact h
theorem end_to (w : World) (B : Nat) (rv : Value) (E : List Re) (h : RAt w B rv E) : Calls Tryz.prog 70 #[rv] w fun e w' => e = .returned (.int .i64 (ends (rcs E))) ∧ w = w' := by
  rcases List.eq_nil_or_concat E with rfl | ⟨E', e, he⟩
  · obtain ⟨p, cap, rfl⟩ := h.slice
    clear h
    go_enter Tryz.func70, Tryz.ntmps70
    go_wp2
    go_ret
    exact ⟨rfl, rfl⟩
  · have he : E = E' ++ [e] := by rw [he, List.concat_eq_append]
    subst he
    obtain ⟨g, cap, hv, _⟩ := h.row.form (by simp)
    subst hv
    have hl : (E' ++ [e]).length = E'.length + 1 := by simp
    have hc := h.at (i := E'.length) (c := 2) (v := .int .i64 ((ends (rcs (E' ++ [e])) : Nat) : Int)) (by rw [hl]; omega) (by
      simp only [List.take_left', List.getElem_concat_length, rrow, List.getElem?_cons_succ, List.getElem?_cons_zero, rcs_app]
      rw [show rcs [e] = [e.2] from rfl, ends_snoc]) (by omega)
    have hmm := h.many
    rw [hl] at hmm
    have hmb : (E'.length : Int) ≤ 111111111 := by omega
    rw [hl] at *
    generalize ends (rcs (E' ++ [e])) = u at *
    generalize E'.length = m at *
    have hm : (m : Int) + 1 ≠ 0 := by omega
    have hm1 : ((m : Int) + 1 == 0) = false := by simp; omega
    clear h hl hmm
    have hm0 : 0 ≤ (m : Int) := by omega
    have hwm : IntKind.i64.wrap (m : Int) = (m : Int) := IntWalk.i64_in _ (by omega)
    go_enter Tryz.func70, Tryz.ntmps70
    go_wp2
    go_ret
    exact ⟨rfl, rfl⟩
theorem len_to (w : World) (B l d : Nat) (nm : Key) (rv : Value) (E : List Re) (h : LAt w B l d nm rv E) : Calls Tryz.prog 29 #[.pointer (some ⟨l, 0, none⟩)] w fun e w' => e = .returned (.int .i64 (ends (rcs E))) ∧ w = w' := by
  have c2 := h.c2
  have HE := Lib.hid (end_to w B rv E h.ra)
  obtain ⟨p, cap, rfl⟩ := h.ra.slice
  clear h
  go_enter Tryz.func29, Tryz.ntmps29
  go_wp2_with fail
  refine HE.out.mono ?_
  rintro e w' ⟨rfl, rfl⟩
  go_wp2_with fail
  go_ret
  exact ⟨rfl, rfl⟩
theorem count_to (w : World) (B l d : Nat) (nm : Key) (rv : Value) (E : List Re) (h : LAt w B l d nm rv E) : Calls Tryz.prog 65 #[.pointer (some ⟨l, 0, none⟩)] w fun e w' => e = .returned (.int .i64 E.length) ∧ w = w' := by
  have c2 := h.c2
  obtain ⟨p, cap, rfl⟩ := h.ra.slice
  clear h
  go_enter Tryz.func65, Tryz.ntmps65
  go_wp2
  go_ret
  exact ⟨rfl, rfl⟩
/-- What Record answers. -/
def recR (R : List Rc) (k : Int) : Int × List Int × Bool := if k < 0 ∨ (R.length : Int) ≤ k then (0, [], false) else match R[k.toNat]? with | some r => (r.1, r.2, true) | none => (0, [], false)
def RecPost (w : World) (R : List Rc) (k : Int) (e : Ending) (w' : World) : Prop :=
  ∃ v, e = .returned (.tuple #[.int .i64 (recR R k).1, v, .bool (recR R k).2.2]) ∧ BOwn w' w.heap.size v (recR R k).2.1 ∧ Below w.heap.size w w'
set_option maxRecDepth 20000 in
set_option maxHeartbeats 1000000 in
theorem record_to (w : World) (B l d : Nat) (nm : Key) (rv : Value) (E : List Re) (k : Int) (h : LAt w B l d nm rv E) : Calls Tryz.prog 76 #[.pointer (some ⟨l, 0, none⟩), .int .i64 k] w (RecPost w (rcs E) k) := by
  have c2 := h.c2
  obtain ⟨p, cap, rfl⟩ := h.ra.slice
  by_cases h1 : k < 0
  · have HR : Hid (recR (rcs E) k = (0, [], false)) := Lib.hid (by unfold recR; rw [if_pos (.inl h1)])
    clear h
    go_enter Tryz.func76, Tryz.ntmps76
    go_wp2
    go_ret3
    unfold RecPost
    rw [HR.out]
    exact ⟨_, rfl, World.ownsRow_nil _ _ _ _, Below.refl _ _⟩
  by_cases h2 : (E.length : Int) ≤ k
  · have HR : Hid (recR (rcs E) k = (0, [], false)) := Lib.hid (by unfold recR; rw [if_pos (.inr (by rw [rcs_len]; exact h2))])
    clear h
    go_enter Tryz.func76, Tryz.ntmps76
    go_wp2
    go_ret3
    unfold RecPost
    rw [HR.out]
    exact ⟨_, rfl, World.ownsRow_nil _ _ _ _, Below.refl _ _⟩
  obtain ⟨i, rfl⟩ : ∃ i : Nat, k = i := ⟨k.toNat, by omega⟩
  have hi : i < E.length := by omega
  have HR : Hid (recR (rcs E) i = (E[i].2.1, E[i].2.2, true)) := Lib.hid (by
    unfold recR
    rw [if_neg (by rw [rcs_len]; omega), Int.toNat_natCast, show (rcs E)[i]? = some E[i].2 from by simp [rcs, hi]])
  obtain ⟨g, rfl⟩ : ∃ g, p = some ⟨g, 0, none⟩ := by
    rcases h.ra.row.2 with ⟨_, h0⟩ | ⟨g, cap', cur, he, _⟩
    · omega
    · cases he; exact ⟨g, rfl⟩
  have e0 := h.ra.at hi (c := 0) rfl (by omega)
  have e1 := h.ra.at hi (c := 1) rfl (by omega)
  have hb := h.ra.bod E[i] (List.getElem_mem hi)
  have hr := (h.ra.rok E[i] (List.getElem_mem hi)).2.2.1
  have hmm := h.ra.many
  obtain ⟨q, c1, hv⟩ := own_slice hb
  have HC := Lib.hid (clone_any w.drew E[i].1 E[i].2.2 (by omega) (Seen.own (w := w.drew) hb.drew))
  rw [hv] at HC e1
  have hiw : IntKind.i64.wrap (i : Int) = (i : Int) := IntWalk.i64_in _ (by omega)
  have hil : (i : Int) < E.length := by omega
  have hi0 : 0 ≤ (i : Int) := by omega
  generalize E[i] = ei at *
  generalize E.length = n at *
  rw [Nat.add_zero] at e0
  clear h hb hr hmm hv h1 h2
  go_enter Tryz.func76, Tryz.ntmps76
  go_wp2_with fail
  try simp only [List.append]
  refine wp_region_noPanic ?_
  refine wp_region_held_drew (S := (fun W => W.cell? ⟨l, 2, none⟩ = some (.slice (some ⟨g, 0, none⟩) n cap) ∧ W.cell? ⟨g, i * 3, none⟩ = some (.int .i64 ei.2.1) ∧ W.cell? ⟨g, i * 3 + 1, none⟩ = some (.slice q ei.2.2.length c1))) (by kernel_rfl) ⟨c2, e0, e1⟩ (fun hHeld => ?_)
  refine wpAnyH_take (i := 0) (v := ?_) (by simp only [List.getElem?_toArray, List.getElem?_cons_zero]; rfl) (by kernel_rfl) (by kernel_rfl) (by kernel_rfl) (fun _ _ _ h => h) (Or.inl ⟨by rfl, ?_⟩) (by assumption) ?_
  rotate_left
  · intro w hSw
    try dsimp only at hSw
    go_simp
    try with_reducible rfl
  try simp only [Act.put, List.setIfInBounds_toArray, List.set_cons_zero, List.set_cons_succ]
  refine wpAnyH_take (i := 1) (v := ?_) (by simp only [List.getElem?_toArray, List.getElem?_cons_succ, List.getElem?_cons_zero]; rfl) (by kernel_rfl) (by kernel_rfl) (by kernel_rfl) (fun _ _ _ h => h) (Or.inl ⟨by rfl, ?_⟩) (by assumption) ?_
  rotate_left
  · intro w hSw
    try dsimp only at hSw
    go_simp
    try with_reducible rfl
  try simp only [Act.put, List.setIfInBounds_toArray, List.set_cons_zero, List.set_cons_succ]
  refine wpAnyH_take (i := 2) (v := ?_) (by simp only [List.getElem?_toArray, List.getElem?_cons_succ, List.getElem?_cons_zero]; rfl) (by kernel_rfl) (by kernel_rfl) (by kernel_rfl) (fun _ _ _ h => h) (Or.inl ⟨by rfl, ?_⟩) (by assumption) ?_
  rotate_left
  · intro w hSw
    try dsimp only at hSw
    go_simp
    try with_reducible rfl
  try simp only [Act.put, List.setIfInBounds_toArray, List.set_cons_zero, List.set_cons_succ]
  refine wpAnyH_take (i := 3) (v := ?_) (by simp only [List.getElem?_toArray, List.getElem?_cons_succ, List.getElem?_cons_zero]; rfl) (by kernel_rfl) (by kernel_rfl) (by kernel_rfl) (fun _ _ _ h => h) (Or.inl ⟨by rfl, ?_⟩) (by assumption) ?_
  rotate_left
  · intro w hSw
    try dsimp only at hSw
    go_simp
    try with_reducible rfl
  try simp only [Act.put, List.setIfInBounds_toArray, List.set_cons_zero, List.set_cons_succ]
  refine wpAnyH_take (i := 4) (v := ?_) (by simp only [List.getElem?_toArray, List.getElem?_cons_succ, List.getElem?_cons_zero]; rfl) (by kernel_rfl) (by kernel_rfl) (by kernel_rfl) (fun _ _ _ h => h) (Or.inl ⟨by rfl, ?_⟩) (by assumption) ?_
  rotate_left
  · intro w hSw
    try dsimp only at hSw
    go_simp
    try with_reducible rfl
  try simp only [Act.put, List.setIfInBounds_toArray, List.set_cons_zero, List.set_cons_succ]
  refine wpAnyH_take (i := 5) (v := ?_) (by simp only [List.getElem?_toArray, List.getElem?_cons_succ, List.getElem?_cons_zero]; rfl) (by kernel_rfl) (by kernel_rfl) (by kernel_rfl) (fun _ _ _ h => h) (Or.inl ⟨by rfl, ?_⟩) (by assumption) ?_
  rotate_left
  · intro w hSw
    try dsimp only at hSw
    go_simp
    try with_reducible rfl
  try simp only [Act.put, List.setIfInBounds_toArray, List.set_cons_zero, List.set_cons_succ]
  refine wpAnyH_take (i := 6) (v := ?_) (by simp only [List.getElem?_toArray, List.getElem?_cons_succ, List.getElem?_cons_zero]; rfl) (by kernel_rfl) (by kernel_rfl) (by kernel_rfl) (fun _ _ _ h => h) (Or.inl ⟨by rfl, ?_⟩) (by assumption) ?_
  rotate_left
  · intro w hSw
    try dsimp only at hSw
    go_simp
    try with_reducible rfl
  try simp only [Act.put, List.setIfInBounds_toArray, List.set_cons_zero, List.set_cons_succ]
  refine wpAnyH_take (i := 7) (v := ?_) (by simp only [List.getElem?_toArray, List.getElem?_cons_succ, List.getElem?_cons_zero]; rfl) (by kernel_rfl) (by kernel_rfl) (by kernel_rfl) (fun _ _ _ h => h) (Or.inl ⟨by rfl, ?_⟩) (by assumption) ?_
  rotate_left
  · intro w hSw
    try dsimp only at hSw
    go_simp
    try with_reducible rfl
  try simp only [Act.put, List.setIfInBounds_toArray, List.set_cons_zero, List.set_cons_succ]
  refine wpAnyH_take (i := 8) (v := ?_) (by simp only [List.getElem?_toArray, List.getElem?_cons_succ, List.getElem?_cons_zero]; rfl) (by kernel_rfl) (by kernel_rfl) (by kernel_rfl) (fun _ _ _ h => h) (Or.inl ⟨by rfl, ?_⟩) (by assumption) ?_
  rotate_left
  · intro w hSw
    try dsimp only at hSw
    go_simp
    try with_reducible rfl
  try simp only [Act.put, List.setIfInBounds_toArray, List.set_cons_zero, List.set_cons_succ]
  refine wpAnyH_take (i := 9) (v := ?_) (by simp only [List.getElem?_toArray, List.getElem?_cons_succ, List.getElem?_cons_zero]; rfl) (by kernel_rfl) (by kernel_rfl) (by kernel_rfl) (fun _ _ _ h => h) (Or.inl ⟨by rfl, ?_⟩) (by assumption) ?_
  rotate_left
  · intro w hSw
    try dsimp only at hSw
    go_simp
    try with_reducible rfl
  try simp only [Act.put, List.setIfInBounds_toArray, List.set_cons_zero, List.set_cons_succ]
  refine wpAnyH_take (i := 10) (v := ?_) (by simp only [List.getElem?_toArray, List.getElem?_cons_succ, List.getElem?_cons_zero]; rfl) (by kernel_rfl) (by kernel_rfl) (by kernel_rfl) (fun _ _ _ h => h) (Or.inl ⟨by rfl, ?_⟩) (by assumption) ?_
  rotate_left
  · intro w hSw
    try dsimp only at hSw
    go_simp
    try with_reducible rfl
  try simp only [Act.put, List.setIfInBounds_toArray, List.set_cons_zero, List.set_cons_succ]
  refine wpAnyH_take (i := 11) (v := ?_) (by simp only [List.getElem?_toArray, List.getElem?_cons_succ, List.getElem?_cons_zero]; rfl) (by kernel_rfl) (by kernel_rfl) (by kernel_rfl) (fun _ _ _ h => h) (Or.inl ⟨by rfl, ?_⟩) (by assumption) ?_
  rotate_left
  · intro w hSw
    try dsimp only at hSw
    go_simp
    try with_reducible rfl
  try simp only [Act.put, List.setIfInBounds_toArray, List.set_cons_zero, List.set_cons_succ]
  refine wpAnyH_take (i := 12) (v := ?_) (by simp only [List.getElem?_toArray, List.getElem?_cons_succ, List.getElem?_cons_zero]; rfl) (by kernel_rfl) (by kernel_rfl) (by kernel_rfl) (fun _ _ _ h => h) (Or.inl ⟨by rfl, ?_⟩) (by assumption) ?_
  rotate_left
  · intro w hSw
    try dsimp only at hSw
    go_simp
    try with_reducible rfl
  try simp only [Act.put, List.setIfInBounds_toArray, List.set_cons_zero, List.set_cons_succ]
  refine wpAnyH_take (i := 13) (v := ?_) (by simp only [List.getElem?_toArray, List.getElem?_cons_succ, List.getElem?_cons_zero]; rfl) (by kernel_rfl) (by kernel_rfl) (by kernel_rfl) (fun _ _ _ h => h) (Or.inl ⟨by rfl, ?_⟩) (by assumption) ?_
  rotate_left
  · intro w hSw
    try dsimp only at hSw
    go_simp
    try with_reducible rfl
  try simp only [Act.put, List.setIfInBounds_toArray, List.set_cons_zero, List.set_cons_succ]
  refine wpAnyH_take (i := 14) (v := ?_) (by simp only [List.getElem?_toArray, List.getElem?_cons_succ, List.getElem?_cons_zero]; rfl) (by kernel_rfl) (by kernel_rfl) (by kernel_rfl) (fun _ _ _ h => h) (Or.inl ⟨by rfl, ?_⟩) (by assumption) ?_
  rotate_left
  · intro w hSw
    try dsimp only at hSw
    go_simp
    try with_reducible rfl
  try simp only [Act.put, List.setIfInBounds_toArray, List.set_cons_zero, List.set_cons_succ]
  refine wpAnyH_take (i := 15) (v := ?_) (by simp only [List.getElem?_toArray, List.getElem?_cons_succ, List.getElem?_cons_zero]; rfl) (by kernel_rfl) (by kernel_rfl) (by kernel_rfl) (fun _ _ _ h => h) (Or.inl ⟨by rfl, ?_⟩) (by assumption) ?_
  rotate_left
  · intro w hSw
    try dsimp only at hSw
    go_simp
    try with_reducible rfl
  try simp only [Act.put, List.setIfInBounds_toArray, List.set_cons_zero, List.set_cons_succ]
  refine wpAnyH_ready (rs := [16]) (by kernel_rfl) (by simp) ?_
  refine AllReadyH.cons (by simp only [List.getElem?_toArray, List.getElem?_cons_succ, List.getElem?_cons_zero]; rfl) (fun K hK => ?_) AllReadyH.nil
  go_simp
  refine HC.out.mono ?_
  rintro e w2 ⟨v, rfl, o2, b2⟩
  have O2 := Lib.hid o2
  have B2 := Lib.hid b2
  have q2 : w2.cell? ⟨l, 2, none⟩ = some (.slice (some ⟨g, 0, none⟩) n cap) ∧ w2.cell? ⟨g, i * 3, none⟩ = some (.int .i64 ei.2.1) ∧ w2.cell? ⟨g, i * 3 + 1, none⟩ = some (.slice q ei.2.2.length c1) := ⟨lcell_kb (w := w.drew) c2 b2, lcell_kb (w := w.drew) e0 b2, lcell_kb (w := w.drew) e1 b2⟩
  clear o2 b2
  go_wp2_with fail
  refine hK.out _ _ q2 (fun hHeld => ?_)
  clear hK K
  try simp only [Act.put, List.setIfInBounds_toArray, List.set_cons_zero, List.set_cons_succ]
  refine wpAnyH_take (i := 17) (v := ?_) (by simp only [List.getElem?_toArray, List.getElem?_cons_succ, List.getElem?_cons_zero]; rfl) (by kernel_rfl) (by kernel_rfl) (by kernel_rfl) (fun _ _ _ h => h) (Or.inl ⟨by rfl, ?_⟩) (by assumption) ?_
  rotate_left
  · intro w hSw
    try dsimp only at hSw
    go_simp
    try with_reducible rfl
  try simp only [Act.put, List.setIfInBounds_toArray, List.set_cons_zero, List.set_cons_succ]
  refine wpAnyH_take (i := 18) (v := ?_) (by simp only [List.getElem?_toArray, List.getElem?_cons_succ, List.getElem?_cons_zero]; rfl) (by kernel_rfl) (by kernel_rfl) (by kernel_rfl) (fun _ _ _ h => h) (Or.inl ⟨by rfl, ?_⟩) (by assumption) ?_
  rotate_left
  · intro w hSw
    try dsimp only at hSw
    go_simp
    try with_reducible rfl
  try simp only [Act.put, List.setIfInBounds_toArray, List.set_cons_zero, List.set_cons_succ]
  refine wpAnyH_take (i := 19) (v := ?_) (by simp only [List.getElem?_toArray, List.getElem?_cons_succ, List.getElem?_cons_zero]; rfl) (by kernel_rfl) (by kernel_rfl) (by kernel_rfl) (fun _ _ _ h => h) (Or.inl ⟨by rfl, ?_⟩) (by assumption) ?_
  rotate_left
  · intro w hSw
    try dsimp only at hSw
    go_simp
    try with_reducible rfl
  try simp only [Act.put, List.setIfInBounds_toArray, List.set_cons_zero, List.set_cons_succ]
  refine wpAnyH_done (by kernel_rfl) ?_ _
  refine NoPanic.normal ?_
  go_wp2_with fail
  go_ret3
  unfold RecPost
  rw [HR.out]
  exact ⟨v, rfl, O2.out, ⟨B2.out.os, B2.out.tape, B2.out.output, B2.out.size, B2.out.block⟩⟩
end Go.Proofs.YtageblggakfbdaaGreatDoor
namespace Go.Proofs.YtageblggakfbdaaGreatDoor
open Go.RowKit
open Go.Maps

theorem rinfo : (Tryz.prog.info? 119).map (fun i => (i.zero, i.size, i.bytes)) = some (some (.agg #[.int .i64 0, .slice none 0 0, .int .i64 0]), 3, 40) := by kernel_rfl
theorem rrow_one (a : Nat) {e : Re} (h : e.1.oneCell' = true) : ∀ u ∈ rrow a e, u.oneCell' = true := by
  intro u hu
  simp only [rrow, List.mem_cons, List.not_mem_nil, or_false] at hu
  rcases hu with rfl | rfl | rfl
  all_goals first | rfl | exact h
theorem own_one {w : World} {B e size n : Nat} {v : Value} {xs : List Value} (h : w.ownsRow B e size v n xs) : v.oneCell' = true := by
  obtain ⟨p, cap, rfl⟩ := own_slice h; rfl
/-- One more record behind the others. -/
theorem RAt.snoc {w w1 : World} {B g cap : Nat} {rv : Value} {E : List Re} {e : Re} (h : RAt w B rv E) (he : BOwn w B e.1 e.2.2) (hr : Rok e.2) (hs : ends (rcs (E ++ [e])) ≤ 1000000000)
    (hown : w1.ownsRow B 119 3 (.slice (some ⟨g, 0, none⟩) (E.length + 1) cap) (E.length + 1) (lrows 0 E ++ rrow (ends (rcs E)) e)) (ho : Only (fun k => rv.ownBlock = some k) w w1) : RAt w1 B (.slice (some ⟨g, 0, none⟩) (E.length + 1) cap) (E ++ [e]) where
  row := by
    rw [show (E ++ [e]).length = E.length + 1 from by simp, lrows_app, Nat.zero_add, lrows_one]
    exact hown
  bod := fun x hx => by
    rcases List.mem_append.1 hx with hx | hx
    · exact own_kept (h.bod x hx) ho fun k hk e => h.row_bod e x hx hk
    · rw [List.mem_singleton.1 hx]
      refine own_kept he ho fun k hk e2 => ?_
      obtain ⟨cs, hcs⟩ := own_type h.row e2
      obtain ⟨cs', hcs'⟩ := own_type he hk
      rw [hcs] at hcs'
      simp at hcs'
  rok := fun x hx => by
    rcases List.mem_append.1 hx with hx | hx
    · exact h.rok x hx
    · rw [List.mem_singleton.1 hx]; exact hr
  small := hs
theorem dec_fits {n : Nat} (h : n ≤ 111111111) : n + 1 ≤ maxLen ∧ (n + 1) * 40 ≤ 140737488355328 := by unfold maxLen; omega
/-- What decode answers. -/
def DecPost (w : World) (l : List Int) (e : Ending) (w' : World) : Prop :=
  ∃ rv E, e = .returned (.tuple #[rv, errOf (dec l).2]) ∧ RAt w' w.heap.size rv E ∧ rcs E = (dec l).1 ∧ Below w.heap.size w w'
/-- What its loop keeps. -/
structure DcI (w wr : World) (rv : Value) (l : List Int) (E : List Re) : Prop where
  ra : RAt wr w.heap.size rv E
  ahead : dec l = (rcs E ++ (dec (l.drop (ends (rcs E)))).1, (dec (l.drop (ends (rcs E)))).2)
  le : ends (rcs E) ≤ l.length
  bel : Below w.heap.size w wr
theorem dec_step {l : List Int} {m : Nat} {kk sz : Int} {xs : List Int} (ok : Okb (l.drop m)) (hm : m < l.length) (hx : nxt (l.drop m) = (kk, xs, sz, 0)) : dec (l.drop m) = ((kk, xs) :: (dec (l.drop (m + (9 + xs.length)))).1, (dec (l.drop (m + (9 + xs.length)))).2) := by
  have hs := (nxt_size ok (by rw [hx])).1
  rw [hx] at hs
  simp only at hs
  rw [dec_good ok (by intro e; have := congrArg List.length e; rw [List.length_drop] at this; simp at this; omega) (by rw [hx]), hx]
  simp only [List.drop_drop]
  rw [show sz.toNat = 9 + xs.length from by omega]
theorem errOf_nz {c : Int} (h : ¬ c = 0) : errOf c = kind c := by unfold errOf; rw [if_neg h]
theorem seenr_drop {w : World} {l : List Int} {g o cap : Nat} (h : SeenR w (.slice (some ⟨g, o, none⟩) l.length cap) l) (m : Nat) (hm : m ≤ l.length) : SeenR w (.slice (some ⟨g, o + m, none⟩) (l.length - m) (cap - m)) (l.drop m) := by
  rcases h with ⟨h, _⟩ | ⟨g', o', cap', h, h2, hu⟩
  · cases h
  · cases h
    have e : (l.drop m).length = l.length - m := List.length_drop
    refine .inr ⟨g, o + m, cap - m, by rw [e], by rw [e]; omega, fun j u hj => ?_⟩
    have := hu (m + j) u (by simpa [us, List.getElem?_drop] using hj)
    rwa [← Nat.add_assoc] at this
set_option maxRecDepth 20000 in
set_option maxHeartbeats 4000000 in
theorem decode_to (w : World) (v : Value) (l : List Int) (ok : Okb l) (hl : l.length ≤ 100000000) (hs : SeenR w v l) : Calls Tryz.prog 66 #[v] w (DecPost w l) := by
  obtain ⟨i0, hi0, hz0, hz1, hz2⟩ := info_parts rinfo
  rcases hs with ⟨rfl, rfl⟩ | ⟨g, o, cap, rfl, hc, hu⟩
  · go_enter Tryz.func66, Tryz.ntmps66
    go_wp2
    refine wp_loop_rounds 1 ?_
    rw [rounds_succ]
    go_wp2
    go_ret2
    exact ⟨_, [], rfl, RAt.nil _ _, rfl, Below.refl _ _⟩
  have HS : Hid (DcI w w (.slice none 0 0) l []) := Lib.hid ⟨RAt.nil _ _, rfl, Nat.zero_le _, Below.refl _ _⟩
  have hsw : SeenR w (.slice (some ⟨g, o, none⟩) l.length cap) l := .inr ⟨g, o, cap, rfl, hc, hu⟩
  have OK := Lib.hid ok
  obtain ⟨n, hn⟩ : ∃ n, n = l.length := ⟨_, rfl⟩
  rw [← hn] at hl hc
  rw [← hn] at hsw ⊢
  have HN := Lib.hid hn
  have HSW := Lib.hid hsw
  clear hu hn ok hsw
  go_enter Tryz.func66, Tryz.ntmps66
  go_wp2_with fail
  go_loopw [4, 5] (fun s4 s5 wr => ∃ (E : List Re) (p : Option Addr) (m c m2 : Nat), s4 = .slice p m2 c ∧ m2 = E.length ∧ m = ends (rcs E) ∧ s5 = .int .i64 m ∧ m ≤ n ∧ Hid (DcI w wr (.slice p m2 c) l E)) (fun _ s5 _ => n - (intOf s5).toNat)
  case atStart => exact ⟨[], none, 0, 0, 0, rfl, rfl, rfl, rfl, Nat.zero_le _, HS⟩
  case round =>
    obtain ⟨E, p, m, c, m2, rfl, hm2, hm, rfl, hmn, HI⟩ := hrel
    clear HS
    have HM := Lib.hid hm
    have HM2 := Lib.hid hm2
    by_cases hlt : m < n
    · have hlt' : (m : Int) < n := by omega
      have hm0 : 0 ≤ (m : Int) := by omega
      have hmn' : (m : Int) ≤ n := by omega
      have hmc : (m : Int) ≤ cap := by omega
      obtain ⟨kk, xs, sz, er, hnx⟩ : ∃ kk xs sz er, nxt (l.drop m) = (kk, xs, sz, er) := ⟨_, _, _, _, rfl⟩
      have HOD : Hid (Okb (l.drop m)) := Lib.hid (OK.out.drop m)
      have hsd : SeenR wr (.slice (some ⟨g, o + m, none⟩) (n - m) (cap - m)) (l.drop m) := by
        have h1 := HSW.out.kb HI.out.bel
        rw [HN.out] at h1 ⊢
        exact seenr_drop h1 m (by rw [← HN.out]; exact hmn)
      have HX := Lib.hid (next_own wr _ (l.drop m) hnx HOD.out (by rw [List.length_drop, ← HN.out]; omega) hsd)
      have HNX := Lib.hid hnx
      clear hsd hnx hm hm2
      by_cases he : er = 0
      · have hsz := nxt_size HOD.out (by rw [HNX.out]; exact he)
        rw [HNX.out] at hsz
        simp only at hsz
        have HSZ := Lib.hid hsz.2.2
        have HSL : Hid (sz = 9 + (xs.length : Int)) := Lib.hid hsz.1
        have hln : m + (9 + xs.length) ≤ n := by
          have h1 := hsz.1
          have h2 := hsz.2.1
          rw [List.length_drop, ← HN.out] at h2
          omega
        clear hsz
        obtain ⟨z, hz⟩ : ∃ z : Nat, z = m + (9 + xs.length) := ⟨_, rfl⟩
        have hz2' : (m : Int) + sz = z := by rw [HSL.out, hz]; omega
        have hz63 : IntKind.i64.wrap ((m : Int) + sz) = z := by rw [hz2']; exact IntWalk.i64_in _ (by omega)
        have HZ := Lib.hid hz
        have hzn : z ≤ n := by rw [hz]; exact hln
        have HXL : Hid (m2 ≤ 111111111) := Lib.hid (by have := HI.out.ra.many; rw [HM2.out]; exact this)
        subst he
        rw [show errOf 0 = .nilIface from rfl] at HX
        clear hz hz2'
        go_wp2_with fail
        refine HX.out.mono ?_
        rintro e w2 ⟨u, rfl, ou, b2⟩
        have B2 := Lib.hid (HI.out.bel.trans (b2.mono HI.out.bel.size))
        have R2 : Hid (RAt w2 w.heap.size (.slice p m2 c) E) := Lib.hid (HI.out.ra.kb b2)
        have U2 : Hid (BOwn w2 w.heap.size u xs) := Lib.hid (ou.mono HI.out.bel.size)
        obtain ⟨pu, cu, rfl⟩ := own_slice ou
        clear ou b2 HX
        have HN2 : Hid (∀ j v, ([.int .i64 kk, .slice pu xs.length cu, .int .i64 z] : List Value)[j]? = some v → (w2.alloc (.cells #[.int .i64 kk, .slice pu xs.length cu, .int .i64 z] 119)).cell? ((⟨w2.heap.size, 0, none⟩ : Addr).add j) = some v) := Lib.hid (World.news_of_block (cs := #[.int .i64 kk, .slice pu xs.length cu, .int .i64 z]) (t := 119) (fr := (0, 0)) (heap_alloc_new w2 _))
        have R3 : Hid (RAt (w2.alloc (.cells #[.int .i64 kk, .slice pu xs.length cu, .int .i64 z] 119)) w.heap.size (.slice p m2 c) E) := Lib.hid (R2.out.kb ((Below.refl _ w2).alloc (Nat.le_refl _) _))
        have U3 : Hid (BOwn (w2.alloc (.cells #[.int .i64 kk, .slice pu xs.length cu, .int .i64 z] 119)) w.heap.size (.slice pu xs.length cu) xs) := Lib.hid (U2.out.alloc _)
        have B3 : Hid (Below w.heap.size w (w2.alloc (.cells #[.int .i64 kk, .slice pu xs.length cu, .int .i64 z] 119))) := Lib.hid (B2.out.alloc B2.out.size _)
        have HRW : Hid (lrows 0 E ++ [.int .i64 kk, .slice pu xs.length cu, .int .i64 z] = lrows 0 E ++ rrow (ends (rcs E)) (.slice pu xs.length cu, kk, xs)) := Lib.hid (by rw [rrow, ← HM.out, HZ.out])
        have HRO := Lib.hid (R3.out.row)
        rw [← HM2.out] at HRO
        have HFT := Lib.hid (dec_fits HXL.out)
        have HB2 := Lib.hid B3.out.size
        go_wp2_with (refine wpList_append_lies _ (by rfl) _ _ _ (by rfl) w.heap.size 119 i0 _ 3 40 Tryz.underlying104 hi0 hz0 hz1 hz2 rfl (by omega) (.slice p m2 c) m2 (lrows 0 E) (by rfl) HRO.out ⟨w2.heap.size, 0, none⟩ 1 1 [.int .i64 kk, .slice pu xs.length cu, .int .i64 z] (by rfl) (by rfl) HN2.out (by simp [Value.oneCell']) (by decide) HFT.out.1 HFT.out.2 HB2.out _ rfl ?_; intro gg cc w4 own4 grow4 hat4 hlt4)
        have o4 := (Only.refl (fun k => (Value.slice p m2 c).ownBlock = some k) _).grown grow4 (fun k _ e => e)
        rw [HRW.out] at own4
        have HR4 := Lib.hid (R3.out.snoc (e := (.slice pu xs.length cu, kk, xs)) U3.out HSZ.out (by rw [rcs_app, show rcs [(Value.slice pu xs.length cu, kk, xs)] = [(kk, xs)] from rfl, ends_snoc, ← HM.out]; simp only; omega) (by rw [← HM2.out]; exact own4) o4)
        rw [← HM2.out] at HR4
        have HB4 := Lib.hid (B3.out.trans (o4.below HB2.out (fun k hk => (R2.out.row.lt k hk).1)))
        refine ⟨⟨E ++ [(.slice pu xs.length cu, kk, xs)], some ⟨gg, 0, none⟩, z, cc, m2 + 1, rfl, by rw [HM2.out]; simp, by rw [rcs_app, show rcs [(Value.slice pu xs.length cu, kk, xs)] = [(kk, xs)] from rfl, ends_snoc, ← HM.out]; exact HZ.out, rfl, hzn, Lib.hid ⟨HR4.out, ?_, ?_, HB4.out⟩⟩, ?_⟩
        · have h1 := HI.out.ahead
          rw [← HM.out, dec_step HOD.out (by rw [← HN.out]; exact hlt) HNX.out, ← HZ.out] at h1
          rw [rcs_app, show rcs [(Value.slice pu xs.length cu, kk, xs)] = [(kk, xs)] from rfl, ends_snoc, ← HM.out]
          simp only
          rw [← HZ.out, List.append_assoc]
          exact h1
        · rw [rcs_app, show rcs [(Value.slice pu xs.length cu, kk, xs)] = [(kk, xs)] from rfl, ends_snoc, ← HM.out, ← HN.out]
          simp only
          omega
        · have hz0 := HZ.out
          simp [intOf]; omega
      · have HD : Hid (dec l = (rcs E, er)) := Lib.hid (by
          have h1 := HI.out.ahead
          rw [← HM.out, dec_bad (l := l.drop m) (by intro e; have := congrArg List.length e; rw [List.length_drop, ← HN.out] at this; simp at this; omega) (by rw [HNX.out]; exact he), HNX.out, List.append_nil] at h1
          exact h1)
        rw [errOf_nz he] at HX
        clear hlt'
        go_wp2_with fail
        refine HX.out.mono ?_
        rintro e w2 ⟨u, rfl, ou, b2⟩
        have B2 := Lib.hid (HI.out.bel.trans (b2.mono HI.out.bel.size))
        have R2 : Hid (RAt w2 w.heap.size (.slice p m2 c) E) := Lib.hid (HI.out.ra.kb b2)
        obtain ⟨pu, cu, rfl⟩ := own_slice ou
        clear ou b2 HX
        go_wp2_with fail
        go_ret2
        exact ⟨.slice p m2 c, E, by rw [HD.out]; exact (congrArg (fun x => Ending.returned (.tuple #[.slice p m2 c, x])) (errOf_nz he)).symm, R2.out, by rw [HD.out], B2.out⟩
    · have hge : ¬ (m : Int) < n := by omega
      have HD : Hid (dec l = (rcs E, 0)) := Lib.hid (by
        have h1 := HI.out.ahead
        rw [← HM.out, show l.drop m = [] from List.drop_eq_nil_iff.2 (by rw [← HN.out]; omega), dec_nil, List.append_nil] at h1
        exact h1)
      clear hm hm2
      go_wp2_with fail
      go_ret2
      exact ⟨_, E, by rw [HD.out]; rfl, HI.out.ra, by rw [HD.out], HI.out.bel⟩
end Go.Proofs.YtageblggakfbdaaGreatDoor
