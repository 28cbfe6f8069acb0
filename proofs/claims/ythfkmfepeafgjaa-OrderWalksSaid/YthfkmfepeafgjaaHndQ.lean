/- What the hand's Request puts together: the request. No condition. -/
import Derived.Test.YthfkmfepeafgjaaHndC
namespace Go.Proofs.Ythfkmfepeafgjaa
open Go.RowKit
open Go.Maps

/-- The request that is being put together. -/
structure RI (W : World) (B rb : Nat) (vc vh : Value) (g : Int) (C : Cv) (cs : List Cm) (hs : List Key) : Prop where
  cell : W.heap[rb]? = some (.cells #[vc, vh, .int .i64 g] 64 (0, 0))
  lo : B ≤ rb
  row : W.ownsRow B 49 33 vc C.length (cf C)
  len : C.length = cs.length
  lit : ∀ (i : Nat) (c : Key × Value) (d : Cm), C[i]? = some c → cs[i]? = some d → c.1 = d.1 ∧ HOwn W B c.2 d.2 ∧ H32 d.2 ∧ d.1.length = 32 ∧ d.2.length ≤ 10
  sep : ∀ c ∈ C, ∀ j, c.2.ownBlock = some j → vh.ownBlock ≠ some j
  heads : HOwn W B vh hs
  h32 : H32 hs
section
variable {W W' W1 : World} {B rb : Nat} {vc vh : Value} {g : Int} {C : Cv} {cs : List Cm} {hs : List Key}
theorem RI.pos (H : RI W B rb vc vh g C cs hs) {c : Key × Value} (hc : c ∈ C) : ∃ d, d ∈ cs ∧ c.1 = d.1 ∧ HOwn W B c.2 d.2 ∧ H32 d.2 ∧ d.1.length = 32 ∧ d.2.length ≤ 10 := by
  obtain ⟨i, hi, rfl⟩ := List.mem_iff_getElem.1 hc
  have h1 : i < cs.length := by rw [← H.len]; exact hi
  exact ⟨cs[i], List.getElem_mem _, H.lit i _ _ (List.getElem?_eq_getElem hi) (List.getElem?_eq_getElem h1)⟩
theorem RI.keep (H : RI W B rb vc vh g C cs hs) {S : Nat → Prop} (ho : Only S W W') (h1 : ¬ S rb) (h2 : ∀ j, vc.ownBlock = some j → ¬ S j) (h3 : ∀ j, vh.ownBlock = some j → ¬ S j) (h4 : ∀ c ∈ C, ∀ j, c.2.ownBlock = some j → ¬ S j) : RI W' B rb vc vh g C cs hs :=
  { cell := (ho.block rb (Array.getElem?_eq_some_iff.1 H.cell).1 h1).trans H.cell, lo := H.lo, row := own_keep H.row ho h2, len := H.len
    lit := fun i c d hc hd => by
      obtain ⟨a1, a2, a3⟩ := H.lit i c d hc hd
      exact ⟨a1, own_keep a2 ho (h4 c (List.mem_of_getElem? hc)), a3⟩
    sep := H.sep, heads := own_keep H.heads ho h3, h32 := H.h32 }
theorem RI.kb (H : RI W B rb vc vh g C cs hs) (k : Below W.heap.size W W') : RI W' B rb vc vh g C cs hs := H.keep (S := fun _ => False) (Only.of_below k) (fun h => h) (fun _ _ h => h) (fun _ _ h => h) (fun _ _ _ _ h => h)
theorem RI.c0 (H : RI W B rb vc vh g C cs hs) : W.cell? ⟨rb, 0, none⟩ = some vc ∧ W.cell? ⟨rb, 1, none⟩ = some vh ∧ W.cell? ⟨rb, 2, none⟩ = some (.int .i64 g) := by
  refine ⟨?_, ?_, ?_⟩ <;> rw [cell_of_row W rb _ _ _ _ H.cell] <;> rfl
theorem RI.free (H : RI W B rb vc vh g C cs hs) (i : Nat) : W.frozen? ⟨rb, i, none⟩ = false := frozen_of_row _ _ _ _ _ H.cell
theorem RI.cap (H : RI W B rb vc vh g C cs hs) : ∀ c ∈ C, ∀ j, c.2.ownBlock = some j → j ≠ rb := fun c hc j hj e => by
  obtain ⟨d, _, _, o, _⟩ := H.pos hc
  exact own_apart o H.cell (by decide) (by rw [hj, e])
theorem RI.ne (H : RI W B rb vc vh g C cs hs) : vc.ownBlock ≠ some rb ∧ vh.ownBlock ≠ some rb := ⟨own_apart H.row H.cell (by decide), own_apart H.heads H.cell (by decide)⟩
theorem RI.cv (H : RI W B rb vc vh g C cs hs) {j : Nat} (hj : vc.ownBlock = some j) : vh.ownBlock ≠ some j := fun e => by
  obtain ⟨xs, h1, _⟩ := own_type H.row hj
  exact own_apart H.heads h1 (by decide) e
theorem RI.cc (H : RI W B rb vc vh g C cs hs) {j : Nat} (hj : vc.ownBlock = some j) : ∀ c ∈ C, c.2.ownBlock ≠ some j := fun c hc e => by
  obtain ⟨xs, h1, _⟩ := own_type H.row hj
  obtain ⟨d, _, _, o, _⟩ := H.pos hc
  exact own_apart o h1 (by decide) e
/-- The group is set. -/
theorem RI.grp (H : RI W B rb vc vh g C cs hs) (g' : Int) : RI (W.setCell ⟨rb, 2, none⟩ (.int .i64 g')) B rb vc vh g' C cs hs ∧ Only (fun j => j = rb) W (W.setCell ⟨rb, 2, none⟩ (.int .i64 g')) := by
  have ho : Only (fun j => j = rb) W (W.setCell ⟨rb, 2, none⟩ (.int .i64 g')) := (Only.refl (fun j => j = rb) W).setCell (p := ⟨rb, 2, none⟩) rfl _
  refine ⟨{ cell := ?_, lo := H.lo, row := own_keep H.row ho fun j hj e => H.ne.1 (by rw [hj, e]), len := H.len, lit := fun i c d hc hd => ?_, sep := H.sep, heads := own_keep H.heads ho fun j hj e => H.ne.2 (by rw [hj, e]), h32 := H.h32 }, ho⟩
  · rw [heap_setCell_same W rb 2 _ _ _ H.cell]; rfl
  · obtain ⟨a1, a2, a3⟩ := H.lit i c d hc hd
    exact ⟨a1, own_keep a2 ho fun j hj e => H.cap c (List.mem_of_getElem? hc) j hj e, a3⟩
theorem RI.hmid (H : RI W B rb vc vh g C cs hs) (oth : Only (fun j => vh.ownBlock = some j) W W1) : W1.heap[rb]? = some (.cells #[vc, vh, .int .i64 g] 64 (0, 0)) :=
  (oth.block rb (Array.getElem?_eq_some_iff.1 H.cell).1 H.ne.2).trans H.cell
/-- A head more. -/
theorem RI.head (H : RI W B rb vc vh g C cs hs) {v : Value} {x : Key} (hx : x.length = 32) (o : HOwn W1 B v (hs ++ [x])) (oth : Only (fun j => vh.ownBlock = some j) W W1) (loc : ∀ j, v.ownBlock = some j → vh.ownBlock = some j ∨ W.heap.size ≤ j) :
    RI (W1.setCell ⟨rb, 1, none⟩ v) B rb vc v g C cs (hs ++ [x]) ∧ Only (fun j => j = rb ∨ vh.ownBlock = some j) W (W1.setCell ⟨rb, 1, none⟩ v) := by
  have h1 := H.hmid oth
  have ho : Only (fun j => j = rb ∨ vh.ownBlock = some j) W (W1.setCell ⟨rb, 1, none⟩ v) := (oth.mono (T := fun j => j = rb ∨ vh.ownBlock = some j) fun j _ hj => .inr hj).setCell (p := ⟨rb, 1, none⟩) (.inl rfl) _
  refine ⟨{ cell := ?_, lo := H.lo, row := own_keep H.row ho fun j hj e => ?_, len := H.len, lit := fun i c d hc hd => ?_, sep := fun c hc j hj e => ?_, heads := own_keep (S := fun j => j = rb) o ((Only.refl (fun j => j = rb) W1).setCell (p := ⟨rb, 1, none⟩) rfl _) fun j hj e => own_apart o h1 (by decide) (by rw [hj, e]), h32 := H.h32.app (H32.one hx) }, ho⟩
  · rw [heap_setCell_same W1 rb 1 _ _ _ h1]; rfl
  · rcases e with e | e
    · exact H.ne.1 (by rw [hj, e])
    · exact H.cv hj e
  · obtain ⟨a1, a2, a3⟩ := H.lit i c d hc hd
    refine ⟨a1, own_keep a2 ho fun j hj e => ?_, a3⟩
    rcases e with e | e
    · exact H.cap c (List.mem_of_getElem? hc) j hj e
    · exact H.sep c (List.mem_of_getElem? hc) j hj e
  · rcases loc j e with e | e
    · exact H.sep c hc j hj e
    · obtain ⟨d, _, _, o2, _⟩ := H.pos hc
      obtain ⟨xs, h2, _⟩ := own_type o2 hj
      have := (Array.getElem?_eq_some_iff.1 h2).1
      omega
theorem RI.cmid (H : RI W B rb vc vh g C cs hs) (oth : Only (fun j => vc.ownBlock = some j) W W1) : W1.heap[rb]? = some (.cells #[vc, vh, .int .i64 g] 64 (0, 0)) :=
  (oth.block rb (Array.getElem?_eq_some_iff.1 H.cell).1 H.ne.1).trans H.cell
/-- A commit more. -/
theorem RI.comm (H : RI W B rb vc vh g C cs hs) {v u : Value} {h : Key} {ps : List Key} {m : Nat} (hm : m = C.length + 1) (hh : h.length = 32) (p32 : H32 ps) (pl : ps.length ≤ 10)
    (o : W1.ownsRow B 49 33 v m (cf (C ++ [(h, u)]))) (oth : Only (fun j => vc.ownBlock = some j) W W1) (ou : HOwn W B u ps) (su : ∀ j, u.ownBlock = some j → vh.ownBlock ≠ some j) :
    RI (W1.setCell ⟨rb, 0, none⟩ v) B rb v vh g (C ++ [(h, u)]) (cs ++ [(h, ps)]) hs ∧ Only (fun j => j = rb ∨ vc.ownBlock = some j) W (W1.setCell ⟨rb, 0, none⟩ v) := by
  have h1 := H.cmid oth
  have ho : Only (fun j => j = rb ∨ vc.ownBlock = some j) W (W1.setCell ⟨rb, 0, none⟩ v) := (oth.mono (T := fun j => j = rb ∨ vc.ownBlock = some j) fun j _ hj => .inr hj).setCell (p := ⟨rb, 0, none⟩) (.inl rfl) _
  have hlen : (C ++ [(h, u)]).length = m := by rw [List.length_append, List.length_singleton, hm]
  have hun : ∀ j, u.ownBlock = some j → ¬ (j = rb ∨ vc.ownBlock = some j) := fun j hj e => by
    rcases e with e | e
    · exact own_apart ou H.cell (by decide) (by rw [hj, e])
    · obtain ⟨xs, h2, _⟩ := own_type H.row e
      exact own_apart ou h2 (by decide) hj
  refine ⟨{ cell := ?_, lo := H.lo, row := by rw [hlen]; exact own_keep (S := fun j => j = rb) o ((Only.refl (fun j => j = rb) W1).setCell (p := ⟨rb, 0, none⟩) rfl _) fun j hj e => own_apart o h1 (by decide) (by rw [hj, e]), len := by simp [H.len], lit := fun i c d hc hd => ?_, sep := fun c hc j hj e => ?_, heads := own_keep H.heads ho fun j hj e => ?_, h32 := H.h32 }, ho⟩
  · rw [heap_setCell_same W1 rb 0 _ _ _ h1]; rfl
  · by_cases hi : i < C.length
    · rw [List.getElem?_append_left hi] at hc
      rw [List.getElem?_append_left (by rw [← H.len]; exact hi)] at hd
      obtain ⟨a1, a2, a3⟩ := H.lit i c d hc hd
      refine ⟨a1, own_keep a2 ho fun j hj e => ?_, a3⟩
      rcases e with e | e
      · exact H.cap c (List.mem_of_getElem? hc) j hj e
      · exact H.cc e c (List.mem_of_getElem? hc) hj
    · have hi2 : i = C.length := by have := (List.getElem?_eq_some_iff.1 hc).1; rw [List.length_append, List.length_singleton] at this; omega
      subst hi2
      rw [List.getElem?_append_right (Nat.le_refl _), Nat.sub_self] at hc
      rw [H.len, List.getElem?_append_right (Nat.le_refl _), Nat.sub_self] at hd
      simp only [List.getElem?_cons_zero, Option.some.injEq] at hc hd
      subst hc hd
      exact ⟨rfl, own_keep ou ho hun, p32, hh, pl⟩
  · rcases List.mem_append.1 hc with hc | hc
    · exact H.sep c hc j hj e
    · rw [List.mem_singleton.1 hc] at hj
      exact su j hj e
  · rcases e with e | e
    · exact H.ne.2 (by rw [hj, e])
    · exact H.cv e hj
/-- What is handed back. -/
theorem RI.seen (H : RI W B rb vc vh g C cs hs) : CSeen W vc cs ∧ HSeen W vh hs ∧ COk cs ∧ H32 hs ∧ ∀ c ∈ cs, c.2.length ≤ 10 := by
  have hpos : ∀ d ∈ cs, d.1.length = 32 ∧ H32 d.2 ∧ d.2.length ≤ 10 := fun d hd => by
    obtain ⟨i, hi, rfl⟩ := List.mem_iff_getElem.1 hd
    have h1 : i < C.length := by rw [H.len]; exact hi
    obtain ⟨_, _, a3, a4, a5⟩ := H.lit i _ _ (List.getElem?_eq_getElem h1) (List.getElem?_eq_getElem hi)
    exact ⟨a4, a3, a5⟩
  have h32 : ∀ c ∈ C, c.1.length = 32 := fun c hc => by
    obtain ⟨d, _, e, _, _, h, _⟩ := H.pos hc
    rw [e]; exact h
  refine ⟨?_, HSeen.own H.heads, fun d hd => ⟨(hpos d hd).1, (hpos d hd).2.1⟩, H.h32, fun d hd => (hpos d hd).2.2⟩
  rcases H.row.2 with ⟨rfl, h0⟩ | ⟨b, cap, cur, rfl, _, hb, _, _, _, hcur⟩
  · refine ⟨none, 0, by rw [← H.len, h0], fun i d hd => ?_⟩
    have := (List.getElem?_eq_some_iff.1 hd).1
    rw [← H.len, h0] at this
    omega
  · refine ⟨some ⟨b, 0, none⟩, cap, by rw [H.len], fun i d hd => ?_⟩
    have hi := (List.getElem?_eq_some_iff.1 hd).1
    have hci : C[i]? = some (C[i]'(by rw [H.len]; exact hi)) := List.getElem?_eq_getElem _
    obtain ⟨a1, a2, a3, a4, a5⟩ := H.lit i _ d hci hd
    refine ⟨b, 0, (C[i]'(by rw [H.len]; exact hi)).2, rfl, fun j u hj => ?_, HSeen.own a2⟩
    have hj33 : j < 33 := by
      have := (List.getElem?_eq_some_iff.1 hj).1
      rw [List.length_append, usn_length, a4] at this
      simpa using this
    have h5 := cf_at h32 hci hj33
    rw [a1, hj, ← hcur, List.getElem?_take] at h5
    split at h5
    · rw [cell_of_row W b _ _ _ _ hb, Nat.zero_add]
      simpa using h5
    · cases h5
end
end Go.Proofs.Ythfkmfepeafgjaa
