/- A disk as the document tells it, and what Crash does. Conditions: the numbers are no greater than a program's may be. · What Crash does. Conditions: the numbers are no greater than a program's may be. -/
import Derived.Test.YtbpccbhlggcmfaaGreatDoorDskH
namespace Go.Proofs.YtbpccbhlggcmfaaGreatDoor
open Go.RowKit
open Go.Maps

/-- A disk: what is kept, and what pends. -/
structure St where
  room : Int
  kept : Fil
  pend : List Wk
  fuse : Int
  dead : Bool
  works : Nat
structure DSx (w : World) (B b : Nat) (S : Nat → Prop) (s : St) (c : Cst) (L : List (Key × Ent)) (P : List Chg) : Prop where
  dc : DC w B b c L P P
  hist : Hist s.works s.kept s.pend P
  fb : fb L = run s.kept s.pend
  room : c.room = s.room
  fuse : c.fuse = s.fuse
  dead : c.dead = s.dead
  works : c.works = (s.works : Int)
  room0 : 0 ≤ s.room ∧ s.room ≤ 16777216
  pl : s.pend.length ≤ s.works
  foot : ∀ k, Foot b c L P k → S k
  lt : ∀ k, S k → k < w.heap.size
def DS (w : World) (B b : Nat) (S : Nat → Prop) (s : St) : Prop := ∃ c L P, DSx w B b S s c L P
/-- Behind a call on a disk. -/
def DPost (w : World) (B b : Nat) (S : Nat → Prop) (s : St) (w' : World) : Prop := ∃ S', DS w' B b S' s ∧ Only S w w' ∧ ∀ k, S' k → S k ∨ w.heap.size ≤ k
theorem DSx.kept {w w' : World} {B b : Nat} {S T : Nat → Prop} {s : St} {c : Cst} {L : List (Key × Ent)} {P : List Chg} (h : DSx w B b S s c L P) (ho : Only T w w') (hS : ∀ k, S k → k < w.heap.size → ¬ T k) : DSx w' B b S s c L P :=
  { h with
    dc := h.dc.kept ho fun k hk => hS k (h.foot k hk) (h.dc.foot_lt hk)
    lt := fun k hk => Nat.lt_of_lt_of_le (h.lt k hk) ho.size }
theorem DS.kept {w w' : World} {B b : Nat} {S T : Nat → Prop} {s : St} (h : DS w B b S s) (ho : Only T w w') (hS : ∀ k, S k → k < w.heap.size → ¬ T k) : DS w' B b S s := by
  obtain ⟨c, L, P, h⟩ := h
  exact ⟨c, L, P, h.kept ho hS⟩
theorem DS.kb {w w' : World} {B b : Nat} {S : Nat → Prop} {s : St} (h : DS w B b S s) (hb : Below w.heap.size w w') : DS w' B b S s := h.kept (T := fun _ => False) (Only.of_below hb) (fun _ _ _ h => h)
def crashF (F : Fil) (ks : List Wk) (d : Nat) (cut : Int) : Fil := match ks[d]? with
  | some k => part (run F (ks.take d)) k cut
  | none => run F (ks.take d)
def St.crash (s : St) (done cut : Int) : St := { s with kept := crashF s.kept s.pend (done % ((s.pend.length : Int) + 1)).toNat cut, pend := [], fuse := -1, dead := false }
theorem totF_put (n : Key) (xs : List Int) {F : Fil} (h : AAsc F) : totF (aput n xs F) + (fbytes n F).length = xs.length + totF F := by
  have h1 := asum_put List.length n xs h
  unfold totF fbytes
  rw [← h1]
  cases aget n F <;> rfl
theorem aput_length_eq (n : Key) (xs ys : List Int) (F : Fil) : (aput n xs F).length = (aput n ys F).length := by rw [aput, aput, ains_length, ains_length]
theorem part_small {N : Nat} {F : Fil} {k : Wk} (cut : Int) (h1 : SmF N F) (h2 : SmF N (turn F k)) : SmF N (part F k cut) := by
  unfold part
  by_cases k0 : k.kind = 0
  · rw [if_pos k0]
    have ht : turn F k = aput k.name (fbytes k.name F ++ k.bs) F := by unfold turn; rw [if_pos k0]
    rw [ht] at h2
    split
    · exact h1
    · refine ⟨h1.asc.put _ _, ?_, ?_⟩
      · have e1 := totF_put k.name (fbytes k.name F ++ k.bs.take (cut % ((k.bs.length : Int) + 1)).toNat) h1.asc
        have e2 := totF_put k.name (fbytes k.name F ++ k.bs) h1.asc
        have e3 := h2.tot
        rw [List.length_append, List.length_take] at e1
        rw [List.length_append] at e2
        omega
      · rw [aput_length_eq _ _ (fbytes k.name F ++ k.bs)]; exact h2.many
  · rw [if_neg k0]; exact h1
/-- All that pended is forgotten. -/
theorem DC.synced {w w' : World} {B b : Nat} {c c' : Cst} {L : List (Key × Ent)} {Pf P : List Chg} (h : DC w B b c L Pf P) (hd : DAt w' b c') (hm : c'.mb = c.mb) (hu : c'.used = c.used) (hp : c'.pv = .slice none 0 0) (ho : Only (fun k => k = b) w w') : DC w' B b c' L [] [] where
  d := hd
  m := by rw [hm]; exact h.m.kept ho (fun e => h.ne e.symm)
  p := by rw [hp]; exact World.ownsRow_nil _ _ _ _
  own := ⟨fun e he => own_kept (h.own.file e he) ho fun k hk e2 => by
    subst e2
    have := cntL_mem (k := k) he
    rw [own1_self hk] at this
    exact h.cnt_b (by unfold cnt; omega), fun g hg => by cases hg⟩
  sep := fun k => by have := h.sep k; unfold cnt at this ⊢; simp only [cntP, List.map_nil, List.sum_nil]; omega
  asc := h.asc
  used := by rw [hu]; exact h.used
  bb := h.bb
  bm := by rw [hm]; exact h.bm
  many := h.many
theorem crow_at {P : List Chg} {j i : Nat} (hj : j < P.length) (hi : i < 6) : (crows P)[j * 6 + i]? = P[j].row[i]? := by
  induction P generalizing j with
  | nil => simp at hj
  | cons g P ih =>
    have hl : g.row.length = 6 := rfl
    have e : crows (g :: P) = g.row ++ crows P := rfl
    rw [e]
    cases j with
    | zero => rw [Nat.zero_mul, Nat.zero_add, List.getElem?_append_left (by omega)]; rfl
    | succ j =>
      rw [List.getElem?_append_right (by omega), hl, show (j + 1) * 6 + i - 6 = j * 6 + i by omega, ih (by simpa using hj)]
      rfl
theorem crow_cell {w : World} {B g n cap : Nat} {P : List Chg} (h : PAt w B (.slice (some ⟨g, 0, none⟩) n cap) P) {j : Nat} (hj : j < P.length) {i : Nat} (hi : i < 6) : w.cell? ⟨g, j * 6 + i, none⟩ = P[j].row[i]? := by
  have h1 : P[j].row[i]? = some (P[j].row[i]'hi) := List.getElem?_eq_getElem _
  rw [h1]
  have h2 := h.cells (g := g) rfl (j * 6 + i) _ (by rw [crow_at hj hi, h1])
  rw [Addr.add_lit, Nat.zero_add] at h2
  exact h2
theorem hist_undoable {N : Nat} {F : Fil} {ks : List Wk} {P : List Chg} {L : List (Key × Ent)} {j : Nat} (h : Hist N F ks P) (hN : N ≤ 1000000000) (hj : j < P.length) (hk : j < ks.length) (hf : fb L = run F (ks.take (j + 1))) :
    Undoable L P[j] ∧ undoF P[j] (fb L) = run F (ks.take j) ∧ ∀ cut, tearF P[j] cut (fb L) = part (run F (ks.take j)) ks[j] cut := by
  obtain ⟨h1, h2, h3⟩ := h.at j hk hj
  have h4 := (h.take (j + 1)).last
  rw [← hf] at h4
  have h5 := hf
  rw [run_take_succ _ _ hk] at h5
  refine ⟨⟨⟨by rw [h3.name]; exact h2.n1, h3.n2, ?_, ?_, ?_⟩, ?_, ?_⟩, by rw [h5]; exact undo_turn h1.asc h2 h3, fun cut => by rw [h5]; exact tear_turn cut h1.asc h2 h3⟩
  · have := h4.tot; rw [fb_tot] at this; omega
  · have := h3.xl; have := h1.tot; omega
  · have := h4.many; rw [fb_length] at this; omega
  · have := h2.kind; rw [h3.kind]; omega
  · intro h0
    have k0 : ks[j].kind = 0 := by have := h3.kind; omega
    obtain ⟨hs, _⟩ := h3.a1 k0
    have ht : turn (run F (ks.take j)) ks[j] = aput ks[j].name (fbytes ks[j].name (run F (ks.take j)) ++ ks[j].bs) (run F (ks.take j)) := by unfold turn; rw [if_pos k0]
    rw [← fb_bytes, h5, h3.name, ht, fbytes_put_same, hs, List.length_append]; omega
theorem take_step {α : Type} {P : List α} {j : Nat} (hj : j < P.length) : P.take (j + 1) = P.take j ++ [P[j]] := by
  rw [List.take_add_one, List.getElem?_eq_getElem hj]; rfl
end Go.Proofs.YtbpccbhlggcmfaaGreatDoor
namespace Go.Proofs.YtbpccbhlggcmfaaGreatDoor
open Go.RowKit
open Go.Maps

theorem crash_mod {n : Nat} (done : Int) (hn : n ≤ 1000000000) : ∃ d : Nat, (d : Int) = done % ((n : Int) + 1) ∧ d ≤ n ∧ (done % ((n : Int) + 1)).toNat = d := by
  have h0 := Int.emod_nonneg done (show (n : Int) + 1 ≠ 0 by omega)
  have h1 := Int.emod_lt_of_pos done (show (0 : Int) < (n : Int) + 1 by omega)
  exact ⟨(done % ((n : Int) + 1)).toNat, by omega, by omega, rfl⟩
/-- What the loop of Crash keeps. -/
structure CrLoop (w wr : World) (B b : Nat) (c : Cst) (L0 : List (Key × Ent)) (P : List Chg) (F : Fil) (ks : List Wk) (i : Nat) (u : Int) (L : List (Key × Ent)) : Prop where
  dc : DC wr B b { c with used := u } L P (P.take i)
  fb : fb L = run F (ks.take i)
  only : Only (Foot b c L0 P) w wr
  foot : ∀ k, Foot b { c with used := u } L (P.take i) k → Foot b c L0 P k ∨ w.heap.size ≤ k
theorem crash_fin {w w1 : World} {B b : Nat} {S : Nat → Prop} {s : St} {c : Cst} {L0 L : List (Key × Ent)} {P Pl : List Chg} {u : Int} (hx : DSx w B b S s c L0 P) (h : DC w1 B b { c with used := u } L P Pl) (ho : Only (Foot b c L0 P) w w1)
    (hfoot : ∀ k, Foot b { c with used := u } L Pl k → Foot b c L0 P k ∨ w.heap.size ≤ k) (F' : Fil) (hf : fb L = F') (hs : SmF s.works F') :
    DPost w B b S { s with kept := F', pend := [], fuse := -1, dead := false } (((w1.setCell ⟨b, 3, none⟩ (.slice none 0 0)).setCell ⟨b, 4, none⟩ (.int .i64 (-1))).setCell ⟨b, 5, none⟩ (.bool false)) := by
  have o2 : Only (fun k => k = b) w1 (((w1.setCell ⟨b, 3, none⟩ (.slice none 0 0)).setCell ⟨b, 4, none⟩ (.int .i64 (-1))).setCell ⟨b, 5, none⟩ (.bool false)) := (((Only.refl _ w1).one (S := fun k => k = b) rfl _).one rfl _).one rfl _
  have hd := ((h.d.set3 (.slice none 0 0)).set4 (-1)).set5 false
  refine ⟨_, ⟨_, L, [], ⟨h.synced hd rfl rfl rfl o2, hs, hf, hx.room, rfl, rfl, hx.works, hx.room0, Nat.zero_le _, fun k hk => hk, fun k hk => (h.synced hd rfl rfl rfl o2).foot_lt hk⟩⟩, ?_, ?_⟩
  · exact (ho.trans o2 (fun _ h => h) (fun k _ e => .inl e)).mono (fun k _ hk => hx.foot k hk)
  · intro k hk
    have hk2 : Foot b { c with used := u } L Pl k := by
      rcases hk with e | e | e | e
      · exact .inl e
      · exact .inr (.inl e)
      · simp [Value.ownBlock] at e
      · refine .inr (.inr (.inr ?_))
        unfold cnt at e ⊢
        simp only [cntP, List.map_nil, List.sum_nil] at e
        omega
    rcases hfoot k hk2 with e | e
    · exact .inl (hx.foot k e)
    · exact .inr e
end Go.Proofs.YtbpccbhlggcmfaaGreatDoor
