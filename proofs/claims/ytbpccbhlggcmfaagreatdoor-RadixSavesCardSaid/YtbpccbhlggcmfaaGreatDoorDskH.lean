/- What holds of a disk in memory between calls, and what put and drop keep of it. No condition. · What holds of a disk behind put and drop, and what an undone change leaves of the bytes. No condition. · What undo does with a removed and with a renamed file. Conditions: the numbers are no greater than a program's may be. · What undo does with an appended and with a truncated file. Conditions: the numbers are no greater than a program's may be. · What undo does with an appended file. Conditions: the numbers are no greater than a program's may be. · What tear does with the last change that is left. Conditions: the numbers are no greater than a program's may be. · What pends as works on the files, and what undoing makes of them: plain mathematics. No condition. -/
import Derived.Test.YtbpccbhlggcmfaaGreatDoorDskS
import Derived.Deep.QuietTactic
import Derived.Test.YtbpccbhlggcmfaaGreatDoorGenApp
import Derived.Deep.RegionHeld3
namespace Go.Proofs.YtbpccbhlggcmfaaGreatDoor
open Go.RowKit
open Go.Maps

/-- Which blocks the disk's files and lost pieces lie in. -/
def cnt (k : Nat) (L : List (Key × Ent)) (P : List Chg) : Nat := cntL k L + cntP k P
/-- The blocks of a disk. -/
def Foot (b : Nat) (c : Cst) (L : List (Key × Ent)) (P : List Chg) (k : Nat) : Prop := k = b ∨ k = c.mb ∨ c.pv.ownBlock = some k ∨ 0 < cnt k L P
theorem own1_pos {k : Nat} {v : Value} : 0 < own1 k v ↔ v.ownBlock = some k := by
  unfold own1; split <;> simp_all
theorem asum_pos_iff {α : Type} {f : α → Nat} : ∀ {l : List (Key × α)}, 0 < asum f l → ∃ e ∈ l, 0 < f e.2
  | [], h => by simp [asum] at h
  | y :: l, h => by
    simp only [asum, List.map_cons, List.sum_cons] at h
    by_cases hy : 0 < f y.2
    · exact ⟨y, List.mem_cons_self, hy⟩
    · obtain ⟨e, he, hf⟩ := asum_pos_iff (f := f) (l := l) (by unfold asum; omega)
      exact ⟨e, List.mem_cons_of_mem _ he, hf⟩
theorem cntL_pos {k : Nat} {L : List (Key × Ent)} (h : 0 < cntL k L) : ∃ e ∈ L, e.2.1.ownBlock = some k := by
  obtain ⟨e, he, hf⟩ := asum_pos_iff h
  exact ⟨e, he, own1_pos.1 hf⟩
theorem cntP_pos {k : Nat} : ∀ {P : List Chg}, 0 < cntP k P → ∃ c ∈ P, c.lost.ownBlock = some k
  | [], h => by simp [cntP] at h
  | y :: l, h => by
    simp only [cntP, List.map_cons, List.sum_cons] at h
    by_cases hy : 0 < own1 k y.lost
    · exact ⟨y, List.mem_cons_self, own1_pos.1 hy⟩
    · obtain ⟨e, he, hf⟩ := cntP_pos (k := k) (P := l) (by unfold cntP; omega)
      exact ⟨e, List.mem_cons_of_mem _ he, hf⟩
theorem Own.cells {w : World} {B : Nat} {L : List (Key × Ent)} {P : List Chg} (h : Own w B L P) {k : Nat} (hk : 0 < cnt k L P) : B ≤ k ∧ ∃ cs, w.heap[k]? = some (.cells cs 5 (0, 0)) := by
  unfold cnt at hk
  rcases Nat.eq_zero_or_pos (cntL k L) with h0 | h0
  · obtain ⟨c, hc, e⟩ := cntP_pos (P := P) (k := k) (by omega)
    exact ⟨((h.lost c hc).lt k e).1, own_type (h.lost c hc) e⟩
  · obtain ⟨e, he, e1⟩ := cntL_pos h0
    exact ⟨((h.file e he).lt k e1).1, own_type (h.file e he) e1⟩
theorem Own.lt {w : World} {B : Nat} {L : List (Key × Ent)} {P : List Chg} (h : Own w B L P) {k : Nat} (hk : 0 < cnt k L P) : k < w.heap.size := by
  obtain ⟨_, cs, hcs⟩ := h.cells hk
  exact (Array.getElem?_eq_some_iff.1 hcs).1
/-- Kept where no block of the files has turned. -/
theorem Own.kept {w w' : World} {B : Nat} {L : List (Key × Ent)} {P : List Chg} {S : Nat → Prop} (h : Own w B L P) (ho : Only S w w') (hS : ∀ k, 0 < cnt k L P → ¬ S k) : Own w' B L P where
  file e he := own_kept (h.file e he) ho fun k hk => hS k (by
    have := cntL_mem (k := k) he
    rw [own1_self hk] at this
    unfold cnt; omega)
  lost c hc := own_kept (h.lost c hc) ho fun k hk => hS k (by
    have := cntP_mem (k := k) hc
    rw [own1_self hk] at this
    unfold cnt; omega)
theorem Own.kb {w w' : World} {B : Nat} {L : List (Key × Ent)} {P : List Chg} (h : Own w B L P) (hb : Below w.heap.size w w') : Own w' B L P := h.kept (S := fun _ => False) (Only.of_below hb) (fun _ _ h => h)
theorem cnt_new {w : World} {B : Nat} {L : List (Key × Ent)} {P : List Chg} (h : Own w B L P) {k : Nat} (hk : w.heap.size ≤ k) : cnt k L P = 0 := by
  rcases Nat.eq_zero_or_pos (cnt k L P) with h0 | h0
  · exact h0
  · have := h.lt h0; omega
theorem valAt_mem {n : Key} {L : List (Key × Ent)} {k : Nat} (h : (valAt n L).ownBlock = some k) : (n, valAt n L, bytesAt n L) ∈ L := by
  unfold valAt bytesAt at *
  cases hg : aget n L with
  | none => rw [hg] at h; simp [Value.ownBlock] at h
  | some x => exact aget_mem hg
theorem own1_valAt (k : Nat) (n : Key) (L : List (Key × Ent)) : own1 k (valAt n L) ≤ cntL k L := by
  rcases Nat.eq_zero_or_pos (own1 k (valAt n L)) with h0 | h0
  · omega
  · have h1 := own1_pos.1 h0
    exact cntL_mem (valAt_mem h1)

/-- A file laid whose slice lies in no other's block. -/
theorem Own.put {w : World} {B : Nat} {L : List (Key × Ent)} {P : List Chg} (h : Own w B L P) (n : Key) {v : Value} {xs : List Int} (hv : BOwn w B v xs) : Own w B (aput n (v, xs) L) P where
  file e he := by
    rcases (ains_mem _ _ _).1 he with rfl | he
    · exact hv
    · exact h.file e ((adel_mem n L e).1 he).1
  lost := h.lost
theorem Own.del {w : World} {B : Nat} {L : List (Key × Ent)} {P : List Chg} (h : Own w B L P) (n : Key) : Own w B (adel n L) P where
  file e he := h.file e ((adel_mem n L e).1 he).1
  lost := h.lost
theorem cnt_put (k : Nat) (n : Key) (x : Ent) {L : List (Key × Ent)} (P : List Chg) (h : AAsc L) : cnt k (aput n x L) P + own1 k (valAt n L) = own1 k x.1 + cnt k L P := by
  have := cntL_put k n x h
  unfold cnt; omega
theorem cnt_del (k : Nat) (n : Key) {L : List (Key × Ent)} (P : List Chg) (h : AAsc L) : cnt k (adel n L) P + own1 k (valAt n L) = cnt k L P := by
  have := cntL_del k n h
  unfold cnt; omega
theorem cnt_snoc (k : Nat) (L : List (Key × Ent)) (P : List Chg) (g : Chg) : cnt k L (P ++ [g]) = cnt k L P + own1 k g.lost := by
  unfold cnt
  rw [cntP_app]
  simp [cntP]; omega
theorem ains_length {α : Type} (x : Key × α) : ∀ l, (ains x l).length = l.length + 1
  | [] => rfl
  | y :: l => by
    have := ains_length x l
    rw [ains]; split <;> simp_all
theorem aput_length {α : Type} (n : Key) (a : α) (l : List (Key × α)) : (aput n a l).length ≤ l.length + 1 := by
  rw [aput, ains_length]
  have : (adel n l).length ≤ l.length := List.length_filter_le _ _
  omega
theorem adel_length {α : Type} (n : Key) (l : List (Key × α)) : (adel n l).length ≤ l.length := List.length_filter_le _ _

/-- What holds of a disk: Pf lies in its slice of pending changes, P of them still hold what they hold. -/
structure DC (w : World) (B b : Nat) (c : Cst) (L : List (Key × Ent)) (Pf P : List Chg) : Prop where
  d : DAt w b c
  m : MAt w c.mb L
  p : PAt w B c.pv Pf
  own : Own w B L P
  sep : ∀ k, cnt k L P ≤ 1
  asc : AAsc L
  used : c.used = (tot L : Int)
  bb : B ≤ b
  bm : B ≤ c.mb
  many : L.length ≤ 2000000000
theorem MAt.obj {w : World} {mb : Nat} {L : List (Key × Ent)} (h : MAt w mb L) : ∃ es clock, w.heap[mb]? = some (.map es clock) := by
  obtain ⟨es, clock, h1, _⟩ := h
  exact ⟨es, clock, h1⟩
section
variable {w w' : World} {B b : Nat} {c : Cst} {L : List (Key × Ent)} {Pf P : List Chg}
theorem DC.base (h : DC w B b c L Pf P) : B ≤ w.heap.size := Nat.le_trans h.bb (Nat.le_of_lt h.d.lt)
theorem DC.ne (h : DC w B b c L Pf P) : b ≠ c.mb := by
  intro e
  obtain ⟨es, clock, h1⟩ := h.m.obj
  have h2 : w.heap[b]? = some _ := h.d
  rw [← e, h2] at h1
  cases h1
theorem DC.cnt_b (h : DC w B b c L Pf P) : ¬ 0 < cnt b L P := by
  intro e
  obtain ⟨_, cs, hcs⟩ := h.own.cells e
  have h2 : w.heap[b]? = some _ := h.d
  rw [h2] at hcs
  simp at hcs
theorem DC.cnt_m (h : DC w B b c L Pf P) : ¬ 0 < cnt c.mb L P := by
  intro e
  obtain ⟨_, cs, hcs⟩ := h.own.cells e
  obtain ⟨es, clock, h1⟩ := h.m.obj
  rw [h1] at hcs
  cases hcs
theorem DC.pv_b (h : DC w B b c L Pf P) : ¬ c.pv.ownBlock = some b := pv_apart h.d h.p
theorem DC.pv_m (h : DC w B b c L Pf P) : ¬ c.pv.ownBlock = some c.mb := by
  intro e
  obtain ⟨cs, hcs⟩ := own_type h.p e
  obtain ⟨es, clock, h1⟩ := h.m.obj
  rw [h1] at hcs
  cases hcs
theorem DC.pv_cnt (h : DC w B b c L Pf P) {k : Nat} (hk : 0 < cnt k L P) : ¬ c.pv.ownBlock = some k := by
  intro e
  obtain ⟨cs, hcs⟩ := own_type h.p e
  obtain ⟨_, cs', h1⟩ := h.own.cells hk
  rw [h1] at hcs
  simp at hcs
theorem DC.foot_ge (h : DC w B b c L Pf P) {k : Nat} (hk : Foot b c L P k) : B ≤ k := by
  rcases hk with rfl | rfl | hk | hk
  · exact h.bb
  · exact h.bm
  · exact (h.p.lt k hk).1
  · exact (h.own.cells hk).1
theorem DC.foot_lt (h : DC w B b c L Pf P) {k : Nat} (hk : Foot b c L P k) : k < w.heap.size := by
  rcases hk with rfl | rfl | hk | hk
  · exact h.d.lt
  · exact h.m.lt
  · exact (h.p.lt k hk).2
  · exact h.own.lt hk
theorem DC.kept {S : Nat → Prop} (h : DC w B b c L Pf P) (ho : Only S w w') (hS : ∀ k, Foot b c L P k → ¬ S k) : DC w' B b c L Pf P :=
  { h with
    d := h.d.kept ho (hS b (.inl rfl))
    m := h.m.kept ho (hS _ (.inr (.inl rfl)))
    p := own_kept h.p ho fun k hk => hS k (.inr (.inr (.inl hk)))
    own := h.own.kept ho fun k hk => hS k (.inr (.inr (.inr hk))) }
theorem DC.kb (h : DC w B b c L Pf P) (hb : Below w.heap.size w w') : DC w' B b c L Pf P := h.kept (S := fun _ => False) (Only.of_below hb) (fun _ _ h => h)
end
/-- Behind a call on a disk: it is as told, and nothing else that was there has turned. -/
def DTo (w : World) (B b : Nat) (S : Nat → Prop) (c : Cst) (L : List (Key × Ent)) (Pf P : List Chg) (w' : World) : Prop :=
  DC w' B b c L Pf P ∧ Only S w w' ∧ ∀ k, Foot b c L P k → S k ∨ w.heap.size ≤ k
end Go.Proofs.YtbpccbhlggcmfaaGreatDoor
namespace Go.Proofs.YtbpccbhlggcmfaaGreatDoor
open Go.RowKit
open Go.Maps

theorem own_ne {w : World} {B b : Nat} {c : Cst} {L : List (Key × Ent)} {P : List Chg} (h : Own w B L P) (hd : DAt w b c) {k : Nat} (hk : 0 < cnt k L P) : ¬ k = b := by
  rintro rfl
  obtain ⟨_, cs, hcs⟩ := h.cells hk
  have h2 : w.heap[k]? = some _ := hd
  rw [h2] at hcs
  simp at hcs
theorem own_nm {w : World} {B mb : Nat} {M : List (Key × Ent)} {L : List (Key × Ent)} {P : List Chg} (h : Own w B L P) (hm : MAt w mb M) {k : Nat} (hk : 0 < cnt k L P) : ¬ k = mb := by
  rintro rfl
  obtain ⟨_, cs, hcs⟩ := h.cells hk
  obtain ⟨es, clock, h1⟩ := hm.obj
  rw [h1] at hcs
  cases hcs
theorem put_dc {w w' : World} {B b : Nat} {c : Cst} {L : List (Key × Ent)} {Pf P P' : List Chg} {n : Key} {v : Value} {xs : List Int} (h : DC w B b c L Pf P) (hv : BOwn w B v xs)
    (hlost : ∀ g ∈ P', g ∈ P) (hsep : ∀ k, own1 k v + cnt k L P' ≤ 1 + own1 k (valAt n L)) (hl : L.length < 2000000000)
    (hd : DAt w' b { c with used := c.used + ((xs.length : Int) - (bytesAt n L).length) }) (hm : MAt w' c.mb (aput n (v, xs) L)) (ho : Only (fun k => k = b ∨ k = c.mb) w w') :
    DC w' B b { c with used := c.used + ((xs.length : Int) - (bytesAt n L).length) } (aput n (v, xs) L) Pf P' := by
  have how : Own w B (aput n (v, xs) L) P' := ⟨(h.own.put n hv).file, fun g hg => h.own.lost g (hlost g hg)⟩
  exact {
    d := hd
    m := hm
    p := own_kept h.p ho fun k hk e => by
      rcases e with rfl | rfl
      · exact h.pv_b hk
      · exact h.pv_m hk
    own := how.kept ho fun k hk e => by
      rcases e with rfl | rfl
      · exact own_ne how h.d hk rfl
      · exact own_nm how h.m hk rfl
    sep := fun k => by
      have h1 := cnt_put k n (v, xs) P' h.asc
      have h2 := hsep k
      simp only at h1
      omega
    asc := h.asc.put n _
    used := by
      have h1 := tot_put n (v, xs) h.asc
      have h2 := h.used
      simp only at h1 ⊢
      omega
    bb := h.bb
    bm := h.bm
    many := by have := aput_length n (v, xs) L; omega }
theorem drop_dc {w w' : World} {B b : Nat} {c : Cst} {L : List (Key × Ent)} {Pf P : List Chg} {n : Key} (h : DC w B b c L Pf P)
    (hd : DAt w' b { c with used := c.used - (bytesAt n L).length }) (hm : MAt w' c.mb (adel n L)) (ho : Only (fun k => k = b ∨ k = c.mb) w w') :
    DC w' B b { c with used := c.used - (bytesAt n L).length } (adel n L) Pf P := by
  have how : Own w B (adel n L) P := h.own.del n
  exact {
    d := hd
    m := hm
    p := own_kept h.p ho fun k hk e => by
      rcases e with rfl | rfl
      · exact h.pv_b hk
      · exact h.pv_m hk
    own := how.kept ho fun k hk e => by
      rcases e with rfl | rfl
      · exact own_ne how h.d hk rfl
      · exact own_nm how h.m hk rfl
    sep := fun k => by
      have h1 := cnt_del k n P h.asc
      have h2 := h.sep k
      omega
    asc := h.asc.del n
    used := by
      have h1 := tot_del n h.asc
      have h2 := h.used
      simp only at h1 ⊢
      omega
    bb := h.bb
    bm := h.bm
    many := by have := adel_length n L; have := h.many; omega }
/-- One change less is held. -/
theorem DC.less {w : World} {B b : Nat} {c : Cst} {L : List (Key × Ent)} {Pf P : List Chg} {g : Chg} (h : DC w B b c L Pf (P ++ [g])) : DC w B b c L Pf P :=
  { h with
    own := ⟨h.own.file, fun x hx => h.own.lost x (List.mem_append_left _ hx)⟩
    sep := fun k => by have h1 := h.sep k; rw [cnt_snoc] at h1; omega }
theorem foot_less {b : Nat} {c : Cst} {L : List (Key × Ent)} {P : List Chg} {g : Chg} {k : Nat} (h : Foot b c L P k) : Foot b c L (P ++ [g]) k := by
  rcases h with h | h | h | h
  · exact .inl h
  · exact .inr (.inl h)
  · exact .inr (.inr (.inl h))
  · exact .inr (.inr (.inr (by rw [cnt_snoc]; omega)))
theorem foot_put {b : Nat} {c : Cst} {L : List (Key × Ent)} {P : List Chg} {n : Key} {v : Value} {xs : List Int} {u : Int} {k : Nat} (hs : AAsc L) (h : Foot b { c with used := u } (aput n (v, xs) L) P k) : v.ownBlock = some k ∨ Foot b c L P k := by
  rcases h with h | h | h | h
  · exact .inr (.inl h)
  · exact .inr (.inr (.inl h))
  · exact .inr (.inr (.inr (.inl h)))
  · have h1 := cnt_put k n (v, xs) P hs
    by_cases hv : v.ownBlock = some k
    · exact .inl hv
    · have : own1 k v = 0 := by unfold own1; rw [if_neg hv]
      simp only at h1
      exact .inr (.inr (.inr (.inr (by omega))))
theorem foot_drop {b : Nat} {c : Cst} {L : List (Key × Ent)} {P : List Chg} {n : Key} {u : Int} {k : Nat} (hs : AAsc L) (h : Foot b { c with used := u } (adel n L) P k) : Foot b c L P k := by
  rcases h with h | h | h | h
  · exact .inl h
  · exact .inr (.inl h)
  · exact .inr (.inr (.inl h))
  · have h1 := cnt_del k n P hs
    exact .inr (.inr (.inr (by omega)))

/-- The bytes of the files. -/
abbrev Fil := List (Key × List Int)
def fb (L : List (Key × Ent)) : Fil := amap (·.2) L
def fbytes (n : Key) (F : Fil) : List Int := (aget n F).getD []
theorem fb_put (n : Key) (v : Value) (xs : List Int) (L : List (Key × Ent)) : fb (aput n (v, xs) L) = aput n xs (fb L) := amap_put _ n (v, xs) L
theorem fb_del (n : Key) (L : List (Key × Ent)) : fb (adel n L) = adel n (fb L) := amap_del _ n L
theorem fb_get (n : Key) (L : List (Key × Ent)) : aget n (fb L) = (aget n L).map (·.2) := amap_get _ n L
theorem fb_bytes (n : Key) (L : List (Key × Ent)) : fbytes n (fb L) = bytesAt n L := by
  unfold fbytes bytesAt
  rw [fb_get]
  cases aget n L <;> rfl
theorem fb_some (n : Key) (L : List (Key × Ent)) : (aget n (fb L)).isSome = (aget n L).isSome := by rw [fb_get]; cases aget n L <;> rfl
def totF (F : Fil) : Nat := asum List.length F
theorem fb_tot (L : List (Key × Ent)) : totF (fb L) = tot L := asum_amap _ _ L
theorem fb_asc {L : List (Key × Ent)} (h : AAsc L) : AAsc (fb L) := amap_asc _ h
theorem fb_length (L : List (Key × Ent)) : (fb L).length = L.length := by simp [fb, amap]
/-- What an undone change leaves. -/
def undoF (g : Chg) (F : Fil) : Fil :=
  if g.kind = 0 then (if g.was then aput g.name ((fbytes g.name F).take g.size) F else adel g.name F)
  else if g.kind = 1 then aput g.name (fbytes g.name F ++ g.xs) F
  else if g.kind = 2 then aput g.name (fbytes g.to F) (if g.was then aput g.to g.xs F else adel g.to F)
  else aput g.name g.xs F
/-- What undo leaves of the disk. -/
def UndoPost (w : World) (B b : Nat) (c : Cst) (L : List (Key × Ent)) (Pf P : List Chg) (g : Chg) (e : Ending) (w' : World) : Prop :=
  e = .returned (.tuple #[]) ∧ ∃ u L', DTo w B b (Foot b c L (P ++ [g])) { c with used := u } L' Pf P w' ∧ fb L' = undoF g (fb L)
/-- The numbers that undo wants to be small. -/
structure Small (L : List (Key × Ent)) (g : Chg) : Prop where
  n1 : g.name.length ≤ 20
  n2 : g.to.length ≤ 20
  tl : tot L ≤ 1000000000
  xl : g.xs.length ≤ 1000000000
  ml : L.length ≤ 1000000000
theorem small_key {n : Key} (h : n.length ≤ 20) : n.length ≤ maxLen ∧ n.length ≤ 281474976710656 ∧ n.length ≤ 4611686018427387904 := by unfold maxLen; omega
theorem small_len {L : List (Key × Ent)} (h : L.length ≤ 1000000001) : L.length < maxLen ∧ L.length < 2000000000 := by unfold maxLen; omega
end Go.Proofs.YtbpccbhlggcmfaaGreatDoor
namespace Go.Proofs.YtbpccbhlggcmfaaGreatDoor
open Go.RowKit
open Go.Maps

theorem put_dto {w w1 w' : World} {B b : Nat} {c : Cst} {L : List (Key × Ent)} {Pf P P' : List Chg} {n : Key} {v : Value} {xs : List Int} {S : Nat → Prop} (h : DC w1 B b c L Pf P) (h0 : Only S w w1) (hv : BOwn w1 B v xs)
    (hlost : ∀ g ∈ P', g ∈ P) (hsep : ∀ k, own1 k v + cnt k L P' ≤ 1 + own1 k (valAt n L)) (hl : L.length < 2000000000) (hsb : S b) (hsm : S c.mb) (hsv : ∀ k, v.ownBlock = some k → S k ∨ w.heap.size ≤ k) (hsf : ∀ k, Foot b c L P' k → S k ∨ w.heap.size ≤ k)
    (hd : DAt w' b { c with used := c.used + ((xs.length : Int) - (bytesAt n L).length) }) (hm : MAt w' c.mb (aput n (v, xs) L)) (ho : Only (fun k => k = b ∨ k = c.mb) w1 w') :
    DTo w B b S { c with used := c.used + ((xs.length : Int) - (bytesAt n L).length) } (aput n (v, xs) L) Pf P' w' :=
  ⟨put_dc h hv hlost hsep hl hd hm ho, h0.trans ho (fun _ h => h) (fun k _ e => by
    rcases e with rfl | rfl
    · exact hsb
    · exact hsm), fun k hk => by
    rcases foot_put h.asc hk with e | e
    · exact hsv k e
    · exact hsf k e⟩
theorem own_cnt {k : Nat} {n : Key} {L : List (Key × Ent)} {P : List Chg} (h : (valAt n L).ownBlock = some k) : 0 < cnt k L P := by
  have := own1_valAt k n L
  rw [own1_self h] at this
  unfold cnt; omega
theorem undo_val_alloc {w : World} {S : Nat → Prop} (o : Obj) : Only S w (w.alloc o) := (Only.refl S w).alloc o
theorem small_bytes {L : List (Key × Ent)} {g : Chg} (h : Small L g) (n : Key) : (bytesAt n L).length ≤ 1000000000 := Nat.le_trans (bytesAt_le n L) h.tl
theorem used_range {w : World} {B b : Nat} {c : Cst} {L : List (Key × Ent)} {Pf P : List Chg} (h : DC w B b c L Pf P) (ht : tot L ≤ 1000000000) : 0 ≤ c.used ∧ c.used ≤ 1000000000 := by
  rw [h.used]; omega

end Go.Proofs.YtbpccbhlggcmfaaGreatDoor
namespace Go.Proofs.YtbpccbhlggcmfaaGreatDoor
open Go.RowKit
open Go.Maps

/-- 'append(s, x...)' of bytes at a step of a region that draws. -/
theorem step_append_bytes {ops : Array Oper} {o : Oper} {a : Act} {w : World} {K : Act → World → Prop} {Q : Exit → Act → World → Prop} {E : Prop} (hgd : o.guard = none) (s x : Operand)
    (ho : o.op = .call { callee := .builtin .append, args := #[s, x], argTypes := #[71, 71] })
    (base : Nat) (v : Value) (xs : List Int) (hs : a.eval s = v) (hown : BOwn w base v xs) (u : Value) (l : List Int) (hx : a.eval x = u) (hse : Seen w u l)
    (hb : xs.length + l.length ≤ 140737488351232) (hbase : base ≤ w.heap.size)
    (h : ∀ v' w', BOwn w' base v' (xs ++ l) → w.grownBy w' v.ownBlock → (v'.ownBlock = v.ownBlock ∨ v'.ownBlock = some w.heap.size) → K (a.put o.dst v') w') :
    if Region.wanted o (yielded ops a.tmps) = true then Oper.wp Tryz.prog o a w K Q else E := by
  have hw : Region.wanted o (yielded ops a.tmps) = true := by simp [Region.wanted, hgd]
  rw [if_pos hw]
  obtain ⟨i0, hi0, hz0, hz1, hz2⟩ := info_parts u8info
  rcases hse with ⟨rfl, rfl⟩ | ⟨ad, cap, rfl, hc, hu⟩
  · have hrun := run_append_owned_none (P := Tryz.prog) (w := w) base _ o.type 5 i0 1 Tryz.underlying71 hi0 v xs.length (us xs) hown
    unfold Oper.wp
    simp [execOp, ho, resolve, invoke, builtin, hs, hx, hrun, Result.andThen]
    exact h v w (by rw [List.append_nil]; exact hown) ⟨rfl, rfl, rfl, Nat.le_refl _, fun _ _ _ => rfl⟩ (.inl rfl)
  · obtain ⟨v', w', hr, h2, h3, h4, h5⟩ := run_append_own_at (P := Tryz.prog) w base _ o.type 5 i0 _ 1 1 Tryz.underlying71 hi0 hz0 hz1 hz2 rfl (by omega) v xs.length (us xs) hown ad l.length cap (us l) (by simp) hu (by intro u hu; obtain ⟨x, _, rfl⟩ := List.mem_map.1 hu; rfl) (by simp [maxLen]; omega) (by omega) hbase
    unfold Oper.wp execOp
    simp only [ho, resolve, invoke, builtin, Sem.run_bind, Sem.run_pure, Result.andThen_ok, List.map_toArray, List.map_cons, List.map_nil, hs, hx, hr]
    refine h _ _ ?_ h3 h5
    show w'.ownsRow base 5 1 v' (xs ++ l).length (us (xs ++ l))
    rw [List.length_append, us, List.map_append]
    exact h2

/-- Where nothing but the file's own block has turned. -/
theorem rest_kept {w w1 : World} {B b : Nat} {c : Cst} {L : List (Key × Ent)} {Pf P : List Chg} {n : Key} (h : DC w B b c L Pf P) (ho : Only (fun k => (valAt n L).ownBlock = some k) w w1) :
    DAt w1 b c ∧ MAt w1 c.mb L ∧ PAt w1 B c.pv Pf ∧ Own w1 B (adel n L) P :=
  ⟨h.d.kept ho (fun e => h.cnt_b (own_cnt e)), h.m.kept ho (fun e => h.cnt_m (own_cnt e)), own_kept h.p ho (fun k hk e => h.pv_cnt (own_cnt e) hk), (h.own.del n).kept ho fun k hk e => by
    have h1 := cnt_del k n P h.asc
    rw [own1_self e] at h1
    have h2 := h.sep k
    omega⟩
/-- A file laid whose slice lies in its old block or in a new one. -/
theorem put_dto2 {w w1 w' : World} {B b : Nat} {c : Cst} {L : List (Key × Ent)} {Pf P : List Chg} {n : Key} {v : Value} {xs : List Int} (S : Nat → Prop) (h : DC w B b c L Pf P) (h0 : Only S w w1)
    (hd1 : DAt w1 b c) (hm1 : MAt w1 c.mb L) (hp1 : PAt w1 B c.pv Pf) (ho1 : Own w1 B (adel n L) P) (hv : BOwn w1 B v xs) (hat : ∀ k, v.ownBlock = some k → (valAt n L).ownBlock = some k ∨ w.heap.size ≤ k)
    (hl : L.length < 2000000000) (hS : ∀ k, Foot b c L P k → S k)
    (hd : DAt w' b { c with used := c.used + ((xs.length : Int) - (bytesAt n L).length) }) (hm : MAt w' c.mb (aput n (v, xs) L)) (ho : Only (fun k => k = b ∨ k = c.mb) w1 w') :
    DTo w B b S { c with used := c.used + ((xs.length : Int) - (bytesAt n L).length) } (aput n (v, xs) L) Pf P w' := by
  have how : Own w1 B (aput n (v, xs) L) P := ⟨fun e he => by
    rcases (ains_mem _ _ _).1 he with rfl | he
    · exact hv
    · exact ho1.file e he, ho1.lost⟩
  refine ⟨{
    d := hd
    m := hm
    p := own_kept hp1 ho fun k hk e => by
      rcases e with rfl | rfl
      · exact pv_apart' hd1 hp1 _ hk rfl
      · exact h.pv_m hk
    own := how.kept ho fun k hk e => by
      rcases e with rfl | rfl
      · exact own_ne how hd1 hk rfl
      · exact own_nm how hm1 hk rfl
    sep := fun k => by
      have h1 := cnt_put k n (v, xs) P h.asc
      have h2 := h.sep k
      have h3 := own1_le k v
      by_cases hk : v.ownBlock = some k
      · rcases hat k hk with e | e
        · rw [own1_self e] at h1; simp only at h1; omega
        · have := cnt_new h.own e; simp only at h1; omega
      · have : own1 k v = 0 := by unfold own1; rw [if_neg hk]
        simp only at h1; omega
    asc := h.asc.put n _
    used := by
      have h1 := tot_put n (v, xs) h.asc
      have h2 := h.used
      simp only at h1 ⊢
      omega
    bb := h.bb
    bm := h.bm
    many := by have := aput_length n (v, xs) L; omega }, ?_, ?_⟩
  · exact h0.trans ho (fun _ h => h) (fun k _ e => by
      rcases e with rfl | rfl
      · exact hS _ (.inl rfl)
      · exact hS _ (.inr (.inl rfl)))
  · intro k hk
    rcases foot_put h.asc hk with e | e
    · rcases hat k e with e | e
      · exact .inl (hS k (.inr (.inr (.inr (own_cnt e)))))
      · exact .inr e
    · exact .inl (hS k e)

end Go.Proofs.YtbpccbhlggcmfaaGreatDoor
namespace Go.Proofs.YtbpccbhlggcmfaaGreatDoor
open Go.RowKit
open Go.Maps

/-- What undo wants to know of a change. -/
structure Undoable (L : List (Key × Ent)) (g : Chg) : Prop where
  small : Small L g
  kind : 0 ≤ g.kind ∧ g.kind ≤ 3
  size : g.kind = 0 → g.size ≤ (bytesAt g.name L).length
end Go.Proofs.YtbpccbhlggcmfaaGreatDoor
namespace Go.Proofs.YtbpccbhlggcmfaaGreatDoor
open Go.RowKit
open Go.Maps

theorem DTo.from {w w1 w' : World} {B b : Nat} {S : Nat → Prop} {c : Cst} {L : List (Key × Ent)} {Pf P : List Chg} (h : DTo w1 B b S c L Pf P w') (h0 : Only S w w1) : DTo w B b S c L Pf P w' :=
  ⟨h.1, h0.trans h.2.1 (fun _ h => h) (fun _ _ h => h), fun k hk => by
    rcases h.2.2 k hk with e | e
    · exact .inl e
    · exact .inr (Nat.le_trans h0.size e)⟩
/-- What is left behind a torn change. -/
def tearF (g : Chg) (cut : Int) (F : Fil) : Fil :=
  if g.kind = 0 then (if cut % (((fbytes g.name F).length : Int) - g.size + 1) = 0 then undoF g F else aput g.name ((fbytes g.name F).take (g.size + (cut % (((fbytes g.name F).length : Int) - g.size + 1)).toNat)) F) else undoF g F
def TearPost (w : World) (B b : Nat) (c : Cst) (L : List (Key × Ent)) (Pf P : List Chg) (g : Chg) (cut : Int) (e : Ending) (w' : World) : Prop :=
  e = .returned (.tuple #[]) ∧ ∃ u L', DTo w B b (Foot b c L (P ++ [g])) { c with used := u } L' Pf P w' ∧ fb L' = tearF g cut (fb L)
theorem only_drn {S : Nat → Prop} {w w1 : World} (h : Only S w w1) (q : Nat) : Only S w (w1.drewN q) := ⟨h.os, h.tape, h.output, h.size, h.block⟩
theorem DC.drn {w : World} {B b : Nat} {c : Cst} {L : List (Key × Ent)} {Pf P : List Chg} (h : DC w B b c L Pf P) (q : Nat) : DC (w.drewN q) B b c L Pf P := h.kept (S := fun _ => False) (Only.of_below ⟨rfl, rfl, rfl, Nat.le_refl _, fun _ _ => rfl⟩) (fun _ _ h => h)

end Go.Proofs.YtbpccbhlggcmfaaGreatDoor
namespace Go.Proofs.YtbpccbhlggcmfaaGreatDoor
open Go.RowKit
open Go.Maps

/-- A work: 0 append, 1 truncate, 2 rename, 3 remove. -/
structure Wk where
  kind : Nat
  name : Key
  to : Key
  bs : List Int
  n : Nat
def turn (F : Fil) (k : Wk) : Fil :=
  if k.kind = 0 then aput k.name (fbytes k.name F ++ k.bs) F
  else if k.kind = 1 then aput k.name ((fbytes k.name F).take k.n) F
  else if k.kind = 2 then aput k.to (fbytes k.name F) (adel k.name F)
  else adel k.name F
/-- What a work wants of the files. -/
structure Fits (F : Fil) (k : Wk) : Prop where
  kind : k.kind ≤ 3
  n1 : k.name.length ≤ 20
  n2 : k.to.length ≤ 20
  there : k.kind ≠ 0 → (aget k.name F).isSome = true
  long : k.kind = 1 → k.n ≤ (fbytes k.name F).length
/-- The change that remembers a work. -/
structure Ch (F : Fil) (k : Wk) (g : Chg) : Prop where
  kind : g.kind = (k.kind : Int)
  name : g.name = k.name
  n2 : g.to.length ≤ 20
  a1 : k.kind = 0 → g.size = (fbytes k.name F).length ∧ g.was = (aget k.name F).isSome
  a2 : k.kind = 1 → g.xs = (fbytes k.name F).drop k.n
  a3 : k.kind = 2 → g.to = k.to ∧ g.was = (aget k.to (adel k.name F)).isSome ∧ g.xs = fbytes k.to (adel k.name F)
  a4 : k.kind = 3 → g.xs = fbytes k.name F
  xl : g.xs.length ≤ totF F
theorem fbytes_le (n : Key) (F : Fil) : (fbytes n F).length ≤ totF F := by
  unfold fbytes
  cases h : aget n F with
  | none => simp
  | some x => exact asum_pos (f := List.length) (e := (n, x)) (aget_mem h)
theorem fbytes_put_same (n : Key) (xs : List Int) (F : Fil) : fbytes n (aput n xs F) = xs := by unfold fbytes; rw [aget_put_same]; rfl
theorem fbytes_put_other (n m : Key) (xs : List Int) (h : m ≠ n) (F : Fil) : fbytes m (aput n xs F) = fbytes m F := by unfold fbytes; rw [aget_put_other n m xs h]
theorem fbytes_del_other (n m : Key) (h : m ≠ n) (F : Fil) : fbytes m (adel n F) = fbytes m F := by unfold fbytes; rw [aget_del_other n m h]
theorem fbytes_none {n : Key} {F : Fil} (h : (aget n F).isSome = false) : fbytes n F = [] := by unfold fbytes; cases hg : aget n F <;> simp_all
theorem aget_of_some {n : Key} {F : Fil} (h : (aget n F).isSome = true) : aget n F = some (fbytes n F) := by unfold fbytes; cases hg : aget n F <;> simp_all
theorem turn_asc {F : Fil} (h : AAsc F) (k : Wk) : AAsc (turn F k) := by
  unfold turn
  split
  · exact h.put _ _
  · split
    · exact h.put _ _
    · split
      · exact (h.del _).put _ _
      · exact h.del _
/-- An undone work leaves the files as they were. -/
theorem undo_turn {F : Fil} {k : Wk} {g : Chg} (hF : AAsc F) (hf : Fits F k) (hc : Ch F k g) : undoF g (turn F k) = F := by
  have hT := turn_asc hF k
  have hk := hf.kind
  by_cases k0 : k.kind = 0
  · obtain ⟨hs, hw⟩ := hc.a1 k0
    have hg0 : g.kind = 0 := by rw [hc.kind, k0]; rfl
    unfold undoF
    rw [if_pos hg0, hc.name]
    have ht : turn F k = aput k.name (fbytes k.name F ++ k.bs) F := by unfold turn; rw [if_pos k0]
    cases hsome : (aget k.name F).isSome with
    | true =>
      rw [hw, hsome, if_pos rfl, ht, fbytes_put_same, hs, List.take_left]
      refine aext ((hF.put _ _).put _ _) hF fun n => ?_
      by_cases hn : n = k.name
      · subst hn; rw [aget_put_same, aget_of_some hsome]
      · rw [aget_put_other _ _ _ hn, aget_put_other _ _ _ hn]
    | false =>
      rw [hw, hsome, ht]
      simp only [Bool.false_eq_true, if_false]
      refine aext ((hF.put _ _).del _) hF fun n => ?_
      by_cases hn : n = k.name
      · subst hn; rw [aget_del_same]; cases hg : aget k.name F <;> simp_all
      · rw [aget_del_other _ _ hn, aget_put_other _ _ _ hn]
  by_cases k1 : k.kind = 1
  · have hxs := hc.a2 k1
    have hg1 : g.kind = 1 := by rw [hc.kind, k1]; rfl
    have ht : turn F k = aput k.name ((fbytes k.name F).take k.n) F := by unfold turn; rw [if_neg k0, if_pos k1]
    unfold undoF
    rw [if_neg (by omega), if_pos hg1, hc.name, ht, fbytes_put_same, hxs, List.take_append_drop]
    refine aext ((hF.put _ _).put _ _) hF fun n => ?_
    by_cases hn : n = k.name
    · subst hn; rw [aget_put_same, aget_of_some (hf.there k0)]
    · rw [aget_put_other _ _ _ hn, aget_put_other _ _ _ hn]
  by_cases k2 : k.kind = 2
  · obtain ⟨hto, hw, hxs⟩ := hc.a3 k2
    have hg2 : g.kind = 2 := by rw [hc.kind, k2]; rfl
    have ht : turn F k = aput k.to (fbytes k.name F) (adel k.name F) := by unfold turn; rw [if_neg k0, if_neg k1, if_pos k2]
    unfold undoF
    rw [if_neg (by omega), if_neg (by omega), if_pos hg2, hc.name, hto, ht, fbytes_put_same]
    cases hsome : (aget k.to (adel k.name F)).isSome with
    | true =>
      rw [hw, hsome, if_pos rfl, hxs]
      refine aext ((((hF.del _).put _ _).put _ _).put _ _) hF fun n => ?_
      by_cases hn : n = k.name
      · subst hn; rw [aget_put_same, aget_of_some (hf.there k0)]
      · rw [aget_put_other _ _ _ hn]
        by_cases hn2 : n = k.to
        · subst hn2
          rw [aget_put_same, ← aget_of_some hsome, aget_del_other _ _ hn]
        · rw [aget_put_other _ _ _ hn2, aget_put_other _ _ _ hn2, aget_del_other _ _ hn]
    | false =>
      rw [hw, hsome]
      simp only [Bool.false_eq_true, if_false]
      refine aext ((((hF.del _).put _ _).del _).put _ _) hF fun n => ?_
      by_cases hn : n = k.name
      · subst hn; rw [aget_put_same, aget_of_some (hf.there k0)]
      · rw [aget_put_other _ _ _ hn]
        by_cases hn2 : n = k.to
        · subst hn2
          rw [aget_del_same]
          rw [aget_del_other _ _ hn] at hsome
          cases hg : aget k.to F <;> simp_all
        · rw [aget_del_other _ _ hn2, aget_put_other _ _ _ hn2, aget_del_other _ _ hn]
  · have k3 : k.kind = 3 := by omega
    have hg3 : g.kind = 3 := by rw [hc.kind, k3]; rfl
    have ht : turn F k = adel k.name F := by unfold turn; rw [if_neg k0, if_neg k1, if_neg k2]
    unfold undoF
    rw [if_neg (by omega), if_neg (by omega), if_neg (by omega), hc.name, ht, hc.a4 k3]
    refine aext ((hF.del _).put _ _) hF fun n => ?_
    by_cases hn : n = k.name
    · subst hn; rw [aget_put_same, aget_of_some (hf.there k0)]
    · rw [aget_put_other _ _ _ hn, aget_del_other _ _ hn]
/-- What is left of a work that is cut. -/
def part (F : Fil) (k : Wk) (cut : Int) : Fil :=
  if k.kind = 0 then (if cut % ((k.bs.length : Int) + 1) = 0 then F else aput k.name (fbytes k.name F ++ k.bs.take (cut % ((k.bs.length : Int) + 1)).toNat) F) else F
theorem tear_turn {F : Fil} {k : Wk} {g : Chg} (cut : Int) (hF : AAsc F) (hf : Fits F k) (hc : Ch F k g) : tearF g cut (turn F k) = part F k cut := by
  have hu := undo_turn hF hf hc
  unfold tearF part
  by_cases k0 : k.kind = 0
  · obtain ⟨hs, hw⟩ := hc.a1 k0
    have hg0 : g.kind = 0 := by rw [hc.kind, k0]; rfl
    have ht : turn F k = aput k.name (fbytes k.name F ++ k.bs) F := by unfold turn; rw [if_pos k0]
    have hl : ((fbytes g.name (turn F k)).length : Int) - g.size + 1 = (k.bs.length : Int) + 1 := by
      rw [hc.name, ht, fbytes_put_same, hs, List.length_append]; omega
    rw [if_pos hg0, if_pos k0, hl, hu]
    by_cases h0 : cut % ((k.bs.length : Int) + 1) = 0
    · rw [if_pos h0, if_pos h0]
    · rw [if_neg h0, if_neg h0, hc.name, ht, fbytes_put_same, hs]
      rw [List.take_append, List.take_of_length_le (by omega), show (fbytes k.name F).length + (cut % ((k.bs.length : Int) + 1)).toNat - (fbytes k.name F).length = (cut % ((k.bs.length : Int) + 1)).toNat by omega]
      refine aext ((hF.put _ _).put _ _) (hF.put _ _) fun n => ?_
      by_cases hn : n = k.name
      · subst hn; rw [aget_put_same, aget_put_same]
      · rw [aget_put_other _ _ _ hn, aget_put_other _ _ _ hn, aget_put_other _ _ _ hn]
  · have hg0 : ¬ g.kind = 0 := by rw [hc.kind]; omega
    rw [if_neg hg0, if_neg k0, hu]

/-- Files within what a disk holds. -/
structure SmF (N : Nat) (F : Fil) : Prop where
  asc : AAsc F
  tot : totF F ≤ 16777216
  many : F.length ≤ N
def run (F : Fil) (ks : List Wk) : Fil := ks.foldl turn F
/-- The changes gs remember the works ks from F on. -/
def Hist (N : Nat) : Fil → List Wk → List Chg → Prop
  | F, [], [] => SmF N F
  | F, k :: ks, g :: gs => SmF N F ∧ Fits F k ∧ Ch F k g ∧ Hist N (turn F k) ks gs
  | _, _, _ => False
theorem Hist.length {N : Nat} : ∀ {F : Fil} {ks : List Wk} {gs : List Chg}, Hist N F ks gs → gs.length = ks.length
  | _, [], [], _ => rfl
  | _, [], _ :: _, h => h.elim
  | _, _ :: _, [], h => h.elim
  | _, _ :: _, _ :: _, h => by simp [Hist.length h.2.2.2]
theorem Hist.last {N : Nat} : ∀ {F : Fil} {ks : List Wk} {gs : List Chg}, Hist N F ks gs → SmF N (run F ks)
  | _, [], [], h => h
  | _, [], _ :: _, h => h.elim
  | _, _ :: _, [], h => h.elim
  | _, _ :: _, _ :: _, h => by have := Hist.last h.2.2.2; exact this
theorem Hist.first {N : Nat} : ∀ {F : Fil} {ks : List Wk} {gs : List Chg}, Hist N F ks gs → SmF N F
  | _, [], [], h => h
  | _, [], _ :: _, h => h.elim
  | _, _ :: _, [], h => h.elim
  | _, _ :: _, _ :: _, h => h.1
theorem Hist.take {N : Nat} : ∀ {F : Fil} {ks : List Wk} {gs : List Chg} (i : Nat), Hist N F ks gs → Hist N F (ks.take i) (gs.take i)
  | _, _, _, 0, h => by rw [List.take_zero, List.take_zero]; exact h.first
  | _, [], [], _ + 1, h => h
  | _, [], _ :: _, _ + 1, h => h.elim
  | _, _ :: _, [], _ + 1, h => h.elim
  | _, _ :: _, _ :: _, i + 1, h => ⟨h.1, h.2.1, h.2.2.1, Hist.take i h.2.2.2⟩
theorem Hist.at {N : Nat} : ∀ {F : Fil} {ks : List Wk} {gs : List Chg} (i : Nat) (_ : Hist N F ks gs) (hi : i < ks.length) (hj : i < gs.length), SmF N (run F (ks.take i)) ∧ Fits (run F (ks.take i)) ks[i] ∧ Ch (run F (ks.take i)) ks[i] gs[i]
  | _, [], _, _, _, hi, _ => by simp at hi
  | _, _ :: _, [], _, h, _, _ => h.elim
  | _, _ :: _, _ :: _, 0, h, _, _ => ⟨h.1, h.2.1, h.2.2.1⟩
  | _, _ :: _, _ :: _, i + 1, h, hi, hj => by have := Hist.at i h.2.2.2 (by simpa using hi) (by simpa using hj); exact this
theorem Hist.snoc {N : Nat} : ∀ {F : Fil} {ks : List Wk} {gs : List Chg} {k : Wk} {g : Chg}, Hist N F ks gs → Fits (run F ks) k → Ch (run F ks) k g → SmF N (turn (run F ks) k) → Hist N F (ks ++ [k]) (gs ++ [g])
  | _, [], [], _, _, h, h1, h2, h3 => ⟨h, h1, h2, h3⟩
  | _, [], _ :: _, _, _, h, _, _, _ => h.elim
  | _, _ :: _, [], _, _, h, _, _, _ => h.elim
  | _, _ :: _, _ :: _, _, _, h, h1, h2, h3 => ⟨h.1, h.2.1, h.2.2.1, Hist.snoc h.2.2.2 h1 h2 h3⟩
theorem Hist.mono {N M : Nat} (hN : N ≤ M) : ∀ {F : Fil} {ks : List Wk} {gs : List Chg}, Hist N F ks gs → Hist M F ks gs
  | _, [], [], h => ⟨h.asc, h.tot, Nat.le_trans h.many hN⟩
  | _, [], _ :: _, h => h.elim
  | _, _ :: _, [], h => h.elim
  | _, _ :: _, _ :: _, h => ⟨⟨h.1.asc, h.1.tot, Nat.le_trans h.1.many hN⟩, h.2.1, h.2.2.1, Hist.mono hN h.2.2.2⟩
theorem run_snoc (F : Fil) (ks : List Wk) (k : Wk) : run F (ks ++ [k]) = turn (run F ks) k := by simp [run]
theorem run_take_succ (F : Fil) (ks : List Wk) {i : Nat} (hi : i < ks.length) : run F (ks.take (i + 1)) = turn (run F (ks.take i)) ks[i] := by
  rw [List.take_add_one, List.getElem?_eq_getElem hi]
  exact run_snoc _ _ _
end Go.Proofs.YtbpccbhlggcmfaaGreatDoor
