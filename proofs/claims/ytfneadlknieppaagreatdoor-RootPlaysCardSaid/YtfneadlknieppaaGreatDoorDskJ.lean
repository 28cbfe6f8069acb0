/- What holds of a disk in memory between calls, and what put and drop keep of it. No condition. · What holds of a disk behind put and drop, and what an undone change leaves of the bytes. No condition. -/
import Derived.Test.YtfneadlknieppaaGreatDoorDskS
namespace Go.Proofs.YtfneadlknieppaaGreatDoor
open Go.RowKit
open Go.Maps

/-- Which blocks the disk's files and lost pieces lie in. -/
def cnt (k : Nat) (L : List (Key × Ent)) (P : List Chg) : Nat := cntL k L + cntP k P
/-- The blocks of a disk. -/
def Foot (b : Nat) (c : Cst) (L : List (Key × Ent)) (P : List Chg) (k : Nat) : Prop := k = b ∨ k = c.mb ∨ c.pv.ownBlock = some k ∨ 0 < cnt k L P
theorem own1_pos {k : Nat} {v : Value} : 0 < own1 k v ↔ v.ownBlock = some k := by
  unfold own1; split <;> simp_all
theorem asum_pos_iff {α : Type} {f : α → Nat} : ∀ {l : List (Key × α)}, 0 < asum f l → ∃ e ∈ l, 0 < f e.2
  | [], h => by simp [asum] at h
  | y :: l, h => by
    simp only [asum, List.map_cons, List.sum_cons] at h
    by_cases hy : 0 < f y.2
    · exact ⟨y, List.mem_cons_self, hy⟩
    · obtain ⟨e, he, hf⟩ := asum_pos_iff (f := f) (l := l) (by unfold asum; omega)
      exact ⟨e, List.mem_cons_of_mem _ he, hf⟩
theorem cntL_pos {k : Nat} {L : List (Key × Ent)} (h : 0 < cntL k L) : ∃ e ∈ L, e.2.1.ownBlock = some k := by
  obtain ⟨e, he, hf⟩ := asum_pos_iff h
  exact ⟨e, he, own1_pos.1 hf⟩
theorem cntP_pos {k : Nat} : ∀ {P : List Chg}, 0 < cntP k P → ∃ c ∈ P, c.lost.ownBlock = some k
  | [], h => by simp [cntP] at h
  | y :: l, h => by
    simp only [cntP, List.map_cons, List.sum_cons] at h
    by_cases hy : 0 < own1 k y.lost
    · exact ⟨y, List.mem_cons_self, own1_pos.1 hy⟩
    · obtain ⟨e, he, hf⟩ := cntP_pos (k := k) (P := l) (by unfold cntP; omega)
      exact ⟨e, List.mem_cons_of_mem _ he, hf⟩
theorem Own.cells {w : World} {B : Nat} {L : List (Key × Ent)} {P : List Chg} (h : Own w B L P) {k : Nat} (hk : 0 < cnt k L P) : B ≤ k ∧ ∃ cs, w.heap[k]? = some (.cells cs 5 (0, 0)) := by
  unfold cnt at hk
  rcases Nat.eq_zero_or_pos (cntL k L) with h0 | h0
  · obtain ⟨c, hc, e⟩ := cntP_pos (P := P) (k := k) (by omega)
    exact ⟨((h.lost c hc).lt k e).1, own_type (h.lost c hc) e⟩
  · obtain ⟨e, he, e1⟩ := cntL_pos h0
    exact ⟨((h.file e he).lt k e1).1, own_type (h.file e he) e1⟩
theorem Own.lt {w : World} {B : Nat} {L : List (Key × Ent)} {P : List Chg} (h : Own w B L P) {k : Nat} (hk : 0 < cnt k L P) : k < w.heap.size := by
  obtain ⟨_, cs, hcs⟩ := h.cells hk
  exact (Array.getElem?_eq_some_iff.1 hcs).1
/-- Kept where no block of the files has turned. -/
theorem Own.kept {w w' : World} {B : Nat} {L : List (Key × Ent)} {P : List Chg} {S : Nat → Prop} (h : Own w B L P) (ho : Only S w w') (hS : ∀ k, 0 < cnt k L P → ¬ S k) : Own w' B L P where
  file e he := own_kept (h.file e he) ho fun k hk => hS k (by
    have := cntL_mem (k := k) he
    rw [own1_self hk] at this
    unfold cnt; omega)
  lost c hc := own_kept (h.lost c hc) ho fun k hk => hS k (by
    have := cntP_mem (k := k) hc
    rw [own1_self hk] at this
    unfold cnt; omega)
theorem Own.kb {w w' : World} {B : Nat} {L : List (Key × Ent)} {P : List Chg} (h : Own w B L P) (hb : Below w.heap.size w w') : Own w' B L P := h.kept (S := fun _ => False) (Only.of_below hb) (fun _ _ h => h)
theorem cnt_new {w : World} {B : Nat} {L : List (Key × Ent)} {P : List Chg} (h : Own w B L P) {k : Nat} (hk : w.heap.size ≤ k) : cnt k L P = 0 := by
  rcases Nat.eq_zero_or_pos (cnt k L P) with h0 | h0
  · exact h0
  · have := h.lt h0; omega
theorem valAt_mem {n : Key} {L : List (Key × Ent)} {k : Nat} (h : (valAt n L).ownBlock = some k) : (n, valAt n L, bytesAt n L) ∈ L := by
  unfold valAt bytesAt at *
  cases hg : aget n L with
  | none => rw [hg] at h; simp [Value.ownBlock] at h
  | some x => exact aget_mem hg
theorem own1_valAt (k : Nat) (n : Key) (L : List (Key × Ent)) : own1 k (valAt n L) ≤ cntL k L := by
  rcases Nat.eq_zero_or_pos (own1 k (valAt n L)) with h0 | h0
  · omega
  · have h1 := own1_pos.1 h0
    exact cntL_mem (valAt_mem h1)

/-- A file laid whose slice lies in no other's block. -/
theorem Own.put {w : World} {B : Nat} {L : List (Key × Ent)} {P : List Chg} (h : Own w B L P) (n : Key) {v : Value} {xs : List Int} (hv : BOwn w B v xs) : Own w B (aput n (v, xs) L) P where
  file e he := by
    rcases (ains_mem _ _ _).1 he with rfl | he
    · exact hv
    · exact h.file e ((adel_mem n L e).1 he).1
  lost := h.lost
theorem Own.del {w : World} {B : Nat} {L : List (Key × Ent)} {P : List Chg} (h : Own w B L P) (n : Key) : Own w B (adel n L) P where
  file e he := h.file e ((adel_mem n L e).1 he).1
  lost := h.lost
theorem cnt_put (k : Nat) (n : Key) (x : Ent) {L : List (Key × Ent)} (P : List Chg) (h : AAsc L) : cnt k (aput n x L) P + own1 k (valAt n L) = own1 k x.1 + cnt k L P := by
  have := cntL_put k n x h
  unfold cnt; omega
theorem cnt_del (k : Nat) (n : Key) {L : List (Key × Ent)} (P : List Chg) (h : AAsc L) : cnt k (adel n L) P + own1 k (valAt n L) = cnt k L P := by
  have := cntL_del k n h
  unfold cnt; omega
theorem cnt_snoc (k : Nat) (L : List (Key × Ent)) (P : List Chg) (g : Chg) : cnt k L (P ++ [g]) = cnt k L P + own1 k g.lost := by
  unfold cnt
  rw [cntP_app]
  simp [cntP]; omega
theorem ains_length {α : Type} (x : Key × α) : ∀ l, (ains x l).length = l.length + 1
  | [] => rfl
  | y :: l => by
    have := ains_length x l
    rw [ains]; split <;> simp_all
theorem aput_length {α : Type} (n : Key) (a : α) (l : List (Key × α)) : (aput n a l).length ≤ l.length + 1 := by
  rw [aput, ains_length]
  have : (adel n l).length ≤ l.length := List.length_filter_le _ _
  omega
theorem adel_length {α : Type} (n : Key) (l : List (Key × α)) : (adel n l).length ≤ l.length := List.length_filter_le _ _

/-- What holds of a disk: Pf lies in its slice of pending changes, P of them still hold what they hold. -/
structure DC (w : World) (B b : Nat) (c : Cst) (L : List (Key × Ent)) (Pf P : List Chg) : Prop where
  d : DAt w b c
  m : MAt w c.mb L
  p : PAt w B c.pv Pf
  own : Own w B L P
  sep : ∀ k, cnt k L P ≤ 1
  asc : AAsc L
  used : c.used = (tot L : Int)
  bb : B ≤ b
  bm : B ≤ c.mb
  many : L.length ≤ 2000000000
theorem MAt.obj {w : World} {mb : Nat} {L : List (Key × Ent)} (h : MAt w mb L) : ∃ es clock, w.heap[mb]? = some (.map es clock) := by
  obtain ⟨es, clock, h1, _⟩ := h
  exact ⟨es, clock, h1⟩
section
variable {w w' : World} {B b : Nat} {c : Cst} {L : List (Key × Ent)} {Pf P : List Chg}
theorem DC.base (h : DC w B b c L Pf P) : B ≤ w.heap.size := Nat.le_trans h.bb (Nat.le_of_lt h.d.lt)
theorem DC.ne (h : DC w B b c L Pf P) : b ≠ c.mb := by
  intro e
  obtain ⟨es, clock, h1⟩ := h.m.obj
  have h2 : w.heap[b]? = some _ := h.d
  rw [← e, h2] at h1
  cases h1
theorem DC.cnt_b (h : DC w B b c L Pf P) : ¬ 0 < cnt b L P := by
  intro e
  obtain ⟨_, cs, hcs⟩ := h.own.cells e
  have h2 : w.heap[b]? = some _ := h.d
  rw [h2] at hcs
  simp at hcs
theorem DC.cnt_m (h : DC w B b c L Pf P) : ¬ 0 < cnt c.mb L P := by
  intro e
  obtain ⟨_, cs, hcs⟩ := h.own.cells e
  obtain ⟨es, clock, h1⟩ := h.m.obj
  rw [h1] at hcs
  cases hcs
theorem DC.pv_b (h : DC w B b c L Pf P) : ¬ c.pv.ownBlock = some b := pv_apart h.d h.p
theorem DC.pv_m (h : DC w B b c L Pf P) : ¬ c.pv.ownBlock = some c.mb := by
  intro e
  obtain ⟨cs, hcs⟩ := own_type h.p e
  obtain ⟨es, clock, h1⟩ := h.m.obj
  rw [h1] at hcs
  cases hcs
theorem DC.pv_cnt (h : DC w B b c L Pf P) {k : Nat} (hk : 0 < cnt k L P) : ¬ c.pv.ownBlock = some k := by
  intro e
  obtain ⟨cs, hcs⟩ := own_type h.p e
  obtain ⟨_, cs', h1⟩ := h.own.cells hk
  rw [h1] at hcs
  simp at hcs
theorem DC.foot_ge (h : DC w B b c L Pf P) {k : Nat} (hk : Foot b c L P k) : B ≤ k := by
  rcases hk with rfl | rfl | hk | hk
  · exact h.bb
  · exact h.bm
  · exact (h.p.lt k hk).1
  · exact (h.own.cells hk).1
theorem DC.foot_lt (h : DC w B b c L Pf P) {k : Nat} (hk : Foot b c L P k) : k < w.heap.size := by
  rcases hk with rfl | rfl | hk | hk
  · exact h.d.lt
  · exact h.m.lt
  · exact (h.p.lt k hk).2
  · exact h.own.lt hk
theorem DC.kept {S : Nat → Prop} (h : DC w B b c L Pf P) (ho : Only S w w') (hS : ∀ k, Foot b c L P k → ¬ S k) : DC w' B b c L Pf P :=
  { h with
    d := h.d.kept ho (hS b (.inl rfl))
    m := h.m.kept ho (hS _ (.inr (.inl rfl)))
    p := own_kept h.p ho fun k hk => hS k (.inr (.inr (.inl hk)))
    own := h.own.kept ho fun k hk => hS k (.inr (.inr (.inr hk))) }
theorem DC.kb (h : DC w B b c L Pf P) (hb : Below w.heap.size w w') : DC w' B b c L Pf P := h.kept (S := fun _ => False) (Only.of_below hb) (fun _ _ h => h)
end
/-- Behind a call on a disk: it is as told, and nothing else that was there has turned. -/
def DTo (w : World) (B b : Nat) (S : Nat → Prop) (c : Cst) (L : List (Key × Ent)) (Pf P : List Chg) (w' : World) : Prop :=
  DC w' B b c L Pf P ∧ Only S w w' ∧ ∀ k, Foot b c L P k → S k ∨ w.heap.size ≤ k
end Go.Proofs.YtfneadlknieppaaGreatDoor
namespace Go.Proofs.YtfneadlknieppaaGreatDoor
open Go.RowKit
open Go.Maps

theorem own_ne {w : World} {B b : Nat} {c : Cst} {L : List (Key × Ent)} {P : List Chg} (h : Own w B L P) (hd : DAt w b c) {k : Nat} (hk : 0 < cnt k L P) : ¬ k = b := by
  rintro rfl
  obtain ⟨_, cs, hcs⟩ := h.cells hk
  have h2 : w.heap[k]? = some _ := hd
  rw [h2] at hcs
  simp at hcs
theorem own_nm {w : World} {B mb : Nat} {M : List (Key × Ent)} {L : List (Key × Ent)} {P : List Chg} (h : Own w B L P) (hm : MAt w mb M) {k : Nat} (hk : 0 < cnt k L P) : ¬ k = mb := by
  rintro rfl
  obtain ⟨_, cs, hcs⟩ := h.cells hk
  obtain ⟨es, clock, h1⟩ := hm.obj
  rw [h1] at hcs
  cases hcs
theorem put_dc {w w' : World} {B b : Nat} {c : Cst} {L : List (Key × Ent)} {Pf P P' : List Chg} {n : Key} {v : Value} {xs : List Int} (h : DC w B b c L Pf P) (hv : BOwn w B v xs)
    (hlost : ∀ g ∈ P', g ∈ P) (hsep : ∀ k, own1 k v + cnt k L P' ≤ 1 + own1 k (valAt n L)) (hl : L.length < 2000000000)
    (hd : DAt w' b { c with used := c.used + ((xs.length : Int) - (bytesAt n L).length) }) (hm : MAt w' c.mb (aput n (v, xs) L)) (ho : Only (fun k => k = b ∨ k = c.mb) w w') :
    DC w' B b { c with used := c.used + ((xs.length : Int) - (bytesAt n L).length) } (aput n (v, xs) L) Pf P' := by
  have how : Own w B (aput n (v, xs) L) P' := ⟨(h.own.put n hv).file, fun g hg => h.own.lost g (hlost g hg)⟩
  exact {
    d := hd
    m := hm
    p := own_kept h.p ho fun k hk e => by
      rcases e with rfl | rfl
      · exact h.pv_b hk
      · exact h.pv_m hk
    own := how.kept ho fun k hk e => by
      rcases e with rfl | rfl
      · exact own_ne how h.d hk rfl
      · exact own_nm how h.m hk rfl
    sep := fun k => by
      have h1 := cnt_put k n (v, xs) P' h.asc
      have h2 := hsep k
      simp only at h1
      omega
    asc := h.asc.put n _
    used := by
      have h1 := tot_put n (v, xs) h.asc
      have h2 := h.used
      simp only at h1 ⊢
      omega
    bb := h.bb
    bm := h.bm
    many := by have := aput_length n (v, xs) L; omega }
theorem drop_dc {w w' : World} {B b : Nat} {c : Cst} {L : List (Key × Ent)} {Pf P : List Chg} {n : Key} (h : DC w B b c L Pf P)
    (hd : DAt w' b { c with used := c.used - (bytesAt n L).length }) (hm : MAt w' c.mb (adel n L)) (ho : Only (fun k => k = b ∨ k = c.mb) w w') :
    DC w' B b { c with used := c.used - (bytesAt n L).length } (adel n L) Pf P := by
  have how : Own w B (adel n L) P := h.own.del n
  exact {
    d := hd
    m := hm
    p := own_kept h.p ho fun k hk e => by
      rcases e with rfl | rfl
      · exact h.pv_b hk
      · exact h.pv_m hk
    own := how.kept ho fun k hk e => by
      rcases e with rfl | rfl
      · exact own_ne how h.d hk rfl
      · exact own_nm how h.m hk rfl
    sep := fun k => by
      have h1 := cnt_del k n P h.asc
      have h2 := h.sep k
      omega
    asc := h.asc.del n
    used := by
      have h1 := tot_del n h.asc
      have h2 := h.used
      simp only at h1 ⊢
      omega
    bb := h.bb
    bm := h.bm
    many := by have := adel_length n L; have := h.many; omega }
/-- One change less is held. -/
theorem DC.less {w : World} {B b : Nat} {c : Cst} {L : List (Key × Ent)} {Pf P : List Chg} {g : Chg} (h : DC w B b c L Pf (P ++ [g])) : DC w B b c L Pf P :=
  { h with
    own := ⟨h.own.file, fun x hx => h.own.lost x (List.mem_append_left _ hx)⟩
    sep := fun k => by have h1 := h.sep k; rw [cnt_snoc] at h1; omega }
theorem foot_less {b : Nat} {c : Cst} {L : List (Key × Ent)} {P : List Chg} {g : Chg} {k : Nat} (h : Foot b c L P k) : Foot b c L (P ++ [g]) k := by
  rcases h with h | h | h | h
  · exact .inl h
  · exact .inr (.inl h)
  · exact .inr (.inr (.inl h))
  · exact .inr (.inr (.inr (by rw [cnt_snoc]; omega)))
theorem foot_put {b : Nat} {c : Cst} {L : List (Key × Ent)} {P : List Chg} {n : Key} {v : Value} {xs : List Int} {u : Int} {k : Nat} (hs : AAsc L) (h : Foot b { c with used := u } (aput n (v, xs) L) P k) : v.ownBlock = some k ∨ Foot b c L P k := by
  rcases h with h | h | h | h
  · exact .inr (.inl h)
  · exact .inr (.inr (.inl h))
  · exact .inr (.inr (.inr (.inl h)))
  · have h1 := cnt_put k n (v, xs) P hs
    by_cases hv : v.ownBlock = some k
    · exact .inl hv
    · have : own1 k v = 0 := by unfold own1; rw [if_neg hv]
      simp only at h1
      exact .inr (.inr (.inr (.inr (by omega))))
theorem foot_drop {b : Nat} {c : Cst} {L : List (Key × Ent)} {P : List Chg} {n : Key} {u : Int} {k : Nat} (hs : AAsc L) (h : Foot b { c with used := u } (adel n L) P k) : Foot b c L P k := by
  rcases h with h | h | h | h
  · exact .inl h
  · exact .inr (.inl h)
  · exact .inr (.inr (.inl h))
  · have h1 := cnt_del k n P hs
    exact .inr (.inr (.inr (by omega)))

/-- The bytes of the files. -/
abbrev Fil := List (Key × List Int)
def fb (L : List (Key × Ent)) : Fil := amap (·.2) L
def fbytes (n : Key) (F : Fil) : List Int := (aget n F).getD []
theorem fb_put (n : Key) (v : Value) (xs : List Int) (L : List (Key × Ent)) : fb (aput n (v, xs) L) = aput n xs (fb L) := amap_put _ n (v, xs) L
theorem fb_del (n : Key) (L : List (Key × Ent)) : fb (adel n L) = adel n (fb L) := amap_del _ n L
theorem fb_get (n : Key) (L : List (Key × Ent)) : aget n (fb L) = (aget n L).map (·.2) := amap_get _ n L
theorem fb_bytes (n : Key) (L : List (Key × Ent)) : fbytes n (fb L) = bytesAt n L := by
  unfold fbytes bytesAt
  rw [fb_get]
  cases aget n L <;> rfl
theorem fb_some (n : Key) (L : List (Key × Ent)) : (aget n (fb L)).isSome = (aget n L).isSome := by rw [fb_get]; cases aget n L <;> rfl
def totF (F : Fil) : Nat := asum List.length F
theorem fb_tot (L : List (Key × Ent)) : totF (fb L) = tot L := asum_amap _ _ L
theorem fb_asc {L : List (Key × Ent)} (h : AAsc L) : AAsc (fb L) := amap_asc _ h
theorem fb_length (L : List (Key × Ent)) : (fb L).length = L.length := by simp [fb, amap]
/-- What an undone change leaves. -/
def undoF (g : Chg) (F : Fil) : Fil :=
  if g.kind = 0 then (if g.was then aput g.name ((fbytes g.name F).take g.size) F else adel g.name F)
  else if g.kind = 1 then aput g.name (fbytes g.name F ++ g.xs) F
  else if g.kind = 2 then aput g.name (fbytes g.to F) (if g.was then aput g.to g.xs F else adel g.to F)
  else aput g.name g.xs F
/-- What undo leaves of the disk. -/
def UndoPost (w : World) (B b : Nat) (c : Cst) (L : List (Key × Ent)) (Pf P : List Chg) (g : Chg) (e : Ending) (w' : World) : Prop :=
  e = .returned (.tuple #[]) ∧ ∃ u L', DTo w B b (Foot b c L (P ++ [g])) { c with used := u } L' Pf P w' ∧ fb L' = undoF g (fb L)
/-- The numbers that undo wants to be small. -/
structure Small (L : List (Key × Ent)) (g : Chg) : Prop where
  n1 : g.name.length ≤ 20
  n2 : g.to.length ≤ 20
  tl : tot L ≤ 1000000000
  xl : g.xs.length ≤ 1000000000
  ml : L.length ≤ 1000000000
theorem small_key {n : Key} (h : n.length ≤ 20) : n.length ≤ maxLen ∧ n.length ≤ 281474976710656 ∧ n.length ≤ 4611686018427387904 := by unfold maxLen; omega
theorem small_len {L : List (Key × Ent)} (h : L.length ≤ 1000000001) : L.length < maxLen ∧ L.length < 2000000000 := by unfold maxLen; omega
end Go.Proofs.YtfneadlknieppaaGreatDoor
