/- What holds of a disk behind put and drop, and what an undone change leaves of the bytes. No condition. -/
import Derived.Test.YtemfblhlkonlpaaDoorDskI
namespace Go.Proofs.YtemfblhlkonlpaaDoor
open Go.RowKit
open Go.Maps

theorem own_ne {w : World} {B b : Nat} {c : Cst} {L : List (Key × Ent)} {P : List Chg} (h : Own w B L P) (hd : DAt w b c) {k : Nat} (hk : 0 < cnt k L P) : ¬ k = b := by
  rintro rfl
  obtain ⟨_, cs, hcs⟩ := h.cells hk
  have h2 : w.heap[k]? = some _ := hd
  rw [h2] at hcs
  simp at hcs
theorem own_nm {w : World} {B mb : Nat} {M : List (Key × Ent)} {L : List (Key × Ent)} {P : List Chg} (h : Own w B L P) (hm : MAt w mb M) {k : Nat} (hk : 0 < cnt k L P) : ¬ k = mb := by
  rintro rfl
  obtain ⟨_, cs, hcs⟩ := h.cells hk
  obtain ⟨es, clock, h1⟩ := hm.obj
  rw [h1] at hcs
  cases hcs
theorem put_dc {w w' : World} {B b : Nat} {c : Cst} {L : List (Key × Ent)} {Pf P P' : List Chg} {n : Key} {v : Value} {xs : List Int} (h : DC w B b c L Pf P) (hv : BOwn w B v xs)
    (hlost : ∀ g ∈ P', g ∈ P) (hsep : ∀ k, own1 k v + cnt k L P' ≤ 1 + own1 k (valAt n L)) (hl : L.length < 2000000000)
    (hd : DAt w' b { c with used := c.used + ((xs.length : Int) - (bytesAt n L).length) }) (hm : MAt w' c.mb (aput n (v, xs) L)) (ho : Only (fun k => k = b ∨ k = c.mb) w w') :
    DC w' B b { c with used := c.used + ((xs.length : Int) - (bytesAt n L).length) } (aput n (v, xs) L) Pf P' := by
  have how : Own w B (aput n (v, xs) L) P' := ⟨(h.own.put n hv).file, fun g hg => h.own.lost g (hlost g hg)⟩
  exact {
    d := hd
    m := hm
    p := own_kept h.p ho fun k hk e => by
      rcases e with rfl | rfl
      · exact h.pv_b hk
      · exact h.pv_m hk
    own := how.kept ho fun k hk e => by
      rcases e with rfl | rfl
      · exact own_ne how h.d hk rfl
      · exact own_nm how h.m hk rfl
    sep := fun k => by
      have h1 := cnt_put k n (v, xs) P' h.asc
      have h2 := hsep k
      simp only at h1
      omega
    asc := h.asc.put n _
    used := by
      have h1 := tot_put n (v, xs) h.asc
      have h2 := h.used
      simp only at h1 ⊢
      omega
    bb := h.bb
    bm := h.bm
    many := by have := aput_length n (v, xs) L; omega }
theorem drop_dc {w w' : World} {B b : Nat} {c : Cst} {L : List (Key × Ent)} {Pf P : List Chg} {n : Key} (h : DC w B b c L Pf P)
    (hd : DAt w' b { c with used := c.used - (bytesAt n L).length }) (hm : MAt w' c.mb (adel n L)) (ho : Only (fun k => k = b ∨ k = c.mb) w w') :
    DC w' B b { c with used := c.used - (bytesAt n L).length } (adel n L) Pf P := by
  have how : Own w B (adel n L) P := h.own.del n
  exact {
    d := hd
    m := hm
    p := own_kept h.p ho fun k hk e => by
      rcases e with rfl | rfl
      · exact h.pv_b hk
      · exact h.pv_m hk
    own := how.kept ho fun k hk e => by
      rcases e with rfl | rfl
      · exact own_ne how h.d hk rfl
      · exact own_nm how h.m hk rfl
    sep := fun k => by
      have h1 := cnt_del k n P h.asc
      have h2 := h.sep k
      omega
    asc := h.asc.del n
    used := by
      have h1 := tot_del n h.asc
      have h2 := h.used
      simp only at h1 ⊢
      omega
    bb := h.bb
    bm := h.bm
    many := by have := adel_length n L; have := h.many; omega }
/-- One change less is held. -/
theorem DC.less {w : World} {B b : Nat} {c : Cst} {L : List (Key × Ent)} {Pf P : List Chg} {g : Chg} (h : DC w B b c L Pf (P ++ [g])) : DC w B b c L Pf P :=
  { h with
    own := ⟨h.own.file, fun x hx => h.own.lost x (List.mem_append_left _ hx)⟩
    sep := fun k => by have h1 := h.sep k; rw [cnt_snoc] at h1; omega }
theorem foot_less {b : Nat} {c : Cst} {L : List (Key × Ent)} {P : List Chg} {g : Chg} {k : Nat} (h : Foot b c L P k) : Foot b c L (P ++ [g]) k := by
  rcases h with h | h | h | h
  · exact .inl h
  · exact .inr (.inl h)
  · exact .inr (.inr (.inl h))
  · exact .inr (.inr (.inr (by rw [cnt_snoc]; omega)))
theorem foot_put {b : Nat} {c : Cst} {L : List (Key × Ent)} {P : List Chg} {n : Key} {v : Value} {xs : List Int} {u : Int} {k : Nat} (hs : AAsc L) (h : Foot b { c with used := u } (aput n (v, xs) L) P k) : v.ownBlock = some k ∨ Foot b c L P k := by
  rcases h with h | h | h | h
  · exact .inr (.inl h)
  · exact .inr (.inr (.inl h))
  · exact .inr (.inr (.inr (.inl h)))
  · have h1 := cnt_put k n (v, xs) P hs
    by_cases hv : v.ownBlock = some k
    · exact .inl hv
    · have : own1 k v = 0 := by unfold own1; rw [if_neg hv]
      simp only at h1
      exact .inr (.inr (.inr (.inr (by omega))))
theorem foot_drop {b : Nat} {c : Cst} {L : List (Key × Ent)} {P : List Chg} {n : Key} {u : Int} {k : Nat} (hs : AAsc L) (h : Foot b { c with used := u } (adel n L) P k) : Foot b c L P k := by
  rcases h with h | h | h | h
  · exact .inl h
  · exact .inr (.inl h)
  · exact .inr (.inr (.inl h))
  · have h1 := cnt_del k n P hs
    exact .inr (.inr (.inr (by omega)))

/-- The bytes of the files. -/
abbrev Fil := List (Key × List Int)
def fb (L : List (Key × Ent)) : Fil := amap (·.2) L
def fbytes (n : Key) (F : Fil) : List Int := (aget n F).getD []
theorem fb_put (n : Key) (v : Value) (xs : List Int) (L : List (Key × Ent)) : fb (aput n (v, xs) L) = aput n xs (fb L) := amap_put _ n (v, xs) L
theorem fb_del (n : Key) (L : List (Key × Ent)) : fb (adel n L) = adel n (fb L) := amap_del _ n L
theorem fb_get (n : Key) (L : List (Key × Ent)) : aget n (fb L) = (aget n L).map (·.2) := amap_get _ n L
theorem fb_bytes (n : Key) (L : List (Key × Ent)) : fbytes n (fb L) = bytesAt n L := by
  unfold fbytes bytesAt
  rw [fb_get]
  cases aget n L <;> rfl
theorem fb_some (n : Key) (L : List (Key × Ent)) : (aget n (fb L)).isSome = (aget n L).isSome := by rw [fb_get]; cases aget n L <;> rfl
def totF (F : Fil) : Nat := asum List.length F
theorem fb_tot (L : List (Key × Ent)) : totF (fb L) = tot L := asum_amap _ _ L
theorem fb_asc {L : List (Key × Ent)} (h : AAsc L) : AAsc (fb L) := amap_asc _ h
theorem fb_length (L : List (Key × Ent)) : (fb L).length = L.length := by simp [fb, amap]
/-- What an undone change leaves. -/
def undoF (g : Chg) (F : Fil) : Fil :=
  if g.kind = 0 then (if g.was then aput g.name ((fbytes g.name F).take g.size) F else adel g.name F)
  else if g.kind = 1 then aput g.name (fbytes g.name F ++ g.xs) F
  else if g.kind = 2 then aput g.name (fbytes g.to F) (if g.was then aput g.to g.xs F else adel g.to F)
  else aput g.name g.xs F
/-- What undo leaves of the disk. -/
def UndoPost (w : World) (B b : Nat) (c : Cst) (L : List (Key × Ent)) (Pf P : List Chg) (g : Chg) (e : Ending) (w' : World) : Prop :=
  e = .returned (.tuple #[]) ∧ ∃ u L', DTo w B b (Foot b c L (P ++ [g])) { c with used := u } L' Pf P w' ∧ fb L' = undoF g (fb L)
/-- The numbers that undo wants to be small. -/
structure Small (L : List (Key × Ent)) (g : Chg) : Prop where
  n1 : g.name.length ≤ 20
  n2 : g.to.length ≤ 20
  tl : tot L ≤ 1000000000
  xl : g.xs.length ≤ 1000000000
  ml : L.length ≤ 1000000000
theorem small_key {n : Key} (h : n.length ≤ 20) : n.length ≤ maxLen ∧ n.length ≤ 281474976710656 ∧ n.length ≤ 4611686018427387904 := by unfold maxLen; omega
theorem small_len {L : List (Key × Ent)} (h : L.length ≤ 1000000001) : L.length < maxLen ∧ L.length < 2000000000 := by unfold maxLen; omega
end Go.Proofs.YtemfblhlkonlpaaDoor
