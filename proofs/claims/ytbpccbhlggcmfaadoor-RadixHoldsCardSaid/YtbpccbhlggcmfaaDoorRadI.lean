/- What place holds to on its way down a tree of digits. No condition. -/
import Derived.Test.YtbpccbhlggcmfaaDoorRadG
namespace Go.Proofs.YtbpccbhlggcmfaaDoor
open Go.RowKit

/-- The tree behind a put. -/
def PFin (w : World) (tb : Nat) (T : Nd) (ρ : Nat → Nat) (x : Nat) (h : List UInt8) (m : Int) (W : World) (σ : Nat → Nat) : Prop :=
  ∃ T' : Nd, W.heap[tb]? = some (.cells #[ptr T', .int .i64 T.ents.length] 43 (0, 0)) ∧ TA W σ T' ∧ T'.Sep ∧ ¬ T'.Bl tb ∧ PutS [] h m ρ σ T T' ∧ (∀ k, T'.Bl k → T.Bl k ∨ k = x ∨ w.heap.size ≤ k) ∧ Only (fun k => k = tb ∨ T.Bl k) w W
structure PI (w : World) (tb : Nat) (T : Nd) (ρ : Nat → Nat) (x : Nat) (h : List UInt8) (m : Int) (wr : World) (sb so : Nat) (p : List UInt8) (u : Nd) (σ : Nat → Nat) (row : List Value) (ty : TypeId) : Prop where
  ta : TA wr σ u
  wf : u.Wf p
  pre : p <+: tx h
  sep : u.Sep
  single : wr.heap[x]? = some (.cells (nv 0 h m none) 56 (0, 0))
  slot : wr.heap[sb]? = some (.cells row.toArray ty (0, 0))
  slv : row[so]? = some (ptr u)
  nsb : ¬ u.Bl sb
  nx : ¬ u.Bl x
  xsb : x ≠ sb
  sx : σ x = 0
  top : ∃ v, wr.heap[tb]? = some (.cells #[v, .int .i64 T.ents.length] 43 (0, 0))
  ntb : ¬ u.Bl tb
  xtb : x ≠ tb
  lk : u.lk p.length h = T.lk 0 h
  only : Only (fun k => k = tb ∨ T.Bl k) w wr
  bl : ∀ k, u.Bl k → T.Bl k ∨ w.heap.size ≤ k
  sbl : sb = tb ∨ T.Bl sb ∨ w.heap.size ≤ sb
  wand : ∀ (W : World) (τ : Nat → Nat) (c : Nd), W.heap[sb]? = some (.cells (row.set so (ptr c)).toArray ty (0, 0)) → TA W τ c → PutS p h m σ τ u c → c.Sep → (∀ k, c.Bl k → u.Bl k ∨ k = x ∨ wr.heap.size ≤ k) → (∀ k, ¬ u.Bl k → k ≠ x → k < wr.heap.size → τ k = σ k) → Only (fun k => u.Bl k ∨ k = sb) wr W → PFin w tb T ρ x h m W τ
section
variable {w : World} {tb : Nat} {T : Nd} {ρ : Nat → Nat} {x : Nat} {h : List UInt8} {m : Int} {wr : World} {sb so : Nat} {p : List UInt8} {u : Nd} {σ : Nat → Nat} {row : List Value} {ty : TypeId}
theorem PI.start (ht : TT w tb T ρ) (hx : w.heap[x]? = some (.cells (nv 0 h m none) 56 (0, 0))) (hnx : ¬ T.Bl x) (hρ : ρ x = 0) : PI w tb T ρ x h m w tb 0 [] T ρ [ptr T, .int .i64 T.ents.length] 43 where
  ta := ht.ta
  wf := ht.wf
  pre := List.nil_prefix
  sep := ht.sep
  single := hx
  slot := ht.top
  slv := rfl
  nsb := ht.ne
  nx := hnx
  xsb e := by rw [e, ht.top] at hx; simp at hx
  sx := hρ
  top := ⟨_, ht.top⟩
  ntb := ht.ne
  xtb e := by rw [e, ht.top] at hx; simp at hx
  lk := rfl
  only := Only.refl _ _
  bl k hk := .inl hk
  sbl := .inl rfl
  wand W τ c h1 h2 h3 h4 h5 h6 h7 := ⟨c, h1, h2, h4, fun hc => by
    rcases h5 tb hc with h | h | h
    · exact ht.ne h
    · have h8 := ht.top; rw [h, hx] at h8; simp at h8
    · exact absurd ht.lt (by omega), h3, h5, h7.mono (fun k _ e => e.elim .inr .inl)⟩
theorem PI.kb (H : PI w tb T ρ x h m wr sb so p u σ row ty) {W : World} (hb : Below wr.heap.size wr W) : PI w tb T ρ x h m W sb so p u σ row ty :=
  { H with
    ta := H.ta.kb hb
    single := (hb.block x (Array.getElem?_eq_some_iff.1 H.single).1).trans H.single
    slot := (hb.block sb (Array.getElem?_eq_some_iff.1 H.slot).1).trans H.slot
    top := by obtain ⟨v, hv⟩ := H.top; exact ⟨v, (hb.block tb (Array.getElem?_eq_some_iff.1 hv).1).trans hv⟩
    only := H.only.trans (Only.of_below (S := fun _ => False) hb) (fun _ e => e) (fun _ _ e => e.elim)
    wand := fun W' τ c h1 h2 h3 h4 h5 h6 h7 => H.wand W' τ c h1 h2 h3 h4 (fun k hk => by
      rcases h5 k hk with h | h | h
      · exact .inl h
      · exact .inr (.inl h)
      · exact .inr (.inr (Nat.le_trans hb.size h))) (fun k g1 g2 g3 => h6 k g1 g2 (Nat.lt_of_lt_of_le g3 hb.size)) ((Only.of_below (S := fun _ => False) hb).trans h7 (fun _ e => e.elim) (fun _ _ e => e)) }
/-- One step down. -/
theorem PI.step (H : PI w tb T ρ x h m wr sb so p u σ row ty) {w2 w4 W : World} {b g r : Nat} {ws : Fin 16 → Nd} {i : Fin 16} (hh : h.length = 32)
    (hb2 : Below wr.heap.size wr w2) (hfk : w2.heap[b]? = some (.cells (nv r hz 0 (some g)) 56 (0, 0))) (hg : w2.heap[g]? = some (.cells (pvs ws) 90 (0, 0))) (hta : ∀ j, TA w2 σ (ws j)) (hM : Mid p h σ u ws)
    (hsep : (Nd.fork b g ws).Sep) (hbl : ∀ k, (Nd.fork b g ws).Bl k → u.Bl k ∨ wr.heap.size ≤ k) (hi : i = dig h p.length)
    (h4 : w4 = (w2.setCell ⟨b, 0, none⟩ (.int .i64 0)).setCell ⟨sb, so, none⟩ (.pointer (some ⟨b, 0, none⟩))) (hb4 : Below w4.heap.size w4 W) :
    PI w tb T ρ x h m W g i.val (p ++ [dg i]) (ws i) (upn σ b 0) (pl ws) 90 := by
  refine PI.kb (wr := w4) ?_ hb4
  have hsbl := (Array.getElem?_eq_some_iff.1 H.slot).1
  have hxl := (Array.getElem?_eq_some_iff.1 H.single).1
  obtain ⟨tv, htv⟩ := H.top
  have htl := (Array.getElem?_eq_some_iff.1 htv).1
  have nofork : ∀ k, ¬ u.Bl k → k < wr.heap.size → ¬ (Nd.fork b g ws).Bl k := fun k h1 h2 h3 => by
    rcases hbl k h3 with e | e
    · exact h1 e
    · omega
  have hsbF := nofork sb H.nsb hsbl
  have hxF := nofork x H.nx hxl
  have htF := nofork tb H.ntb htl
  have hbsb : b ≠ sb := fun e => hsbF (.inl e.symm)
  have hgsb : g ≠ sb := fun e => hsbF (.inr (.inl e.symm))
  have hsz4 : w4.heap.size = w2.heap.size := by rw [h4]; simp
  have blk : ∀ k, k ≠ b → k ≠ sb → w4.heap[k]? = w2.heap[k]? := fun k e1 e2 => by
    rw [h4, Below.heap_setCell _ _ _ _ e2, Below.heap_setCell _ _ _ _ e1]
  have hfk4 : w4.heap[b]? = some (.cells (nv 0 hz 0 (some g)) 56 (0, 0)) := by
    rw [h4, Below.heap_setCell _ _ _ _ hbsb, cells_set hfk]; rfl
  have hg4 : w4.heap[g]? = some (.cells (pvs ws) 90 (0, 0)) := by rw [blk g hsep.1.symm hgsb]; exact hg
  have hsl4 : w4.heap[sb]? = some (.cells (row.set so (.pointer (some ⟨b, 0, none⟩))).toArray ty (0, 0)) := by
    rw [h4]
    refine cells_set ?_ _
    rw [Below.heap_setCell _ _ _ _ hbsb.symm]
    exact (hb2.block sb hsbl).trans H.slot
  have hta4 : ∀ j, TA w4 (upn σ b 0) (ws j) := fun j => (hta j).agree (fun k hk => blk k (fun e => (hsep.2.1 j).1 (e ▸ hk)) (fun e => hsbF (Bl_way (e ▸ hk)))) (fun k hk => upn_other _ _ (fun e => (hsep.2.1 j).1 (e ▸ hk)))
  have o2 : Only (fun k => u.Bl k ∨ k = sb) wr w4 := by
    have o1 : Only (fun k => k = b ∨ k = sb) w2 w4 := by
      rw [h4]
      exact ((Only.refl (fun k => k = b ∨ k = sb) w2).setCell (p := ⟨b, 0, none⟩) (.inl rfl) _).setCell (p := ⟨sb, so, none⟩) (.inr rfl) _
    refine (Only.of_below (S := fun _ => False) hb2).trans o1 (fun _ e => e.elim) (fun k hk e => ?_)
    rcases e with rfl | rfl
    · rcases hbl _ (.inl rfl) with e | e
      · exact .inl e
      · omega
    · exact .inr rfl
  have hlen : (p ++ [dg i]).length = p.length + 1 := by simp
  exact {
    ta := hta4 i
    wf := hM.wf i
    pre := hi ▸ dig_pre hh H.pre hM.len
    sep := (hsep.2.1 i).2.2
    single := by rw [blk x (fun e => hxF (.inl e)) H.xsb]; exact (hb2.block x hxl).trans H.single
    slot := hg4
    slv := pl_at ws i
    nsb := (hsep.2.1 i).2.1
    nx := fun e => hxF (Bl_way e)
    xsb := fun e => hxF (.inr (.inl e))
    sx := by rw [upn_other _ _ (fun e => hxF (.inl e))]; exact H.sx
    top := by
      by_cases e : tb = sb
      · subst e
        rw [hsl4]
        have h1 := H.slot
        rw [htv] at h1
        have h2 : #[tv, .int .i64 T.ents.length] = row.toArray := by injection h1 with h1; injection h1
        have h3 : row = [tv, .int .i64 T.ents.length] := (congrArg Array.toList h2).symm
        have h4' : ty = 43 := by injection h1 with h1; injection h1 with _ e; exact e.symm
        have h5 := H.slv
        rw [h3] at h5 ⊢
        rw [h4']
        match so, h5 with
        | 0, _ => exact ⟨_, rfl⟩
        | 1, h5 => simp [ptr] at h5
        | n + 2, h5 => simp at h5
      · rw [blk tb (fun e2 => htF (.inl e2)) e]
        exact ⟨tv, (hb2.block tb htl).trans htv⟩
    ntb := fun e => htF (Bl_way e)
    xtb := H.xtb
    lk := by
      rw [hlen, ← H.lk, ← hM.lk h hh H.pre, hi]
    only := H.only.trans o2 (fun _ e => e) (fun k hk e => by
      rcases e with e | rfl
      · rcases H.bl k e with e | e
        · exact .inr e
        · omega
      · rcases H.sbl with e | e | e
        · exact .inl e
        · exact .inr e
        · omega)
    bl := fun k hk => by
      rcases hbl k (Bl_way hk) with e | e
      · exact H.bl k e
      · exact .inr (Nat.le_trans H.only.size e)
    sbl := by
      rcases hbl g (.inr (.inl rfl)) with e | e
      · exact .inr (H.bl g e)
      · exact .inr (.inr (Nat.le_trans H.only.size e))
    wand := fun W' τ c h1 h2 h3 h4' h5 h6 h7 => by
      have out : ∀ k, ¬ (ws i).Bl k → k ≠ g → k < w4.heap.size → W'.heap[k]? = w4.heap[k]? := fun k e1 e2 e3 => h7.block k e3 (fun e => e.elim e1 e2)
      have hbl4 : b < w4.heap.size := (Array.getElem?_eq_some_iff.1 hfk4).1
      have hgl4 : g < w4.heap.size := (Array.getElem?_eq_some_iff.1 hg4).1
      have hle : wr.heap.size ≤ w4.heap.size := by rw [hsz4]; exact hb2.size
      have hbx : b ≠ x := fun e => hxF (.inl e.symm)
      have hgx : g ≠ x := fun e => hxF (.inr (.inl e.symm))
      have hτb : τ b = 0 := by rw [h6 b (hsep.2.1 i).1 hbx hbl4, upn_same]
      have hτj : ∀ j k, j ≠ i → (ws j).Bl k → τ k = σ k := fun j k hj hk => by
        have e1 : ¬ (ws i).Bl k := hsep.2.2 j i k hj hk
        have e2 : k ≠ x := fun e => hxF (Bl_way (e ▸ hk))
        have e3 : k ≠ b := fun e => (hsep.2.1 j).1 (e ▸ hk)
        rw [h6 k e1 e2 ((hta4 j).lt k hk), upn_other _ _ e3]
      refine H.wand W' τ (.fork b g (upw ws i c)) ?_ ⟨?_, ?_, fun j => ?_⟩ ?_ ⟨hsep.1, fun j => ?_, fun j l k hjl hk => ?_⟩ (fun k hk => ?_) (fun k e1 e2 e3 => ?_) ?_
      · rw [out sb (fun e => hsbF (Bl_way e)) hgsb.symm (by omega)]; exact hsl4
      · rw [hτb, out b (hsep.2.1 i).1 hsep.1 hbl4]; exact hfk4
      · rw [h1, pl_set]; rfl
      · by_cases e : j = i
        · subst e; rw [upw_same]; exact h2
        · rw [upw_other _ _ e]
          exact (hta4 j).agree (fun k hk => out k (hsep.2.2 j i k e hk) (fun e2 => (hsep.2.1 j).2.1 (e2 ▸ hk)) ((hta4 j).lt k hk)) (fun k hk => (hτj j k e hk).trans (upn_other σ 0 (fun e3 : k = b => (hsep.2.1 j).1 (e3 ▸ hk))).symm)
      · refine hM.put hh H.pre hi (ρ1 := upn σ b 0) (fun j k hk => upn_other _ _ (fun e => (hsep.2.1 j).1 (e ▸ hk))) h3 hτb hτj
      · by_cases e : j = i
        · subst e
          rw [upw_same]
          refine ⟨fun e => ?_, fun e => ?_, h4'⟩
          · rcases h5 b e with e | e | e
            · exact (hsep.2.1 j).1 e
            · exact hbx e
            · omega
          · rcases h5 g e with e | e | e
            · exact (hsep.2.1 j).2.1 e
            · exact hgx e
            · omega
        · rw [upw_other _ _ e]; exact hsep.2.1 j
      · have key : ∀ l, l ≠ i → (ws l).Bl k → ¬ c.Bl k := fun l hl hk hc => by
          rcases h5 k hc with e | e | e
          · exact hsep.2.2 l i k hl hk e
          · exact hxF (Bl_way (e ▸ hk))
          · exact absurd ((hta4 l).lt k hk) (by omega)
        by_cases e : j = i
        · subst e
          rw [upw_same] at hk
          rw [upw_other _ _ hjl.symm]
          exact fun h => key l hjl.symm h hk
        · rw [upw_other _ _ e] at hk
          by_cases e2 : l = i
          · subst e2; rw [upw_same]; exact key j e hk
          · rw [upw_other _ _ e2]; exact hsep.2.2 j l k hjl hk
      · have key : ∀ k, (Nd.fork b g ws).Bl k → u.Bl k ∨ k = x ∨ wr.heap.size ≤ k := fun k hk => (hbl k hk).elim .inl (fun e => .inr (.inr e))
        rcases hk with rfl | rfl | ⟨j, hk⟩
        · exact key _ (.inl rfl)
        · exact key _ (.inr (.inl rfl))
        · by_cases e : j = i
          · subst e
            rw [upw_same] at hk
            rcases h5 k hk with e | e | e
            · exact key k (Bl_way e)
            · exact .inr (.inl e)
            · exact .inr (.inr (Nat.le_trans hle e))
          · rw [upw_other _ _ e] at hk
            exact key k (Bl_way hk)
      · have hkF := nofork k e1 e3
        rw [h6 k (fun e => hkF (Bl_way e)) e2 (by omega), upn_other _ _ (fun e => hkF (.inl e))]
      · refine o2.trans h7 (fun _ e => e) (fun k hk e => ?_)
        have : (Nd.fork b g ws).Bl k := e.elim Bl_way (fun e => .inr (.inl e))
        rcases hbl k this with e | e
        · exact .inl e
        · omega }
end
end Go.Proofs.YtbpccbhlggcmfaaDoor
