/- What undo does with a removed and with a renamed file. Conditions: the numbers are no greater than a program's may be. · What undo does with an appended and with a truncated file. Conditions: the numbers are no greater than a program's may be. · What undo does with an appended file. Conditions: the numbers are no greater than a program's may be. -/
import Derived.Test.YtcolkgeflokgeaaDoorDskJ
import Derived.Deep.QuietTactic
import Derived.Test.YtcolkgeflokgeaaDoorGenApp
import Derived.Deep.RegionHeld3
namespace Go.Proofs.YtcolkgeflokgeaaDoor
open Go.RowKit
open Go.Maps

theorem put_dto {w w1 w' : World} {B b : Nat} {c : Cst} {L : List (Key × Ent)} {Pf P P' : List Chg} {n : Key} {v : Value} {xs : List Int} {S : Nat → Prop} (h : DC w1 B b c L Pf P) (h0 : Only S w w1) (hv : BOwn w1 B v xs)
    (hlost : ∀ g ∈ P', g ∈ P) (hsep : ∀ k, own1 k v + cnt k L P' ≤ 1 + own1 k (valAt n L)) (hl : L.length < 2000000000) (hsb : S b) (hsm : S c.mb) (hsv : ∀ k, v.ownBlock = some k → S k ∨ w.heap.size ≤ k) (hsf : ∀ k, Foot b c L P' k → S k ∨ w.heap.size ≤ k)
    (hd : DAt w' b { c with used := c.used + ((xs.length : Int) - (bytesAt n L).length) }) (hm : MAt w' c.mb (aput n (v, xs) L)) (ho : Only (fun k => k = b ∨ k = c.mb) w1 w') :
    DTo w B b S { c with used := c.used + ((xs.length : Int) - (bytesAt n L).length) } (aput n (v, xs) L) Pf P' w' :=
  ⟨put_dc h hv hlost hsep hl hd hm ho, h0.trans ho (fun _ h => h) (fun k _ e => by
    rcases e with rfl | rfl
    · exact hsb
    · exact hsm), fun k hk => by
    rcases foot_put h.asc hk with e | e
    · exact hsv k e
    · exact hsf k e⟩
theorem own_cnt {k : Nat} {n : Key} {L : List (Key × Ent)} {P : List Chg} (h : (valAt n L).ownBlock = some k) : 0 < cnt k L P := by
  have := own1_valAt k n L
  rw [own1_self h] at this
  unfold cnt; omega
theorem undo_val_alloc {w : World} {S : Nat → Prop} (o : Obj) : Only S w (w.alloc o) := (Only.refl S w).alloc o
theorem small_bytes {L : List (Key × Ent)} {g : Chg} (h : Small L g) (n : Key) : (bytesAt n L).length ≤ 1000000000 := Nat.le_trans (bytesAt_le n L) h.tl
theorem used_range {w : World} {B b : Nat} {c : Cst} {L : List (Key × Ent)} {Pf P : List Chg} (h : DC w B b c L Pf P) (ht : tot L ≤ 1000000000) : 0 ≤ c.used ∧ c.used ≤ 1000000000 := by
  rw [h.used]; omega

end Go.Proofs.YtcolkgeflokgeaaDoor
namespace Go.Proofs.YtcolkgeflokgeaaDoor
open Go.RowKit
open Go.Maps

/-- 'append(s, x...)' of bytes at a step of a region that draws. -/
theorem step_append_bytes {ops : Array Oper} {o : Oper} {a : Act} {w : World} {K : Act → World → Prop} {Q : Exit → Act → World → Prop} {E : Prop} (hgd : o.guard = none) (s x : Operand)
    (ho : o.op = .call { callee := .builtin .append, args := #[s, x], argTypes := #[73, 73] })
    (base : Nat) (v : Value) (xs : List Int) (hs : a.eval s = v) (hown : BOwn w base v xs) (u : Value) (l : List Int) (hx : a.eval x = u) (hse : Seen w u l)
    (hb : xs.length + l.length ≤ 140737488351232) (hbase : base ≤ w.heap.size)
    (h : ∀ v' w', BOwn w' base v' (xs ++ l) → w.grownBy w' v.ownBlock → (v'.ownBlock = v.ownBlock ∨ v'.ownBlock = some w.heap.size) → K (a.put o.dst v') w') :
    if Region.wanted o (yielded ops a.tmps) = true then Oper.wp Tryd.prog o a w K Q else E := by
  have hw : Region.wanted o (yielded ops a.tmps) = true := by simp [Region.wanted, hgd]
  rw [if_pos hw]
  obtain ⟨i0, hi0, hz0, hz1, hz2⟩ := info_parts u8info
  rcases hse with ⟨rfl, rfl⟩ | ⟨ad, cap, rfl, hc, hu⟩
  · have hrun := run_append_owned_none (P := Tryd.prog) (w := w) base _ o.type 5 i0 1 Tryd.underlying73 hi0 v xs.length (us xs) hown
    unfold Oper.wp
    simp [execOp, ho, resolve, invoke, builtin, hs, hx, hrun, Result.andThen]
    exact h v w (by rw [List.append_nil]; exact hown) ⟨rfl, rfl, rfl, Nat.le_refl _, fun _ _ _ => rfl⟩ (.inl rfl)
  · obtain ⟨v', w', hr, h2, h3, h4, h5⟩ := run_append_own_at (P := Tryd.prog) w base _ o.type 5 i0 _ 1 1 Tryd.underlying73 hi0 hz0 hz1 hz2 rfl (by omega) v xs.length (us xs) hown ad l.length cap (us l) (by simp) hu (by intro u hu; obtain ⟨x, _, rfl⟩ := List.mem_map.1 hu; rfl) (by simp [maxLen]; omega) (by omega) hbase
    unfold Oper.wp execOp
    simp only [ho, resolve, invoke, builtin, Sem.run_bind, Sem.run_pure, Result.andThen_ok, List.map_toArray, List.map_cons, List.map_nil, hs, hx, hr]
    refine h _ _ ?_ h3 h5
    show w'.ownsRow base 5 1 v' (xs ++ l).length (us (xs ++ l))
    rw [List.length_append, us, List.map_append]
    exact h2

/-- Where nothing but the file's own block has turned. -/
theorem rest_kept {w w1 : World} {B b : Nat} {c : Cst} {L : List (Key × Ent)} {Pf P : List Chg} {n : Key} (h : DC w B b c L Pf P) (ho : Only (fun k => (valAt n L).ownBlock = some k) w w1) :
    DAt w1 b c ∧ MAt w1 c.mb L ∧ PAt w1 B c.pv Pf ∧ Own w1 B (adel n L) P :=
  ⟨h.d.kept ho (fun e => h.cnt_b (own_cnt e)), h.m.kept ho (fun e => h.cnt_m (own_cnt e)), own_kept h.p ho (fun k hk e => h.pv_cnt (own_cnt e) hk), (h.own.del n).kept ho fun k hk e => by
    have h1 := cnt_del k n P h.asc
    rw [own1_self e] at h1
    have h2 := h.sep k
    omega⟩
/-- A file laid whose slice lies in its old block or in a new one. -/
theorem put_dto2 {w w1 w' : World} {B b : Nat} {c : Cst} {L : List (Key × Ent)} {Pf P : List Chg} {n : Key} {v : Value} {xs : List Int} (S : Nat → Prop) (h : DC w B b c L Pf P) (h0 : Only S w w1)
    (hd1 : DAt w1 b c) (hm1 : MAt w1 c.mb L) (hp1 : PAt w1 B c.pv Pf) (ho1 : Own w1 B (adel n L) P) (hv : BOwn w1 B v xs) (hat : ∀ k, v.ownBlock = some k → (valAt n L).ownBlock = some k ∨ w.heap.size ≤ k)
    (hl : L.length < 2000000000) (hS : ∀ k, Foot b c L P k → S k)
    (hd : DAt w' b { c with used := c.used + ((xs.length : Int) - (bytesAt n L).length) }) (hm : MAt w' c.mb (aput n (v, xs) L)) (ho : Only (fun k => k = b ∨ k = c.mb) w1 w') :
    DTo w B b S { c with used := c.used + ((xs.length : Int) - (bytesAt n L).length) } (aput n (v, xs) L) Pf P w' := by
  have how : Own w1 B (aput n (v, xs) L) P := ⟨fun e he => by
    rcases (ains_mem _ _ _).1 he with rfl | he
    · exact hv
    · exact ho1.file e he, ho1.lost⟩
  refine ⟨{
    d := hd
    m := hm
    p := own_kept hp1 ho fun k hk e => by
      rcases e with rfl | rfl
      · exact pv_apart' hd1 hp1 _ hk rfl
      · exact h.pv_m hk
    own := how.kept ho fun k hk e => by
      rcases e with rfl | rfl
      · exact own_ne how hd1 hk rfl
      · exact own_nm how hm1 hk rfl
    sep := fun k => by
      have h1 := cnt_put k n (v, xs) P h.asc
      have h2 := h.sep k
      have h3 := own1_le k v
      by_cases hk : v.ownBlock = some k
      · rcases hat k hk with e | e
        · rw [own1_self e] at h1; simp only at h1; omega
        · have := cnt_new h.own e; simp only at h1; omega
      · have : own1 k v = 0 := by unfold own1; rw [if_neg hk]
        simp only at h1; omega
    asc := h.asc.put n _
    used := by
      have h1 := tot_put n (v, xs) h.asc
      have h2 := h.used
      simp only at h1 ⊢
      omega
    bb := h.bb
    bm := h.bm
    many := by have := aput_length n (v, xs) L; omega }, ?_, ?_⟩
  · exact h0.trans ho (fun _ h => h) (fun k _ e => by
      rcases e with rfl | rfl
      · exact hS _ (.inl rfl)
      · exact hS _ (.inr (.inl rfl)))
  · intro k hk
    rcases foot_put h.asc hk with e | e
    · rcases hat k e with e | e
      · exact .inl (hS k (.inr (.inr (.inr (own_cnt e)))))
      · exact .inr e
    · exact .inl (hS k e)

end Go.Proofs.YtcolkgeflokgeaaDoor
namespace Go.Proofs.YtcolkgeflokgeaaDoor
open Go.RowKit
open Go.Maps

/-- What undo wants to know of a change. -/
structure Undoable (L : List (Key × Ent)) (g : Chg) : Prop where
  small : Small L g
  kind : 0 ≤ g.kind ∧ g.kind ≤ 3
  size : g.kind = 0 → g.size ≤ (bytesAt g.name L).length
end Go.Proofs.YtcolkgeflokgeaaDoor
