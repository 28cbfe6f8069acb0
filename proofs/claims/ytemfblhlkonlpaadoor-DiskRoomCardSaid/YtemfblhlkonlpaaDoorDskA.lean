/- What Append does. Conditions: the numbers are no greater than a program's may be; what is appended lies in no block of the disk. -/
import Derived.Test.YtemfblhlkonlpaaDoorDskR
namespace Go.Proofs.YtemfblhlkonlpaaDoor
open Go.RowKit
open Go.Maps

def St.files (s : St) : Fil := run s.kept s.pend
def St.used (s : St) : Nat := totF s.files
/-- One more work: whether the disk does it. -/
def St.work (s : St) (k : Wk) : Int × St := if s.fuse = 0 then (7, { s with dead := true }) else (0, { s with pend := s.pend ++ [k], fuse := if 0 < s.fuse then s.fuse - 1 else s.fuse, works := s.works + 1 })
def St.append (s : St) (n : Key) (l : List Int) : Int × St :=
  if okName n = false then (1, s) else if s.dead = true then (7, s) else if s.room - s.used < l.length then (6, s) else s.work ⟨0, n, [], l, 0⟩
theorem Seen.only {w w' : World} {v : Value} {l : List Int} {T : Nat → Prop} (h : Seen w v l) (ho : Only T w w') (hT : ∀ k, v.ownBlock = some k → ¬ T k) : Seen w' v l := by
  rcases h with h | ⟨a, cap, rfl, hc, hu⟩
  · exact .inl h
  · refine .inr ⟨a, cap, rfl, hc, fun j u hj => ?_⟩
    have h1 := hu j u hj
    have h2 := World.block_lt_of_cell? w _ h1
    rw [World.cell?_of_block (w := w) (ho.block _ h2 ?_)]
    · exact h1
    · rw [Addr.add_block]; exact hT _ rfl
/-- A file laid, told by its parts. -/
theorem put_gen {w1 w' : World} {B b : Nat} {c : Cst} {L : List (Key × Ent)} {Pf P : List Chg} {n : Key} {v : Value} {xs : List Int}
    (hd1 : DAt w1 b c) (hm1 : MAt w1 c.mb L) (hp1 : PAt w1 B c.pv Pf) (ho1 : Own w1 B (adel n L) P) (hv : BOwn w1 B v xs) (hsep : ∀ k, own1 k v + cnt k (adel n L) P ≤ 1) (hasc : AAsc L) (hused : c.used = (tot L : Int)) (hbb : B ≤ b) (hbm : B ≤ c.mb) (hl : L.length < 2000000000)
    (hd : DAt w' b { c with used := c.used + ((xs.length : Int) - (bytesAt n L).length) }) (hm : MAt w' c.mb (aput n (v, xs) L)) (ho : Only (fun k => k = b ∨ k = c.mb) w1 w') :
    DC w' B b { c with used := c.used + ((xs.length : Int) - (bytesAt n L).length) } (aput n (v, xs) L) Pf P := by
  have how : Own w1 B (aput n (v, xs) L) P := ⟨fun e he => by
    rcases (ains_mem _ _ _).1 he with rfl | he
    · exact hv
    · exact ho1.file e he, ho1.lost⟩
  exact {
    d := hd
    m := hm
    p := own_kept hp1 ho fun k hk e => by
      rcases e with rfl | rfl
      · exact pv_apart' hd1 hp1 _ hk rfl
      · obtain ⟨cs, hcs⟩ := own_type hp1 hk
        obtain ⟨es, clock, h1⟩ := hm1.obj
        rw [h1] at hcs
        cases hcs
    own := how.kept ho fun k hk e => by
      rcases e with rfl | rfl
      · exact own_ne how hd1 hk rfl
      · exact own_nm how hm1 hk rfl
    sep := fun k => by
      have h1 := cnt_put k n (v, xs) P hasc
      have h2 := cnt_del k n P hasc
      have h3 := hsep k
      simp only at h1; omega
    asc := hasc.put n _
    used := by
      have h1 := tot_put n (v, xs) hasc
      simp only at h1 ⊢
      omega
    bb := hbb
    bm := hbm
    many := by have := aput_length n (v, xs) L; omega }
/-- Where the struct alone has turned. -/
theorem DC.restamp {w w' : World} {B b : Nat} {c c' : Cst} {L : List (Key × Ent)} {Pf P : List Chg} (h : DC w B b c L Pf P) (hd : DAt w' b c') (hm : c'.mb = c.mb) (hu : c'.used = c.used) (hp : c'.pv = c.pv) (ho : Only (fun k => k = b) w w') : DC w' B b c' L Pf P where
  d := hd
  m := by rw [hm]; exact h.m.kept ho (fun e => h.ne e.symm)
  p := by rw [hp]; exact own_kept h.p ho (fun k hk e => h.pv_b (e ▸ hk))
  own := h.own.kept ho (fun k hk e => h.cnt_b (e ▸ hk))
  sep := h.sep
  asc := h.asc
  used := by rw [hu]; exact h.used
  bb := h.bb
  bm := by rw [hm]; exact h.bm
  many := h.many
theorem pass_mb (c : Cst) : c.pass.mb = c.mb ∧ c.pass.used = c.used ∧ c.pass.pv = c.pv ∧ c.pass.room = c.room := by unfold Cst.pass; split <;> exact ⟨rfl, rfl, rfl, rfl⟩
theorem foot_restamp {b : Nat} {c c' : Cst} {L : List (Key × Ent)} {P : List Chg} (hm : c'.mb = c.mb) (hp : c'.pv = c.pv) {k : Nat} (h : Foot b c' L P k) : Foot b c L P k := by
  unfold Foot at *; rw [hm, hp] at h; exact h
theorem DSx.used_eq {w : World} {B b : Nat} {S : Nat → Prop} {s : St} {c : Cst} {L : List (Key × Ent)} {P : List Chg} (h : DSx w B b S s c L P) : c.used = (s.used : Int) := by
  rw [h.dc.used, St.used, St.files, ← h.fb, fb_tot]
/-- The disk dies. -/
theorem dsx_die {w w' : World} {B b : Nat} {S : Nat → Prop} {s : St} {c : Cst} {L : List (Key × Ent)} {P : List Chg} (h : DSx w B b S s c L P) (h0 : s.fuse = 0) (hd : DAt w' b c.pass) (ho : Only (fun k => k = b) w w') : DPost w B b S { s with dead := true } w' := by
  have e : c.pass = { c with dead := true } := by unfold Cst.pass; rw [if_pos (by rw [h.fuse]; exact h0)]
  rw [e] at hd
  refine ⟨S, ⟨{ c with dead := true }, L, P, { dc := h.dc.restamp hd rfl rfl rfl ho, hist := h.hist, fb := h.fb, room := h.room, fuse := h.fuse, dead := rfl, works := h.works, room0 := h.room0, pl := h.pl, foot := fun k hk => h.foot k (foot_restamp rfl rfl hk), lt := fun k hk => Nat.lt_of_lt_of_le (h.lt k hk) ho.size }⟩, ho.mono (fun k _ e => by subst e; exact h.foot _ (.inl rfl)), fun k hk => .inl hk⟩
/-- One more work is done: the disk as told by its parts. -/
theorem dsx_worked {w w' : World} {B b : Nat} {S : Nat → Prop} {s : St} {c c' : Cst} {L L' : List (Key × Ent)} {P : List Chg} {k : Wk} {g : Chg} (h : DSx w B b S s c L P) (h0 : ¬ s.fuse = 0) (hdc : DC w' B b c' L' (P ++ [g]) (P ++ [g])) (hf : Fits s.files k) (hc : Ch s.files k g) (ht : totF (turn s.files k) ≤ 16777216) (hm : (turn s.files k).length ≤ s.works + 1)
    (hfb : fb L' = turn s.files k) (e1 : c'.room = c.room) (e2 : c'.fuse = c.pass.fuse) (e3 : c'.dead = c.dead) (e4 : c'.works = c.pass.works) (ho : Only (Foot b c L P) w w') (hfoot : ∀ j, Foot b c' L' (P ++ [g]) j → Foot b c L P j ∨ w.heap.size ≤ j) :
    (s.work k).1 = 0 ∧ DPost w B b S (s.work k).2 w' := by
  have hs : s.work k = (0, { s with pend := s.pend ++ [k], fuse := if 0 < s.fuse then s.fuse - 1 else s.fuse, works := s.works + 1 }) := by unfold St.work; rw [if_neg h0]
  have hp : c.pass = { c with fuse := if 0 < c.fuse then c.fuse - 1 else c.fuse, works := c.works + 1 } := by unfold Cst.pass; rw [if_neg (by rw [h.fuse]; exact h0)]
  rw [hs]
  refine ⟨rfl, _, ⟨c', L', P ++ [g], {
    dc := hdc
    hist := (h.hist.mono (Nat.le_succ _)).snoc hf hc ⟨turn_asc h.hist.last.asc k, ht, hm⟩
    fb := by rw [hfb, run_snoc]; rfl
    room := by rw [e1, h.room]
    fuse := by rw [e2, hp, ← h.fuse]
    dead := by rw [e3, h.dead]
    works := by rw [e4, hp]; simp only; rw [h.works]; omega
    room0 := h.room0
    pl := by have := h.pl; simp; omega
    foot := fun j hj => hj
    lt := fun j hj => hdc.foot_lt hj }⟩, ho.mono (fun k _ hk => h.foot k hk), fun j hj => ?_⟩
  rcases hfoot j hj with e | e
  · exact .inl (h.foot j e)
  · exact .inr e
theorem DPost.same {w w' : World} {B b : Nat} {S : Nat → Prop} {s : St} (h : DS w B b S s) (hb : Below w.heap.size w w') : DPost w B b S s w' := ⟨S, h.kb hb, Only.of_below hb, fun _ h => .inl h⟩
/-- The end of a work that lays a file. -/
theorem end_put {w W5 W6 : World} {B b : Nat} {S : Nat → Prop} {s : St} {c c5 : Cst} {L L5 : List (Key × Ent)} {P : List Chg} {k : Wk} {g : Chg} {m : Key} {v : Value} {zs : List Int} (hx : DSx w B b S s c L P) (h0 : ¬ s.fuse = 0)
    (hd5 : DAt W5 b c5) (hm5 : MAt W5 c5.mb L5) (hp5 : PAt W5 B c5.pv (P ++ [g])) (ho5 : Own W5 B (adel m L5) (P ++ [g])) (hv : BOwn W5 B v zs) (hsep : ∀ k, own1 k v + cnt k (adel m L5) (P ++ [g]) ≤ 1) (hasc : AAsc L5) (hused : c5.used = (tot L5 : Int)) (hl : L5.length < 2000000000)
    (e0 : c5.mb = c.mb) (e1 : c5.room = c.room) (e2 : c5.fuse = c.pass.fuse) (e3 : c5.dead = c.dead) (e4 : c5.works = c.pass.works) (hd : DAt W6 b { c5 with used := c5.used + ((zs.length : Int) - (bytesAt m L5).length) }) (hm : MAt W6 c5.mb (aput m (v, zs) L5)) (ho : Only (fun k => k = b ∨ k = c5.mb) W5 W6)
    (honly : Only (Foot b c L P) w W5) (hft : ∀ j, (v.ownBlock = some j ∨ 0 < cnt j (adel m L5) (P ++ [g]) ∨ c5.pv.ownBlock = some j) → Foot b c L P j ∨ w.heap.size ≤ j)
    (hf : Fits s.files k) (hc : Ch s.files k g) (ht : totF (turn s.files k) ≤ 16777216) (hmn : (turn s.files k).length ≤ s.works + 1) (hfb : fb (aput m (v, zs) L5) = turn s.files k) : (s.work k).1 = 0 ∧ DPost w B b S (s.work k).2 W6 := by
  refine dsx_worked hx h0 (put_gen hd5 hm5 hp5 ho5 hv hsep hasc hused hx.dc.bb (by rw [e0]; exact hx.dc.bm) hl hd hm ho) hf hc ht hmn hfb e1 e2 e3 e4 ?_ ?_
  · exact honly.trans ho (fun _ h => h) (fun k _ e => by
      rcases e with rfl | rfl
      · exact .inl rfl
      · exact .inr (.inl e0))
  · intro j hj
    rcases hj with e | e | e | e
    · exact .inl (.inl e)
    · exact .inl (.inr (.inl (by rw [← e0]; exact e)))
    · exact hft j (.inr (.inr e))
    · have h1 := cnt_put j m (v, zs) (P ++ [g]) hasc
      have h2 := cnt_del j m (P ++ [g]) hasc
      by_cases hvk : v.ownBlock = some j
      · exact hft j (.inl hvk)
      · have : own1 j v = 0 := by unfold own1; rw [if_neg hvk]
        simp only at h1
        exact hft j (.inr (.inl (by omega)))
theorem cnt_nil (k : Nat) (L : List (Key × Ent)) (P : List Chg) (g : Chg) (h : g.lost = .slice none 0 0) : cnt k L (P ++ [g]) = cnt k L P := by rw [cnt_snoc, h, own1_nil]; omega
theorem turn_app_tot (F : Fil) (hF : AAsc F) (n : Key) (l : List Int) : totF (turn F ⟨0, n, [], l, 0⟩) = totF F + l.length := by
  have h1 := totF_put n (fbytes n F ++ l) hF
  have ht : turn F ⟨0, n, [], l, 0⟩ = aput n (fbytes n F ++ l) F := rfl
  rw [ht]
  rw [List.length_append] at h1
  omega
end Go.Proofs.YtemfblhlkonlpaaDoor
