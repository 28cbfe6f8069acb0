/- What Append does. Conditions: the numbers are no greater than a program's may be; what is appended lies in no block of the disk. · Append. Conditions: the numbers are no greater than a program's may be; what is appended lies in no block of the disk. -/
import Derived.Test.YtbpccbhlggcmfaaGreatDoorDskR
namespace Go.Proofs.YtbpccbhlggcmfaaGreatDoor
open Go.RowKit
open Go.Maps

def St.files (s : St) : Fil := run s.kept s.pend
def St.used (s : St) : Nat := totF s.files
/-- One more work: whether the disk does it. -/
def St.work (s : St) (k : Wk) : Int × St := if s.fuse = 0 then (7, { s with dead := true }) else (0, { s with pend := s.pend ++ [k], fuse := if 0 < s.fuse then s.fuse - 1 else s.fuse, works := s.works + 1 })
def St.append (s : St) (n : Key) (l : List Int) : Int × St :=
  if okName n = false then (1, s) else if s.dead = true then (7, s) else if s.room - s.used < l.length then (6, s) else s.work ⟨0, n, [], l, 0⟩
theorem Seen.only {w w' : World} {v : Value} {l : List Int} {T : Nat → Prop} (h : Seen w v l) (ho : Only T w w') (hT : ∀ k, v.ownBlock = some k → ¬ T k) : Seen w' v l := by
  rcases h with h | ⟨a, cap, rfl, hc, hu⟩
  · exact .inl h
  · refine .inr ⟨a, cap, rfl, hc, fun j u hj => ?_⟩
    have h1 := hu j u hj
    have h2 := World.block_lt_of_cell? w _ h1
    rw [World.cell?_of_block (w := w) (ho.block _ h2 ?_)]
    · exact h1
    · rw [Addr.add_block]; exact hT _ rfl
/-- A file laid, told by its parts. -/
theorem put_gen {w1 w' : World} {B b : Nat} {c : Cst} {L : List (Key × Ent)} {Pf P : List Chg} {n : Key} {v : Value} {xs : List Int}
    (hd1 : DAt w1 b c) (hm1 : MAt w1 c.mb L) (hp1 : PAt w1 B c.pv Pf) (ho1 : Own w1 B (adel n L) P) (hv : BOwn w1 B v xs) (hsep : ∀ k, own1 k v + cnt k (adel n L) P ≤ 1) (hasc : AAsc L) (hused : c.used = (tot L : Int)) (hbb : B ≤ b) (hbm : B ≤ c.mb) (hl : L.length < 2000000000)
    (hd : DAt w' b { c with used := c.used + ((xs.length : Int) - (bytesAt n L).length) }) (hm : MAt w' c.mb (aput n (v, xs) L)) (ho : Only (fun k => k = b ∨ k = c.mb) w1 w') :
    DC w' B b { c with used := c.used + ((xs.length : Int) - (bytesAt n L).length) } (aput n (v, xs) L) Pf P := by
  have how : Own w1 B (aput n (v, xs) L) P := ⟨fun e he => by
    rcases (ains_mem _ _ _).1 he with rfl | he
    · exact hv
    · exact ho1.file e he, ho1.lost⟩
  exact {
    d := hd
    m := hm
    p := own_kept hp1 ho fun k hk e => by
      rcases e with rfl | rfl
      · exact pv_apart' hd1 hp1 _ hk rfl
      · obtain ⟨cs, hcs⟩ := own_type hp1 hk
        obtain ⟨es, clock, h1⟩ := hm1.obj
        rw [h1] at hcs
        cases hcs
    own := how.kept ho fun k hk e => by
      rcases e with rfl | rfl
      · exact own_ne how hd1 hk rfl
      · exact own_nm how hm1 hk rfl
    sep := fun k => by
      have h1 := cnt_put k n (v, xs) P hasc
      have h2 := cnt_del k n P hasc
      have h3 := hsep k
      simp only at h1; omega
    asc := hasc.put n _
    used := by
      have h1 := tot_put n (v, xs) hasc
      simp only at h1 ⊢
      omega
    bb := hbb
    bm := hbm
    many := by have := aput_length n (v, xs) L; omega }
/-- Where the struct alone has turned. -/
theorem DC.restamp {w w' : World} {B b : Nat} {c c' : Cst} {L : List (Key × Ent)} {Pf P : List Chg} (h : DC w B b c L Pf P) (hd : DAt w' b c') (hm : c'.mb = c.mb) (hu : c'.used = c.used) (hp : c'.pv = c.pv) (ho : Only (fun k => k = b) w w') : DC w' B b c' L Pf P where
  d := hd
  m := by rw [hm]; exact h.m.kept ho (fun e => h.ne e.symm)
  p := by rw [hp]; exact own_kept h.p ho (fun k hk e => h.pv_b (e ▸ hk))
  own := h.own.kept ho (fun k hk e => h.cnt_b (e ▸ hk))
  sep := h.sep
  asc := h.asc
  used := by rw [hu]; exact h.used
  bb := h.bb
  bm := by rw [hm]; exact h.bm
  many := h.many
theorem pass_mb (c : Cst) : c.pass.mb = c.mb ∧ c.pass.used = c.used ∧ c.pass.pv = c.pv ∧ c.pass.room = c.room := by unfold Cst.pass; split <;> exact ⟨rfl, rfl, rfl, rfl⟩
theorem foot_restamp {b : Nat} {c c' : Cst} {L : List (Key × Ent)} {P : List Chg} (hm : c'.mb = c.mb) (hp : c'.pv = c.pv) {k : Nat} (h : Foot b c' L P k) : Foot b c L P k := by
  unfold Foot at *; rw [hm, hp] at h; exact h
theorem DSx.used_eq {w : World} {B b : Nat} {S : Nat → Prop} {s : St} {c : Cst} {L : List (Key × Ent)} {P : List Chg} (h : DSx w B b S s c L P) : c.used = (s.used : Int) := by
  rw [h.dc.used, St.used, St.files, ← h.fb, fb_tot]
/-- The disk dies. -/
theorem dsx_die {w w' : World} {B b : Nat} {S : Nat → Prop} {s : St} {c : Cst} {L : List (Key × Ent)} {P : List Chg} (h : DSx w B b S s c L P) (h0 : s.fuse = 0) (hd : DAt w' b c.pass) (ho : Only (fun k => k = b) w w') : DPost w B b S { s with dead := true } w' := by
  have e : c.pass = { c with dead := true } := by unfold Cst.pass; rw [if_pos (by rw [h.fuse]; exact h0)]
  rw [e] at hd
  refine ⟨S, ⟨{ c with dead := true }, L, P, { dc := h.dc.restamp hd rfl rfl rfl ho, hist := h.hist, fb := h.fb, room := h.room, fuse := h.fuse, dead := rfl, works := h.works, room0 := h.room0, pl := h.pl, foot := fun k hk => h.foot k (foot_restamp rfl rfl hk), lt := fun k hk => Nat.lt_of_lt_of_le (h.lt k hk) ho.size }⟩, ho.mono (fun k _ e => by subst e; exact h.foot _ (.inl rfl)), fun k hk => .inl hk⟩
/-- One more work is done: the disk as told by its parts. -/
theorem dsx_worked {w w' : World} {B b : Nat} {S : Nat → Prop} {s : St} {c c' : Cst} {L L' : List (Key × Ent)} {P : List Chg} {k : Wk} {g : Chg} (h : DSx w B b S s c L P) (h0 : ¬ s.fuse = 0) (hdc : DC w' B b c' L' (P ++ [g]) (P ++ [g])) (hf : Fits s.files k) (hc : Ch s.files k g) (ht : totF (turn s.files k) ≤ 16777216) (hm : (turn s.files k).length ≤ s.works + 1)
    (hfb : fb L' = turn s.files k) (e1 : c'.room = c.room) (e2 : c'.fuse = c.pass.fuse) (e3 : c'.dead = c.dead) (e4 : c'.works = c.pass.works) (ho : Only (Foot b c L P) w w') (hfoot : ∀ j, Foot b c' L' (P ++ [g]) j → Foot b c L P j ∨ w.heap.size ≤ j) :
    (s.work k).1 = 0 ∧ DPost w B b S (s.work k).2 w' := by
  have hs : s.work k = (0, { s with pend := s.pend ++ [k], fuse := if 0 < s.fuse then s.fuse - 1 else s.fuse, works := s.works + 1 }) := by unfold St.work; rw [if_neg h0]
  have hp : c.pass = { c with fuse := if 0 < c.fuse then c.fuse - 1 else c.fuse, works := c.works + 1 } := by unfold Cst.pass; rw [if_neg (by rw [h.fuse]; exact h0)]
  rw [hs]
  refine ⟨rfl, _, ⟨c', L', P ++ [g], {
    dc := hdc
    hist := (h.hist.mono (Nat.le_succ _)).snoc hf hc ⟨turn_asc h.hist.last.asc k, ht, hm⟩
    fb := by rw [hfb, run_snoc]; rfl
    room := by rw [e1, h.room]
    fuse := by rw [e2, hp, ← h.fuse]
    dead := by rw [e3, h.dead]
    works := by rw [e4, hp]; simp only; rw [h.works]; omega
    room0 := h.room0
    pl := by have := h.pl; simp; omega
    foot := fun j hj => hj
    lt := fun j hj => hdc.foot_lt hj }⟩, ho.mono (fun k _ hk => h.foot k hk), fun j hj => ?_⟩
  rcases hfoot j hj with e | e
  · exact .inl (h.foot j e)
  · exact .inr e
theorem DPost.same {w w' : World} {B b : Nat} {S : Nat → Prop} {s : St} (h : DS w B b S s) (hb : Below w.heap.size w w') : DPost w B b S s w' := ⟨S, h.kb hb, Only.of_below hb, fun _ h => .inl h⟩
/-- The end of a work that lays a file. -/
theorem end_put {w W5 W6 : World} {B b : Nat} {S : Nat → Prop} {s : St} {c c5 : Cst} {L L5 : List (Key × Ent)} {P : List Chg} {k : Wk} {g : Chg} {m : Key} {v : Value} {zs : List Int} (hx : DSx w B b S s c L P) (h0 : ¬ s.fuse = 0)
    (hd5 : DAt W5 b c5) (hm5 : MAt W5 c5.mb L5) (hp5 : PAt W5 B c5.pv (P ++ [g])) (ho5 : Own W5 B (adel m L5) (P ++ [g])) (hv : BOwn W5 B v zs) (hsep : ∀ k, own1 k v + cnt k (adel m L5) (P ++ [g]) ≤ 1) (hasc : AAsc L5) (hused : c5.used = (tot L5 : Int)) (hl : L5.length < 2000000000)
    (e0 : c5.mb = c.mb) (e1 : c5.room = c.room) (e2 : c5.fuse = c.pass.fuse) (e3 : c5.dead = c.dead) (e4 : c5.works = c.pass.works) (hd : DAt W6 b { c5 with used := c5.used + ((zs.length : Int) - (bytesAt m L5).length) }) (hm : MAt W6 c5.mb (aput m (v, zs) L5)) (ho : Only (fun k => k = b ∨ k = c5.mb) W5 W6)
    (honly : Only (Foot b c L P) w W5) (hft : ∀ j, (v.ownBlock = some j ∨ 0 < cnt j (adel m L5) (P ++ [g]) ∨ c5.pv.ownBlock = some j) → Foot b c L P j ∨ w.heap.size ≤ j)
    (hf : Fits s.files k) (hc : Ch s.files k g) (ht : totF (turn s.files k) ≤ 16777216) (hmn : (turn s.files k).length ≤ s.works + 1) (hfb : fb (aput m (v, zs) L5) = turn s.files k) : (s.work k).1 = 0 ∧ DPost w B b S (s.work k).2 W6 := by
  refine dsx_worked hx h0 (put_gen hd5 hm5 hp5 ho5 hv hsep hasc hused hx.dc.bb (by rw [e0]; exact hx.dc.bm) hl hd hm ho) hf hc ht hmn hfb e1 e2 e3 e4 ?_ ?_
  · exact honly.trans ho (fun _ h => h) (fun k _ e => by
      rcases e with rfl | rfl
      · exact .inl rfl
      · exact .inr (.inl e0))
  · intro j hj
    rcases hj with e | e | e | e
    · exact .inl (.inl e)
    · exact .inl (.inr (.inl (by rw [← e0]; exact e)))
    · exact hft j (.inr (.inr e))
    · have h1 := cnt_put j m (v, zs) (P ++ [g]) hasc
      have h2 := cnt_del j m (P ++ [g]) hasc
      by_cases hvk : v.ownBlock = some j
      · exact hft j (.inl hvk)
      · have : own1 j v = 0 := by unfold own1; rw [if_neg hvk]
        simp only at h1
        exact hft j (.inr (.inl (by omega)))
theorem cnt_nil (k : Nat) (L : List (Key × Ent)) (P : List Chg) (g : Chg) (h : g.lost = .slice none 0 0) : cnt k L (P ++ [g]) = cnt k L P := by rw [cnt_snoc, h, own1_nil]; omega
theorem turn_app_tot (F : Fil) (hF : AAsc F) (n : Key) (l : List Int) : totF (turn F ⟨0, n, [], l, 0⟩) = totF F + l.length := by
  have h1 := totF_put n (fbytes n F ++ l) hF
  have ht : turn F ⟨0, n, [], l, 0⟩ = aput n (fbytes n F ++ l) F := rfl
  rw [ht]
  rw [List.length_append] at h1
  omega
end Go.Proofs.YtbpccbhlggcmfaaGreatDoor
namespace Go.Proofs.YtbpccbhlggcmfaaGreatDoor
open Go.RowKit
open Go.Maps

def AppPost (w : World) (B b : Nat) (S : Nat → Prop) (r : Int × St) (e : Ending) (w' : World) : Prop := e = .returned (enoOf r.1) ∧ DPost w B b S r.2 w'
theorem begin_at (w : World) (b : Nat) (c : Cst) (h : DAt w b c) (n : Key) (a : Addr) (cap : Nat) (ha : w.cell? a = some (stv n)) (hn : n.length ≤ 4611686018427387904) :
    Calls Tryz.prog 51 #[.pointer (some ⟨b,0,none⟩), .slice (some a) 1 cap] w fun e w' => e = .returned (if okName n = true then (if c.dead = true then eno 7 else .nilIface) else eno 1) ∧ w = w' := by
  have := begin_one w b c h n a cap ha hn
  unfold bgErr at this
  simpa using this
theorem eno_nz {k : Int} (h : k ≠ 0) : Ending.returned (eno k) = .returned (enoOf k) := by unfold enoOf; rw [if_neg h]
theorem eno_1 : Ending.returned (eno 1) = .returned (enoOf 1) := eno_nz (by decide)
theorem eno_6 : Ending.returned (eno 6) = .returned (enoOf 6) := eno_nz (by decide)
theorem eno_7 : Ending.returned (eno 7) = .returned (enoOf 7) := eno_nz (by decide)
theorem eno_11 : Ending.returned (eno 11) = .returned (enoOf 11) := eno_nz (by decide)
theorem eno_0 : Ending.returned .nilIface = .returned (enoOf 0) := rfl
/-- What is laid ahead of Append's last steps. -/
def appChg (n : Key) (L : List (Key × Ent)) : Chg := { kind := 0, name := n, to := [], size := (bytesAt n L).length, was := (aget n L).isSome, lost := .slice none 0 0, xs := [] }
set_option maxRecDepth 20000 in
set_option maxHeartbeats 2000000 in
theorem append_to (w : World) (B b : Nat) (S : Nat → Prop) (s : St) (n : Key) (u : Value) (l : List Int) (h : DS w B b S s) (hw : s.works ≤ 900000000) (hfu : s.fuse < 9223372036854775808) (hn : n.length ≤ 281474976710656) (hu : Seen w u l) (hus : ∀ k, u.ownBlock = some k → ¬ S k) (hul : l.length ≤ 140737488351232) :
    Calls Tryz.prog 59 #[.pointer (some ⟨b,0,none⟩), stv n, u] w (AppPost w B b S (s.append n l)) := by
  obtain ⟨c, L, P, hx⟩ := h
  obtain ⟨pu, cu, rfl⟩ : ∃ pu cu, u = .slice pu l.length cu := by
    rcases hu with ⟨rfl, rfl⟩ | ⟨a, cap, rfl, _⟩
    · exact ⟨none, 0, rfl⟩
    · exact ⟨_, _, rfl⟩
  have HX := Lib.hid hx
  have HU := Lib.hid hu
  have HUS := Lib.hid hus
  have b1 : Below w.heap.size w (w.alloc (.cells #[stv n] 9)) := (Below.refl _ w).alloc (Nat.le_refl _) _
  have hd1 := hx.dc.d.kb b1
  have HB1 := Lib.hid b1
  have HBG := Lib.hid (begin_at (w.alloc (.cells #[stv n] 9)) b c hd1 n ⟨w.heap.size, 0, none⟩ 1 (by rw [cell_of_row _ w.heap.size 0 _ _ _ (heap_alloc_last w _)]; rfl) (Nat.le_trans hn (by decide)))
  rw [hx.dead] at HBG
  have HPR : Hid (∀ W, Below w.heap.size w W → DPost w B b S s W) := Lib.hid (fun W hW => DPost.same ⟨c, L, P, hx⟩ hW)
  clear hx hu hus b1 hd1
  go_enter Tryz.func59, Tryz.ntmps59
  go_wp2_with fail
  generalize w.alloc (.cells #[stv n] 9) = W1 at *
  refine HBG.out.mono ?_
  rintro e w' ⟨rfl, rfl⟩
  clear HBG
  by_cases hok : okName n = true
  case' neg =>
    have hok' : okName n = false := by simpa using hok
    have ha : s.append n l = (1, s) := by unfold St.append; rw [if_pos hok']
    rw [if_neg hok]
    have HA := Lib.hid ha
    clear ha
    go_wp2_with fail
    go_ret
    exact ⟨by rw [HA.out]; exact eno_1, by rw [HA.out]; exact HPR.out _ HB1.out⟩
  case' pos =>
    have hok' : ¬ okName n = false := by simp [hok]
    rw [if_pos hok]
    by_cases hdd : s.dead = true
    case' pos =>
      have ha : s.append n l = (7, s) := by unfold St.append; rw [if_neg hok', if_pos hdd]
      rw [if_pos hdd]
      have HA := Lib.hid ha
      clear ha
      go_wp2_with fail
      go_ret
      exact ⟨by rw [HA.out]; exact eno_7, by rw [HA.out]; exact HPR.out _ HB1.out⟩
    case' neg =>
      rw [if_neg hdd]
      have HD1 := Lib.hid (HX.out.dc.kb HB1.out)
      have c0 := HD1.out.d.c0
      have c2 := HD1.out.d.c2
      rw [HX.out.room] at c0
      rw [HX.out.used_eq] at c2
      have hr := HX.out.room0
      have hub : (s.used : Int) ≤ 16777216 := by have := HX.out.hist.last.tot; unfold St.used St.files; omega
      obtain ⟨us0, hus0⟩ : ∃ x : Nat, x = s.used := ⟨_, rfl⟩
      have HUS0 := Lib.hid hus0
      rw [← hus0] at c2 hub
      clear hus0
      by_cases hsp : s.room - s.used < l.length
      case' pos =>
        have ha : s.append n l = (6, s) := by unfold St.append; rw [if_neg hok', if_neg hdd, if_pos hsp]
        have hsp' : s.room - (us0 : Int) < (l.length : Int) := by rw [HUS0.out]; exact hsp
        have HA := Lib.hid ha
        clear ha hsp
        go_wp2_with fail
        go_quiet (fail)
        go_wp2_with fail
        go_ret
        exact ⟨by rw [HA.out]; exact eno_6, by rw [HA.out]; exact HPR.out _ ⟨HB1.out.os, HB1.out.tape, HB1.out.output, HB1.out.size, HB1.out.block⟩⟩
      case' neg =>
        have ha : s.append n l = s.work ⟨0, n, [], l, 0⟩ := by unfold St.append; rw [if_neg hok', if_neg hdd, if_neg hsp]
        have hsp' : ¬ s.room - (us0 : Int) < (l.length : Int) := by rw [HUS0.out]; exact hsp
        have HA := Lib.hid ha
        clear ha
        have HSP := Lib.hid hsp
        clear hsp
        go_wp2_with fail
        go_quiet (fail)
        have HDQ := Lib.hid (HD1.out.drn nq)
        have HBQ : Hid (Below w.heap.size w (W1.drewN nq)) := Lib.hid ⟨HB1.out.os, HB1.out.tape, HB1.out.output, HB1.out.size, HB1.out.block⟩
        clear HD1 HB1 c0 c2
        generalize W1.drewN nq = W2 at *
        go_wp2_with fail
        have HPS := Lib.hid (pass_to W2 b c HDQ.out.d (by rw [HX.out.works]; omega) (by rw [HX.out.works]; omega) (by rw [HX.out.fuse]; exact hfu))
        refine HPS.out.mono ?_
        rintro e W3 ⟨rfl, hd3, ho3⟩
        clear HPS
        rw [HX.out.fuse]
        by_cases hf0 : s.fuse = 0
        case' pos =>
          rw [if_pos hf0]
          have HDI : Hid (DPost w B b S { s with dead := true } W3) := Lib.hid (by
            obtain ⟨S', h1, h2, h3⟩ := dsx_die (HX.out.kept (T := fun _ => False) (Only.of_below HBQ.out) (fun _ _ _ h => h)) hf0 hd3 ho3
            exact ⟨S', h1, (Only.of_below HBQ.out).trans h2 (fun _ h => h) (fun _ _ h => h), fun k hk => (h3 k hk).imp id (fun e => Nat.le_trans HBQ.out.size e)⟩)
          have HWK : Hid (s.work ⟨0, n, [], l, 0⟩ = (7, { s with dead := true })) := Lib.hid (by unfold St.work; rw [if_pos hf0])
          clear hd3 ho3
          go_wp2_with fail
          go_ret
          exact ⟨by rw [HA.out, HWK.out]; exact eno_7, by rw [HA.out, HWK.out]; exact HDI.out⟩
        case' neg =>
          rw [if_neg hf0]
          have HD3 := Lib.hid (HDQ.out.restamp hd3 (pass_mb c).1 (pass_mb c).2.1 (pass_mb c).2.2.1 ho3)
          have HO3 : Hid (∀ T, T b → Only T w W3) := Lib.hid (fun T hT => (Only.of_below HBQ.out).trans ho3 (fun _ h => h) (fun k _ e => e ▸ hT))
          have hc1 := HD3.out.d.c1
          have HMM : Hid (MAt W3 c.mb L) := Lib.hid (by have := HD3.out.m; rwa [(pass_mb c).1] at this)
          rw [(pass_mb c).1] at hc1
          obtain ⟨p2, cap2, hv2⟩ := HX.out.dc.own.shp.at n
          have hn20 : n.length ≤ 20 := by unfold okName at hok; simp at hok; omega
          have hlk : (Instr.lookup 67 (.map (some c.mb)) (stv n) true).run Tryz.prog W3 = .ok (.tuple #[.slice p2 (bytesAt n L).length cap2, .bool (aget n L).isSome]) W3 := by
            rw [← hv2]; exact HMM.out.lookOk n (small_key hn20).1
          have HV := Lib.hid hv2
          have HN20 := Lib.hid hn20
          clear hd3 ho3 hv2 hn20
          have HF : Hid (s.files = fb L) := Lib.hid HX.out.fb.symm
          have HPL : Hid (P.length ≤ 1000000000) := Lib.hid (by have h1 := HX.out.hist.length; have h2 := HX.out.pl; omega)
          have HPN := Lib.hid (pend_to W3 B b c.pass P (appChg n L) HD3.out.d HD3.out.p HD3.out.base HPL.out (small_key HN20.out).2.1 (by simp [appChg]) rfl)
          have HLT : Hid (tot L + l.length ≤ 16777216 ∧ L.length ≤ s.works) := Lib.hid (by
            have h1 := HSP.out
            have h2 := hr.2
            have h3 : s.used = tot L := by rw [St.used, HF.out, fb_tot]
            have h4 := HX.out.hist.last.many
            rw [← HX.out.fb, fb_length] at h4
            omega)
          go_wp2_with fail
          refine HPN.out.mono ?_
          rintro e W4 ⟨rfl, pv', hd4, hp4, ho4, hat4⟩
          have HO34 : Hid (Only (fun k => k = b ∨ c.pv.ownBlock = some k) W3 W4) := Lib.hid (by have := ho4; rwa [(pass_mb c).2.2.1] at this)
          have HAT4 : Hid (∀ k, pv'.ownBlock = some k → c.pv.ownBlock = some k ∨ W3.heap.size ≤ k) := Lib.hid (by have := hat4; rwa [(pass_mb c).2.2.1] at this)
          have HD4 := Lib.hid hd4
          have HP4 := Lib.hid hp4
          have HM4 : Hid (MAt W4 c.mb L) := Lib.hid (HMM.out.kept HO34.out (by rintro (e | e); exact HX.out.dc.ne e.symm; exact HX.out.dc.pv_m e))
          have HW4 : Hid (Own W4 B L P) := Lib.hid (HD3.out.own.kept HO34.out (fun k hk e => by rcases e with e | e; exact HX.out.dc.cnt_b (e ▸ hk); exact HX.out.dc.pv_cnt hk e))
          have HO4 : Hid (Only (Foot b c L P) w W4) := Lib.hid ((HO3.out _ (.inl rfl)).trans HO34.out (fun _ h => h) (fun k _ e => by rcases e with e | e; exact .inl e; exact .inr (.inr (.inl e))))
          have HS4 : Hid (Seen W4 (.slice pu l.length cu) l) := Lib.hid (HU.out.only HO4.out (fun k hk e => HUS.out k hk (HX.out.foot k e)))
          have HB4 : Hid (BOwn W4 B (.slice p2 (bytesAt n L).length cap2) (bytesAt n L)) := Lib.hid (by rw [← HV.out]; exact HW4.out.at n)
          have HFT : Hid ((bytesAt n L).length + l.length ≤ 140737488351232) := Lib.hid (by have h1 := bytesAt_le n L; have h2 := HLT.out; omega)
          have HBB : Hid (B ≤ W4.heap.size) := Lib.hid (Nat.le_trans HX.out.dc.base HO4.out.size)
          clear hd4 hp4 ho4 hat4 HPN hc1 hlk
          go_wp2_with (refine append_bytes (by rfl) _ _ (by rfl) B (.slice p2 (bytesAt n L).length cap2) (bytesAt n L) (by rfl) HB4.out (.slice pu l.length cu) l (by rfl) HS4.out HFT.out HBB.out ?_; intro v5 W5 own5 grow5 hat5)
          obtain ⟨zs, hz⟩ : ∃ zs, zs = bytesAt n L ++ l := ⟨_, rfl⟩
          have HZ := Lib.hid hz
          have HZL : Hid (zs.length = (bytesAt n L).length + l.length) := Lib.hid (by rw [hz, List.length_append])
          rw [← hz] at own5
          clear hz
          obtain ⟨p5, cap5, rfl⟩ := own_slice own5
          have HO45 : Hid (Only (fun k => (valAt n L).ownBlock = some k) W4 W5) := Lib.hid ((Only.refl _ W4).grown grow5 (fun k _ e => by rw [HV.out]; exact e))
          have O5 : Hid (BOwn W5 B (.slice p5 zs.length cap5) zs) := Lib.hid own5
          have A5 : Hid (∀ k, Value.ownBlock (.slice p5 zs.length cap5) = some k → (valAt n L).ownBlock = some k ∨ W4.heap.size ≤ k) := Lib.hid (fun k hk => by
            rcases hat5 with e | e
            · rw [e] at hk; exact .inl (by rw [HV.out]; exact hk)
            · rw [e] at hk; cases hk; exact .inr (Nat.le_refl _))
          clear own5 grow5 hat5
          have HVC : Hid (∀ k, (valAt n L).ownBlock = some k → 0 < cnt k L P ∧ cnt k (adel n L) P = 0) := Lib.hid (fun k hk => by
            have h1 := cnt_del k n P HX.out.dc.asc
            rw [own1_self hk] at h1
            have h2 := HX.out.dc.sep k
            omega)
          have HD5 : Hid (DAt W5 b { c.pass with pv := pv' }) := Lib.hid (HD4.out.kept HO45.out (fun e => HX.out.dc.cnt_b (HVC.out _ e).1))
          have HM5 : Hid (MAt W5 c.mb L) := Lib.hid (HM4.out.kept HO45.out (fun e => HX.out.dc.cnt_m (HVC.out _ e).1))
          have HP5 : Hid (PAt W5 B pv' (P ++ [appChg n L])) := Lib.hid (own_kept HP4.out HO45.out (fun k hk e => by
            obtain ⟨cs, hcs⟩ := own_type HP4.out hk
            obtain ⟨_, cs', h1⟩ := HW4.out.cells (HVC.out _ e).1
            rw [h1] at hcs
            simp at hcs))
          have HW5 : Hid (Own W5 B (adel n L) (P ++ [appChg n L])) := Lib.hid (by
            have h1 := (HW4.out.del n).kept HO45.out (fun k hk e => by have := (HVC.out _ e).2; omega)
            exact ⟨h1.file, fun g hg => by
              rcases List.mem_append.1 hg with hg | hg
              · exact h1.lost g hg
              · rw [List.mem_singleton.1 hg]; exact World.ownsRow_nil _ _ _ _⟩)
          have HMB := Lib.hid (pass_mb c)
          have HPT := Lib.hid (put_to W5 b { c.pass with pv := pv' } L n p5 cap5 zs HD5.out (by rw [HMB.out.1]; exact HM5.out) (by rw [HMB.out.1]; exact HX.out.dc.ne) HX.out.dc.own.shp (small_key HN20.out).1 (small_len (by have := HLT.out.2; omega)).1 (by rw [HZL.out]; exact Nat.le_trans HFT.out (by decide)) (Nat.le_trans (Nat.le_trans (Nat.le_add_right _ _) HFT.out) (by decide)) (by show 0 ≤ c.pass.used; rw [HMB.out.2.1, HX.out.dc.used]; omega) (by show c.pass.used ≤ _; rw [HMB.out.2.1, HX.out.dc.used]; have := HLT.out.1; omega) (small_key HN20.out).2.1)
          refine HPT.out.mono ?_
          rintro e W6 ⟨rfl, hd6, hm6, ho6⟩
          have HEND : Hid ((s.work ⟨0, n, [], l, 0⟩).1 = 0 ∧ DPost w B b S (s.work ⟨0, n, [], l, 0⟩).2 W6) := Lib.hid (by
            refine end_put (c5 := { c.pass with pv := pv' }) (L5 := L) (g := appChg n L) HX.out hf0 HD5.out (by rw [HMB.out.1]; exact HM5.out) HP5.out HW5.out O5.out ?_ HX.out.dc.asc (by rw [HMB.out.2.1]; exact HX.out.dc.used) (small_len (by have := HLT.out.2; omega)).2 HMB.out.1 HMB.out.2.2.2 rfl ?_ rfl hd6 hm6 ho6 ?_ ?_ ⟨by simp, HN20.out, by simp, fun h => absurd rfl h, fun h => by simp at h⟩ ?_ ?_ ?_ ?_
            · intro k
              rw [cnt_nil k _ _ _ rfl]
              have h1 := cnt_del k n P HX.out.dc.asc
              have h2 := HX.out.dc.sep k
              have h3 := own1_le k (.slice p5 zs.length cap5)
              by_cases hk : Value.ownBlock (.slice p5 zs.length cap5) = some k
              · rcases A5.out k hk with e | e
                · have := (HVC.out k e).2; omega
                · have := cnt_new HW4.out e; omega
              · have : own1 k (.slice p5 zs.length cap5) = 0 := by unfold own1; rw [if_neg hk]
                omega
            · unfold Cst.pass; rw [if_neg (by rw [HX.out.fuse]; exact hf0)]
            · exact HO4.out.trans HO45.out (fun _ h => h) (fun k _ e => .inr (.inr (.inr (HVC.out k e).1)))
            · rintro j (e | e | e)
              · rcases A5.out j e with e | e
                · exact .inl (.inr (.inr (.inr (HVC.out j e).1)))
                · exact .inr (Nat.le_trans HO4.out.size e)
              · rw [cnt_nil j _ _ _ rfl] at e
                have h1 := cnt_del j n P HX.out.dc.asc
                exact .inl (.inr (.inr (.inr (by omega))))
              · rcases HAT4.out j e with e | e
                · exact .inl (.inr (.inr (.inl e)))
                · exact .inr (Nat.le_trans (HO3.out (fun _ => True) trivial).size e)
            · refine ⟨rfl, rfl, by simp [appChg], fun _ => ⟨?_, ?_⟩, fun h => by simp at h, fun h => by simp at h, fun h => by simp at h, Nat.zero_le _⟩
              · rw [HF.out, fb_bytes]; rfl
              · rw [HF.out, fb_some]; rfl
            · rw [HF.out, turn_app_tot _ (fb_asc HX.out.dc.asc), fb_tot]; exact HLT.out.1
            · have h1 : (turn s.files ⟨0, n, [], l, 0⟩).length ≤ s.files.length + 1 := aput_length _ _ _
              have h2 := HLT.out.2
              rw [HF.out, fb_length] at h1
              rw [HF.out]; omega
            · rw [fb_put, HZ.out, HF.out]
              show aput n _ _ = aput n (fbytes n (fb L) ++ l) (fb L)
              rw [fb_bytes])
          clear hd6 hm6 ho6 HPT
          go_wp2_with fail
          go_ret
          exact ⟨by rw [HA.out, HEND.out.1]; exact eno_0, by rw [HA.out]; exact HEND.out.2⟩
end Go.Proofs.YtbpccbhlggcmfaaGreatDoor
