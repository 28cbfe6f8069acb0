/- A disk as the document tells it, and what Crash does. Conditions: the numbers are no greater than a program's may be. · What Crash does. Conditions: the numbers are no greater than a program's may be. -/
import Derived.Test.YtfneadlknieppaaGreatDoorDskH
namespace Go.Proofs.YtfneadlknieppaaGreatDoor
open Go.RowKit
open Go.Maps

/-- A disk: what is kept, and what pends. -/
structure St where
  room : Int
  kept : Fil
  pend : List Wk
  fuse : Int
  dead : Bool
  works : Nat
structure DSx (w : World) (B b : Nat) (S : Nat → Prop) (s : St) (c : Cst) (L : List (Key × Ent)) (P : List Chg) : Prop where
  dc : DC w B b c L P P
  hist : Hist s.works s.kept s.pend P
  fb : fb L = run s.kept s.pend
  room : c.room = s.room
  fuse : c.fuse = s.fuse
  dead : c.dead = s.dead
  works : c.works = (s.works : Int)
  room0 : 0 ≤ s.room ∧ s.room ≤ 16777216
  pl : s.pend.length ≤ s.works
  foot : ∀ k, Foot b c L P k → S k
  lt : ∀ k, S k → k < w.heap.size
def DS (w : World) (B b : Nat) (S : Nat → Prop) (s : St) : Prop := ∃ c L P, DSx w B b S s c L P
/-- Behind a call on a disk. -/
def DPost (w : World) (B b : Nat) (S : Nat → Prop) (s : St) (w' : World) : Prop := ∃ S', DS w' B b S' s ∧ Only S w w' ∧ ∀ k, S' k → S k ∨ w.heap.size ≤ k
theorem DSx.kept {w w' : World} {B b : Nat} {S T : Nat → Prop} {s : St} {c : Cst} {L : List (Key × Ent)} {P : List Chg} (h : DSx w B b S s c L P) (ho : Only T w w') (hS : ∀ k, S k → k < w.heap.size → ¬ T k) : DSx w' B b S s c L P :=
  { h with
    dc := h.dc.kept ho fun k hk => hS k (h.foot k hk) (h.dc.foot_lt hk)
    lt := fun k hk => Nat.lt_of_lt_of_le (h.lt k hk) ho.size }
theorem DS.kept {w w' : World} {B b : Nat} {S T : Nat → Prop} {s : St} (h : DS w B b S s) (ho : Only T w w') (hS : ∀ k, S k → k < w.heap.size → ¬ T k) : DS w' B b S s := by
  obtain ⟨c, L, P, h⟩ := h
  exact ⟨c, L, P, h.kept ho hS⟩
theorem DS.kb {w w' : World} {B b : Nat} {S : Nat → Prop} {s : St} (h : DS w B b S s) (hb : Below w.heap.size w w') : DS w' B b S s := h.kept (T := fun _ => False) (Only.of_below hb) (fun _ _ _ h => h)
def crashF (F : Fil) (ks : List Wk) (d : Nat) (cut : Int) : Fil := match ks[d]? with
  | some k => part (run F (ks.take d)) k cut
  | none => run F (ks.take d)
def St.crash (s : St) (done cut : Int) : St := { s with kept := crashF s.kept s.pend (done % ((s.pend.length : Int) + 1)).toNat cut, pend := [], fuse := -1, dead := false }
theorem totF_put (n : Key) (xs : List Int) {F : Fil} (h : AAsc F) : totF (aput n xs F) + (fbytes n F).length = xs.length + totF F := by
  have h1 := asum_put List.length n xs h
  unfold totF fbytes
  rw [← h1]
  cases aget n F <;> rfl
theorem aput_length_eq (n : Key) (xs ys : List Int) (F : Fil) : (aput n xs F).length = (aput n ys F).length := by rw [aput, aput, ains_length, ains_length]
theorem part_small {N : Nat} {F : Fil} {k : Wk} (cut : Int) (h1 : SmF N F) (h2 : SmF N (turn F k)) : SmF N (part F k cut) := by
  unfold part
  by_cases k0 : k.kind = 0
  · rw [if_pos k0]
    have ht : turn F k = aput k.name (fbytes k.name F ++ k.bs) F := by unfold turn; rw [if_pos k0]
    rw [ht] at h2
    split
    · exact h1
    · refine ⟨h1.asc.put _ _, ?_, ?_⟩
      · have e1 := totF_put k.name (fbytes k.name F ++ k.bs.take (cut % ((k.bs.length : Int) + 1)).toNat) h1.asc
        have e2 := totF_put k.name (fbytes k.name F ++ k.bs) h1.asc
        have e3 := h2.tot
        rw [List.length_append, List.length_take] at e1
        rw [List.length_append] at e2
        omega
      · rw [aput_length_eq _ _ (fbytes k.name F ++ k.bs)]; exact h2.many
  · rw [if_neg k0]; exact h1
/-- All that pended is forgotten. -/
theorem DC.synced {w w' : World} {B b : Nat} {c c' : Cst} {L : List (Key × Ent)} {Pf P : List Chg} (h : DC w B b c L Pf P) (hd : DAt w' b c') (hm : c'.mb = c.mb) (hu : c'.used = c.used) (hp : c'.pv = .slice none 0 0) (ho : Only (fun k => k = b) w w') : DC w' B b c' L [] [] where
  d := hd
  m := by rw [hm]; exact h.m.kept ho (fun e => h.ne e.symm)
  p := by rw [hp]; exact World.ownsRow_nil _ _ _ _
  own := ⟨fun e he => own_kept (h.own.file e he) ho fun k hk e2 => by
    subst e2
    have := cntL_mem (k := k) he
    rw [own1_self hk] at this
    exact h.cnt_b (by unfold cnt; omega), fun g hg => by cases hg⟩
  sep := fun k => by have := h.sep k; unfold cnt at this ⊢; simp only [cntP, List.map_nil, List.sum_nil]; omega
  asc := h.asc
  used := by rw [hu]; exact h.used
  bb := h.bb
  bm := by rw [hm]; exact h.bm
  many := h.many
theorem crow_at {P : List Chg} {j i : Nat} (hj : j < P.length) (hi : i < 6) : (crows P)[j * 6 + i]? = P[j].row[i]? := by
  induction P generalizing j with
  | nil => simp at hj
  | cons g P ih =>
    have hl : g.row.length = 6 := rfl
    have e : crows (g :: P) = g.row ++ crows P := rfl
    rw [e]
    cases j with
    | zero => rw [Nat.zero_mul, Nat.zero_add, List.getElem?_append_left (by omega)]; rfl
    | succ j =>
      rw [List.getElem?_append_right (by omega), hl, show (j + 1) * 6 + i - 6 = j * 6 + i by omega, ih (by simpa using hj)]
      rfl
theorem crow_cell {w : World} {B g n cap : Nat} {P : List Chg} (h : PAt w B (.slice (some ⟨g, 0, none⟩) n cap) P) {j : Nat} (hj : j < P.length) {i : Nat} (hi : i < 6) : w.cell? ⟨g, j * 6 + i, none⟩ = P[j].row[i]? := by
  have h1 : P[j].row[i]? = some (P[j].row[i]'hi) := List.getElem?_eq_getElem _
  rw [h1]
  have h2 := h.cells (g := g) rfl (j * 6 + i) _ (by rw [crow_at hj hi, h1])
  rw [Addr.add_lit, Nat.zero_add] at h2
  exact h2
theorem hist_undoable {N : Nat} {F : Fil} {ks : List Wk} {P : List Chg} {L : List (Key × Ent)} {j : Nat} (h : Hist N F ks P) (hN : N ≤ 1000000000) (hj : j < P.length) (hk : j < ks.length) (hf : fb L = run F (ks.take (j + 1))) :
    Undoable L P[j] ∧ undoF P[j] (fb L) = run F (ks.take j) ∧ ∀ cut, tearF P[j] cut (fb L) = part (run F (ks.take j)) ks[j] cut := by
  obtain ⟨h1, h2, h3⟩ := h.at j hk hj
  have h4 := (h.take (j + 1)).last
  rw [← hf] at h4
  have h5 := hf
  rw [run_take_succ _ _ hk] at h5
  refine ⟨⟨⟨by rw [h3.name]; exact h2.n1, h3.n2, ?_, ?_, ?_⟩, ?_, ?_⟩, by rw [h5]; exact undo_turn h1.asc h2 h3, fun cut => by rw [h5]; exact tear_turn cut h1.asc h2 h3⟩
  · have := h4.tot; rw [fb_tot] at this; omega
  · have := h3.xl; have := h1.tot; omega
  · have := h4.many; rw [fb_length] at this; omega
  · have := h2.kind; rw [h3.kind]; omega
  · intro h0
    have k0 : ks[j].kind = 0 := by have := h3.kind; omega
    obtain ⟨hs, _⟩ := h3.a1 k0
    have ht : turn (run F (ks.take j)) ks[j] = aput ks[j].name (fbytes ks[j].name (run F (ks.take j)) ++ ks[j].bs) (run F (ks.take j)) := by unfold turn; rw [if_pos k0]
    rw [← fb_bytes, h5, h3.name, ht, fbytes_put_same, hs, List.length_append]; omega
theorem take_step {α : Type} {P : List α} {j : Nat} (hj : j < P.length) : P.take (j + 1) = P.take j ++ [P[j]] := by
  rw [List.take_add_one, List.getElem?_eq_getElem hj]; rfl
end Go.Proofs.YtfneadlknieppaaGreatDoor
namespace Go.Proofs.YtfneadlknieppaaGreatDoor
open Go.RowKit
open Go.Maps

theorem crash_mod {n : Nat} (done : Int) (hn : n ≤ 1000000000) : ∃ d : Nat, (d : Int) = done % ((n : Int) + 1) ∧ d ≤ n ∧ (done % ((n : Int) + 1)).toNat = d := by
  have h0 := Int.emod_nonneg done (show (n : Int) + 1 ≠ 0 by omega)
  have h1 := Int.emod_lt_of_pos done (show (0 : Int) < (n : Int) + 1 by omega)
  exact ⟨(done % ((n : Int) + 1)).toNat, by omega, by omega, rfl⟩
/-- What the loop of Crash keeps. -/
structure CrLoop (w wr : World) (B b : Nat) (c : Cst) (L0 : List (Key × Ent)) (P : List Chg) (F : Fil) (ks : List Wk) (i : Nat) (u : Int) (L : List (Key × Ent)) : Prop where
  dc : DC wr B b { c with used := u } L P (P.take i)
  fb : fb L = run F (ks.take i)
  only : Only (Foot b c L0 P) w wr
  foot : ∀ k, Foot b { c with used := u } L (P.take i) k → Foot b c L0 P k ∨ w.heap.size ≤ k
theorem crash_fin {w w1 : World} {B b : Nat} {S : Nat → Prop} {s : St} {c : Cst} {L0 L : List (Key × Ent)} {P Pl : List Chg} {u : Int} (hx : DSx w B b S s c L0 P) (h : DC w1 B b { c with used := u } L P Pl) (ho : Only (Foot b c L0 P) w w1)
    (hfoot : ∀ k, Foot b { c with used := u } L Pl k → Foot b c L0 P k ∨ w.heap.size ≤ k) (F' : Fil) (hf : fb L = F') (hs : SmF s.works F') :
    DPost w B b S { s with kept := F', pend := [], fuse := -1, dead := false } (((w1.setCell ⟨b, 3, none⟩ (.slice none 0 0)).setCell ⟨b, 4, none⟩ (.int .i64 (-1))).setCell ⟨b, 5, none⟩ (.bool false)) := by
  have o2 : Only (fun k => k = b) w1 (((w1.setCell ⟨b, 3, none⟩ (.slice none 0 0)).setCell ⟨b, 4, none⟩ (.int .i64 (-1))).setCell ⟨b, 5, none⟩ (.bool false)) := (((Only.refl _ w1).one (S := fun k => k = b) rfl _).one rfl _).one rfl _
  have hd := ((h.d.set3 (.slice none 0 0)).set4 (-1)).set5 false
  refine ⟨_, ⟨_, L, [], ⟨h.synced hd rfl rfl rfl o2, hs, hf, hx.room, rfl, rfl, hx.works, hx.room0, Nat.zero_le _, fun k hk => hk, fun k hk => (h.synced hd rfl rfl rfl o2).foot_lt hk⟩⟩, ?_, ?_⟩
  · exact (ho.trans o2 (fun _ h => h) (fun k _ e => .inl e)).mono (fun k _ hk => hx.foot k hk)
  · intro k hk
    have hk2 : Foot b { c with used := u } L Pl k := by
      rcases hk with e | e | e | e
      · exact .inl e
      · exact .inr (.inl e)
      · simp [Value.ownBlock] at e
      · refine .inr (.inr (.inr ?_))
        unfold cnt at e ⊢
        simp only [cntP, List.map_nil, List.sum_nil] at e
        omega
    rcases hfoot k hk2 with e | e
    · exact .inl (hx.foot k e)
    · exact .inr e
set_option maxRecDepth 20000 in
set_option maxHeartbeats 2000000 in
theorem crash_to (w : World) (B b : Nat) (S : Nat → Prop) (s : St) (done cut : Int) (h : DS w B b S s) (hw : s.works ≤ 1000000000) :
    Calls Tryz.prog 11 #[.pointer (some ⟨b,0,none⟩), .int .i64 done, .int .i64 cut] w fun e w' => e = .returned (.tuple #[]) ∧ DPost w B b S (s.crash done cut) w' := by
  obtain ⟨c, L0, P, hx⟩ := h
  have hpl := hx.hist.length
  have hln := hx.pl
  obtain ⟨n, hn⟩ : ∃ n, n = P.length := ⟨_, rfl⟩
  have hn9 : n ≤ 1000000000 := by omega
  obtain ⟨d, hd, hdn, hdd⟩ := crash_mod done hn9
  have HX := Lib.hid hx
  have HN := Lib.hid hn
  have HKN : Hid (n = s.pend.length) := Lib.hid (by omega)
  obtain ⟨p, cap, hpv⟩ := own_slice hx.dc.p
  rw [← hn] at hpv
  have HPV := Lib.hid hpv
  have c3 := hx.dc.d.c3
  rw [hpv] at c3
  have HM := Lib.hid (fun W => by have := modulo_to W done ((n : Int) + 1) (by omega) (by omega); rw [← hd] at this; exact this)
  have HDD : Hid ((done % ((s.pend.length : Int) + 1)).toNat = d) := Lib.hid (by rw [← HKN.out]; exact hdd)
  have HW := Lib.hid hw
  have HS : Hid (CrLoop w w B b c L0 P s.kept s.pend n c.used L0) := Lib.hid ⟨by rw [hn, List.take_length]; exact hx.dc, by rw [HKN.out, List.take_length]; exact hx.fb, Only.refl _ _, fun k hk => .inl (by rw [hn, List.take_length] at hk; exact hk)⟩
  clear hx hpl hln hpv hw hd hdd hn
  go_enter Tryz.func11, Tryz.ntmps11
  go_wp2_with fail
  refine (HM.out _).mono ?_
  rintro e w' ⟨rfl, rfl⟩
  go_wp2_with fail
  clear c3 HM
  go_loopw [6] (fun k wr => ∃ (i : Nat) (u : Int) (L : List (Key × Ent)), i ≤ n ∧ (d + 1 ≤ i ∨ i = n) ∧ k = .int .i64 ((i : Int) - 1) ∧ Hid (CrLoop w wr B b c L0 P s.kept s.pend i u L)) (fun k _ => (intOf k + 1).toNat)
  case atStart => exact ⟨n, c.used, L0, Nat.le_refl _, .inr rfl, rfl, HS⟩
  case round =>
    obtain ⟨i, u, L, hin, hdi, rfl, HC⟩ := hrel
    have c3 := HC.out.dc.d.c3
    simp only [HPV.out] at c3
    by_cases hgt : d + 1 < i
    · obtain ⟨j, hj⟩ : ∃ j, i = j + 1 := ⟨i - 1, by omega⟩
      subst hj
      have hji : ((j + 1 : Nat) : Int) - 1 = (j : Int) := by omega
      rw [hji]
      have hdj : (d : Int) < (j : Int) := by omega
      have hjn : j < n := by omega
      have hjn' : (j : Int) < n := by omega
      have hj0 : 0 ≤ (j : Int) := by omega
      have hjw : IntKind.i64.wrap (j : Int) = (j : Int) := IntWalk.i64_in _ (by omega)
      have hjP : j < P.length := by rw [← HN.out]; exact hjn
      have hjK : j < s.pend.length := by rw [← HKN.out]; exact hjn
      have hp := HC.out.dc.p
      simp only [HPV.out] at hp
      obtain ⟨g, rfl⟩ : ∃ g, p = some ⟨g, 0, none⟩ := by
        rcases hp.2 with ⟨_, h0⟩ | ⟨g, cap', cur, he, _⟩
        · omega
        · cases he; exact ⟨g, rfl⟩
      have hcell := fun (i : Nat) (hi : i < 6) => crow_cell hp hjP hi
      have e0 := hcell 0 (by omega)
      have e1 := hcell 1 (by omega)
      have e2 := hcell 2 (by omega)
      have e3 := hcell 3 (by omega)
      have e4 := hcell 4 (by omega)
      have e5 := hcell 5 (by omega)
      simp only [Chg.row, Nat.add_zero, List.getElem?_cons_zero, List.getElem?_cons_succ] at e0 e1 e2 e3 e4 e5
      obtain ⟨hun, hund, hunt⟩ := hist_undoable HX.out.hist HW.out hjP hjK HC.out.fb
      have hdc := HC.out.dc
      rw [take_step hjP] at hdc
      have HU := Lib.hid (undo_to wr B b _ L P (P.take j) P[j] hdc hun)
      have HUF := Lib.hid hund
      have HF : Hid (∀ k, Foot b { c with used := u } L (P.take j ++ [P[j]]) k → Foot b c L0 P k ∨ w.heap.size ≤ k) := Lib.hid (fun k hk => HC.out.foot k (by rw [take_step hjP]; exact hk))
      have HJP := Lib.hid hjP
      clear hcell hp hun hund hunt hdc
      unfold Chg.val at HU
      generalize P[j] = gj at *
      clear hjP hjK
      go_wp2_with fail
      refine HU.out.mono ?_
      rintro e w2 ⟨rfl, u2, L2, hdt, hf⟩
      have HC2 : Hid (CrLoop w w2 B b c L0 P s.kept s.pend j u2 L2) := Lib.hid ⟨hdt.1, by rw [hf, HUF.out], HC.out.only.trans hdt.2.1 (fun _ h => h) (fun k hk e => by
        rcases HF.out k e with e | e
        · exact e
        · omega), fun k hk => by
        rcases hdt.2.2 k hk with e | e
        · exact HF.out k e
        · exact .inr (Nat.le_trans HC.out.only.size e)⟩
      clear hdt hf
      go_wp2_with fail
      refine ⟨⟨j, u2, L2, by omega, by omega, by go_num, HC2⟩, by simp [intOf]⟩
    · have hgt' : ¬ (d : Int) < (i : Int) - 1 := by omega
      by_cases hdl : d < n
      · obtain rfl : i = d + 1 := by omega
        have hdl' : (d : Int) < n := by omega
        have hj0 : 0 ≤ (d : Int) := by omega
        have hjP : d < P.length := by rw [← HN.out]; exact hdl
        have hjK : d < s.pend.length := by rw [← HKN.out]; exact hdl
        have hp := HC.out.dc.p
        simp only [HPV.out] at hp
        obtain ⟨g, rfl⟩ : ∃ g, p = some ⟨g, 0, none⟩ := by
          rcases hp.2 with ⟨_, h0⟩ | ⟨g, cap', cur, he, _⟩
          · omega
          · cases he; exact ⟨g, rfl⟩
        have hcell := fun (i : Nat) (hi : i < 6) => crow_cell hp hjP hi
        have e0 := hcell 0 (by omega)
        have e1 := hcell 1 (by omega)
        have e2 := hcell 2 (by omega)
        have e3 := hcell 3 (by omega)
        have e4 := hcell 4 (by omega)
        have e5 := hcell 5 (by omega)
        simp only [Chg.row, Nat.add_zero, List.getElem?_cons_zero, List.getElem?_cons_succ] at e0 e1 e2 e3 e4 e5
        obtain ⟨hun, hund, hunt⟩ := hist_undoable HX.out.hist HW.out hjP hjK HC.out.fb
        have hdc := HC.out.dc
        rw [take_step hjP] at hdc
        have HU := Lib.hid (tear_to wr B b _ L P (P.take d) P[d] cut hdc hun)
        have HUF := Lib.hid (hunt cut)
        have HF : Hid (∀ k, Foot b { c with used := u } L (P.take d ++ [P[d]]) k → Foot b c L0 P k ∨ w.heap.size ≤ k) := Lib.hid (fun k hk => HC.out.foot k (by rw [take_step hjP]; exact hk))
        have HCF : Hid (crashF s.kept s.pend d cut = part (run s.kept (s.pend.take d)) s.pend[d] cut) := Lib.hid (by unfold crashF; rw [List.getElem?_eq_getElem hjK])
        have HSM : Hid (SmF s.works (part (run s.kept (s.pend.take d)) s.pend[d] cut)) := Lib.hid (by
          have h1 := (HX.out.hist.take (d + 1)).last
          rw [run_take_succ _ _ hjK] at h1
          exact part_small cut (HX.out.hist.at d hjK hjP).1 h1)
        clear hcell hp hun hund hunt hdc
        unfold Chg.val at HU
        generalize P[d] = gj at *
        generalize part (run s.kept (s.pend.take d)) s.pend[d] cut = F' at *
        clear hjP hjK
        go_wp2_with fail
        refine HU.out.mono ?_
        rintro e w2 ⟨rfl, u2, L2, hdt, hf⟩
        have HO2 : Hid (Only (Foot b c L0 P) w w2) := Lib.hid (HC.out.only.trans hdt.2.1 (fun _ h => h) (fun k hk e => by
          rcases HF.out k e with e | e
          · exact e
          · omega))
        have HF2 : Hid (∀ k, Foot b { c with used := u2 } L2 (P.take d) k → Foot b c L0 P k ∨ w.heap.size ≤ k) := Lib.hid (fun k hk => by
          rcases hdt.2.2 k hk with e | e
          · exact HF.out k e
          · exact .inr (Nat.le_trans HC.out.only.size e))
        have HD2 := Lib.hid hdt.1
        have HFB := Lib.hid hf
        have c3' := hdt.1.d.c3
        have c4' := hdt.1.d.c4
        have c5' := hdt.1.d.c5
        have f3 := hdt.1.d.fz 3
        have f4 := hdt.1.d.fz 4
        have f5 := hdt.1.d.fz 5
        clear hdt hf e0 e1 e2 e3 e4 e5 c3
        go_wp2_with fail
        go_end0
        refine ⟨rfl, ?_⟩
        have := crash_fin HX.out HD2.out HO2.out HF2.out F' (by rw [HFB.out, HUF.out]) HSM.out
        rw [← HCF.out, ← HDD.out] at this
        exact this
      · obtain rfl : i = n := by omega
        have hdn2 : d = i := by omega
        have hdl' : ¬ (d : Int) < i := by omega
        have HCF : Hid (crashF s.kept s.pend d cut = run s.kept (s.pend.take i)) := Lib.hid (by unfold crashF; rw [List.getElem?_eq_none (by rw [← HKN.out]; omega), hdn2])
        have HSM : Hid (SmF s.works (run s.kept (s.pend.take i))) := Lib.hid ((HX.out.hist.take i).last)
        have c4' := HC.out.dc.d.c4
        have c5' := HC.out.dc.d.c5
        have f3 := HC.out.dc.d.fz 3
        have f4 := HC.out.dc.d.fz 4
        have f5 := HC.out.dc.d.fz 5
        clear hdn2
        go_wp2_with fail
        go_end0
        refine ⟨rfl, ?_⟩
        have := crash_fin HX.out HC.out.dc HC.out.only HC.out.foot _ HC.out.fb HSM.out
        rw [← HCF.out, ← HDD.out] at this
        exact this
end Go.Proofs.YtfneadlknieppaaGreatDoor
