/- What undo does with a removed and with a renamed file. Conditions: the numbers are no greater than a program's may be. -/
import Derived.Test.YtemfblhlkonlpaaDoorDskJ
import Derived.Deep.QuietTactic
namespace Go.Proofs.YtemfblhlkonlpaaDoor
open Go.RowKit
open Go.Maps

theorem put_dto {w w1 w' : World} {B b : Nat} {c : Cst} {L : List (Key × Ent)} {Pf P P' : List Chg} {n : Key} {v : Value} {xs : List Int} {S : Nat → Prop} (h : DC w1 B b c L Pf P) (h0 : Only S w w1) (hv : BOwn w1 B v xs)
    (hlost : ∀ g ∈ P', g ∈ P) (hsep : ∀ k, own1 k v + cnt k L P' ≤ 1 + own1 k (valAt n L)) (hl : L.length < 2000000000) (hsb : S b) (hsm : S c.mb) (hsv : ∀ k, v.ownBlock = some k → S k ∨ w.heap.size ≤ k) (hsf : ∀ k, Foot b c L P' k → S k ∨ w.heap.size ≤ k)
    (hd : DAt w' b { c with used := c.used + ((xs.length : Int) - (bytesAt n L).length) }) (hm : MAt w' c.mb (aput n (v, xs) L)) (ho : Only (fun k => k = b ∨ k = c.mb) w1 w') :
    DTo w B b S { c with used := c.used + ((xs.length : Int) - (bytesAt n L).length) } (aput n (v, xs) L) Pf P' w' :=
  ⟨put_dc h hv hlost hsep hl hd hm ho, h0.trans ho (fun _ h => h) (fun k _ e => by
    rcases e with rfl | rfl
    · exact hsb
    · exact hsm), fun k hk => by
    rcases foot_put h.asc hk with e | e
    · exact hsv k e
    · exact hsf k e⟩
theorem own_cnt {k : Nat} {n : Key} {L : List (Key × Ent)} {P : List Chg} (h : (valAt n L).ownBlock = some k) : 0 < cnt k L P := by
  have := own1_valAt k n L
  rw [own1_self h] at this
  unfold cnt; omega
theorem undo_val_alloc {w : World} {S : Nat → Prop} (o : Obj) : Only S w (w.alloc o) := (Only.refl S w).alloc o
theorem small_bytes {L : List (Key × Ent)} {g : Chg} (h : Small L g) (n : Key) : (bytesAt n L).length ≤ 1000000000 := Nat.le_trans (bytesAt_le n L) h.tl
theorem used_range {w : World} {B b : Nat} {c : Cst} {L : List (Key × Ent)} {Pf P : List Chg} (h : DC w B b c L Pf P) (ht : tot L ≤ 1000000000) : 0 ≤ c.used ∧ c.used ≤ 1000000000 := by
  rw [h.used]; omega

set_option maxRecDepth 20000 in
set_option maxHeartbeats 2000000 in
theorem undo_rem (w : World) (B b : Nat) (c : Cst) (L : List (Key × Ent)) (Pf P : List Chg) (g : Chg) (h : DC w B b c L Pf (P ++ [g])) (hk : g.kind = 3) (hs : Small L g) :
    Calls Tryd.prog 68 #[.pointer (some ⟨b,0,none⟩), g.val] w (UndoPost w B b c L Pf P g) := by
  have hlo : BOwn w B g.lost g.xs := h.own.lost g (by simp)
  have hsz := fun n => small_bytes hs n
  have hu := used_range h hs.tl
  obtain ⟨kind, name, to, size, was, lost, xs⟩ := g
  simp only at hk
  subst hk
  replace hlo : BOwn w B lost xs := hlo
  obtain ⟨p, cap, rfl⟩ := own_slice hlo
  have hb1 : Below w.heap.size w (w.alloc (.cells #[.int .i64 3, stv name, stv to, .int .i64 size, .bool was, .slice p xs.length cap] 126)) := (Below.refl _ w).alloc (Nat.le_refl _) _
  have h1 := h.kb hb1
  have HP := Lib.hid (put_to _ b c L name p cap xs h1.d h1.m h1.ne h1.own.shp (small_key hs.n1).1 (small_len (Nat.le_succ_of_le hs.ml)).1 (Nat.le_trans hs.xl (by decide)) (Nat.le_trans (hsz name) (by decide)) hu.1 (by omega) (small_key hs.n1).2.1)
  have HD := Lib.hid h
  have HD1 := Lib.hid h1
  have HL := Lib.hid hlo
  have HS := Lib.hid hs
  have HB := Lib.hid hb1
  clear h h1 hlo hs hb1 hsz hu
  unfold Chg.val
  go_enter Tryd.func68, Tryd.ntmps68
  go_wp2_with fail
  refine HP.out.mono ?_
  rintro e w2 ⟨rfl, hd, hm, ho⟩
  have H2 := Lib.hid (And.intro hd (And.intro hm ho))
  clear hd hm ho HP
  go_wp2_with fail
  go_end0
  refine ⟨rfl, _, _, put_dto HD1.out (undo_val_alloc _) (own_kept HL.out (S := fun _ => False) (undo_val_alloc _) (fun _ _ h => h)) (fun x hx => by simp [hx]) ?_ (small_len (Nat.le_succ_of_le HS.out.ml)).2 (.inl rfl) (.inr (.inl rfl)) ?_ (fun k hk => .inl (foot_less hk)) H2.out.1 H2.out.2.1 H2.out.2.2, ?_⟩
  · intro k
    have h1 := HD.out.sep k
    rw [cnt_snoc] at h1
    simp only at h1
    omega
  · intro k hk
    refine .inl (.inr (.inr (.inr ?_)))
    rw [cnt_snoc, own1_self hk]; omega
  · rw [fb_put]; simp [undoF]
set_option maxRecDepth 20000 in
set_option maxHeartbeats 2000000 in
theorem undo_ren (w : World) (B b : Nat) (c : Cst) (L : List (Key × Ent)) (Pf P : List Chg) (g : Chg) (h : DC w B b c L Pf (P ++ [g])) (hk : g.kind = 2) (hs : Small L g) :
    Calls Tryd.prog 68 #[.pointer (some ⟨b,0,none⟩), g.val] w (UndoPost w B b c L Pf P g) := by
  have hlo : BOwn w B g.lost g.xs := h.own.lost g (by simp)
  have hsz := fun n => small_bytes hs n
  have hu := used_range h hs.tl
  obtain ⟨kind, name, to, size, was, lost, xs⟩ := g
  simp only at hk
  subst hk
  replace hlo : BOwn w B lost xs := hlo
  obtain ⟨p, cap, rfl⟩ := own_slice hlo
  have hb1 : Below w.heap.size w (w.alloc (.cells #[.int .i64 2, stv name, stv to, .int .i64 size, .bool was, .slice p xs.length cap] 126)) := (Below.refl _ w).alloc (Nat.le_refl _) _
  have h1 := h.kb hb1
  have hco := h.own.at to
  obtain ⟨p2, cap2, hv2⟩ := h.own.shp.at to
  have hlk : ∀ q, (Instr.lookup 119 (.map (some c.mb)) (stv to) false).run Tryd.prog ((w.alloc (.cells #[.int .i64 2, stv name, stv to, .int .i64 size, .bool was, .slice p xs.length cap] 126)).drewN q) = .ok (.slice p2 (bytesAt to L).length cap2) ((w.alloc (.cells #[.int .i64 2, stv name, stv to, .int .i64 size, .bool was, .slice p xs.length cap] 126)).drewN q) := fun q => by
    rw [← hv2]; exact MAt.look (w := (w.alloc (.cells #[.int .i64 2, stv name, stv to, .int .i64 size, .bool was, .slice p xs.length cap] 126)).drewN q) h1.m to (small_key hs.n2).1
  have hc1 := h1.d.c1
  have hbl := h.d.lt
  have HD := Lib.hid h
  have HD1 : Hid (∀ q, DC ((w.alloc (.cells #[.int .i64 2, stv name, stv to, .int .i64 size, .bool was, .slice p xs.length cap] 126)).drewN q) B b c L Pf (P ++ [{ kind := 2, name := name, to := to, size := size, was := was, lost := .slice p xs.length cap, xs := xs }])) := Lib.hid (fun q => h1.kept (S := fun _ => False) (Only.of_below ⟨rfl, rfl, rfl, Nat.le_refl _, fun _ _ => rfl⟩) (fun _ _ h => h))
  have HL := Lib.hid hlo
  have HCO := Lib.hid hco
  have HV := Lib.hid hv2
  have HS := Lib.hid hs
  have HB := Lib.hid hb1
  have HSZ := Lib.hid (hsz to)
  have HSN := Lib.hid (hsz name)
  have HU := Lib.hid hu
  clear h h1 hlo hs hb1 hsz hu hco hv2
  unfold Chg.val
  cases was
  case' true =>
    go_enter Tryd.func68, Tryd.ntmps68
    go_wp2_with fail
    go_quiet (fail)
    have HW : Hid (DC ((w.alloc (.cells #[.int .i64 2, stv name, stv to, .int .i64 size, .bool true, .slice p xs.length cap] 126)).drewN nq) B b c L Pf (P ++ [{ kind := 2, name := name, to := to, size := size, was := true, lost := .slice p xs.length cap, xs := xs }])) := Lib.hid (HD1.out nq)
    have HO : Hid (∀ S, Only S w ((w.alloc (.cells #[.int .i64 2, stv name, stv to, .int .i64 size, .bool true, .slice p xs.length cap] 126)).drewN nq)) := Lib.hid (fun S => ((Only.refl _ w).alloc _).trans (T := fun _ => False) (Only.of_below ⟨rfl, rfl, rfl, Nat.le_refl _, fun _ _ => rfl⟩) (fun _ h => h) (fun _ _ h => h.elim))
    have HC1 : Hid (CAt ((w.alloc (.cells #[.int .i64 2, stv name, stv to, .int .i64 size, .bool true, .slice p xs.length cap] 126)).drewN nq) w.heap.size { kind := 2, name := name, to := to, size := size, was := true, lost := .slice p xs.length cap, xs := xs }) := Lib.hid (heap_alloc_last w _)
    have HB2 : Hid ((bytesAt name (aput to (.slice p xs.length cap, xs) L)).length ≤ 2000000000) := Lib.hid (by
      have h1 := bytesAt_le name (aput to (.slice p xs.length cap, xs) L)
      have h2 := tot_put to (.slice p xs.length cap, xs) HD.out.asc
      have h3 := HS.out.tl
      have h4 := HS.out.xl
      simp only at h2 h4
      omega)
    have HU2 : Hid (0 ≤ c.used + ((xs.length : Int) - (bytesAt to L).length) ∧ c.used + ((xs.length : Int) - (bytesAt to L).length) ≤ 2305843009213693952) := Lib.hid (by
      have h1 := HU.out
      have h2 := HD.out.used
      have h3 := bytesAt_le to L
      have h4 := HS.out.xl
      simp only at h4
      omega)
    have HQ : Hid (∀ k, cnt k L P + own1 k (.slice p xs.length cap) ≤ 1) := Lib.hid (fun k => by have := HD.out.sep k; rw [cnt_snoc] at this; exact this)
    have HCO1 : Hid (BOwn ((w.alloc (.cells #[.int .i64 2, stv name, stv to, .int .i64 size, .bool true, .slice p xs.length cap] 126)).drewN nq) B (valAt to L) (bytesAt to L)) := Lib.hid (HW.out.own.at to)
    generalize (w.alloc (.cells #[.int .i64 2, stv name, stv to, .int .i64 size, .bool true, .slice p xs.length cap] 126)).drewN nq = W1 at *
    have e2 := HC1.out.c2
    have e4 := HC1.out.c4
    have e5 := HC1.out.c5
    have HP := Lib.hid (restore_put W1 b c L to p cap xs HW.out.d HW.out.m HW.out.ne HW.out.own.shp (small_key HS.out.n2).1 (small_len (Nat.le_succ_of_le HS.out.ml)).1 (Nat.le_trans HS.out.xl (by decide)) (Nat.le_trans HSZ.out (by decide)) HU.out.1 (Int.le_trans HU.out.2 (by decide)) (small_key HS.out.n2).2.1)
    clear HD1 HB hlk hc1
    go_wp2_with fail
    refine HP.out.mono ?_
    rintro e W2 ⟨rfl, hd, hm, ho⟩
    have HD2 := Lib.hid (put_dc (P' := P) HW.out (HW.out.own.lost { kind := 2, name := name, to := to, size := size, was := true, lost := .slice p xs.length cap, xs := xs } (by simp)) (fun x hx => by simp [hx]) (fun k => by have h1 := HQ.out k; show own1 k (.slice p xs.length cap) + cnt k L P ≤ _; omega) (small_len (Nat.le_succ_of_le HS.out.ml)).2 hd hm ho)
    have HC2 := Lib.hid (HC1.out.kept ho (by rintro (e | e); exact absurd e (by have := HD.out.d.lt; omega); exact absurd e (by have := HD.out.m.lt; omega)))
    have HO2 := Lib.hid ho
    have HCO2 : Hid (BOwn W2 B (valAt to L) (bytesAt to L)) := Lib.hid (own_kept HCO1.out ho (fun k hk e => by rcases e with rfl | rfl; exact HW.out.cnt_b (own_cnt hk); exact HW.out.cnt_m (own_cnt hk)))
    have e1 := HC2.out.c1
    have HP2 := Lib.hid (put_to W2 b { c with used := c.used + ((xs.length : Int) - (bytesAt to L).length) } (aput to (.slice p xs.length cap, xs) L) name p2 cap2 (bytesAt to L) HD2.out.d HD2.out.m HD2.out.ne HD2.out.own.shp (small_key HS.out.n1).1 (small_len (Nat.le_trans (aput_length _ _ _) (Nat.succ_le_succ HS.out.ml))).1 (Nat.le_trans HSZ.out (by decide)) (Nat.le_trans (HB2.out) (by decide)) (HU2.out).1 (HU2.out).2 (small_key HS.out.n1).2.1)
    clear hd hm ho HP e2 e4 e5
    go_wp2_with fail
    refine HP2.out.mono ?_
    rintro e W3 ⟨rfl, hd, hm, ho⟩
    have H3 := Lib.hid (And.intro hd (And.intro hm ho))
    clear hd hm ho HP2
    go_wp2_with fail
    go_end0
    refine ⟨rfl, _, _, put_dto (c := { c with used := c.used + ((xs.length : Int) - (bytesAt to L).length) }) (L := aput to (.slice p xs.length cap, xs) L) HD2.out ((HO.out _).trans HO2.out (fun _ h => h) (fun k _ e => by rcases e with rfl | rfl; exact .inl rfl; exact .inr (.inl rfl))) (by rw [← HV.out]; exact HCO2.out) (fun x hx => hx) ?_ (small_len (Nat.le_trans (aput_length _ _ _) (Nat.succ_le_succ HS.out.ml))).2 (.inl rfl) (.inr (.inl rfl)) ?_ ?_ H3.out.1 H3.out.2.1 H3.out.2.2, ?_⟩
    · intro k
      have h1 : cnt k L P + own1 k (.slice p xs.length cap) ≤ 1 := by have := HD.out.sep k; rw [cnt_snoc] at this; exact this
      have h2 := cnt_put k to (.slice p xs.length cap, xs) P HD.out.asc
      have h3 := own1_valAt k to L
      rw [← HV.out]
      try simp only at h2
      omega
    · intro k hk
      rw [← HV.out] at hk
      exact .inl (.inr (.inr (.inr (own_cnt hk))))
    · intro k hk
      rcases foot_put HD.out.asc hk with e | e
      · refine .inl (.inr (.inr (.inr ?_)))
        rw [cnt_snoc, own1_self e]; omega
      · exact .inl (foot_less e)
    · rw [fb_put, fb_put]; simp [undoF, fb_bytes]
  case' false =>
    go_enter Tryd.func68, Tryd.ntmps68
    go_wp2_with fail
    go_quiet (fail)
    have HW : Hid (DC ((w.alloc (.cells #[.int .i64 2, stv name, stv to, .int .i64 size, .bool false, .slice p xs.length cap] 126)).drewN nq) B b c L Pf (P ++ [{ kind := 2, name := name, to := to, size := size, was := false, lost := .slice p xs.length cap, xs := xs }])) := Lib.hid (HD1.out nq)
    have HO : Hid (∀ S, Only S w ((w.alloc (.cells #[.int .i64 2, stv name, stv to, .int .i64 size, .bool false, .slice p xs.length cap] 126)).drewN nq)) := Lib.hid (fun S => ((Only.refl _ w).alloc _).trans (T := fun _ => False) (Only.of_below ⟨rfl, rfl, rfl, Nat.le_refl _, fun _ _ => rfl⟩) (fun _ h => h) (fun _ _ h => h.elim))
    have HC1 : Hid (CAt ((w.alloc (.cells #[.int .i64 2, stv name, stv to, .int .i64 size, .bool false, .slice p xs.length cap] 126)).drewN nq) w.heap.size { kind := 2, name := name, to := to, size := size, was := false, lost := .slice p xs.length cap, xs := xs }) := Lib.hid (heap_alloc_last w _)
    have HB2 : Hid ((bytesAt name (adel to L)).length ≤ 2000000000) := Lib.hid (by
      have h1 := bytesAt_le name (adel to L)
      have h2 := tot_del to HD.out.asc
      have h3 := HS.out.tl
      omega)
    have HU2 : Hid (0 ≤ c.used - (bytesAt to L).length ∧ c.used - (bytesAt to L).length ≤ 2305843009213693952) := Lib.hid (by
      have h1 := HU.out
      have h2 := HD.out.used
      have h3 := bytesAt_le to L
      omega)
    have HQ : Hid (∀ k, cnt k L P + own1 k (.slice p xs.length cap) ≤ 1) := Lib.hid (fun k => by have := HD.out.sep k; rw [cnt_snoc] at this; exact this)
    have HCO1 : Hid (BOwn ((w.alloc (.cells #[.int .i64 2, stv name, stv to, .int .i64 size, .bool false, .slice p xs.length cap] 126)).drewN nq) B (valAt to L) (bytesAt to L)) := Lib.hid (HW.out.own.at to)
    generalize (w.alloc (.cells #[.int .i64 2, stv name, stv to, .int .i64 size, .bool false, .slice p xs.length cap] 126)).drewN nq = W1 at *
    have e2 := HC1.out.c2
    have e4 := HC1.out.c4
    have e5 := HC1.out.c5
    have HP := Lib.hid (restore_drop W1 b c L to (.slice p xs.length cap) HW.out.d HW.out.m HW.out.ne HW.out.own.shp (small_key HS.out.n2).1 (Nat.le_trans HSZ.out (by decide)) HU.out.1 (Int.le_trans HU.out.2 (by decide)))
    clear HD1 HB hlk hc1
    go_wp2_with fail
    refine HP.out.mono ?_
    rintro e W2 ⟨rfl, hd, hm, ho⟩
    have HD2 := Lib.hid (drop_dc HW.out.less hd hm ho)
    have HC2 := Lib.hid (HC1.out.kept ho (by rintro (e | e); exact absurd e (by have := HD.out.d.lt; omega); exact absurd e (by have := HD.out.m.lt; omega)))
    have HO2 := Lib.hid ho
    have HCO2 : Hid (BOwn W2 B (valAt to L) (bytesAt to L)) := Lib.hid (own_kept HCO1.out ho (fun k hk e => by rcases e with rfl | rfl; exact HW.out.cnt_b (own_cnt hk); exact HW.out.cnt_m (own_cnt hk)))
    have e1 := HC2.out.c1
    have HP2 := Lib.hid (put_to W2 b { c with used := c.used - (bytesAt to L).length } (adel to L) name p2 cap2 (bytesAt to L) HD2.out.d HD2.out.m HD2.out.ne HD2.out.own.shp (small_key HS.out.n1).1 (small_len (Nat.le_trans (adel_length _ _) (Nat.le_succ_of_le HS.out.ml))).1 (Nat.le_trans HSZ.out (by decide)) (Nat.le_trans (HB2.out) (by decide)) (HU2.out).1 (HU2.out).2 (small_key HS.out.n1).2.1)
    clear hd hm ho HP e2 e4 e5
    go_wp2_with fail
    refine HP2.out.mono ?_
    rintro e W3 ⟨rfl, hd, hm, ho⟩
    have H3 := Lib.hid (And.intro hd (And.intro hm ho))
    clear hd hm ho HP2
    go_wp2_with fail
    go_end0
    refine ⟨rfl, _, _, put_dto (c := { c with used := c.used - (bytesAt to L).length }) (L := adel to L) HD2.out ((HO.out _).trans HO2.out (fun _ h => h) (fun k _ e => by rcases e with rfl | rfl; exact .inl rfl; exact .inr (.inl rfl))) (by rw [← HV.out]; exact HCO2.out) (fun x hx => hx) ?_ (small_len (Nat.le_trans (adel_length _ _) (Nat.le_succ_of_le HS.out.ml))).2 (.inl rfl) (.inr (.inl rfl)) ?_ ?_ H3.out.1 H3.out.2.1 H3.out.2.2, ?_⟩
    · intro k
      have h1 : cnt k L P + own1 k (.slice p xs.length cap) ≤ 1 := by have := HD.out.sep k; rw [cnt_snoc] at this; exact this
      have h2 := cnt_del k to P HD.out.asc
      have h3 := own1_valAt k to L
      rw [← HV.out]
      try simp only at h2
      omega
    · intro k hk
      rw [← HV.out] at hk
      exact .inl (.inr (.inr (.inr (own_cnt hk))))
    · intro k hk
      exact .inl (foot_less (foot_drop HD.out.asc hk))
    · rw [fb_put, fb_del]; simp [undoF, fb_bytes]
end Go.Proofs.YtemfblhlkonlpaaDoor
