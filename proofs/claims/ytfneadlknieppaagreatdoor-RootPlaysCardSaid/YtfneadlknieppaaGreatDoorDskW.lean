/- What undo does with a removed and with a renamed file. Conditions: the numbers are no greater than a program's may be. · What undo does with an appended and with a truncated file. Conditions: the numbers are no greater than a program's may be. · What undo does with an appended file. Conditions: the numbers are no greater than a program's may be. -/
import Derived.Test.YtfneadlknieppaaGreatDoorDskJ
import Derived.Deep.QuietTactic
import Derived.Test.YtfneadlknieppaaGreatDoorGenApp
import Derived.Deep.RegionHeld3
namespace Go.Proofs.YtfneadlknieppaaGreatDoor
open Go.RowKit
open Go.Maps

theorem put_dto {w w1 w' : World} {B b : Nat} {c : Cst} {L : List (Key × Ent)} {Pf P P' : List Chg} {n : Key} {v : Value} {xs : List Int} {S : Nat → Prop} (h : DC w1 B b c L Pf P) (h0 : Only S w w1) (hv : BOwn w1 B v xs)
    (hlost : ∀ g ∈ P', g ∈ P) (hsep : ∀ k, own1 k v + cnt k L P' ≤ 1 + own1 k (valAt n L)) (hl : L.length < 2000000000) (hsb : S b) (hsm : S c.mb) (hsv : ∀ k, v.ownBlock = some k → S k ∨ w.heap.size ≤ k) (hsf : ∀ k, Foot b c L P' k → S k ∨ w.heap.size ≤ k)
    (hd : DAt w' b { c with used := c.used + ((xs.length : Int) - (bytesAt n L).length) }) (hm : MAt w' c.mb (aput n (v, xs) L)) (ho : Only (fun k => k = b ∨ k = c.mb) w1 w') :
    DTo w B b S { c with used := c.used + ((xs.length : Int) - (bytesAt n L).length) } (aput n (v, xs) L) Pf P' w' :=
  ⟨put_dc h hv hlost hsep hl hd hm ho, h0.trans ho (fun _ h => h) (fun k _ e => by
    rcases e with rfl | rfl
    · exact hsb
    · exact hsm), fun k hk => by
    rcases foot_put h.asc hk with e | e
    · exact hsv k e
    · exact hsf k e⟩
theorem own_cnt {k : Nat} {n : Key} {L : List (Key × Ent)} {P : List Chg} (h : (valAt n L).ownBlock = some k) : 0 < cnt k L P := by
  have := own1_valAt k n L
  rw [own1_self h] at this
  unfold cnt; omega
theorem undo_val_alloc {w : World} {S : Nat → Prop} (o : Obj) : Only S w (w.alloc o) := (Only.refl S w).alloc o
theorem small_bytes {L : List (Key × Ent)} {g : Chg} (h : Small L g) (n : Key) : (bytesAt n L).length ≤ 1000000000 := Nat.le_trans (bytesAt_le n L) h.tl
theorem used_range {w : World} {B b : Nat} {c : Cst} {L : List (Key × Ent)} {Pf P : List Chg} (h : DC w B b c L Pf P) (ht : tot L ≤ 1000000000) : 0 ≤ c.used ∧ c.used ≤ 1000000000 := by
  rw [h.used]; omega

set_option maxRecDepth 20000 in
set_option maxHeartbeats 2000000 in
theorem undo_rem (w : World) (B b : Nat) (c : Cst) (L : List (Key × Ent)) (Pf P : List Chg) (g : Chg) (h : DC w B b c L Pf (P ++ [g])) (hk : g.kind = 3) (hs : Small L g) :
    Calls Tryz.prog 31 #[.pointer (some ⟨b,0,none⟩), g.val] w (UndoPost w B b c L Pf P g) := by
  have hlo : BOwn w B g.lost g.xs := h.own.lost g (by simp)
  have hsz := fun n => small_bytes hs n
  have hu := used_range h hs.tl
  obtain ⟨kind, name, to, size, was, lost, xs⟩ := g
  simp only at hk
  subst hk
  replace hlo : BOwn w B lost xs := hlo
  obtain ⟨p, cap, rfl⟩ := own_slice hlo
  have hb1 : Below w.heap.size w (w.alloc (.cells #[.int .i64 3, stv name, stv to, .int .i64 size, .bool was, .slice p xs.length cap] 74)) := (Below.refl _ w).alloc (Nat.le_refl _) _
  have h1 := h.kb hb1
  have HP := Lib.hid (put_to _ b c L name p cap xs h1.d h1.m h1.ne h1.own.shp (small_key hs.n1).1 (small_len (Nat.le_succ_of_le hs.ml)).1 (Nat.le_trans hs.xl (by decide)) (Nat.le_trans (hsz name) (by decide)) hu.1 (by omega) (small_key hs.n1).2.1)
  have HD := Lib.hid h
  have HD1 := Lib.hid h1
  have HL := Lib.hid hlo
  have HS := Lib.hid hs
  have HB := Lib.hid hb1
  clear h h1 hlo hs hb1 hsz hu
  unfold Chg.val
  go_enter Tryz.func31, Tryz.ntmps31
  go_wp2_with fail
  refine HP.out.mono ?_
  rintro e w2 ⟨rfl, hd, hm, ho⟩
  have H2 := Lib.hid (And.intro hd (And.intro hm ho))
  clear hd hm ho HP
  go_wp2_with fail
  go_end0
  refine ⟨rfl, _, _, put_dto HD1.out (undo_val_alloc _) (own_kept HL.out (S := fun _ => False) (undo_val_alloc _) (fun _ _ h => h)) (fun x hx => by simp [hx]) ?_ (small_len (Nat.le_succ_of_le HS.out.ml)).2 (.inl rfl) (.inr (.inl rfl)) ?_ (fun k hk => .inl (foot_less hk)) H2.out.1 H2.out.2.1 H2.out.2.2, ?_⟩
  · intro k
    have h1 := HD.out.sep k
    rw [cnt_snoc] at h1
    simp only at h1
    omega
  · intro k hk
    refine .inl (.inr (.inr (.inr ?_)))
    rw [cnt_snoc, own1_self hk]; omega
  · rw [fb_put]; simp [undoF]
set_option maxRecDepth 20000 in
set_option maxHeartbeats 2000000 in
theorem undo_ren (w : World) (B b : Nat) (c : Cst) (L : List (Key × Ent)) (Pf P : List Chg) (g : Chg) (h : DC w B b c L Pf (P ++ [g])) (hk : g.kind = 2) (hs : Small L g) :
    Calls Tryz.prog 31 #[.pointer (some ⟨b,0,none⟩), g.val] w (UndoPost w B b c L Pf P g) := by
  have hlo : BOwn w B g.lost g.xs := h.own.lost g (by simp)
  have hsz := fun n => small_bytes hs n
  have hu := used_range h hs.tl
  obtain ⟨kind, name, to, size, was, lost, xs⟩ := g
  simp only at hk
  subst hk
  replace hlo : BOwn w B lost xs := hlo
  obtain ⟨p, cap, rfl⟩ := own_slice hlo
  have hb1 : Below w.heap.size w (w.alloc (.cells #[.int .i64 2, stv name, stv to, .int .i64 size, .bool was, .slice p xs.length cap] 74)) := (Below.refl _ w).alloc (Nat.le_refl _) _
  have h1 := h.kb hb1
  have hco := h.own.at to
  obtain ⟨p2, cap2, hv2⟩ := h.own.shp.at to
  have hlk : ∀ q, (Instr.lookup 68 (.map (some c.mb)) (stv to) false).run Tryz.prog ((w.alloc (.cells #[.int .i64 2, stv name, stv to, .int .i64 size, .bool was, .slice p xs.length cap] 74)).drewN q) = .ok (.slice p2 (bytesAt to L).length cap2) ((w.alloc (.cells #[.int .i64 2, stv name, stv to, .int .i64 size, .bool was, .slice p xs.length cap] 74)).drewN q) := fun q => by
    rw [← hv2]; exact MAt.look (w := (w.alloc (.cells #[.int .i64 2, stv name, stv to, .int .i64 size, .bool was, .slice p xs.length cap] 74)).drewN q) h1.m to (small_key hs.n2).1
  have hc1 := h1.d.c1
  have hbl := h.d.lt
  have HD := Lib.hid h
  have HD1 : Hid (∀ q, DC ((w.alloc (.cells #[.int .i64 2, stv name, stv to, .int .i64 size, .bool was, .slice p xs.length cap] 74)).drewN q) B b c L Pf (P ++ [{ kind := 2, name := name, to := to, size := size, was := was, lost := .slice p xs.length cap, xs := xs }])) := Lib.hid (fun q => h1.kept (S := fun _ => False) (Only.of_below ⟨rfl, rfl, rfl, Nat.le_refl _, fun _ _ => rfl⟩) (fun _ _ h => h))
  have HL := Lib.hid hlo
  have HCO := Lib.hid hco
  have HV := Lib.hid hv2
  have HS := Lib.hid hs
  have HB := Lib.hid hb1
  have HSZ := Lib.hid (hsz to)
  have HSN := Lib.hid (hsz name)
  have HU := Lib.hid hu
  clear h h1 hlo hs hb1 hsz hu hco hv2
  unfold Chg.val
  cases was
  case' true =>
    go_enter Tryz.func31, Tryz.ntmps31
    go_wp2_with fail
    go_quiet (fail)
    have HW : Hid (DC ((w.alloc (.cells #[.int .i64 2, stv name, stv to, .int .i64 size, .bool true, .slice p xs.length cap] 74)).drewN nq) B b c L Pf (P ++ [{ kind := 2, name := name, to := to, size := size, was := true, lost := .slice p xs.length cap, xs := xs }])) := Lib.hid (HD1.out nq)
    have HO : Hid (∀ S, Only S w ((w.alloc (.cells #[.int .i64 2, stv name, stv to, .int .i64 size, .bool true, .slice p xs.length cap] 74)).drewN nq)) := Lib.hid (fun S => ((Only.refl _ w).alloc _).trans (T := fun _ => False) (Only.of_below ⟨rfl, rfl, rfl, Nat.le_refl _, fun _ _ => rfl⟩) (fun _ h => h) (fun _ _ h => h.elim))
    have HC1 : Hid (CAt ((w.alloc (.cells #[.int .i64 2, stv name, stv to, .int .i64 size, .bool true, .slice p xs.length cap] 74)).drewN nq) w.heap.size { kind := 2, name := name, to := to, size := size, was := true, lost := .slice p xs.length cap, xs := xs }) := Lib.hid (heap_alloc_last w _)
    have HB2 : Hid ((bytesAt name (aput to (.slice p xs.length cap, xs) L)).length ≤ 2000000000) := Lib.hid (by
      have h1 := bytesAt_le name (aput to (.slice p xs.length cap, xs) L)
      have h2 := tot_put to (.slice p xs.length cap, xs) HD.out.asc
      have h3 := HS.out.tl
      have h4 := HS.out.xl
      simp only at h2 h4
      omega)
    have HU2 : Hid (0 ≤ c.used + ((xs.length : Int) - (bytesAt to L).length) ∧ c.used + ((xs.length : Int) - (bytesAt to L).length) ≤ 2305843009213693952) := Lib.hid (by
      have h1 := HU.out
      have h2 := HD.out.used
      have h3 := bytesAt_le to L
      have h4 := HS.out.xl
      simp only at h4
      omega)
    have HQ : Hid (∀ k, cnt k L P + own1 k (.slice p xs.length cap) ≤ 1) := Lib.hid (fun k => by have := HD.out.sep k; rw [cnt_snoc] at this; exact this)
    have HCO1 : Hid (BOwn ((w.alloc (.cells #[.int .i64 2, stv name, stv to, .int .i64 size, .bool true, .slice p xs.length cap] 74)).drewN nq) B (valAt to L) (bytesAt to L)) := Lib.hid (HW.out.own.at to)
    generalize (w.alloc (.cells #[.int .i64 2, stv name, stv to, .int .i64 size, .bool true, .slice p xs.length cap] 74)).drewN nq = W1 at *
    have e2 := HC1.out.c2
    have e4 := HC1.out.c4
    have e5 := HC1.out.c5
    have HP := Lib.hid (restore_put W1 b c L to p cap xs HW.out.d HW.out.m HW.out.ne HW.out.own.shp (small_key HS.out.n2).1 (small_len (Nat.le_succ_of_le HS.out.ml)).1 (Nat.le_trans HS.out.xl (by decide)) (Nat.le_trans HSZ.out (by decide)) HU.out.1 (Int.le_trans HU.out.2 (by decide)) (small_key HS.out.n2).2.1)
    clear HD1 HB hlk hc1
    go_wp2_with fail
    refine HP.out.mono ?_
    rintro e W2 ⟨rfl, hd, hm, ho⟩
    have HD2 := Lib.hid (put_dc (P' := P) HW.out (HW.out.own.lost { kind := 2, name := name, to := to, size := size, was := true, lost := .slice p xs.length cap, xs := xs } (by simp)) (fun x hx => by simp [hx]) (fun k => by have h1 := HQ.out k; show own1 k (.slice p xs.length cap) + cnt k L P ≤ _; omega) (small_len (Nat.le_succ_of_le HS.out.ml)).2 hd hm ho)
    have HC2 := Lib.hid (HC1.out.kept ho (by rintro (e | e); exact absurd e (by have := HD.out.d.lt; omega); exact absurd e (by have := HD.out.m.lt; omega)))
    have HO2 := Lib.hid ho
    have HCO2 : Hid (BOwn W2 B (valAt to L) (bytesAt to L)) := Lib.hid (own_kept HCO1.out ho (fun k hk e => by rcases e with rfl | rfl; exact HW.out.cnt_b (own_cnt hk); exact HW.out.cnt_m (own_cnt hk)))
    have e1 := HC2.out.c1
    have HP2 := Lib.hid (put_to W2 b { c with used := c.used + ((xs.length : Int) - (bytesAt to L).length) } (aput to (.slice p xs.length cap, xs) L) name p2 cap2 (bytesAt to L) HD2.out.d HD2.out.m HD2.out.ne HD2.out.own.shp (small_key HS.out.n1).1 (small_len (Nat.le_trans (aput_length _ _ _) (Nat.succ_le_succ HS.out.ml))).1 (Nat.le_trans HSZ.out (by decide)) (Nat.le_trans (HB2.out) (by decide)) (HU2.out).1 (HU2.out).2 (small_key HS.out.n1).2.1)
    clear hd hm ho HP e2 e4 e5
    go_wp2_with fail
    refine HP2.out.mono ?_
    rintro e W3 ⟨rfl, hd, hm, ho⟩
    have H3 := Lib.hid (And.intro hd (And.intro hm ho))
    clear hd hm ho HP2
    go_wp2_with fail
    go_end0
    refine ⟨rfl, _, _, put_dto (c := { c with used := c.used + ((xs.length : Int) - (bytesAt to L).length) }) (L := aput to (.slice p xs.length cap, xs) L) HD2.out ((HO.out _).trans HO2.out (fun _ h => h) (fun k _ e => by rcases e with rfl | rfl; exact .inl rfl; exact .inr (.inl rfl))) (by rw [← HV.out]; exact HCO2.out) (fun x hx => hx) ?_ (small_len (Nat.le_trans (aput_length _ _ _) (Nat.succ_le_succ HS.out.ml))).2 (.inl rfl) (.inr (.inl rfl)) ?_ ?_ H3.out.1 H3.out.2.1 H3.out.2.2, ?_⟩
    · intro k
      have h1 : cnt k L P + own1 k (.slice p xs.length cap) ≤ 1 := by have := HD.out.sep k; rw [cnt_snoc] at this; exact this
      have h2 := cnt_put k to (.slice p xs.length cap, xs) P HD.out.asc
      have h3 := own1_valAt k to L
      rw [← HV.out]
      try simp only at h2
      omega
    · intro k hk
      rw [← HV.out] at hk
      exact .inl (.inr (.inr (.inr (own_cnt hk))))
    · intro k hk
      rcases foot_put HD.out.asc hk with e | e
      · refine .inl (.inr (.inr (.inr ?_)))
        rw [cnt_snoc, own1_self e]; omega
      · exact .inl (foot_less e)
    · rw [fb_put, fb_put]; simp [undoF, fb_bytes]
  case' false =>
    go_enter Tryz.func31, Tryz.ntmps31
    go_wp2_with fail
    go_quiet (fail)
    have HW : Hid (DC ((w.alloc (.cells #[.int .i64 2, stv name, stv to, .int .i64 size, .bool false, .slice p xs.length cap] 74)).drewN nq) B b c L Pf (P ++ [{ kind := 2, name := name, to := to, size := size, was := false, lost := .slice p xs.length cap, xs := xs }])) := Lib.hid (HD1.out nq)
    have HO : Hid (∀ S, Only S w ((w.alloc (.cells #[.int .i64 2, stv name, stv to, .int .i64 size, .bool false, .slice p xs.length cap] 74)).drewN nq)) := Lib.hid (fun S => ((Only.refl _ w).alloc _).trans (T := fun _ => False) (Only.of_below ⟨rfl, rfl, rfl, Nat.le_refl _, fun _ _ => rfl⟩) (fun _ h => h) (fun _ _ h => h.elim))
    have HC1 : Hid (CAt ((w.alloc (.cells #[.int .i64 2, stv name, stv to, .int .i64 size, .bool false, .slice p xs.length cap] 74)).drewN nq) w.heap.size { kind := 2, name := name, to := to, size := size, was := false, lost := .slice p xs.length cap, xs := xs }) := Lib.hid (heap_alloc_last w _)
    have HB2 : Hid ((bytesAt name (adel to L)).length ≤ 2000000000) := Lib.hid (by
      have h1 := bytesAt_le name (adel to L)
      have h2 := tot_del to HD.out.asc
      have h3 := HS.out.tl
      omega)
    have HU2 : Hid (0 ≤ c.used - (bytesAt to L).length ∧ c.used - (bytesAt to L).length ≤ 2305843009213693952) := Lib.hid (by
      have h1 := HU.out
      have h2 := HD.out.used
      have h3 := bytesAt_le to L
      omega)
    have HQ : Hid (∀ k, cnt k L P + own1 k (.slice p xs.length cap) ≤ 1) := Lib.hid (fun k => by have := HD.out.sep k; rw [cnt_snoc] at this; exact this)
    have HCO1 : Hid (BOwn ((w.alloc (.cells #[.int .i64 2, stv name, stv to, .int .i64 size, .bool false, .slice p xs.length cap] 74)).drewN nq) B (valAt to L) (bytesAt to L)) := Lib.hid (HW.out.own.at to)
    generalize (w.alloc (.cells #[.int .i64 2, stv name, stv to, .int .i64 size, .bool false, .slice p xs.length cap] 74)).drewN nq = W1 at *
    have e2 := HC1.out.c2
    have e4 := HC1.out.c4
    have e5 := HC1.out.c5
    have HP := Lib.hid (restore_drop W1 b c L to (.slice p xs.length cap) HW.out.d HW.out.m HW.out.ne HW.out.own.shp (small_key HS.out.n2).1 (Nat.le_trans HSZ.out (by decide)) HU.out.1 (Int.le_trans HU.out.2 (by decide)))
    clear HD1 HB hlk hc1
    go_wp2_with fail
    refine HP.out.mono ?_
    rintro e W2 ⟨rfl, hd, hm, ho⟩
    have HD2 := Lib.hid (drop_dc HW.out.less hd hm ho)
    have HC2 := Lib.hid (HC1.out.kept ho (by rintro (e | e); exact absurd e (by have := HD.out.d.lt; omega); exact absurd e (by have := HD.out.m.lt; omega)))
    have HO2 := Lib.hid ho
    have HCO2 : Hid (BOwn W2 B (valAt to L) (bytesAt to L)) := Lib.hid (own_kept HCO1.out ho (fun k hk e => by rcases e with rfl | rfl; exact HW.out.cnt_b (own_cnt hk); exact HW.out.cnt_m (own_cnt hk)))
    have e1 := HC2.out.c1
    have HP2 := Lib.hid (put_to W2 b { c with used := c.used - (bytesAt to L).length } (adel to L) name p2 cap2 (bytesAt to L) HD2.out.d HD2.out.m HD2.out.ne HD2.out.own.shp (small_key HS.out.n1).1 (small_len (Nat.le_trans (adel_length _ _) (Nat.le_succ_of_le HS.out.ml))).1 (Nat.le_trans HSZ.out (by decide)) (Nat.le_trans (HB2.out) (by decide)) (HU2.out).1 (HU2.out).2 (small_key HS.out.n1).2.1)
    clear hd hm ho HP e2 e4 e5
    go_wp2_with fail
    refine HP2.out.mono ?_
    rintro e W3 ⟨rfl, hd, hm, ho⟩
    have H3 := Lib.hid (And.intro hd (And.intro hm ho))
    clear hd hm ho HP2
    go_wp2_with fail
    go_end0
    refine ⟨rfl, _, _, put_dto (c := { c with used := c.used - (bytesAt to L).length }) (L := adel to L) HD2.out ((HO.out _).trans HO2.out (fun _ h => h) (fun k _ e => by rcases e with rfl | rfl; exact .inl rfl; exact .inr (.inl rfl))) (by rw [← HV.out]; exact HCO2.out) (fun x hx => hx) ?_ (small_len (Nat.le_trans (adel_length _ _) (Nat.le_succ_of_le HS.out.ml))).2 (.inl rfl) (.inr (.inl rfl)) ?_ ?_ H3.out.1 H3.out.2.1 H3.out.2.2, ?_⟩
    · intro k
      have h1 : cnt k L P + own1 k (.slice p xs.length cap) ≤ 1 := by have := HD.out.sep k; rw [cnt_snoc] at this; exact this
      have h2 := cnt_del k to P HD.out.asc
      have h3 := own1_valAt k to L
      rw [← HV.out]
      try simp only at h2
      omega
    · intro k hk
      rw [← HV.out] at hk
      exact .inl (.inr (.inr (.inr (own_cnt hk))))
    · intro k hk
      exact .inl (foot_less (foot_drop HD.out.asc hk))
    · rw [fb_put, fb_del]; simp [undoF, fb_bytes]
end Go.Proofs.YtfneadlknieppaaGreatDoor
namespace Go.Proofs.YtfneadlknieppaaGreatDoor
open Go.RowKit
open Go.Maps

/-- 'append(s, x...)' of bytes at a step of a region that draws. -/
theorem step_append_bytes {ops : Array Oper} {o : Oper} {a : Act} {w : World} {K : Act → World → Prop} {Q : Exit → Act → World → Prop} {E : Prop} (hgd : o.guard = none) (s x : Operand)
    (ho : o.op = .call { callee := .builtin .append, args := #[s, x], argTypes := #[37, 37] })
    (base : Nat) (v : Value) (xs : List Int) (hs : a.eval s = v) (hown : BOwn w base v xs) (u : Value) (l : List Int) (hx : a.eval x = u) (hse : Seen w u l)
    (hb : xs.length + l.length ≤ 140737488351232) (hbase : base ≤ w.heap.size)
    (h : ∀ v' w', BOwn w' base v' (xs ++ l) → w.grownBy w' v.ownBlock → (v'.ownBlock = v.ownBlock ∨ v'.ownBlock = some w.heap.size) → K (a.put o.dst v') w') :
    if Region.wanted o (yielded ops a.tmps) = true then Oper.wp Tryz.prog o a w K Q else E := by
  have hw : Region.wanted o (yielded ops a.tmps) = true := by simp [Region.wanted, hgd]
  rw [if_pos hw]
  obtain ⟨i0, hi0, hz0, hz1, hz2⟩ := info_parts u8info
  rcases hse with ⟨rfl, rfl⟩ | ⟨ad, cap, rfl, hc, hu⟩
  · have hrun := run_append_owned_none (P := Tryz.prog) (w := w) base _ o.type 5 i0 1 Tryz.underlying37 hi0 v xs.length (us xs) hown
    unfold Oper.wp
    simp [execOp, ho, resolve, invoke, builtin, hs, hx, hrun, Result.andThen]
    exact h v w (by rw [List.append_nil]; exact hown) ⟨rfl, rfl, rfl, Nat.le_refl _, fun _ _ _ => rfl⟩ (.inl rfl)
  · obtain ⟨v', w', hr, h2, h3, h4, h5⟩ := run_append_own_at (P := Tryz.prog) w base _ o.type 5 i0 _ 1 1 Tryz.underlying37 hi0 hz0 hz1 hz2 rfl (by omega) v xs.length (us xs) hown ad l.length cap (us l) (by simp) hu (by intro u hu; obtain ⟨x, _, rfl⟩ := List.mem_map.1 hu; rfl) (by simp [maxLen]; omega) (by omega) hbase
    unfold Oper.wp execOp
    simp only [ho, resolve, invoke, builtin, Sem.run_bind, Sem.run_pure, Result.andThen_ok, List.map_toArray, List.map_cons, List.map_nil, hs, hx, hr]
    refine h _ _ ?_ h3 h5
    show w'.ownsRow base 5 1 v' (xs ++ l).length (us (xs ++ l))
    rw [List.length_append, us, List.map_append]
    exact h2

/-- Where nothing but the file's own block has turned. -/
theorem rest_kept {w w1 : World} {B b : Nat} {c : Cst} {L : List (Key × Ent)} {Pf P : List Chg} {n : Key} (h : DC w B b c L Pf P) (ho : Only (fun k => (valAt n L).ownBlock = some k) w w1) :
    DAt w1 b c ∧ MAt w1 c.mb L ∧ PAt w1 B c.pv Pf ∧ Own w1 B (adel n L) P :=
  ⟨h.d.kept ho (fun e => h.cnt_b (own_cnt e)), h.m.kept ho (fun e => h.cnt_m (own_cnt e)), own_kept h.p ho (fun k hk e => h.pv_cnt (own_cnt e) hk), (h.own.del n).kept ho fun k hk e => by
    have h1 := cnt_del k n P h.asc
    rw [own1_self e] at h1
    have h2 := h.sep k
    omega⟩
/-- A file laid whose slice lies in its old block or in a new one. -/
theorem put_dto2 {w w1 w' : World} {B b : Nat} {c : Cst} {L : List (Key × Ent)} {Pf P : List Chg} {n : Key} {v : Value} {xs : List Int} (S : Nat → Prop) (h : DC w B b c L Pf P) (h0 : Only S w w1)
    (hd1 : DAt w1 b c) (hm1 : MAt w1 c.mb L) (hp1 : PAt w1 B c.pv Pf) (ho1 : Own w1 B (adel n L) P) (hv : BOwn w1 B v xs) (hat : ∀ k, v.ownBlock = some k → (valAt n L).ownBlock = some k ∨ w.heap.size ≤ k)
    (hl : L.length < 2000000000) (hS : ∀ k, Foot b c L P k → S k)
    (hd : DAt w' b { c with used := c.used + ((xs.length : Int) - (bytesAt n L).length) }) (hm : MAt w' c.mb (aput n (v, xs) L)) (ho : Only (fun k => k = b ∨ k = c.mb) w1 w') :
    DTo w B b S { c with used := c.used + ((xs.length : Int) - (bytesAt n L).length) } (aput n (v, xs) L) Pf P w' := by
  have how : Own w1 B (aput n (v, xs) L) P := ⟨fun e he => by
    rcases (ains_mem _ _ _).1 he with rfl | he
    · exact hv
    · exact ho1.file e he, ho1.lost⟩
  refine ⟨{
    d := hd
    m := hm
    p := own_kept hp1 ho fun k hk e => by
      rcases e with rfl | rfl
      · exact pv_apart' hd1 hp1 _ hk rfl
      · exact h.pv_m hk
    own := how.kept ho fun k hk e => by
      rcases e with rfl | rfl
      · exact own_ne how hd1 hk rfl
      · exact own_nm how hm1 hk rfl
    sep := fun k => by
      have h1 := cnt_put k n (v, xs) P h.asc
      have h2 := h.sep k
      have h3 := own1_le k v
      by_cases hk : v.ownBlock = some k
      · rcases hat k hk with e | e
        · rw [own1_self e] at h1; simp only at h1; omega
        · have := cnt_new h.own e; simp only at h1; omega
      · have : own1 k v = 0 := by unfold own1; rw [if_neg hk]
        simp only at h1; omega
    asc := h.asc.put n _
    used := by
      have h1 := tot_put n (v, xs) h.asc
      have h2 := h.used
      simp only at h1 ⊢
      omega
    bb := h.bb
    bm := h.bm
    many := by have := aput_length n (v, xs) L; omega }, ?_, ?_⟩
  · exact h0.trans ho (fun _ h => h) (fun k _ e => by
      rcases e with rfl | rfl
      · exact hS _ (.inl rfl)
      · exact hS _ (.inr (.inl rfl)))
  · intro k hk
    rcases foot_put h.asc hk with e | e
    · rcases hat k e with e | e
      · exact .inl (hS k (.inr (.inr (.inr (own_cnt e)))))
      · exact .inr e
    · exact .inl (hS k e)

set_option maxRecDepth 20000 in
set_option maxHeartbeats 4000000 in
theorem undo_tru (w : World) (B b : Nat) (c : Cst) (L : List (Key × Ent)) (Pf P : List Chg) (g : Chg) (h : DC w B b c L Pf (P ++ [g])) (hk : g.kind = 1) (hs : Small L g) :
    Calls Tryz.prog 31 #[.pointer (some ⟨b,0,none⟩), g.val] w (UndoPost w B b c L Pf P g) := by
  have hlo : BOwn w B g.lost g.xs := h.own.lost g (by simp)
  have hsz := fun n => small_bytes hs n
  have hu := used_range h hs.tl
  obtain ⟨kind, name, to, size, was, lost, xs⟩ := g
  simp only at hk
  subst hk
  replace hlo : BOwn w B lost xs := hlo
  obtain ⟨p, cap, rfl⟩ := own_slice hlo
  have hb1 : Below w.heap.size w (w.alloc (.cells #[.int .i64 1, stv name, stv to, .int .i64 size, .bool was, .slice p xs.length cap] 74)) := (Below.refl _ w).alloc (Nat.le_refl _) _
  have h1 := h.kb hb1
  obtain ⟨p2, cap2, hv2⟩ := h.own.shp.at name
  have HD := Lib.hid h
  have HD1 : Hid (DC (w.alloc (.cells #[.int .i64 1, stv name, stv to, .int .i64 size, .bool was, .slice p xs.length cap] 74)) B b c L Pf (P ++ [{ kind := 1, name := name, to := to, size := size, was := was, lost := .slice p xs.length cap, xs := xs }])) := Lib.hid h1
  have HC1 : Hid (CAt (w.alloc (.cells #[.int .i64 1, stv name, stv to, .int .i64 size, .bool was, .slice p xs.length cap] 74)) w.heap.size { kind := 1, name := name, to := to, size := size, was := was, lost := .slice p xs.length cap, xs := xs }) := Lib.hid (heap_alloc_last w _)
  have HB := Lib.hid hb1
  have HL : Hid (BOwn (w.alloc (.cells #[.int .i64 1, stv name, stv to, .int .i64 size, .bool was, .slice p xs.length cap] 74)) B (.slice p xs.length cap) xs) := Lib.hid (own_kept hlo (S := fun _ => False) (undo_val_alloc _) (fun _ _ h => h))
  have HV := Lib.hid hv2
  have HS := Lib.hid hs
  have HSN := Lib.hid (hsz name)
  have HU := Lib.hid hu
  have hbl := h.d.lt
  clear h h1 hlo hs hb1 hsz hu hv2
  unfold Chg.val
  go_enter Tryz.func31, Tryz.ntmps31
  go_wp2_with fail
  generalize w.alloc (.cells #[.int .i64 1, stv name, stv to, .int .i64 size, .bool was, .slice p xs.length cap] 74) = W1 at *
  have e1 := HC1.out.c1
  have e5 := HC1.out.c5
  have hc1 := HD1.out.d.c1
  have hlk : (Instr.lookup 68 (.map (some c.mb)) (stv name) false).run Tryz.prog W1.drew = .ok (.slice p2 (bytesAt name L).length cap2) W1.drew := by
    rw [← HV.out]; exact MAt.look (w := W1.drew) HD1.out.m name (small_key HS.out.n1).1
  have HOF : Hid (BOwn W1 B (.slice p2 (bytesAt name L).length cap2) (bytesAt name L)) := Lib.hid (by rw [← HV.out]; exact HD1.out.own.at name)
  have HSE : Hid (Seen W1 (.slice p xs.length cap) xs) := Lib.hid (Seen.own HL.out)
  have HFT : Hid ((bytesAt name L).length + xs.length ≤ 140737488351232) := Lib.hid (by have := HSN.out; have := HS.out.xl; simp only at this; omega)
  have HBB := Lib.hid HD1.out.base
  try simp only [List.append]
  refine wp_region_noPanic ?_
  refine wp_region_held_drew (S := (fun W => W.cell? ⟨b, 1, none⟩ = some (.map (some c.mb)) ∧ W.cell? ⟨w.heap.size, 1, none⟩ = some (stv name) ∧ W.cell? ⟨w.heap.size, 5, none⟩ = some (.slice p xs.length cap))) (by kernel_rfl) ⟨hc1, e1, e5⟩ (fun hHeld => ?_)
  refine wpAnyH_take (i := 0) (v := ?_) (by simp only [List.getElem?_toArray, List.getElem?_cons_zero]; rfl) (by kernel_rfl) (by kernel_rfl) (by kernel_rfl) (fun _ _ _ h => h) (Or.inl ⟨by rfl, ?_⟩) (by assumption) ?_
  rotate_left
  · intro w hSw
    try dsimp only at hSw
    go_simp
    try with_reducible rfl
  try simp only [Act.put, List.setIfInBounds_toArray, List.set_cons_zero, List.set_cons_succ]
  refine wpAnyH_take (i := 1) (v := ?_) (by simp only [List.getElem?_toArray, List.getElem?_cons_succ, List.getElem?_cons_zero]; rfl) (by kernel_rfl) (by kernel_rfl) (by kernel_rfl) (fun _ _ _ h => h) (Or.inl ⟨by rfl, ?_⟩) (by assumption) ?_
  rotate_left
  · intro w hSw
    try dsimp only at hSw
    go_simp
    try with_reducible rfl
  try simp only [Act.put, List.setIfInBounds_toArray, List.set_cons_zero, List.set_cons_succ]
  refine wpAnyH_take (i := 2) (v := ?_) (by simp only [List.getElem?_toArray, List.getElem?_cons_succ, List.getElem?_cons_zero]; rfl) (by kernel_rfl) (by kernel_rfl) (by kernel_rfl) (fun _ _ _ h => h) (Or.inl ⟨by rfl, ?_⟩) (by assumption) ?_
  rotate_left
  · intro w hSw
    try dsimp only at hSw
    go_simp
    try with_reducible rfl
  try simp only [Act.put, List.setIfInBounds_toArray, List.set_cons_zero, List.set_cons_succ]
  refine wpAnyH_take (i := 3) (v := ?_) (by simp only [List.getElem?_toArray, List.getElem?_cons_succ, List.getElem?_cons_zero]; rfl) (by kernel_rfl) (by kernel_rfl) (by kernel_rfl) (fun _ _ _ h => h) (Or.inl ⟨by rfl, ?_⟩) (by assumption) ?_
  rotate_left
  · intro w hSw
    try dsimp only at hSw
    go_simp
    try with_reducible rfl
  try simp only [Act.put, List.setIfInBounds_toArray, List.set_cons_zero, List.set_cons_succ]
  refine wpAnyH_take (i := 4) (v := ?_) (by simp only [List.getElem?_toArray, List.getElem?_cons_succ, List.getElem?_cons_zero]; rfl) (by kernel_rfl) (by kernel_rfl) (by kernel_rfl) (fun _ _ _ h => h) (Or.inl ⟨by rfl, ?_⟩) (by assumption) ?_
  rotate_left
  · intro w hSw
    try dsimp only at hSw
    go_simp
    try with_reducible rfl
  try simp only [Act.put, List.setIfInBounds_toArray, List.set_cons_zero, List.set_cons_succ]
  refine wpAnyH_take (i := 5) (v := ?_) (by simp only [List.getElem?_toArray, List.getElem?_cons_succ, List.getElem?_cons_zero]; rfl) (by kernel_rfl) (by kernel_rfl) (by kernel_rfl) (fun _ _ _ h => h) (Or.inl ⟨by rfl, ?_⟩) (by assumption) ?_
  rotate_left
  · intro w hSw
    try dsimp only at hSw
    go_simp
    try with_reducible rfl
  try simp only [Act.put, List.setIfInBounds_toArray, List.set_cons_zero, List.set_cons_succ]
  refine wpAnyH_take (i := 6) (v := ?_) (by simp only [List.getElem?_toArray, List.getElem?_cons_succ, List.getElem?_cons_zero]; rfl) (by kernel_rfl) (by kernel_rfl) (by kernel_rfl) (fun _ _ _ h => h) (Or.inl ⟨by rfl, ?_⟩) (by assumption) ?_
  rotate_left
  · intro w hSw
    try dsimp only at hSw
    go_simp
    try with_reducible rfl
  try simp only [Act.put, List.setIfInBounds_toArray, List.set_cons_zero, List.set_cons_succ]
  refine wpAnyH_take (i := 7) (v := ?_) (by simp only [List.getElem?_toArray, List.getElem?_cons_succ, List.getElem?_cons_zero]; rfl) (by kernel_rfl) (by kernel_rfl) (by kernel_rfl) (fun _ _ _ h => h) (Or.inl ⟨by rfl, ?_⟩) (by assumption) ?_
  rotate_left
  · intro w hSw
    try dsimp only at hSw
    go_simp
    try with_reducible rfl
  try simp only [Act.put, List.setIfInBounds_toArray, List.set_cons_zero, List.set_cons_succ]
  refine wpAnyH_take (i := 8) (v := ?_) (by simp only [List.getElem?_toArray, List.getElem?_cons_succ, List.getElem?_cons_zero]; rfl) (by kernel_rfl) (by kernel_rfl) (by kernel_rfl) (fun _ _ _ h => h) (Or.inl ⟨by rfl, ?_⟩) (by assumption) ?_
  rotate_left
  · intro w hSw
    try dsimp only at hSw
    go_simp
    try with_reducible rfl
  try simp only [Act.put, List.setIfInBounds_toArray, List.set_cons_zero, List.set_cons_succ]
  refine wpAnyH_take (i := 10) (v := ?_) (by simp only [List.getElem?_toArray, List.getElem?_cons_succ, List.getElem?_cons_zero]; rfl) (by kernel_rfl) (by kernel_rfl) (by kernel_rfl) (fun _ _ _ h => h) (Or.inl ⟨by rfl, ?_⟩) (by assumption) ?_
  rotate_left
  · intro w hSw
    try dsimp only at hSw
    go_simp
    try with_reducible rfl
  try simp only [Act.put, List.setIfInBounds_toArray, List.set_cons_zero, List.set_cons_succ]
  refine wpAnyH_take (i := 11) (v := ?_) (by simp only [List.getElem?_toArray, List.getElem?_cons_succ, List.getElem?_cons_zero]; rfl) (by kernel_rfl) (by kernel_rfl) (by kernel_rfl) (fun _ _ _ h => h) (Or.inl ⟨by rfl, ?_⟩) (by assumption) ?_
  rotate_left
  · intro w hSw
    try dsimp only at hSw
    go_simp
    try with_reducible rfl
  try simp only [Act.put, List.setIfInBounds_toArray, List.set_cons_zero, List.set_cons_succ]
  refine wpAnyH_ready (rs := [9]) (by kernel_rfl) (by simp) ?_
  refine AllReadyH.cons (by simp only [List.getElem?_toArray, List.getElem?_cons_succ, List.getElem?_cons_zero]; rfl) (fun K hK => ?_) AllReadyH.nil
  go_simp
  refine hK.out _ _ ⟨hc1, e1, e5⟩ (fun hHeld => ?_)
  clear hK K
  try simp only [Act.put, List.setIfInBounds_toArray, List.set_cons_zero, List.set_cons_succ]
  refine wpAnyH_ready (rs := [12]) (by kernel_rfl) (by simp) ?_
  refine AllReadyH.cons (by simp only [List.getElem?_toArray, List.getElem?_cons_succ, List.getElem?_cons_zero]; rfl) (fun K hK => ?_) AllReadyH.nil
  refine step_append_bytes (by rfl) _ _ (by rfl) B (.slice p2 (bytesAt name L).length cap2) (bytesAt name L) (by rfl) HOF.out (.slice p xs.length cap) xs (by rfl) HSE.out HFT.out HBB.out ?_
  intro v8 w8 own8 grow8 hat8
  have HLZ : Hid ((bytesAt name L ++ xs).length ≤ 140737488351232) := Lib.hid (by rw [List.length_append]; exact HFT.out)
  obtain ⟨zs, hz⟩ : ∃ zs, zs = bytesAt name L ++ xs := ⟨_, rfl⟩
  have HZ := Lib.hid hz
  rw [← hz] at own8 HLZ
  clear hz
  obtain ⟨p8, cap8, rfl⟩ := own_slice own8
  have HO8 : Hid (Only (fun k => (valAt name L).ownBlock = some k) W1 w8) := Lib.hid ((Only.refl _ W1).drew.grown grow8 (fun k _ e => by rw [HV.out]; exact e))
  have HR8 := Lib.hid (rest_kept HD1.out.less HO8.out)
  have HC8 := Lib.hid (HC1.out.kept HO8.out (fun e => by have := HD.out.own.lt (own_cnt e); omega))
  have O8 := Lib.hid own8
  have A8 := Lib.hid hat8
  clear own8 grow8 hat8
  refine hK.out _ _ ⟨HR8.out.1.c1, HC8.out.c1, HC8.out.c5⟩ (fun hHeld => ?_)
  clear hK K
  try simp only [Act.put, List.setIfInBounds_toArray, List.set_cons_zero, List.set_cons_succ]
  refine wpAnyH_ready (rs := [13]) (by kernel_rfl) (by simp) ?_
  refine AllReadyH.cons (by simp only [List.getElem?_toArray, List.getElem?_cons_succ, List.getElem?_cons_zero]; rfl) (fun K hK => ?_) AllReadyH.nil
  go_simp
  refine (put_to w8 b c L name p8 cap8 zs HR8.out.1 HR8.out.2.1 HD.out.ne HD.out.own.shp (small_key HS.out.n1).1 (small_len (Nat.le_succ_of_le HS.out.ml)).1 (Nat.le_trans HLZ.out (by decide)) (Nat.le_trans HSN.out (by decide)) HU.out.1 (Int.le_trans HU.out.2 (by decide)) (small_key HS.out.n1).2.1).mono ?_
  rintro e w9 ⟨rfl, hd, hm, ho⟩
  have H9 := Lib.hid (And.intro hd (And.intro hm ho))
  have HC9 := Lib.hid (HC8.out.kept ho (by rintro (e | e); exact absurd e (by have := HD.out.d.lt; omega); exact absurd e (by have := HD.out.m.lt; omega)))
  clear hd hm ho
  go_wp2_with fail
  refine hK.out _ _ ⟨H9.out.1.c1, HC9.out.c1, HC9.out.c5⟩ (fun hHeld => ?_)
  clear hK K
  try simp only [Act.put, List.setIfInBounds_toArray, List.set_cons_zero, List.set_cons_succ]
  refine wpAnyH_done (by kernel_rfl) ?_ _
  refine NoPanic.normal ?_
  go_wp2_with fail
  go_end0
  refine ⟨rfl, _, _, put_dto2 _ HD.out.less (Only.trans (Only.of_below HB.out) HO8.out (fun _ h => h) (fun k _ e => foot_less (.inr (.inr (.inr (own_cnt e)))))) HR8.out.1 HR8.out.2.1 HR8.out.2.2.1 HR8.out.2.2.2 O8.out ?_ (small_len (Nat.le_succ_of_le HS.out.ml)).2 (fun k hk => foot_less hk) H9.out.1 H9.out.2.1 H9.out.2.2, ?_⟩
  · intro k hk
    rcases A8.out with e | e
    · rw [e] at hk; exact .inl (by rw [HV.out]; exact hk)
    · rw [e] at hk; cases hk; exact .inr HB.out.size
  · rw [fb_put, HZ.out]; simp [undoF, fb_bytes]
end Go.Proofs.YtfneadlknieppaaGreatDoor
namespace Go.Proofs.YtfneadlknieppaaGreatDoor
open Go.RowKit
open Go.Maps

set_option maxRecDepth 20000 in
set_option maxHeartbeats 2000000 in
theorem undo_app_true (w : World) (B b : Nat) (c : Cst) (L : List (Key × Ent)) (Pf P : List Chg) (name to : Key) (size : Nat) (p : Option Addr) (cap : Nat) (xs : List Int) (h : DC w B b c L Pf (P ++ [{ kind := 0, name := name, to := to, size := size, was := true, lost := .slice p xs.length cap, xs := xs }])) (hs : Small L { kind := 0, name := name, to := to, size := size, was := true, lost := .slice p xs.length cap, xs := xs }) (hz : size ≤ (bytesAt name L).length) :
    Calls Tryz.prog 31 #[.pointer (some ⟨b,0,none⟩), .agg #[.int .i64 0, stv name, stv to, .int .i64 size, .bool true, .slice p xs.length cap]] w (UndoPost w B b c L Pf P { kind := 0, name := name, to := to, size := size, was := true, lost := .slice p xs.length cap, xs := xs }) := by
  have hb1 : Below w.heap.size w (w.alloc (.cells #[.int .i64 0, stv name, stv to, .int .i64 size, .bool true, .slice p xs.length cap] 74)) := (Below.refl _ w).alloc (Nat.le_refl _) _
  have h1 := h.kb hb1
  obtain ⟨p2, cap2, hv2⟩ := h.own.shp.at name
  have HD := Lib.hid h
  have HD1 : Hid (DC (w.alloc (.cells #[.int .i64 0, stv name, stv to, .int .i64 size, .bool true, .slice p xs.length cap] 74)) B b c L Pf (P ++ [{ kind := 0, name := name, to := to, size := size, was := true, lost := .slice p xs.length cap, xs := xs }])) := Lib.hid h1
  have HC1 : Hid (CAt (w.alloc (.cells #[.int .i64 0, stv name, stv to, .int .i64 size, .bool true, .slice p xs.length cap] 74)) w.heap.size { kind := 0, name := name, to := to, size := size, was := true, lost := .slice p xs.length cap, xs := xs }) := Lib.hid (heap_alloc_last w _)
  have HB := Lib.hid hb1
  have HV := Lib.hid hv2
  have HSN := Lib.hid (small_bytes hs name)
  have HU := Lib.hid (used_range h hs.tl)
  have HS := Lib.hid hs
  have HZ := Lib.hid hz
  clear h h1 hs hb1 hv2 hz
  go_enter Tryz.func31, Tryz.ntmps31
  go_wp2_with fail
  generalize w.alloc (.cells #[.int .i64 0, stv name, stv to, .int .i64 size, .bool true, .slice p xs.length cap] 74) = W1 at *
  have e1 := HC1.out.c1
  have e3 := HC1.out.c3
  have e4 := HC1.out.c4
  have hc1 := HD1.out.d.c1
  obtain ⟨ys, hys⟩ : ∃ ys, ys = bytesAt name L := ⟨_, rfl⟩
  have HYS := Lib.hid hys
  rw [← hys] at HV HSN HZ
  clear hys
  have hlk : (Instr.lookup 68 (.map (some c.mb)) (stv name) false).run Tryz.prog W1.drew = .ok (.slice p2 ys.length cap2) W1.drew := by
    rw [← HV.out]; exact MAt.look (w := W1.drew) HD1.out.m name (small_key HS.out.n1).1
  have HOF : Hid (BOwn W1.drew B (.slice p2 ys.length cap2) ys) := Lib.hid (by rw [← HV.out, HYS.out]; exact HD1.out.own.at name)
  have HBB : Hid (B ≤ W1.drew.heap.size) := Lib.hid HD1.out.base
  have HFT : Hid (ys.length ≤ 140737488351232) := Lib.hid (by have := HSN.out; omega)
  try simp only [List.append]
  refine wp_region_noPanic ?_
  refine wp_region_held_drew (S := (fun W => W.cell? ⟨b, 1, none⟩ = some (.map (some c.mb)) ∧ W.cell? ⟨w.heap.size, 1, none⟩ = some (stv name) ∧ W.cell? ⟨w.heap.size, 3, none⟩ = some (.int .i64 size) ∧ W.cell? ⟨w.heap.size, 4, none⟩ = some (.bool true))) (by kernel_rfl) ⟨hc1, e1, e3, e4⟩ (fun hHeld => ?_)
  refine wpAnyH_take (i := 0) (v := ?_) (by simp only [List.getElem?_toArray, List.getElem?_cons_zero]; rfl) (by kernel_rfl) (by kernel_rfl) (by kernel_rfl) (fun _ _ _ h => h) (Or.inl ⟨by rfl, ?_⟩) (by assumption) ?_
  rotate_left
  · intro w hSw
    try dsimp only at hSw
    go_simp
    try with_reducible rfl
  try simp only [Act.put, List.setIfInBounds_toArray, List.set_cons_zero, List.set_cons_succ]
  refine wpAnyH_take (i := 1) (v := ?_) (by simp only [List.getElem?_toArray, List.getElem?_cons_succ, List.getElem?_cons_zero]; rfl) (by kernel_rfl) (by kernel_rfl) (by kernel_rfl) (fun _ _ _ h => h) (Or.inl ⟨by rfl, ?_⟩) (by assumption) ?_
  rotate_left
  · intro w hSw
    try dsimp only at hSw
    go_simp
    try with_reducible rfl
  try simp only [Act.put, List.setIfInBounds_toArray, List.set_cons_zero, List.set_cons_succ]
  refine wpAnyH_take (i := 2) (v := ?_) (by simp only [List.getElem?_toArray, List.getElem?_cons_succ, List.getElem?_cons_zero]; rfl) (by kernel_rfl) (by kernel_rfl) (by kernel_rfl) (fun _ _ _ h => h) (Or.inl ⟨by rfl, ?_⟩) (by assumption) ?_
  rotate_left
  · intro w hSw
    try dsimp only at hSw
    go_simp
    try with_reducible rfl
  try simp only [Act.put, List.setIfInBounds_toArray, List.set_cons_zero, List.set_cons_succ]
  refine wpAnyH_take (i := 3) (v := ?_) (by simp only [List.getElem?_toArray, List.getElem?_cons_succ, List.getElem?_cons_zero]; rfl) (by kernel_rfl) (by kernel_rfl) (by kernel_rfl) (fun _ _ _ h => h) (Or.inl ⟨by rfl, ?_⟩) (by assumption) ?_
  rotate_left
  · intro w hSw
    try dsimp only at hSw
    go_simp
    try with_reducible rfl
  try simp only [Act.put, List.setIfInBounds_toArray, List.set_cons_zero, List.set_cons_succ]
  refine wpAnyH_take (i := 4) (v := ?_) (by simp only [List.getElem?_toArray, List.getElem?_cons_succ, List.getElem?_cons_zero]; rfl) (by kernel_rfl) (by kernel_rfl) (by kernel_rfl) (fun _ _ _ h => h) (Or.inl ⟨by rfl, ?_⟩) (by assumption) ?_
  rotate_left
  · intro w hSw
    try dsimp only at hSw
    go_simp
    try with_reducible rfl
  try simp only [Act.put, List.setIfInBounds_toArray, List.set_cons_zero, List.set_cons_succ]
  refine wpAnyH_take (i := 5) (v := ?_) (by simp only [List.getElem?_toArray, List.getElem?_cons_succ, List.getElem?_cons_zero]; rfl) (by kernel_rfl) (by kernel_rfl) (by kernel_rfl) (fun _ _ _ h => h) (Or.inl ⟨by rfl, ?_⟩) (by assumption) ?_
  rotate_left
  · intro w hSw
    try dsimp only at hSw
    go_simp
    try with_reducible rfl
  try simp only [Act.put, List.setIfInBounds_toArray, List.set_cons_zero, List.set_cons_succ]
  refine wpAnyH_take (i := 6) (v := ?_) (by simp only [List.getElem?_toArray, List.getElem?_cons_succ, List.getElem?_cons_zero]; rfl) (by kernel_rfl) (by kernel_rfl) (by kernel_rfl) (fun _ _ _ h => h) (Or.inl ⟨by rfl, ?_⟩) (by assumption) ?_
  rotate_left
  · intro w hSw
    try dsimp only at hSw
    go_simp
    try with_reducible rfl
  try simp only [Act.put, List.setIfInBounds_toArray, List.set_cons_zero, List.set_cons_succ]
  refine wpAnyH_take (i := 7) (v := ?_) (by simp only [List.getElem?_toArray, List.getElem?_cons_succ, List.getElem?_cons_zero]; rfl) (by kernel_rfl) (by kernel_rfl) (by kernel_rfl) (fun _ _ _ h => h) (Or.inl ⟨by rfl, ?_⟩) (by assumption) ?_
  rotate_left
  · intro w hSw
    try dsimp only at hSw
    go_simp
    try with_reducible rfl
  try simp only [Act.put, List.setIfInBounds_toArray, List.set_cons_zero, List.set_cons_succ]
  refine wpAnyH_take (i := 8) (v := ?_) (by simp only [List.getElem?_toArray, List.getElem?_cons_succ, List.getElem?_cons_zero]; rfl) (by kernel_rfl) (by kernel_rfl) (by kernel_rfl) (fun _ _ _ h => h) (Or.inl ⟨by rfl, ?_⟩) (by assumption) ?_
  rotate_left
  · intro w hSw
    try dsimp only at hSw
    go_simp
    try with_reducible rfl
  try simp only [Act.put, List.setIfInBounds_toArray, List.set_cons_zero, List.set_cons_succ]
  refine wpAnyH_take (i := 10) (v := ?_) (by simp only [List.getElem?_toArray, List.getElem?_cons_succ, List.getElem?_cons_zero]; rfl) (by kernel_rfl) (by kernel_rfl) (by kernel_rfl) (fun _ _ _ h => h) (Or.inl ⟨by rfl, ?_⟩) (by assumption) ?_
  rotate_left
  · intro w hSw
    try dsimp only at hSw
    go_simp
    try with_reducible rfl
  try simp only [Act.put, List.setIfInBounds_toArray, List.set_cons_zero, List.set_cons_succ]
  refine wpAnyH_take (i := 11) (v := ?_) (by simp only [List.getElem?_toArray, List.getElem?_cons_succ, List.getElem?_cons_zero]; rfl) (by kernel_rfl) (by kernel_rfl) (by kernel_rfl) (fun _ _ _ h => h) (Or.inl ⟨by rfl, ?_⟩) (by assumption) ?_
  rotate_left
  · intro w hSw
    try dsimp only at hSw
    go_simp
    try with_reducible rfl
  try simp only [Act.put, List.setIfInBounds_toArray, List.set_cons_zero, List.set_cons_succ]
  refine wpAnyH_take (i := 13) (v := ?_) (by simp only [List.getElem?_toArray, List.getElem?_cons_succ, List.getElem?_cons_zero]; rfl) (by kernel_rfl) (by kernel_rfl) (by kernel_rfl) (fun _ _ _ h => h) (Or.inl ⟨by rfl, ?_⟩) (by assumption) ?_
  rotate_left
  · intro w hSw
    try dsimp only at hSw
    go_simp
    try with_reducible rfl
  try simp only [Act.put, List.setIfInBounds_toArray, List.set_cons_zero, List.set_cons_succ]
  refine wpAnyH_take (i := 14) (v := ?_) (by simp only [List.getElem?_toArray, List.getElem?_cons_succ, List.getElem?_cons_zero]; rfl) (by kernel_rfl) (by kernel_rfl) (by kernel_rfl) (fun _ _ _ h => h) (Or.inl ⟨by rfl, ?_⟩) (by assumption) ?_
  rotate_left
  · intro w hSw
    try dsimp only at hSw
    go_simp
    try with_reducible rfl
  try simp only [Act.put, List.setIfInBounds_toArray, List.set_cons_zero, List.set_cons_succ]
  refine wpAnyH_ready (rs := [9]) (by kernel_rfl) (by simp) ?_
  refine AllReadyH.cons (by simp only [List.getElem?_toArray, List.getElem?_cons_succ, List.getElem?_cons_zero]; rfl) (fun K hK => ?_) AllReadyH.nil
  go_simp
  refine hK.out _ _ ⟨hc1, e1, e3, e4⟩ (fun hHeld => ?_)
  clear hK K
  try simp only [Act.put, List.setIfInBounds_toArray, List.set_cons_zero, List.set_cons_succ]
  refine wpAnyH_ready (rs := [12]) (by kernel_rfl) (by simp) ?_
  refine AllReadyH.cons (by simp only [List.getElem?_toArray, List.getElem?_cons_succ, List.getElem?_cons_zero]; rfl) (fun K hK => ?_) AllReadyH.nil
  go_simp
  refine (shorten_to W1.drew B (.slice p2 ys.length cap2) ys size HZ.out HOF.out HBB.out HFT.out).mono ?_
  rintro e w8 ⟨v8, rfl, o8, b8, a8⟩
  obtain ⟨zs, hzs⟩ : ∃ zs, zs = ys.take size := ⟨_, rfl⟩
  have HZS := Lib.hid hzs
  rw [← hzs] at o8
  clear hzs
  have HZL : Hid (zs.length ≤ 1000000000) := Lib.hid (by rw [HZS.out, List.length_take]; have := HSN.out; omega)
  obtain ⟨p8, cap8, rfl⟩ := own_slice o8
  have HD8 := Lib.hid (HD1.out.kb (w' := w8) ⟨b8.os, b8.tape, b8.output, b8.size, b8.block⟩)
  have HC8 := Lib.hid (HC1.out.kb (w' := w8) ⟨b8.os, b8.tape, b8.output, b8.size, b8.block⟩)
  have HO8 : Hid (∀ S, Only S w w8) := Lib.hid (fun S => (Only.of_below (HB.out.trans (Below.mono (w := W1) (w' := w8) ⟨b8.os, b8.tape, b8.output, b8.size, b8.block⟩ HB.out.size))))
  have O8 := Lib.hid o8
  have A8 : Hid (∀ k, Value.ownBlock (.slice p8 zs.length cap8) = some k → (valAt name L).ownBlock = some k ∨ w.heap.size ≤ k) := Lib.hid (fun k hk => by
    rcases a8 k hk with e | e
    · exact .inl (by rw [HV.out]; exact e)
    · exact .inr (Nat.le_trans HB.out.size e))
  clear o8 b8 a8
  go_wp2_with fail
  refine hK.out _ _ ⟨HD8.out.d.c1, HC8.out.c1, HC8.out.c3, HC8.out.c4⟩ (fun hHeld => ?_)
  clear hK K
  try simp only [Act.put, List.setIfInBounds_toArray, List.set_cons_zero, List.set_cons_succ]
  refine wpAnyH_ready (rs := [15]) (by kernel_rfl) (by simp) ?_
  refine AllReadyH.cons (by simp only [List.getElem?_toArray, List.getElem?_cons_succ, List.getElem?_cons_zero]; rfl) (fun K hK => ?_) AllReadyH.nil
  go_simp
  refine (restore_put w8 b c L name p8 cap8 zs HD8.out.d HD8.out.m HD8.out.ne HD8.out.own.shp (small_key HS.out.n1).1 (small_len (Nat.le_succ_of_le HS.out.ml)).1 (Nat.le_trans HZL.out (by decide)) (by rw [← HYS.out]; exact Nat.le_trans HSN.out (by decide)) HU.out.1 (Int.le_trans HU.out.2 (by decide)) (small_key HS.out.n1).2.1).mono ?_
  rintro e w9 ⟨rfl, hd, hm, ho⟩
  have H9 := Lib.hid (And.intro hd (And.intro hm ho))
  have HC9 := Lib.hid (HC8.out.kept ho (by rintro (e | e); exact absurd e (by have := HD.out.d.lt; omega); exact absurd e (by have := HD.out.m.lt; omega)))
  clear hd hm ho
  go_wp2_with fail
  refine hK.out _ _ ⟨H9.out.1.c1, HC9.out.c1, HC9.out.c3, HC9.out.c4⟩ (fun hHeld => ?_)
  clear hK K
  try simp only [Act.put, List.setIfInBounds_toArray, List.set_cons_zero, List.set_cons_succ]
  refine wpAnyH_done (by kernel_rfl) ?_ _
  refine NoPanic.normal ?_
  go_wp2_with fail
  go_end0
  refine ⟨rfl, _, _, put_dto2 _ HD.out.less (HO8.out _) HD8.out.d HD8.out.m HD8.out.p (HD8.out.less.own.del name) O8.out A8.out (small_len (Nat.le_succ_of_le HS.out.ml)).2 (fun k hk => foot_less hk) H9.out.1 H9.out.2.1 H9.out.2.2, ?_⟩
  rw [fb_put, HZS.out, HYS.out]; simp [undoF, fb_bytes]
set_option maxRecDepth 20000 in
set_option maxHeartbeats 2000000 in
theorem undo_app_false (w : World) (B b : Nat) (c : Cst) (L : List (Key × Ent)) (Pf P : List Chg) (name to : Key) (size : Nat) (p : Option Addr) (cap : Nat) (xs : List Int) (h : DC w B b c L Pf (P ++ [{ kind := 0, name := name, to := to, size := size, was := false, lost := .slice p xs.length cap, xs := xs }])) (hs : Small L { kind := 0, name := name, to := to, size := size, was := false, lost := .slice p xs.length cap, xs := xs }) (hz : size ≤ (bytesAt name L).length) :
    Calls Tryz.prog 31 #[.pointer (some ⟨b,0,none⟩), .agg #[.int .i64 0, stv name, stv to, .int .i64 size, .bool false, .slice p xs.length cap]] w (UndoPost w B b c L Pf P { kind := 0, name := name, to := to, size := size, was := false, lost := .slice p xs.length cap, xs := xs }) := by
  have hb1 : Below w.heap.size w (w.alloc (.cells #[.int .i64 0, stv name, stv to, .int .i64 size, .bool false, .slice p xs.length cap] 74)) := (Below.refl _ w).alloc (Nat.le_refl _) _
  have h1 := h.kb hb1
  obtain ⟨p2, cap2, hv2⟩ := h.own.shp.at name
  have HD := Lib.hid h
  have HD1 : Hid (DC (w.alloc (.cells #[.int .i64 0, stv name, stv to, .int .i64 size, .bool false, .slice p xs.length cap] 74)) B b c L Pf (P ++ [{ kind := 0, name := name, to := to, size := size, was := false, lost := .slice p xs.length cap, xs := xs }])) := Lib.hid h1
  have HC1 : Hid (CAt (w.alloc (.cells #[.int .i64 0, stv name, stv to, .int .i64 size, .bool false, .slice p xs.length cap] 74)) w.heap.size { kind := 0, name := name, to := to, size := size, was := false, lost := .slice p xs.length cap, xs := xs }) := Lib.hid (heap_alloc_last w _)
  have HB := Lib.hid hb1
  have HV := Lib.hid hv2
  have HSN := Lib.hid (small_bytes hs name)
  have HU := Lib.hid (used_range h hs.tl)
  have HS := Lib.hid hs
  have HZ := Lib.hid hz
  clear h h1 hs hb1 hv2 hz
  go_enter Tryz.func31, Tryz.ntmps31
  go_wp2_with fail
  generalize w.alloc (.cells #[.int .i64 0, stv name, stv to, .int .i64 size, .bool false, .slice p xs.length cap] 74) = W1 at *
  have e1 := HC1.out.c1
  have e3 := HC1.out.c3
  have e4 := HC1.out.c4
  have hc1 := HD1.out.d.c1
  obtain ⟨ys, hys⟩ : ∃ ys, ys = bytesAt name L := ⟨_, rfl⟩
  have HYS := Lib.hid hys
  rw [← hys] at HV HSN HZ
  clear hys
  have hlk : (Instr.lookup 68 (.map (some c.mb)) (stv name) false).run Tryz.prog W1.drew = .ok (.slice p2 ys.length cap2) W1.drew := by
    rw [← HV.out]; exact MAt.look (w := W1.drew) HD1.out.m name (small_key HS.out.n1).1
  have HOF : Hid (BOwn W1.drew B (.slice p2 ys.length cap2) ys) := Lib.hid (by rw [← HV.out, HYS.out]; exact HD1.out.own.at name)
  have HBB : Hid (B ≤ W1.drew.heap.size) := Lib.hid HD1.out.base
  have HFT : Hid (ys.length ≤ 140737488351232) := Lib.hid (by have := HSN.out; omega)
  try simp only [List.append]
  refine wp_region_noPanic ?_
  refine wp_region_held_drew (S := (fun W => W.cell? ⟨b, 1, none⟩ = some (.map (some c.mb)) ∧ W.cell? ⟨w.heap.size, 1, none⟩ = some (stv name) ∧ W.cell? ⟨w.heap.size, 3, none⟩ = some (.int .i64 size) ∧ W.cell? ⟨w.heap.size, 4, none⟩ = some (.bool false))) (by kernel_rfl) ⟨hc1, e1, e3, e4⟩ (fun hHeld => ?_)
  refine wpAnyH_take (i := 0) (v := ?_) (by simp only [List.getElem?_toArray, List.getElem?_cons_zero]; rfl) (by kernel_rfl) (by kernel_rfl) (by kernel_rfl) (fun _ _ _ h => h) (Or.inl ⟨by rfl, ?_⟩) (by assumption) ?_
  rotate_left
  · intro w hSw
    try dsimp only at hSw
    go_simp
    try with_reducible rfl
  try simp only [Act.put, List.setIfInBounds_toArray, List.set_cons_zero, List.set_cons_succ]
  refine wpAnyH_take (i := 1) (v := ?_) (by simp only [List.getElem?_toArray, List.getElem?_cons_succ, List.getElem?_cons_zero]; rfl) (by kernel_rfl) (by kernel_rfl) (by kernel_rfl) (fun _ _ _ h => h) (Or.inl ⟨by rfl, ?_⟩) (by assumption) ?_
  rotate_left
  · intro w hSw
    try dsimp only at hSw
    go_simp
    try with_reducible rfl
  try simp only [Act.put, List.setIfInBounds_toArray, List.set_cons_zero, List.set_cons_succ]
  refine wpAnyH_take (i := 2) (v := ?_) (by simp only [List.getElem?_toArray, List.getElem?_cons_succ, List.getElem?_cons_zero]; rfl) (by kernel_rfl) (by kernel_rfl) (by kernel_rfl) (fun _ _ _ h => h) (Or.inl ⟨by rfl, ?_⟩) (by assumption) ?_
  rotate_left
  · intro w hSw
    try dsimp only at hSw
    go_simp
    try with_reducible rfl
  try simp only [Act.put, List.setIfInBounds_toArray, List.set_cons_zero, List.set_cons_succ]
  refine wpAnyH_take (i := 3) (v := ?_) (by simp only [List.getElem?_toArray, List.getElem?_cons_succ, List.getElem?_cons_zero]; rfl) (by kernel_rfl) (by kernel_rfl) (by kernel_rfl) (fun _ _ _ h => h) (Or.inl ⟨by rfl, ?_⟩) (by assumption) ?_
  rotate_left
  · intro w hSw
    try dsimp only at hSw
    go_simp
    try with_reducible rfl
  try simp only [Act.put, List.setIfInBounds_toArray, List.set_cons_zero, List.set_cons_succ]
  refine wpAnyH_take (i := 4) (v := ?_) (by simp only [List.getElem?_toArray, List.getElem?_cons_succ, List.getElem?_cons_zero]; rfl) (by kernel_rfl) (by kernel_rfl) (by kernel_rfl) (fun _ _ _ h => h) (Or.inl ⟨by rfl, ?_⟩) (by assumption) ?_
  rotate_left
  · intro w hSw
    try dsimp only at hSw
    go_simp
    try with_reducible rfl
  try simp only [Act.put, List.setIfInBounds_toArray, List.set_cons_zero, List.set_cons_succ]
  refine wpAnyH_take (i := 5) (v := ?_) (by simp only [List.getElem?_toArray, List.getElem?_cons_succ, List.getElem?_cons_zero]; rfl) (by kernel_rfl) (by kernel_rfl) (by kernel_rfl) (fun _ _ _ h => h) (Or.inl ⟨by rfl, ?_⟩) (by assumption) ?_
  rotate_left
  · intro w hSw
    try dsimp only at hSw
    go_simp
    try with_reducible rfl
  try simp only [Act.put, List.setIfInBounds_toArray, List.set_cons_zero, List.set_cons_succ]
  refine wpAnyH_take (i := 6) (v := ?_) (by simp only [List.getElem?_toArray, List.getElem?_cons_succ, List.getElem?_cons_zero]; rfl) (by kernel_rfl) (by kernel_rfl) (by kernel_rfl) (fun _ _ _ h => h) (Or.inl ⟨by rfl, ?_⟩) (by assumption) ?_
  rotate_left
  · intro w hSw
    try dsimp only at hSw
    go_simp
    try with_reducible rfl
  try simp only [Act.put, List.setIfInBounds_toArray, List.set_cons_zero, List.set_cons_succ]
  refine wpAnyH_take (i := 7) (v := ?_) (by simp only [List.getElem?_toArray, List.getElem?_cons_succ, List.getElem?_cons_zero]; rfl) (by kernel_rfl) (by kernel_rfl) (by kernel_rfl) (fun _ _ _ h => h) (Or.inl ⟨by rfl, ?_⟩) (by assumption) ?_
  rotate_left
  · intro w hSw
    try dsimp only at hSw
    go_simp
    try with_reducible rfl
  try simp only [Act.put, List.setIfInBounds_toArray, List.set_cons_zero, List.set_cons_succ]
  refine wpAnyH_take (i := 8) (v := ?_) (by simp only [List.getElem?_toArray, List.getElem?_cons_succ, List.getElem?_cons_zero]; rfl) (by kernel_rfl) (by kernel_rfl) (by kernel_rfl) (fun _ _ _ h => h) (Or.inl ⟨by rfl, ?_⟩) (by assumption) ?_
  rotate_left
  · intro w hSw
    try dsimp only at hSw
    go_simp
    try with_reducible rfl
  try simp only [Act.put, List.setIfInBounds_toArray, List.set_cons_zero, List.set_cons_succ]
  refine wpAnyH_take (i := 10) (v := ?_) (by simp only [List.getElem?_toArray, List.getElem?_cons_succ, List.getElem?_cons_zero]; rfl) (by kernel_rfl) (by kernel_rfl) (by kernel_rfl) (fun _ _ _ h => h) (Or.inl ⟨by rfl, ?_⟩) (by assumption) ?_
  rotate_left
  · intro w hSw
    try dsimp only at hSw
    go_simp
    try with_reducible rfl
  try simp only [Act.put, List.setIfInBounds_toArray, List.set_cons_zero, List.set_cons_succ]
  refine wpAnyH_take (i := 11) (v := ?_) (by simp only [List.getElem?_toArray, List.getElem?_cons_succ, List.getElem?_cons_zero]; rfl) (by kernel_rfl) (by kernel_rfl) (by kernel_rfl) (fun _ _ _ h => h) (Or.inl ⟨by rfl, ?_⟩) (by assumption) ?_
  rotate_left
  · intro w hSw
    try dsimp only at hSw
    go_simp
    try with_reducible rfl
  try simp only [Act.put, List.setIfInBounds_toArray, List.set_cons_zero, List.set_cons_succ]
  refine wpAnyH_take (i := 13) (v := ?_) (by simp only [List.getElem?_toArray, List.getElem?_cons_succ, List.getElem?_cons_zero]; rfl) (by kernel_rfl) (by kernel_rfl) (by kernel_rfl) (fun _ _ _ h => h) (Or.inl ⟨by rfl, ?_⟩) (by assumption) ?_
  rotate_left
  · intro w hSw
    try dsimp only at hSw
    go_simp
    try with_reducible rfl
  try simp only [Act.put, List.setIfInBounds_toArray, List.set_cons_zero, List.set_cons_succ]
  refine wpAnyH_take (i := 14) (v := ?_) (by simp only [List.getElem?_toArray, List.getElem?_cons_succ, List.getElem?_cons_zero]; rfl) (by kernel_rfl) (by kernel_rfl) (by kernel_rfl) (fun _ _ _ h => h) (Or.inl ⟨by rfl, ?_⟩) (by assumption) ?_
  rotate_left
  · intro w hSw
    try dsimp only at hSw
    go_simp
    try with_reducible rfl
  try simp only [Act.put, List.setIfInBounds_toArray, List.set_cons_zero, List.set_cons_succ]
  refine wpAnyH_ready (rs := [9]) (by kernel_rfl) (by simp) ?_
  refine AllReadyH.cons (by simp only [List.getElem?_toArray, List.getElem?_cons_succ, List.getElem?_cons_zero]; rfl) (fun K hK => ?_) AllReadyH.nil
  go_simp
  refine hK.out _ _ ⟨hc1, e1, e3, e4⟩ (fun hHeld => ?_)
  clear hK K
  try simp only [Act.put, List.setIfInBounds_toArray, List.set_cons_zero, List.set_cons_succ]
  refine wpAnyH_ready (rs := [12]) (by kernel_rfl) (by simp) ?_
  refine AllReadyH.cons (by simp only [List.getElem?_toArray, List.getElem?_cons_succ, List.getElem?_cons_zero]; rfl) (fun K hK => ?_) AllReadyH.nil
  go_simp
  refine (shorten_to W1.drew B (.slice p2 ys.length cap2) ys size HZ.out HOF.out HBB.out HFT.out).mono ?_
  rintro e w8 ⟨v8, rfl, o8, b8, a8⟩
  obtain ⟨zs, hzs⟩ : ∃ zs, zs = ys.take size := ⟨_, rfl⟩
  have HZS := Lib.hid hzs
  rw [← hzs] at o8
  clear hzs
  have HZL : Hid (zs.length ≤ 1000000000) := Lib.hid (by rw [HZS.out, List.length_take]; have := HSN.out; omega)
  obtain ⟨p8, cap8, rfl⟩ := own_slice o8
  have HD8 := Lib.hid (HD1.out.kb (w' := w8) ⟨b8.os, b8.tape, b8.output, b8.size, b8.block⟩)
  have HC8 := Lib.hid (HC1.out.kb (w' := w8) ⟨b8.os, b8.tape, b8.output, b8.size, b8.block⟩)
  have HO8 : Hid (∀ S, Only S w w8) := Lib.hid (fun S => (Only.of_below (HB.out.trans (Below.mono (w := W1) (w' := w8) ⟨b8.os, b8.tape, b8.output, b8.size, b8.block⟩ HB.out.size))))
  have O8 := Lib.hid o8
  have A8 : Hid (∀ k, Value.ownBlock (.slice p8 zs.length cap8) = some k → (valAt name L).ownBlock = some k ∨ w.heap.size ≤ k) := Lib.hid (fun k hk => by
    rcases a8 k hk with e | e
    · exact .inl (by rw [HV.out]; exact e)
    · exact .inr (Nat.le_trans HB.out.size e))
  clear o8 b8 a8
  go_wp2_with fail
  refine hK.out _ _ ⟨HD8.out.d.c1, HC8.out.c1, HC8.out.c3, HC8.out.c4⟩ (fun hHeld => ?_)
  clear hK K
  try simp only [Act.put, List.setIfInBounds_toArray, List.set_cons_zero, List.set_cons_succ]
  refine wpAnyH_ready (rs := [15]) (by kernel_rfl) (by simp) ?_
  refine AllReadyH.cons (by simp only [List.getElem?_toArray, List.getElem?_cons_succ, List.getElem?_cons_zero]; rfl) (fun K hK => ?_) AllReadyH.nil
  go_simp
  refine (restore_drop w8 b c L name (.slice p8 zs.length cap8) HD8.out.d HD8.out.m HD8.out.ne HD8.out.own.shp (small_key HS.out.n1).1 (by rw [← HYS.out]; exact Nat.le_trans HSN.out (by decide)) HU.out.1 (Int.le_trans HU.out.2 (by decide))).mono ?_
  rintro e w9 ⟨rfl, hd, hm, ho⟩
  have H9 := Lib.hid (And.intro hd (And.intro hm ho))
  have HC9 := Lib.hid (HC8.out.kept ho (by rintro (e | e); exact absurd e (by have := HD.out.d.lt; omega); exact absurd e (by have := HD.out.m.lt; omega)))
  clear hd hm ho
  go_wp2_with fail
  refine hK.out _ _ ⟨H9.out.1.c1, HC9.out.c1, HC9.out.c3, HC9.out.c4⟩ (fun hHeld => ?_)
  clear hK K
  try simp only [Act.put, List.setIfInBounds_toArray, List.set_cons_zero, List.set_cons_succ]
  refine wpAnyH_done (by kernel_rfl) ?_ _
  refine NoPanic.normal ?_
  go_wp2_with fail
  go_end0
  refine ⟨rfl, _, _, ⟨drop_dc HD8.out.less H9.out.1 H9.out.2.1 H9.out.2.2, (HO8.out _).trans H9.out.2.2 (fun _ h => h) (fun k _ e => by rcases e with rfl | rfl; exact .inl rfl; exact .inr (.inl rfl)), fun k hk => .inl (foot_less (foot_drop HD.out.asc hk))⟩, ?_⟩
  rw [fb_del]; simp [undoF]

/-- What undo wants to know of a change. -/
structure Undoable (L : List (Key × Ent)) (g : Chg) : Prop where
  small : Small L g
  kind : 0 ≤ g.kind ∧ g.kind ≤ 3
  size : g.kind = 0 → g.size ≤ (bytesAt g.name L).length
theorem undo_to (w : World) (B b : Nat) (c : Cst) (L : List (Key × Ent)) (Pf P : List Chg) (g : Chg) (h : DC w B b c L Pf (P ++ [g])) (hs : Undoable L g) :
    Calls Tryz.prog 31 #[.pointer (some ⟨b,0,none⟩), g.val] w (UndoPost w B b c L Pf P g) := by
  obtain ⟨k0, k3⟩ := hs.kind
  by_cases h0 : g.kind = 0
  · have hz := hs.size h0
    have hlo : BOwn w B g.lost g.xs := h.own.lost g (by simp)
    have hsm := hs.small
    clear hs k0 k3
    obtain ⟨kind, name, to, size, was, lost, xs⟩ := g
    simp only at h0
    subst h0
    replace hlo : BOwn w B lost xs := hlo
    obtain ⟨p, cap, rfl⟩ := own_slice hlo
    cases was with
    | true => exact undo_app_true w B b c L Pf P name to size p cap xs h hsm hz
    | false => exact undo_app_false w B b c L Pf P name to size p cap xs h hsm hz
  by_cases h1 : g.kind = 1
  · exact undo_tru w B b c L Pf P g h h1 hs.small
  by_cases h2 : g.kind = 2
  · exact undo_ren w B b c L Pf P g h h2 hs.small
  · exact undo_rem w B b c L Pf P g h (by omega) hs.small
end Go.Proofs.YtfneadlknieppaaGreatDoor
