/- What undo does with an appended and with a truncated file. Conditions: the numbers are no greater than a program's may be. -/
import Derived.Test.YtemfblhlkonlpaaDoorDskU
import Derived.Test.YtemfblhlkonlpaaDoorGenApp
import Derived.Deep.RegionHeld3
namespace Go.Proofs.YtemfblhlkonlpaaDoor
open Go.RowKit
open Go.Maps

/-- 'append(s, x...)' of bytes at a step of a region that draws. -/
theorem step_append_bytes {ops : Array Oper} {o : Oper} {a : Act} {w : World} {K : Act → World → Prop} {Q : Exit → Act → World → Prop} {E : Prop} (hgd : o.guard = none) (s x : Operand)
    (ho : o.op = .call { callee := .builtin .append, args := #[s, x], argTypes := #[70, 70] })
    (base : Nat) (v : Value) (xs : List Int) (hs : a.eval s = v) (hown : BOwn w base v xs) (u : Value) (l : List Int) (hx : a.eval x = u) (hse : Seen w u l)
    (hb : xs.length + l.length ≤ 140737488351232) (hbase : base ≤ w.heap.size)
    (h : ∀ v' w', BOwn w' base v' (xs ++ l) → w.grownBy w' v.ownBlock → (v'.ownBlock = v.ownBlock ∨ v'.ownBlock = some w.heap.size) → K (a.put o.dst v') w') :
    if Region.wanted o (yielded ops a.tmps) = true then Oper.wp Tryd.prog o a w K Q else E := by
  have hw : Region.wanted o (yielded ops a.tmps) = true := by simp [Region.wanted, hgd]
  rw [if_pos hw]
  obtain ⟨i0, hi0, hz0, hz1, hz2⟩ := info_parts u8info
  rcases hse with ⟨rfl, rfl⟩ | ⟨ad, cap, rfl, hc, hu⟩
  · have hrun := run_append_owned_none (P := Tryd.prog) (w := w) base _ o.type 5 i0 1 Tryd.underlying70 hi0 v xs.length (us xs) hown
    unfold Oper.wp
    simp [execOp, ho, resolve, invoke, builtin, hs, hx, hrun, Result.andThen]
    exact h v w (by rw [List.append_nil]; exact hown) ⟨rfl, rfl, rfl, Nat.le_refl _, fun _ _ _ => rfl⟩ (.inl rfl)
  · obtain ⟨v', w', hr, h2, h3, h4, h5⟩ := run_append_own_at (P := Tryd.prog) w base _ o.type 5 i0 _ 1 1 Tryd.underlying70 hi0 hz0 hz1 hz2 rfl (by omega) v xs.length (us xs) hown ad l.length cap (us l) (by simp) hu (by intro u hu; obtain ⟨x, _, rfl⟩ := List.mem_map.1 hu; rfl) (by simp [maxLen]; omega) (by omega) hbase
    unfold Oper.wp execOp
    simp only [ho, resolve, invoke, builtin, Sem.run_bind, Sem.run_pure, Result.andThen_ok, List.map_toArray, List.map_cons, List.map_nil, hs, hx, hr]
    refine h _ _ ?_ h3 h5
    show w'.ownsRow base 5 1 v' (xs ++ l).length (us (xs ++ l))
    rw [List.length_append, us, List.map_append]
    exact h2

/-- Where nothing but the file's own block has turned. -/
theorem rest_kept {w w1 : World} {B b : Nat} {c : Cst} {L : List (Key × Ent)} {Pf P : List Chg} {n : Key} (h : DC w B b c L Pf P) (ho : Only (fun k => (valAt n L).ownBlock = some k) w w1) :
    DAt w1 b c ∧ MAt w1 c.mb L ∧ PAt w1 B c.pv Pf ∧ Own w1 B (adel n L) P :=
  ⟨h.d.kept ho (fun e => h.cnt_b (own_cnt e)), h.m.kept ho (fun e => h.cnt_m (own_cnt e)), own_kept h.p ho (fun k hk e => h.pv_cnt (own_cnt e) hk), (h.own.del n).kept ho fun k hk e => by
    have h1 := cnt_del k n P h.asc
    rw [own1_self e] at h1
    have h2 := h.sep k
    omega⟩
/-- A file laid whose slice lies in its old block or in a new one. -/
theorem put_dto2 {w w1 w' : World} {B b : Nat} {c : Cst} {L : List (Key × Ent)} {Pf P : List Chg} {n : Key} {v : Value} {xs : List Int} (S : Nat → Prop) (h : DC w B b c L Pf P) (h0 : Only S w w1)
    (hd1 : DAt w1 b c) (hm1 : MAt w1 c.mb L) (hp1 : PAt w1 B c.pv Pf) (ho1 : Own w1 B (adel n L) P) (hv : BOwn w1 B v xs) (hat : ∀ k, v.ownBlock = some k → (valAt n L).ownBlock = some k ∨ w.heap.size ≤ k)
    (hl : L.length < 2000000000) (hS : ∀ k, Foot b c L P k → S k)
    (hd : DAt w' b { c with used := c.used + ((xs.length : Int) - (bytesAt n L).length) }) (hm : MAt w' c.mb (aput n (v, xs) L)) (ho : Only (fun k => k = b ∨ k = c.mb) w1 w') :
    DTo w B b S { c with used := c.used + ((xs.length : Int) - (bytesAt n L).length) } (aput n (v, xs) L) Pf P w' := by
  have how : Own w1 B (aput n (v, xs) L) P := ⟨fun e he => by
    rcases (ains_mem _ _ _).1 he with rfl | he
    · exact hv
    · exact ho1.file e he, ho1.lost⟩
  refine ⟨{
    d := hd
    m := hm
    p := own_kept hp1 ho fun k hk e => by
      rcases e with rfl | rfl
      · exact pv_apart' hd1 hp1 _ hk rfl
      · exact h.pv_m hk
    own := how.kept ho fun k hk e => by
      rcases e with rfl | rfl
      · exact own_ne how hd1 hk rfl
      · exact own_nm how hm1 hk rfl
    sep := fun k => by
      have h1 := cnt_put k n (v, xs) P h.asc
      have h2 := h.sep k
      have h3 := own1_le k v
      by_cases hk : v.ownBlock = some k
      · rcases hat k hk with e | e
        · rw [own1_self e] at h1; simp only at h1; omega
        · have := cnt_new h.own e; simp only at h1; omega
      · have : own1 k v = 0 := by unfold own1; rw [if_neg hk]
        simp only at h1; omega
    asc := h.asc.put n _
    used := by
      have h1 := tot_put n (v, xs) h.asc
      have h2 := h.used
      simp only at h1 ⊢
      omega
    bb := h.bb
    bm := h.bm
    many := by have := aput_length n (v, xs) L; omega }, ?_, ?_⟩
  · exact h0.trans ho (fun _ h => h) (fun k _ e => by
      rcases e with rfl | rfl
      · exact hS _ (.inl rfl)
      · exact hS _ (.inr (.inl rfl)))
  · intro k hk
    rcases foot_put h.asc hk with e | e
    · rcases hat k e with e | e
      · exact .inl (hS k (.inr (.inr (.inr (own_cnt e)))))
      · exact .inr e
    · exact .inl (hS k e)

set_option maxRecDepth 20000 in
set_option maxHeartbeats 4000000 in
theorem undo_tru (w : World) (B b : Nat) (c : Cst) (L : List (Key × Ent)) (Pf P : List Chg) (g : Chg) (h : DC w B b c L Pf (P ++ [g])) (hk : g.kind = 1) (hs : Small L g) :
    Calls Tryd.prog 68 #[.pointer (some ⟨b,0,none⟩), g.val] w (UndoPost w B b c L Pf P g) := by
  have hlo : BOwn w B g.lost g.xs := h.own.lost g (by simp)
  have hsz := fun n => small_bytes hs n
  have hu := used_range h hs.tl
  obtain ⟨kind, name, to, size, was, lost, xs⟩ := g
  simp only at hk
  subst hk
  replace hlo : BOwn w B lost xs := hlo
  obtain ⟨p, cap, rfl⟩ := own_slice hlo
  have hb1 : Below w.heap.size w (w.alloc (.cells #[.int .i64 1, stv name, stv to, .int .i64 size, .bool was, .slice p xs.length cap] 126)) := (Below.refl _ w).alloc (Nat.le_refl _) _
  have h1 := h.kb hb1
  obtain ⟨p2, cap2, hv2⟩ := h.own.shp.at name
  have HD := Lib.hid h
  have HD1 : Hid (DC (w.alloc (.cells #[.int .i64 1, stv name, stv to, .int .i64 size, .bool was, .slice p xs.length cap] 126)) B b c L Pf (P ++ [{ kind := 1, name := name, to := to, size := size, was := was, lost := .slice p xs.length cap, xs := xs }])) := Lib.hid h1
  have HC1 : Hid (CAt (w.alloc (.cells #[.int .i64 1, stv name, stv to, .int .i64 size, .bool was, .slice p xs.length cap] 126)) w.heap.size { kind := 1, name := name, to := to, size := size, was := was, lost := .slice p xs.length cap, xs := xs }) := Lib.hid (heap_alloc_last w _)
  have HB := Lib.hid hb1
  have HL : Hid (BOwn (w.alloc (.cells #[.int .i64 1, stv name, stv to, .int .i64 size, .bool was, .slice p xs.length cap] 126)) B (.slice p xs.length cap) xs) := Lib.hid (own_kept hlo (S := fun _ => False) (undo_val_alloc _) (fun _ _ h => h))
  have HV := Lib.hid hv2
  have HS := Lib.hid hs
  have HSN := Lib.hid (hsz name)
  have HU := Lib.hid hu
  have hbl := h.d.lt
  clear h h1 hlo hs hb1 hsz hu hv2
  unfold Chg.val
  go_enter Tryd.func68, Tryd.ntmps68
  go_wp2_with fail
  generalize w.alloc (.cells #[.int .i64 1, stv name, stv to, .int .i64 size, .bool was, .slice p xs.length cap] 126) = W1 at *
  have e1 := HC1.out.c1
  have e5 := HC1.out.c5
  have hc1 := HD1.out.d.c1
  have hlk : (Instr.lookup 119 (.map (some c.mb)) (stv name) false).run Tryd.prog W1.drew = .ok (.slice p2 (bytesAt name L).length cap2) W1.drew := by
    rw [← HV.out]; exact MAt.look (w := W1.drew) HD1.out.m name (small_key HS.out.n1).1
  have HOF : Hid (BOwn W1 B (.slice p2 (bytesAt name L).length cap2) (bytesAt name L)) := Lib.hid (by rw [← HV.out]; exact HD1.out.own.at name)
  have HSE : Hid (Seen W1 (.slice p xs.length cap) xs) := Lib.hid (Seen.own HL.out)
  have HFT : Hid ((bytesAt name L).length + xs.length ≤ 140737488351232) := Lib.hid (by have := HSN.out; have := HS.out.xl; simp only at this; omega)
  have HBB := Lib.hid HD1.out.base
  try simp only [List.append]
  refine wp_region_noPanic ?_
  refine wp_region_held_drew (S := (fun W => W.cell? ⟨b, 1, none⟩ = some (.map (some c.mb)) ∧ W.cell? ⟨w.heap.size, 1, none⟩ = some (stv name) ∧ W.cell? ⟨w.heap.size, 5, none⟩ = some (.slice p xs.length cap))) (by kernel_rfl) ⟨hc1, e1, e5⟩ (fun hHeld => ?_)
  refine wpAnyH_take (i := 0) (v := ?_) (by simp only [List.getElem?_toArray, List.getElem?_cons_zero]; rfl) (by kernel_rfl) (by kernel_rfl) (by kernel_rfl) (fun _ _ _ h => h) (Or.inl ⟨by rfl, ?_⟩) (by assumption) ?_
  rotate_left
  · intro w hSw
    try dsimp only at hSw
    go_simp
    try with_reducible rfl
  try simp only [Act.put, List.setIfInBounds_toArray, List.set_cons_zero, List.set_cons_succ]
  refine wpAnyH_take (i := 1) (v := ?_) (by simp only [List.getElem?_toArray, List.getElem?_cons_succ, List.getElem?_cons_zero]; rfl) (by kernel_rfl) (by kernel_rfl) (by kernel_rfl) (fun _ _ _ h => h) (Or.inl ⟨by rfl, ?_⟩) (by assumption) ?_
  rotate_left
  · intro w hSw
    try dsimp only at hSw
    go_simp
    try with_reducible rfl
  try simp only [Act.put, List.setIfInBounds_toArray, List.set_cons_zero, List.set_cons_succ]
  refine wpAnyH_take (i := 2) (v := ?_) (by simp only [List.getElem?_toArray, List.getElem?_cons_succ, List.getElem?_cons_zero]; rfl) (by kernel_rfl) (by kernel_rfl) (by kernel_rfl) (fun _ _ _ h => h) (Or.inl ⟨by rfl, ?_⟩) (by assumption) ?_
  rotate_left
  · intro w hSw
    try dsimp only at hSw
    go_simp
    try with_reducible rfl
  try simp only [Act.put, List.setIfInBounds_toArray, List.set_cons_zero, List.set_cons_succ]
  refine wpAnyH_take (i := 3) (v := ?_) (by simp only [List.getElem?_toArray, List.getElem?_cons_succ, List.getElem?_cons_zero]; rfl) (by kernel_rfl) (by kernel_rfl) (by kernel_rfl) (fun _ _ _ h => h) (Or.inl ⟨by rfl, ?_⟩) (by assumption) ?_
  rotate_left
  · intro w hSw
    try dsimp only at hSw
    go_simp
    try with_reducible rfl
  try simp only [Act.put, List.setIfInBounds_toArray, List.set_cons_zero, List.set_cons_succ]
  refine wpAnyH_take (i := 4) (v := ?_) (by simp only [List.getElem?_toArray, List.getElem?_cons_succ, List.getElem?_cons_zero]; rfl) (by kernel_rfl) (by kernel_rfl) (by kernel_rfl) (fun _ _ _ h => h) (Or.inl ⟨by rfl, ?_⟩) (by assumption) ?_
  rotate_left
  · intro w hSw
    try dsimp only at hSw
    go_simp
    try with_reducible rfl
  try simp only [Act.put, List.setIfInBounds_toArray, List.set_cons_zero, List.set_cons_succ]
  refine wpAnyH_take (i := 5) (v := ?_) (by simp only [List.getElem?_toArray, List.getElem?_cons_succ, List.getElem?_cons_zero]; rfl) (by kernel_rfl) (by kernel_rfl) (by kernel_rfl) (fun _ _ _ h => h) (Or.inl ⟨by rfl, ?_⟩) (by assumption) ?_
  rotate_left
  · intro w hSw
    try dsimp only at hSw
    go_simp
    try with_reducible rfl
  try simp only [Act.put, List.setIfInBounds_toArray, List.set_cons_zero, List.set_cons_succ]
  refine wpAnyH_take (i := 6) (v := ?_) (by simp only [List.getElem?_toArray, List.getElem?_cons_succ, List.getElem?_cons_zero]; rfl) (by kernel_rfl) (by kernel_rfl) (by kernel_rfl) (fun _ _ _ h => h) (Or.inl ⟨by rfl, ?_⟩) (by assumption) ?_
  rotate_left
  · intro w hSw
    try dsimp only at hSw
    go_simp
    try with_reducible rfl
  try simp only [Act.put, List.setIfInBounds_toArray, List.set_cons_zero, List.set_cons_succ]
  refine wpAnyH_take (i := 7) (v := ?_) (by simp only [List.getElem?_toArray, List.getElem?_cons_succ, List.getElem?_cons_zero]; rfl) (by kernel_rfl) (by kernel_rfl) (by kernel_rfl) (fun _ _ _ h => h) (Or.inl ⟨by rfl, ?_⟩) (by assumption) ?_
  rotate_left
  · intro w hSw
    try dsimp only at hSw
    go_simp
    try with_reducible rfl
  try simp only [Act.put, List.setIfInBounds_toArray, List.set_cons_zero, List.set_cons_succ]
  refine wpAnyH_take (i := 8) (v := ?_) (by simp only [List.getElem?_toArray, List.getElem?_cons_succ, List.getElem?_cons_zero]; rfl) (by kernel_rfl) (by kernel_rfl) (by kernel_rfl) (fun _ _ _ h => h) (Or.inl ⟨by rfl, ?_⟩) (by assumption) ?_
  rotate_left
  · intro w hSw
    try dsimp only at hSw
    go_simp
    try with_reducible rfl
  try simp only [Act.put, List.setIfInBounds_toArray, List.set_cons_zero, List.set_cons_succ]
  refine wpAnyH_take (i := 10) (v := ?_) (by simp only [List.getElem?_toArray, List.getElem?_cons_succ, List.getElem?_cons_zero]; rfl) (by kernel_rfl) (by kernel_rfl) (by kernel_rfl) (fun _ _ _ h => h) (Or.inl ⟨by rfl, ?_⟩) (by assumption) ?_
  rotate_left
  · intro w hSw
    try dsimp only at hSw
    go_simp
    try with_reducible rfl
  try simp only [Act.put, List.setIfInBounds_toArray, List.set_cons_zero, List.set_cons_succ]
  refine wpAnyH_take (i := 11) (v := ?_) (by simp only [List.getElem?_toArray, List.getElem?_cons_succ, List.getElem?_cons_zero]; rfl) (by kernel_rfl) (by kernel_rfl) (by kernel_rfl) (fun _ _ _ h => h) (Or.inl ⟨by rfl, ?_⟩) (by assumption) ?_
  rotate_left
  · intro w hSw
    try dsimp only at hSw
    go_simp
    try with_reducible rfl
  try simp only [Act.put, List.setIfInBounds_toArray, List.set_cons_zero, List.set_cons_succ]
  refine wpAnyH_ready (rs := [9]) (by kernel_rfl) (by simp) ?_
  refine AllReadyH.cons (by simp only [List.getElem?_toArray, List.getElem?_cons_succ, List.getElem?_cons_zero]; rfl) (fun K hK => ?_) AllReadyH.nil
  go_simp
  refine hK.out _ _ ⟨hc1, e1, e5⟩ (fun hHeld => ?_)
  clear hK K
  try simp only [Act.put, List.setIfInBounds_toArray, List.set_cons_zero, List.set_cons_succ]
  refine wpAnyH_ready (rs := [12]) (by kernel_rfl) (by simp) ?_
  refine AllReadyH.cons (by simp only [List.getElem?_toArray, List.getElem?_cons_succ, List.getElem?_cons_zero]; rfl) (fun K hK => ?_) AllReadyH.nil
  refine step_append_bytes (by rfl) _ _ (by rfl) B (.slice p2 (bytesAt name L).length cap2) (bytesAt name L) (by rfl) HOF.out (.slice p xs.length cap) xs (by rfl) HSE.out HFT.out HBB.out ?_
  intro v8 w8 own8 grow8 hat8
  have HLZ : Hid ((bytesAt name L ++ xs).length ≤ 140737488351232) := Lib.hid (by rw [List.length_append]; exact HFT.out)
  obtain ⟨zs, hz⟩ : ∃ zs, zs = bytesAt name L ++ xs := ⟨_, rfl⟩
  have HZ := Lib.hid hz
  rw [← hz] at own8 HLZ
  clear hz
  obtain ⟨p8, cap8, rfl⟩ := own_slice own8
  have HO8 : Hid (Only (fun k => (valAt name L).ownBlock = some k) W1 w8) := Lib.hid ((Only.refl _ W1).drew.grown grow8 (fun k _ e => by rw [HV.out]; exact e))
  have HR8 := Lib.hid (rest_kept HD1.out.less HO8.out)
  have HC8 := Lib.hid (HC1.out.kept HO8.out (fun e => by have := HD.out.own.lt (own_cnt e); omega))
  have O8 := Lib.hid own8
  have A8 := Lib.hid hat8
  clear own8 grow8 hat8
  refine hK.out _ _ ⟨HR8.out.1.c1, HC8.out.c1, HC8.out.c5⟩ (fun hHeld => ?_)
  clear hK K
  try simp only [Act.put, List.setIfInBounds_toArray, List.set_cons_zero, List.set_cons_succ]
  refine wpAnyH_ready (rs := [13]) (by kernel_rfl) (by simp) ?_
  refine AllReadyH.cons (by simp only [List.getElem?_toArray, List.getElem?_cons_succ, List.getElem?_cons_zero]; rfl) (fun K hK => ?_) AllReadyH.nil
  go_simp
  refine (put_to w8 b c L name p8 cap8 zs HR8.out.1 HR8.out.2.1 HD.out.ne HD.out.own.shp (small_key HS.out.n1).1 (small_len (Nat.le_succ_of_le HS.out.ml)).1 (Nat.le_trans HLZ.out (by decide)) (Nat.le_trans HSN.out (by decide)) HU.out.1 (Int.le_trans HU.out.2 (by decide)) (small_key HS.out.n1).2.1).mono ?_
  rintro e w9 ⟨rfl, hd, hm, ho⟩
  have H9 := Lib.hid (And.intro hd (And.intro hm ho))
  have HC9 := Lib.hid (HC8.out.kept ho (by rintro (e | e); exact absurd e (by have := HD.out.d.lt; omega); exact absurd e (by have := HD.out.m.lt; omega)))
  clear hd hm ho
  go_wp2_with fail
  refine hK.out _ _ ⟨H9.out.1.c1, HC9.out.c1, HC9.out.c5⟩ (fun hHeld => ?_)
  clear hK K
  try simp only [Act.put, List.setIfInBounds_toArray, List.set_cons_zero, List.set_cons_succ]
  refine wpAnyH_done (by kernel_rfl) ?_ _
  refine NoPanic.normal ?_
  go_wp2_with fail
  go_end0
  refine ⟨rfl, _, _, put_dto2 _ HD.out.less (Only.trans (Only.of_below HB.out) HO8.out (fun _ h => h) (fun k _ e => foot_less (.inr (.inr (.inr (own_cnt e)))))) HR8.out.1 HR8.out.2.1 HR8.out.2.2.1 HR8.out.2.2.2 O8.out ?_ (small_len (Nat.le_succ_of_le HS.out.ml)).2 (fun k hk => foot_less hk) H9.out.1 H9.out.2.1 H9.out.2.2, ?_⟩
  · intro k hk
    rcases A8.out with e | e
    · rw [e] at hk; exact .inl (by rw [HV.out]; exact hk)
    · rw [e] at hk; cases hk; exact .inr HB.out.size
  · rw [fb_put, HZ.out]; simp [undoF, fb_bytes]
end Go.Proofs.YtemfblhlkonlpaaDoor
