/- append of a whole slice of spans; slices.Concat of two; Union. Conditions: no more than a million spans together; no end above the largest number. -/
import Derived.Test.YtpjfgkjhhmfhkaaSpnK
import Derived.Maps.AppendAt
import Derived.Laws.OwnMore
import Derived.Shelf.Spec.SlicesGrow
namespace Go.Proofs.Ytpjfgkjhhmfhkaa
open Go.RowKit Go.Shelf Go.Lib
def Try.sgrow_ren : Go.Shelf.Ren := ⟨fun | 4 => 56 | n => n, fun | 22 => 24 | 25 => 23 | 3 => 3 | 4 => 4 | 9 => 9 | 20 => 20 | 0 => 0 | 2 => 3 | n => n, fun | n => n⟩
theorem Try.sgrow : Go.Proofs.Lays8.n4 Try.prog Try.sgrow_ren := {
  mixed := by kernel_rfl
  f4 := ⟨Try.f56.name, by decide, Try.func56.trans (congrArg some (by kernel_rfl))⟩
  t0 := Try.underlying0
  a0 := Try.isAgg0
  z0 := Try.sizeOf0
  v0 := Try.zeroValue0
  t3 := Try.underlying3
  a3 := Try.isAgg3
  z3 := Try.sizeOf3
  v3 := Try.zeroValue3
  t4 := Try.underlying4
  a4 := Try.isAgg4
  z4 := Try.sizeOf4
  v4 := Try.zeroValue4
  t9 := Try.underlying9
  a9 := Try.isAgg9
  z9 := Try.sizeOf9
  v9 := Try.zeroValue9
  t20 := Try.underlying20
  a20 := Try.isAgg20
  z20 := Try.sizeOf20
  v20 := Try.zeroValue20
  t22 := Try.underlying24
  a22 := Try.isAgg24
  z22 := Try.sizeOf24
  v22 := Try.zeroValue24 }

theorem run_append_none_c {w : World} (base : Nat) (t ty e : TypeId) (i : TypeInfo) (size c : Nat) (ht : Try.prog.underlying t = some (.slice e)) (hi : Try.prog.info? e = some i)
    (v : Value) (n : Nat) (xs : List Value) (hown : w.ownsRow base e size v n xs) :
    (Builtin.append_ #[t, t] ty #[v, .slice none 0 c]).run Try.prog w = .ok v w := by
  rcases hown.2 with ⟨rfl, rfl⟩ | ⟨g, cap, cur, rfl, _, _, hnc, _⟩
  · simp [Builtin.append_, run_underlying ht, sizeOf, typeInfo, hi, Builtin.lenOf, Builtin.firstCells]
  · simp [Builtin.append_, run_underlying ht, sizeOf, typeInfo, hi, Builtin.lenOf, Builtin.firstCells, hnc, storeCells]
theorem seen_fits {n m : Nat} (h : n + m ≤ 1000000) : n + m ≤ maxLen ∧ (n + m) * 16 ≤ 140737488355328 := by unfold maxLen; omega
/-- What append does with a slice of the call's own and one that is read. -/
theorem run_push_seen (w : World) (ty : TypeId) (B : Nat) (v u : Value) (l m : List Sp) (hown : SOwn w B v l) (hu : SSeen w u m) (hl : l.length + m.length ≤ 1000000) (hB : B ≤ w.heap.size) :
    ∃ p' c' w', (Builtin.append_ #[24, 24] ty #[v, u]).run Try.prog w = .ok (.slice p' (l.length + m.length) c') w' ∧ SOwn w' B (.slice p' (l.length + m.length) c') (l ++ m) ∧ Only (fun j => v.ownBlock = some j) w w' ∧ (∀ j, (Value.slice p' (l.length + m.length) c').ownBlock = some j → v.ownBlock = some j ∨ w.heap.size ≤ j) ∧ Below B w w' := by
  obtain ⟨i0, hi0, hz0, hz1, hz2⟩ := info_parts spinfo
  have hf := seen_fits hl
  obtain ⟨p, cap, rfl, hc, hs⟩ := hu
  cases p with
  | none =>
    have hm : m = [] := by
      cases m with
      | nil => rfl
      | cons s m => obtain ⟨_, _, e, _⟩ := hs 0 s rfl; cases e
    subst hm
    obtain ⟨p', c', rfl⟩ := hown.shape
    refine ⟨p', c', w, run_append_none_c B _ ty 23 i0 2 cap Try.underlying24 hi0 _ _ _ hown, by simpa using hown, ⟨rfl, rfl, rfl, Nat.le_refl _, fun _ _ _ => rfl⟩, fun j hj => .inl hj, Below.refl _ _⟩
  | some a =>
    have hnews : ∀ j u, (sps m)[j]? = some u → w.cell? (a.add j) = some u := fun j u hj => by
      have hjl := (List.getElem?_eq_some_iff.1 hj).1
      rw [sps_length] at hjl
      have hi : j / 2 < m.length := by omega
      obtain ⟨b, o, e, h1, h2⟩ := hs (j / 2) m[j / 2] (List.getElem?_eq_getElem hi)
      injection e with e
      subst e
      rw [Addr.add_lit]
      have hat := sps_at (l := m) (i := j / 2) (List.getElem?_eq_getElem hi)
      rcases Nat.mod_two_eq_zero_or_one j with h | h
      · have ej : j / 2 * 2 = j := by omega
        rw [ej] at h1 hat
        rw [h1, ← hj, hat.1]
      · have ej : j / 2 * 2 + 1 = j := by omega
        rw [Nat.add_assoc, ej] at h2
        rw [ej] at hat
        rw [h2, ← hj, hat.2]
    obtain ⟨v', w', hr, h2, h3, h4, h5⟩ := run_append_own_at (P := Try.prog) (w := w) B 24 ty 23 i0 _ 2 16 Try.underlying24 hi0 hz0 hz1 hz2 rfl (by decide) v l.length (sps l) hown a m.length cap (sps m) (sps_length m) hnews (sps_cell m) hf.1 hf.2 hB
    have hO : SOwn w' B v' (l ++ m) := by
      unfold SOwn
      rw [List.length_append, sps_app]
      exact h2
    obtain ⟨p', c', rfl⟩ := hO.shape
    rw [List.length_append] at hr hO h5
    have ho : Only (fun j => v.ownBlock = some j) w w' := (Only.refl _ w).grown h3 (fun k _ e => e)
    refine ⟨p', c', w', hr, hO, ho, fun j hj => ?_, ho.below hB (fun k hk => (hown.lt k hk).1)⟩
    rcases h5 with h5 | h5
    · rw [h5] at hj; exact .inl hj
    · rw [h5] at hj
      injection hj with hj
      exact .inr (by omega)
section
variable {ops : Array Oper} {rest : List Oper} {a : Act} {Q : Exit → Act → World → Prop} {o : Oper} {w : World}
theorem push_seen (hgd : o.guard = none) (s x : Operand) (ho : o.op = .call { callee := .builtin .append, args := #[s, x], argTypes := #[24, 24] })
    (B : Nat) (v u : Value) (l m : List Sp) (hs : a.eval s = v) (hown : SOwn w B v l) (hx : a.eval x = u) (hu : SSeen w u m) (hl : l.length + m.length ≤ 1000000) (hB : B ≤ w.heap.size)
    (h : ∀ p' c' w', SOwn w' B (.slice p' (l.length + m.length) c') (l ++ m) → Only (fun j => v.ownBlock = some j) w w' → (∀ j, (Value.slice p' (l.length + m.length) c').ownBlock = some j → v.ownBlock = some j ∨ w.heap.size ≤ j) → Below B w w' → wpList Try.prog ops Q rest (a.put o.dst (.slice p' (l.length + m.length) c')) w') :
    wpList Try.prog ops Q (o :: rest) a w := by
  refine wpList_plain hgd fun K hK => ?_
  obtain ⟨p', c', w', hr, h1, h2, h3, h4⟩ := run_push_seen w o.type B v u l m hown hu hl hB
  unfold Oper.wp execOp
  simp only [ho, resolve, invoke, builtin, Sem.run_bind, Sem.run_pure, Result.andThen_ok, List.map_toArray, List.map_cons, List.map_nil, hs, hx, hr]
  exact hK _ _ (h p' c' w' h1 h2 h3 h4)
end
/-- slices.Grow of nil. -/
theorem grow_to (w : World) (n : Nat) (hn : n ≤ 1000000) : Calls Try.prog 56 #[.slice none 0 0, .int .i64 n] w fun e w' => ∃ p c, e = .returned (.slice p 0 c) ∧ SOwn w' w.heap.size (.slice p 0 c) [] ∧ Below w.heap.size w w' := by
  by_cases h0 : n = 0
  · subst h0
    refine (Any8.slices_Grow_room Try.sgrow none 0 0 0 w (Nat.le_refl _) (by decide) (by decide) (by decide)).mono ?_
    rintro e w' ⟨rfl, rfl⟩
    exact ⟨_, _, rfl, SOwn.nil _ _, Below.refl _ _⟩
  · obtain ⟨i0, hi0, hz0, hz1, hz2⟩ := info_parts spinfo
    refine (Any8.slices_Grow_grow Try.sgrow i0 _ hi0 hz0 (by omega) none 0 0 n [] w (Nat.le_refl _) (by omega) (by rw [hz2]; omega) (by omega) (by simp) (fun _ => rfl) (fun a h => by cases h)).mono ?_
    rintro e w' ⟨rfl, rfl⟩
    refine ⟨_, _, rfl, ?_, ?_⟩
    · refine sown_mk (R := (Builtin.zeroCells #[.int .i64 0, .int .i64 0] (0 + n - 0) ++ Builtin.zeroCells #[.int .i64 0, .int .i64 0] (grownCap w (0 + n) 0 23 - (0 + n))).toList) rfl (Nat.le_refl _) ?_ (Nat.zero_le _) ?_ ?_
      · generalize hZ1 : Builtin.zeroCells #[.int .i64 0, .int .i64 0] (0 + n - 0) = Z1
        generalize hZ2 : Builtin.zeroCells #[.int .i64 0, .int .i64 0] (grownCap w (0 + n) 0 23 - (0 + n)) = Z2
        rw [show (sps [] ++ (Z1 ++ Z2).toList).toArray = #[] ++ Z1 ++ Z2 from by simp [sps], ← hZ1, ← hZ2]
        exact heap_alloc_last w.drew _
      · exact grownCap_le_maxLen w _ _ _ (by unfold maxLen; omega)
      · have h1 := grownCap_ge w (0 + n) 0 23
        have e : Try.sgrow_ren.t 25 = 23 := rfl
        rw [e]
        simp only [Array.length_toList, Array.size_append, size_zeroCells, List.length_nil]
        show (0 + n - 0) * 2 + (grownCap w (0 + n) 0 23 - (0 + n)) * 2 = _
        omega
    · exact (Below.refl _ w).drew.alloc (Nat.le_refl _) _
theorem cat_fits {a b n : Nat} (h : a + b ≤ 1000000) (hn : n = a + b) : wrap64 (a : Int) = a ∧ wrap64 ((a : Int) + b) = n ∧ ¬ (a : Int) < 0 ∧ ¬ (n : Int) < 0 := by unfold wrap64; omega
set_option maxHeartbeats 4000000 in
theorem concat_to (w : World) (g : Nat) (v u : Value) (a b : List Sp) (hg : w.heap[g]? = some (.cells #[v, u] 24 (0, 0))) (hv : SSeen w v a) (hu : SSeen w u b) (hl : a.length + b.length ≤ 1000000) :
    Calls Try.prog 48 #[.slice (some ⟨g, 0, none⟩) 2 2] w fun e w' => ∃ v', e = .returned v' ∧ SOwn w' w.heap.size v' (a ++ b) ∧ Below w.heap.size w w' := by
  obtain ⟨pa, ca, rfl⟩ := hv.form
  obtain ⟨pb, cb, rfl⟩ := hu.form
  obtain ⟨c1, c2⟩ := sp_cells hg
  have HG := Lib.hid hg
  have HV := Lib.hid hv
  have HU := Lib.hid hu
  obtain ⟨n, hn⟩ : ∃ n, n = a.length + b.length := ⟨_, rfl⟩
  obtain ⟨f1, f2, f3, f4⟩ := cat_fits hl hn
  have HL := Lib.hid hl
  have HLA : Hid (([] : List Sp).length + a.length ≤ 1000000) := Lib.hid (by simp; omega)
  have HGR := Lib.hid (grow_to w n (by omega))
  clear hg hv hu hl hn
  go_enter Try.func48, Try.ntmps48
  go_wp2_with fail
  refine wp_loop_rounds 3 ?_
  rw [rounds_succ]
  go_wp2_with fail
  rw [rounds_succ]
  go_wp2_with fail
  rw [rounds_succ]
  go_wp2_with fail
  refine HGR.out.mono ?_
  rintro e w1 ⟨p1, c1', rfl, o1, b1⟩
  have O1 := Lib.hid o1
  have B1 := Lib.hid b1
  obtain ⟨x1, x2⟩ := sp_cells ((b1.block g (Array.getElem?_eq_some_iff.1 HG.out).1).trans HG.out)
  clear o1 b1 c1 c2
  go_wp2_with fail
  refine wp_loop_rounds 3 ?_
  rw [rounds_succ]
  go_wp2_with (first
    | (at_builtin; refine push_seen (by rfl) (.tmp 31) (.tmp 32) (by rfl) w.heap.size _ _ [] a (by rfl) O1.out (by rfl) (HV.out.kb B1.out) HLA.out B1.out.size ?_; intro p2 c2 w2 own2 _ _ b2; have O2 := Lib.hid own2; have B2 := Lib.hid (B1.out.trans b2); obtain ⟨y1, y2⟩ := sp_cells ((B2.out.block g (Array.getElem?_eq_some_iff.1 HG.out).1).trans HG.out); clear own2 b2 x1 x2))
  have O2' : Hid (SOwn w2 w.heap.size (.slice p2 a.length c2) a) := Lib.hid (by simpa using O2.out)
  rw [rounds_succ]
  go_wp2_with (first
    | (at_builtin; refine push_seen (by rfl) (.tmp 31) (.tmp 32) (by rfl) w.heap.size _ _ a b (by rfl) O2'.out (by rfl) (HU.out.kb B2.out) HL.out B2.out.size ?_; intro p3 c3 w3 own3 _ _ b3; have O3 := Lib.hid own3; have B3 := Lib.hid (B2.out.trans b3); clear own3 b3 y1 y2))
  rw [rounds_succ]
  go_wp2_with fail
  go_ret
  exact ⟨_, rfl, O3.out, B3.out⟩
set_option maxHeartbeats 4000000 in
theorem union_to (w : World) (v u : Value) (a b : List Sp) (hv : SSeen w v a) (hu : SSeen w u b) (hl : a.length + b.length ≤ 1000000) (hta : Top topN a) (htb : Top topN b) :
    Calls Try.prog 25 #[v, u] w fun e w' => ∃ v', e = .returned v' ∧ SOwn w' w.heap.size v' (mk (a ++ b)) ∧ Below w.heap.size w w' := by
  have ht : Top topN (a ++ b) := fun s hs => (List.mem_append.1 hs).elim (hta s) (htb s)
  have HM := Lib.hid (fun W x (h : SSeen W x (a ++ b)) => make_to W x (a ++ b) h (by simpa using hl) ht)
  have b1 := (Below.refl w.heap.size w).alloc (Nat.le_refl _) (.cells #[v, u] 24)
  have hS : (w.heap.size ≤ w.heap.size) := Nat.le_refl _
  have HC := Lib.hid (concat_to (w.alloc (.cells #[v, u] 24)) w.heap.size v u a b (heap_alloc_last w _) (hv.kb b1) (hu.kb b1) hl)
  have B1 := Lib.hid b1
  obtain ⟨pa, ca, rfl⟩ := hv.form
  obtain ⟨pb, cb, rfl⟩ := hu.form
  clear hv hu hl hta htb ht b1 hS
  go_enter Try.func25, Try.ntmps25
  go_wp2_with fail
  refine HC.out.mono ?_
  rintro e w2 ⟨v2, rfl, o2, b2⟩
  have B2 := Lib.hid (B1.out.trans (b2.mono B1.out.size))
  have O2 := Lib.hid o2
  clear b2 o2
  go_wp2_with fail
  refine (HM.out w2 v2 O2.out.seen).mono ?_
  rintro e w3 ⟨v3, rfl, o3, b3⟩
  have B3 := Lib.hid (B2.out.trans (b3.mono B2.out.size))
  have O3 := Lib.hid (o3.mono B2.out.size)
  clear b3 o3
  go_wp2_with fail
  go_ret
  exact ⟨_, rfl, O3.out, B3.out⟩
end Go.Proofs.Ytpjfgkjhhmfhkaa
