/- The reference's join: a set with a span more. Conditions: a set in normal form; no more than a million spans; within an int. -/
import Derived.Test.YtpjfgkjhhmfhkaaSpnW
namespace Go.Proofs.Ytpjfgkjhhmfhkaa
open Go.RowKit

/-- What is taken so far. -/
structure JnI (l : List Sp) (s0 : Sp) (k : Nat) (A : List Sp) (done : Bool) (s : Sp) : Prop where
  eq : jn l s0 = A ++ (if done then l.drop k else jn (l.drop k) s)
  lo : 0 ≤ s.1
  le : s.1 ≤ s.2
  hi : s.2 ≤ topN
  far : done = true → ∀ x ∈ l.drop k, s.2 + 1 < x.1
  len : A.length ≤ k + (if done then 1 else 0)
theorem JnI.start (l : List Sp) (s : Sp) (h : 0 ≤ s.1 ∧ s.1 ≤ s.2 ∧ s.2 ≤ topN) : JnI l s 0 [] false s := ⟨by simp, h.1, h.2.1, h.2.2, fun h => (by cases h), by simp⟩
section
variable {l A : List Sp} {s0 s x : Sp} {k : Nat}
theorem JnI.one (H : JnI l s0 k A false s) (hx : l[k]? = some x) (c : x.2 < s.1 - 1) : JnI l s0 (k + 1) (A ++ [x]) false s := by
  refine ⟨?_, H.lo, H.le, H.hi, fun h => (by cases h), by have := H.len; simp at this ⊢; omega⟩
  rw [H.eq, drop_at hx]
  simp [jn, c]
theorem JnI.two (hl : Nrm l) (H : JnI l s0 k A false s) (hx : l[k]? = some x) (c : ¬ x.2 < s.1 - 1) (d : s.2 < x.1 - 1) : JnI l s0 (k + 1) (A ++ [s] ++ [x]) true s := by
  have hd : Nrm (l.drop k) := by have := hl; rw [← List.take_append_drop k l] at this; exact this.right
  rw [drop_at hx] at hd
  refine ⟨?_, H.lo, H.le, H.hi, fun _ y hy => ?_, by have := H.len; simp at this ⊢; omega⟩
  · rw [H.eq, drop_at hx]
    simp [jn, c, d]
  · have := hd.2.2.1 y hy
    have := hd.2.1
    omega
theorem JnI.more (H : JnI l s0 k A true s) (hx : l[k]? = some x) : JnI l s0 (k + 1) (A ++ [x]) true s := by
  refine ⟨?_, H.lo, H.le, H.hi, fun _ y hy => H.far rfl y (by rw [drop_at hx]; exact List.mem_cons_of_mem _ hy), by have := H.len; simp at this ⊢; omega⟩
  rw [H.eq, drop_at hx]
  simp
theorem JnI.wide (hl : Nrm l) (ht : Top topN l) (H : JnI l s0 k A false s) (hx : l[k]? = some x) (c : ¬ x.2 < s.1 - 1) (d : ¬ s.2 < x.1 - 1) : JnI l s0 (k + 1) A false (min s.1 x.1, max s.2 x.2) := by
  have h1 := hl.mem x (List.mem_of_getElem? hx)
  have h2 := ht x (List.mem_of_getElem? hx)
  have h3 := H.lo
  have h4 := H.le
  have h5 := H.hi
  refine ⟨?_, by simp only; omega, by simp only; omega, by simp only; omega, fun h => (by cases h), by have := H.len; simp at this ⊢; omega⟩
  rw [H.eq, drop_at hx]
  simp [jn, c, d]
theorem JnI.near (hl : Nrm l) (H : JnI l s0 k A true s) (hx : l[k]? = some x) : ¬ x.2 < s.1 - 1 ∧ s.2 < x.1 - 1 := by
  have h1 := H.far rfl x (by rw [drop_at hx]; exact List.mem_cons_self)
  have h2 := (hl.mem x (List.mem_of_getElem? hx)).2
  have h3 := H.le
  omega
theorem JnI.end1 (H : JnI l s0 l.length A false s) : jn l s0 = A ++ [s] := by rw [H.eq]; simp [jn]
theorem JnI.end2 (H : JnI l s0 l.length A true s) : jn l s0 = A := by rw [H.eq]; simp
end
/-- The span at hand in a block of its own, the set being made beside it. -/
structure JM (w0 W : World) (B0 : Nat) (s : Sp) (v : Value) (A : List Sp) : Prop where
  bel : Below B0 w0 W
  ge : B0 < W.heap.size
  own : SOwn W (B0 + 1) v A
  blk : W.heap[B0]? = some (.cells #[.int .i64 s.1, .int .i64 s.2] 23 (0, 0))
section
variable {w0 W W' : World} {B0 : Nat} {s : Sp} {v v' : Value} {A A' : List Sp}
theorem JM.kb (H : JM w0 W B0 s v A) (h : Below W.heap.size W W') : JM w0 W' B0 s v A :=
  ⟨H.bel.trans (h.mono (Nat.le_of_lt H.ge)), Nat.lt_of_lt_of_le H.ge h.size, H.own.kb h, (h.block _ H.ge).trans H.blk⟩
theorem JM.push (H : JM w0 W B0 s v A) (h1 : SOwn W' (B0 + 1) v' A') (h2 : Only (fun j => v.ownBlock = some j) W W') : JM w0 W' B0 s v' A' := by
  have hn : ¬ v.ownBlock = some B0 := fun e => by have := (H.own.lt B0 e).1; omega
  exact ⟨H.bel.trans (h2.below (Nat.le_of_lt H.ge) (fun k hk => by have := (H.own.lt k hk).1; omega)), Nat.lt_of_lt_of_le H.ge h2.size, h1, (h2.block _ H.ge hn).trans H.blk⟩
theorem JM.set (H : JM w0 W B0 s v A) (x y : Int) : JM w0 ((W.setCell ⟨B0, 0, none⟩ (.int .i64 x)).setCell ⟨B0, 1, none⟩ (.int .i64 y)) B0 (x, y) v A := by
  have o : Only (fun j => j = B0) W ((W.setCell ⟨B0, 0, none⟩ (.int .i64 x)).setCell ⟨B0, 1, none⟩ (.int .i64 y)) := ((Only.refl (fun j => j = B0) W).setCell (p := ⟨B0, 0, none⟩) rfl _).setCell (p := ⟨B0, 1, none⟩) rfl _
  refine ⟨H.bel.trans (o.below (Nat.le_of_lt H.ge) (fun k hk => by omega)), Nat.lt_of_lt_of_le H.ge o.size, H.own.kept o (fun k hk e => by have := (H.own.lt k hk).1; omega), ?_⟩
  have h1 := cells_set (row := [_, _]) (j := 0) H.blk (.int .i64 x)
  exact cells_set (row := [_, _]) (j := 1) h1 (.int .i64 y)
theorem JM.frz (H : JM w0 W B0 s v A) (i : Nat) : W.frozen? ⟨B0, i, none⟩ = false := by simp [World.frozen?, H.blk]
end
set_option maxHeartbeats 8000000 in
theorem xjoin_to (w : World) (v : Value) (l : List Sp) (s0 : Sp) (hs : SSeen w v l) (hn : Nrm l) (ht : Top topN l) (hl : l.length ≤ 900000) (h0 : 0 ≤ s0.1 ∧ s0.1 ≤ s0.2 ∧ s0.2 ≤ topN) :
    Calls Try.prog 47 #[v, spv s0] w fun e w' => ∃ v', e = .returned v' ∧ SOwn w' w.heap.size v' (jn l s0) ∧ Below w.heap.size w w' := by
  obtain ⟨p, cap, rfl⟩ := hs.form
  have b0 := (Below.refl w.heap.size w).alloc (Nat.le_refl _) (.cells #[.int .i64 s0.1, .int .i64 s0.2] 23)
  have HS := Lib.hid hs
  have B0' := Lib.hid b0
  have J0 : Hid (JM (w.alloc (.cells #[.int .i64 s0.1, .int .i64 s0.2] 23)) (w.alloc (.cells #[.int .i64 s0.1, .int .i64 s0.2] 23)) w.heap.size s0 (.slice none 0 0) []) := Lib.hid ⟨Below.refl _ _, by simp, SOwn.nil _ _, heap_alloc_last w _⟩
  have HN := Lib.hid hn
  have HT := Lib.hid ht
  have HST := Lib.hid (JnI.start l s0 h0)
  obtain ⟨n, hn'⟩ : ∃ n, n = l.length := ⟨_, rfl⟩
  rw [← hn'] at hl HS ⊢
  have HL := Lib.hid hn'
  clear hs hn ht hn' b0 h0
  go_enter Try.func47, Try.ntmps47
  go_wp2_with fail
  obtain ⟨Bs, hBs⟩ : ∃ Bs, Bs = w.heap.size := ⟨_, rfl⟩
  rw [← hBs] at J0 ⊢
  have HB := Lib.hid hBs
  clear hBs
  generalize w.alloc (.cells #[.int .i64 s0.1, .int .i64 s0.2] 23) = w0 at *
  go_loopw [5, 6, 7] (fun z d i wr => ∃ (k : Nat) (A : List Sp) (dn : Bool) (s : Sp), k ≤ n ∧ i = .int .i64 k ∧ d = .bool dn ∧ Hid (JnI l s0 k A dn s) ∧ Hid (JM w0 wr Bs s z A)) (fun _ _ i _ => n - (intOf i).toNat)
  case atStart => exact ⟨0, [], false, s0, Nat.zero_le _, rfl, rfl, HST, J0⟩
  case round =>
    obtain ⟨k, A, dn, s, hk, rfl, rfl, I, M⟩ := hrel
    obtain ⟨pz, cz, rfl⟩ := M.out.own.shape
    by_cases hlt : k < n
    · have hkl : k < l.length := by rw [← HL.out]; exact hlt
      have HBW := Lib.hid (B0'.out.trans (M.out.bel.mono (Nat.le_of_eq HB.out.symm)))
      obtain ⟨b, o, rfl, c1, c2⟩ := (HS.out.kb HBW.out).at hkl
      have hk' : (k : Int) < n := by omega
      have hr := two_range c1 c2
      have hne := nrm_at HN.out HT.out hkl
      obtain ⟨x, hx⟩ : ∃ x, x = l[k] := ⟨_, rfl⟩
      have hxk : l[k]? = some x := by rw [hx]; exact List.getElem?_eq_getElem hkl
      rw [← hx] at hr c1 c2 hne
      have HXK := Lib.hid hxk
      clear hx hxk
      have h1 := I.out.lo
      have h2 := I.out.le
      have h3 := I.out.hi
      unfold topN at h3
      have hw1 : wrap64 (s.1 - 1) = s.1 - 1 := by unfold wrap64; omega
      have hw2 : wrap64 (x.1 - 1) = x.1 - 1 := by unfold wrap64; omega
      have HLN : Hid (A.length ≤ 900001) := Lib.hid (by have := I.out.len; split at this <;> omega)
      have M1 := Lib.hid (M.out.kb ((Below.refl wr.heap.size wr).alloc (Nat.le_refl _) (.cells #[.int .i64 x.1, .int .i64 x.2] 23)))
      have N0 := Lib.hid (heap_alloc_last wr (.cells #[.int .i64 x.1, .int .i64 x.2] 23))
      have HNB : Hid (∀ j, (Value.slice pz A.length cz).ownBlock = some j → wr.heap.size ≠ j) := Lib.hid (fun j hj => by have := (M.out.own.lt j hj).2; omega)
      obtain ⟨Bx, hBx⟩ : ∃ Bx, Bx = wr.heap.size := ⟨_, rfl⟩
      have HX0 : Hid (wr.heap.size + 1 = (wr.alloc (.cells #[.int .i64 x.1, .int .i64 x.2] 23)).heap.size) := Lib.hid (by simp)
      go_upto_region 8 with (refine load_to (cs := [.int .i64 x.1, .int .i64 x.2]) hr Try.underlying23 rfl spsize ?hx ?_; (case hx => rfl))
      rw [← hBx] at N0 HNB ⊢
      have HBX := Lib.hid hBx
      clear hBx c1 c2 hr
      generalize wr.alloc (.cells #[.int .i64 x.1, .int .i64 x.2] 23) = W1 at *
      obtain ⟨s1, s2⟩ := sp_cells M1.out.blk
      obtain ⟨x1, x2⟩ := sp_cells N0.out
      have HXL : Hid (Bx < W1.heap.size) := Lib.hid (by have := HX0.out; have := HBX.out; omega)
      by_cases c : x.2 < s.1 - 1
      · have d1 : decide (x.2 < s.1 - 1) = true := by simpa using c
        cases dn with
        | true => exact absurd c (I.out.near HN.out HXK.out).1
        | false =>
          have HC := Lib.hid c
          clear c hne h1 h2 h3
          go_wp2_with (first
            | (at_builtin; refine push_span (by rfl) (.tmp 49) (.tmp 51) (by rfl) x (Bs + 1) _ A (by rfl) M1.out.own W1.heap.size rfl (by rfl) (by have := HLN.out; omega) M1.out.ge ?_; intro p2 c2' w2 own on _ _; have M2 := Lib.hid (M1.out.push own on); clear own on))
          exact ⟨⟨k + 1, A ++ [x], false, s, by omega, by go_num, rfl, Lib.hid (I.out.one HXK.out HC.out), M2⟩, by simp [intOf]; omega⟩
      · have d1 : decide (x.2 < s.1 - 1) = false := by simpa using c
        have HC := Lib.hid c
        have key : (decide (x.2 < s.1) = true ∧ (s.1 == 0) = false) ∨ decide (x.2 < s.1) = false := by
          by_cases e : x.2 < s.1
          · exact .inl ⟨by simpa using e, by simp; omega⟩
          · exact .inr (by simpa using e)
        clear hne h1 h2 h3 c
        by_cases dd : s.2 < x.1 - 1
        · have d4 : decide (x.1 - 1 > s.2) = true := by simpa using dd
          have d5 : decide (s.2 < x.1 - 1) = true := by simpa using dd
          have HD := Lib.hid dd
          clear dd
          cases dn with
          | true =>
            rcases key with ⟨d2, d3⟩ | d2
            all_goals
              go_wp2_with (first
                | (at_builtin; refine push_span (by rfl) (.tmp 66) (.tmp 68) (by rfl) x (Bs + 1) _ A (by rfl) M1.out.own W1.heap.size rfl (by rfl) (by have := HLN.out; omega) M1.out.ge ?_; intro p2 c2' w2 own on _ _; have M2 := Lib.hid (M1.out.push own on); clear own on))
              exact ⟨⟨k + 1, A ++ [x], true, s, by omega, by go_num, rfl, Lib.hid (I.out.more HXK.out), M2⟩, by simp [intOf]; omega⟩
          | false =>
            rcases key with ⟨d2, d3⟩ | d2
            all_goals
              go_wp2_with (first
                | (at_builtin; refine push_span (by rfl) (.tmp 62) (.tmp 64) (by rfl) s (Bs + 1) _ A (by rfl) M1.out.own W1.heap.size rfl (by rfl) (by have := HLN.out; omega) M1.out.ge ?_; intro p2 c2' w2 own on _ _; have M2 := Lib.hid (M1.out.push own on); obtain ⟨y1, y2⟩ := sp_cells ((on.block Bx HXL.out (fun e => HNB.out _ e rfl)).trans N0.out); clear own on x1 x2)
                | (at_builtin; refine push_span (by rfl) (.tmp 66) (.tmp 68) (by rfl) x (Bs + 1) _ (A ++ [s]) (by rfl) (by have h := M2.out.own; exact h) w2.heap.size rfl (by rfl) (by have := HLN.out; simp; omega) M2.out.ge ?_; intro p3 c3' w3 own on _ _; have M3 := Lib.hid (M2.out.push own on); clear own on))
              exact ⟨⟨k + 1, A ++ [s] ++ [x], true, s, by omega, by go_num, rfl, Lib.hid (I.out.two HN.out HXK.out HC.out HD.out), (by simpa using M3)⟩, by simp [intOf]; omega⟩
        · have d4 : decide (x.1 - 1 > s.2) = false := by simpa using dd
          have d5 : decide (s.2 < x.1 - 1) = false := by simpa using dd
          cases dn with
          | true => exact absurd (I.out.near HN.out HXK.out).2 dd
          | false =>
            have HD := Lib.hid dd
            clear dd
            have f1 := M1.out.frz 0
            have f2 := M1.out.frz 1
            rcases key with ⟨d2, d3⟩ | d2
            all_goals
              go_wp2_with fail
              exact ⟨⟨k + 1, A, false, (min s.1 x.1, max s.2 x.2), by omega, by go_num, rfl, Lib.hid (I.out.wide HN.out HT.out HXK.out HC.out HD.out), Lib.hid (M1.out.set _ _)⟩, by simp [intOf]; omega⟩
    · obtain rfl : k = n := by omega
      have HLN : Hid (A.length ≤ 900001) := Lib.hid (by have := I.out.len; split at this <;> omega)
      cases dn with
      | true =>
        have HE := Lib.hid (by have h := I.out; rw [HL.out] at h; exact h.end2)
        go_wp2_with fail
        go_ret
        rw [HE.out]
        exact ⟨_, rfl, M.out.own.mono (by rw [HB.out]; exact Nat.le_succ _), B0'.out.trans (M.out.bel.mono (Nat.le_of_eq HB.out.symm))⟩
      | false =>
        have HE := Lib.hid (by have h := I.out; rw [HL.out] at h; exact h.end1)
        obtain ⟨s1, s2⟩ := sp_cells M.out.blk
        go_wp2_with (first
          | (at_builtin; refine push_span (by rfl) (.tmp 72) (.tmp 74) (by rfl) s (Bs + 1) _ A (by rfl) M.out.own wr.heap.size rfl (by rfl) (by have := HLN.out; omega) M.out.ge ?_; intro p2 c2' w2 own on _ _; have M2 := Lib.hid (M.out.push own on); clear own on))
        go_ret
        rw [HE.out]
        exact ⟨_, rfl, (by simpa using M2.out.own.mono (show w.heap.size ≤ Bs + 1 by rw [HB.out]; exact Nat.le_succ _)), B0'.out.trans (M2.out.bel.mono (Nat.le_of_eq HB.out.symm))⟩
end Go.Proofs.Ytpjfgkjhhmfhkaa
