/- The reference's graph: Remove. Conditions: hashes of 32 bytes; no more than a million hashes asked, no more than 100000 commits. · SameHashes of two lists that are read. Conditions: hashes of 32 bytes; no more than a million. · The reference's Check: how what it looks at stands to the parts of chk. Plain mathematics. No condition. · The reference's round: does a commit stand on itself? Conditions: hashes of 32 bytes; no more than 2000 commits of no more than 4 parents each, all of which are there. · The reference's Check (genchk.py wrote it). Conditions: hashes of 32 bytes; a graph that may be; no more than a million commits and heads; no commit of the request has more than a million parents. -/
import Derived.Test.YthfkmfepeafgjaaRgrC
import Derived.Deep.MidRow
import Derived.Test.YthfkmfepeafgjaaGphUn
import Derived.Test.YthfkmfepeafgjaaGphW
import Derived.Deep.CutBlock
import Derived.Deep.CutRange
namespace Go.Proofs.Ythfkmfepeafgjaa
open Go.RowKit
open Go.Maps

section
variable {ops : Array Oper} {a : Act} {Q : Exit → Act → World → Prop} {o : Oper} {w : World} {K : Act → World → Prop} {X : Prop}
theorem step_sth (hgd : o.guard = none) (x y : Operand) (ho : o.op = .store 28 x y) (b : Nat) (h : Key) (hh : h.length = 32) (hx : a.eval x = .pointer (some ⟨b, 0, none⟩)) (hy : a.eval y = .agg (hv h)) (ht : w.there b 0 (hv h).size)
    (hk : K (a.put o.dst undef) (w.setCells b 0 (hv h).toList)) : if Region.wanted o (yielded ops a.tmps) = true then Oper.wp Try.prog o a w K Q else X := by
  rw [if_pos (by simp [Region.wanted, hgd])]
  exact wp_store_mid 28 x y ho b 0 (hv h) hx hy ht (hinfo (hv h) (by rw [hv_size, hh])) (hv_one h) hk
end
section
variable {ops : Array Oper} {rest : List Oper} {a : Act} {Q : Exit → Act → World → Prop} {o : Oper} {w : World}
theorem push_slc1 (hgd : o.guard = none) (x : Operand) (ho : o.op = .buildSlice 46 1 #[(0, x)]) (h : Key) (u : Value) (hh : h.length = 32) (hx : a.eval x = .agg (cmv h u))
    (hk : wpList Try.prog ops Q rest (a.put o.dst (.slice (some ⟨w.heap.size, 0, none⟩) 1 1)) (w.alloc (.cells (cf [(h, u)]).toArray 49))) : wpList Try.prog ops Q (o :: rest) a w := by
  refine wpList_plain hgd fun K hK => ?_
  have h9 := step_slc1 (K := K) (Q := Q) (X := True) (ops := ops) hgd x ho h u hh hx (hK _ _ hk)
  rwa [if_pos (by simp [Region.wanted, hgd])] at h9
end
/-- The commits that stay. -/
def rmT (E : List Key) (T : Lx) : Lx := T.filter fun x => !decide (x.1 ∈ E)
theorem rmT_gr (E : List Key) (T : Lx) : gr (rmT E T) = rmv E (gr T) := by
  unfold gr amap rmT rmv
  rw [List.filter_map]
  rfl
theorem rmT_succ {E : List Key} {T : Lx} {k : Nat} (hk : k < T.length) : rmT E (T.take (k + 1)) = rmT E (T.take k) ++ (if T[k].1 ∈ E then [] else [T[k]]) := by
  unfold rmT
  rw [List.take_succ_eq_append_getElem hk, List.filter_append]
  congr 1
  by_cases h : T[k].1 ∈ E <;> simp [h]
theorem rmT_len (E : List Key) (T : Lx) : (rmT E T).length ≤ T.length := List.length_filter_le _ _
theorem rmT_mem {E : List Key} {T : Lx} {x : Key × (Value × List Key)} (h : x ∈ rmT E T) : x ∈ T := (List.mem_filter.1 h).1
theorem rmT_asc {E : List Key} {T : Lx} (h : AAsc T) : AAsc (rmT E T) := List.Pairwise.filter _ h
theorem anyIn_at {P E : List Key} {j : Nat} (hj : j < P.length) : anyIn (P.drop j) E = (decide (P[j] ∈ E) || anyIn (P.drop (j + 1)) E) := by
  unfold anyIn
  rw [List.drop_eq_getElem_cons hj, List.any_cons]
/-- What Remove does. -/
def RremPost (w : World) (rg : Nat) (T : Lx) (E : List Key) (e : Ending) (w' : World) : Prop :=
  (∃ h, rm1 E (gr T) = some (10, some h) ∧ e = .returned (.tuple #[.int .i64 10, .agg (hv h)]) ∧ Below w.heap.size w w') ∨
  (rm1 E (gr T) = none ∧ e = .returned (.tuple #[.int .i64 0, .agg hzer]) ∧ Only (fun j => j = rg) w w' ∧ ∃ p' n' cap' T', RG w' rg p' n' cap' T' ∧ gr T' = rmv E (gr T))
end Go.Proofs.Ythfkmfepeafgjaa
namespace Go.Proofs.Ythfkmfepeafgjaa
open Go.RowKit
open Go.Maps

theorem HSeen.take {w : World} {p : Option Addr} {n c : Nat} {E : List Key} (h : HSeen w (.slice p n c) E) {k : Nat} (hk : k ≤ E.length) (h0 : 0 < E.length) : HSeen w (.slice p k c) (E.take k) := by
  rcases h with ⟨_, h2⟩ | ⟨a, cap, h1, h2, h3⟩
  · rw [h2] at h0; simp at h0
  · injection h1 with e1 e2 e3
    subst e1 e3
    refine .inr ⟨a, c, by rw [List.length_take]; congr 1; omega, by rw [List.length_take]; omega, fun j u hj => h3 j u ?_⟩
    have e : fl E = fl (E.take k) ++ fl (E.drop k) := by rw [← fl_app, List.take_append_drop]
    rw [e, List.getElem?_append_left (List.getElem?_eq_some_iff.1 hj).1]
    exact hj
theorem take_ext {E1 E2 : List Key} {k : Nat} (h : E1.take k = E2.take k) (h1 : k < E1.length) (h2 : k < E2.length) (e : E1[k] = E2[k]) : E1.take (k + 1) = E2.take (k + 1) := by
  rw [List.take_succ_eq_append_getElem h1, List.take_succ_eq_append_getElem h2, h, e]
set_option linter.unusedSimpArgs false in
set_option maxRecDepth 20000 in
set_option maxHeartbeats 2000000 in
attribute [local go_sem ↓] hld_open heq_open hne_open in
theorem same_two (w : World) (v1 v2 : Value) (E1 E2 : List Key) (h1 : HSeen w v1 E1) (h2 : HSeen w v2 E2) (hE1 : H32 E1) (hE2 : H32 E2) (hl : E1.length ≤ 1000000) (hl2 : E2.length ≤ 1000000) :
    Calls Try.prog 12 #[v1, v2] w fun e w' => e = .returned (.bool (decide (E1 = E2))) ∧ ∃ q, w' = w.drewN q := by
  obtain ⟨p1, c1, rfl⟩ := h1.shape
  obtain ⟨p2, c2, rfl⟩ := h2.shape
  have H1 := Lib.hid h1
  have H2 := Lib.hid h2
  have HE1 := Lib.hid hE1
  have HE2 := Lib.hid hE2
  obtain ⟨n, hn⟩ : ∃ n, n = E1.length := ⟨_, rfl⟩
  obtain ⟨m, hm⟩ : ∃ m, m = E2.length := ⟨_, rfl⟩
  rw [← hn] at H1 hl ⊢
  rw [← hm] at H2 hl2 ⊢
  have HN := Lib.hid hn
  have HM := Lib.hid hm
  have HL := Lib.hid hl
  have hgd2 := hne_guard
  clear h1 h2 hE1 hE2 hn hm hl
  by_cases hnm : n = m
  · subst hnm
    clear hl2
    go_enter Try.func12, Try.ntmps12
    go_wp2_with fail
    go_loopw [5] (fun i wr => ∃ (k : Nat), k ≤ n ∧ i = .int .i64 k ∧ Hid (E1.take k = E2.take k) ∧ ∃ q, wr = w.drewN q) (fun i _ => n - (intOf i).toNat)
    case atStart => exact ⟨0, Nat.zero_le _, rfl, Lib.hid (by simp), 0, rfl⟩
    case round =>
      obtain ⟨k, hk, rfl, HT, q, rfl⟩ := hrel
      by_cases hlt : k < n
      · obtain ⟨j1, j2, j3⟩ := next_fit hlt HL.out
        have hk1 : k < E1.length := by rw [← HN.out]; exact hlt
        have hk2 : k < E2.length := by rw [← HM.out]; exact hlt
        obtain ⟨b1, o1, c', e1, hr1⟩ := H1.out.at HE1.out hk1
        injection e1 with e1 e2 e3
        subst e1
        obtain ⟨b2, o2, c', e1, hr2⟩ := H2.out.at HE2.out hk2
        injection e1 with e1 e4 e5
        subst e1
        have HTK := Lib.hid (fun e : E1[k] = E2[k] => take_ext HT.out hk1 hk2 e)
        have HTN := Lib.hid (fun (e : E1[k] ≠ E2[k]) (h : E1 = E2) => e (by subst h; rfl))
        obtain ⟨x, hx⟩ : ∃ x, x = E1[k] := ⟨_, rfl⟩
        obtain ⟨y, hy⟩ : ∃ y, y = E2[k] := ⟨_, rfl⟩
        rw [← hx] at hr1 HTK HTN
        rw [← hy] at hr2 HTK HTN
        have HX : Hid (x.length = 32) := Lib.hid (by rw [hx]; exact HE1.out.at hk1)
        have HY : Hid (y.length = 32) := Lib.hid (by rw [hy]; exact HE2.out.at hk2)
        have HR1 := Lib.hid hr1
        have HR2 := Lib.hid hr2
        have l1 := fun i => hld_range (w := w.drewN i) HX.out (hsr_kb HR1.out (mild_below (blw_qt w.heap.size i w)))
        have l2 := fun i => hld_range (w := w.drewN i) HY.out (hsr_kb HR2.out (mild_below (blw_qt w.heap.size i w)))
        have hne := hne_hv HX.out HY.out
        have HKN := Lib.hid hlt
        have HJ1 := Lib.hid j1
        clear hx hy hr1 hr2 hk1 hk2 e2 e3 e4 e5 hk hlt
        by_cases hxy : x = y
        · rw [decide_eq_true hxy] at hne
          have HXY := Lib.hid hxy
          clear hxy
          go_wp2_with fail
          go_quiet (fail)
          go_wp2_with fail
          exact ⟨⟨k + 1, HKN.out, by rw [HJ1.out], Lib.hid (HTK.out HXY.out), _, rfl⟩, by rw [HJ1.out]; simp only [intOf, Int.toNat_natCast]; exact Nat.sub_lt_sub_left HKN.out (Nat.lt_succ_self k)⟩
        · rw [decide_eq_false hxy] at hne
          have HXY := Lib.hid hxy
          clear hxy
          go_wp2_with fail
          go_quiet (fail)
          go_wp2_with fail
          go_ret
          exact ⟨by rw [decide_eq_false (HTN.out HXY.out)]; rfl, _, World.drewN_drewN _ _ _⟩
      · obtain rfl : k = n := by omega
        have hl2 : decide ((k : Int) < k) = false := by simp
        clear hlt hk
        go_wp2_with fail
        go_ret
        have h := HT.out
        rw [List.take_of_length_le (by rw [HN.out]; exact Nat.le_refl _), List.take_of_length_le (by rw [HM.out]; exact Nat.le_refl _)] at h
        exact ⟨by rw [decide_eq_true h]; rfl, _, rfl⟩
  · have hnm' : (n : Int) ≠ m := by omega
    have hd : ((n : Int) != m) = true := by simp [hnm']
    have HD : Hid (E1 ≠ E2) := Lib.hid (fun e => hnm (by rw [HN.out, HM.out, e]))
    clear hnm hnm' hl2
    go_enter Try.func12, Try.ntmps12
    go_wp2_with fail
    go_ret
    exact ⟨by rw [decide_eq_false HD.out]; rfl, 0, rfl⟩
end Go.Proofs.Ythfkmfepeafgjaa
namespace Go.Proofs.Ythfkmfepeafgjaa
open Go.RowKit
open Go.Maps

/-- What the reference's Check has of the commits: M is the graph with the first i of them. -/
structure Ck (G : Gr) (cs : List Cm) (i : Nat) (M : Gr) : Prop where
  jn : Jn G (addA G [] (cs.take i)) M
  eq : ck3 G [] cs = ck3 G (addA G [] (cs.take i)) (cs.drop i)
theorem Ck.start {G : Gr} (h : AAsc G) (cs : List Cm) : Ck G cs 0 G := ⟨by simpa [addA] using Jn.nil h, by simp [addA]⟩
theorem addA_snoc (G : Gr) (c : Cm) : ∀ (cs : List Cm) (A : Gr), addA G A (cs ++ [c]) = addA G (addA G A cs) [c]
  | [], _ => rfl
  | d :: cs, A => by
    rw [List.cons_append, addA, addA]
    exact addA_snoc G c cs _
theorem Ck.get {G : Gr} {cs : List Cm} {i : Nat} {M : Gr} (h : Ck G cs i M) (x : Key) : aget x M = (aget x G).or (aget x (addA G [] (cs.take i))) := h.jn.get x
/-- A commit that is there with other parents. -/
theorem Ck.bad {G : Gr} {cs : List Cm} {i : Nat} {M : Gr} {c : Cm} (h : Ck G cs i M) (hd : cs.drop i = c :: cs.drop (i + 1)) (hs : (aget c.1 M).isSome = true) (hn : (aget c.1 M).getD [] ≠ c.2) : ck3 G [] cs = some (9, some c.1) := by
  rw [h.eq, hd, ck3, ← h.get]
  cases hg : aget c.1 M with
  | none => rw [hg] at hs; cases hs
  | some ps =>
    rw [hg] at hn
    have hn' : ps ≠ c.2 := hn
    simp only
    rw [if_neg hn']
theorem Ck.next {G : Gr} {cs : List Cm} {i : Nat} {M M' : Gr} {c : Cm} (h : Ck G cs i M) (hd : cs.drop i = c :: cs.drop (i + 1)) (ht : cs.take (i + 1) = cs.take i ++ [c]) (hg : (aget c.1 M).isSome = true → (aget c.1 M).getD [] = c.2) (hM : M' = if (aget c.1 M).isSome then M else aput c.1 c.2 M) : Ck G cs (i + 1) M' := by
  have e : M' = adds M [c] := by rw [hM]; rfl
  constructor
  · rw [ht, addA_snoc, e]
    exact Jn.adds h.jn
  · rw [h.eq, hd, ht, addA_snoc, ck3, addA, ← h.get]
    cases hq : aget c.1 M with
    | none => simp [addA]
    | some ps =>
      rw [hq] at hg
      have hg' : ps = c.2 := hg rfl
      simp only
      rw [if_pos hg']
      simp [addA]
theorem Ck.done {G : Gr} {cs : List Cm} {M : Gr} (h : Ck G cs cs.length M) : ck3 G [] cs = none ∧ Jn G (addA G [] cs) M := by
  have h1 := h.eq
  have h2 := h.jn
  rw [List.take_length] at h1 h2
  rw [List.drop_length, ck3] at h1
  exact ⟨h1, h2⟩
theorem jn_adds {G M : Gr} {cs : List Cm} (ha : AAsc G) (h : Jn G (addA G [] cs) M) : M = adds G cs := by
  have h2 := adds_jn ha cs
  exact aext h.ascM h2.ascM fun x => by rw [h.get, h2.get]
theorem jn_some {G A M : Gr} (h : Jn G A M) (p : Key) : ((aget p G).isSome || (aget p A).isSome) = (aget p M).isSome := by
  rw [h.get]
  cases aget p G <;> simp
theorem miss_step {G A M : Gr} (h : Jn G A M) (p : Key) (E : List Key) : miss G A (p :: E) = if (aget p M).isSome then miss G A E else some p := by
  rw [miss, jn_some h]
/-- The parents of a commit, one after the other. -/
theorem nodup_step {ps : List Key} {k : Nat} {y : Key} (ht : ps.take (k + 1) = ps.take k ++ [y]) : (ps.take (k + 1)).Nodup ↔ (ps.take k).Nodup ∧ y ∉ ps.take k := by
  rw [ht, List.nodup_append]
  constructor
  · rintro ⟨h1, _, h3⟩
    exact ⟨h1, fun h => h3 y h y (by simp) rfl⟩
  · rintro ⟨h1, h2⟩
    exact ⟨h1, by simp, fun a ha b hb e => by rw [List.mem_singleton.1 hb] at e; exact h2 (e ▸ ha)⟩
theorem nodup_take {ps : List Key} (h : ps.Nodup) (k : Nat) : (ps.take k).Nodup := h.sublist (List.take_sublist _ _)
end Go.Proofs.Ythfkmfepeafgjaa
namespace Go.Proofs.Ythfkmfepeafgjaa
open Go.RowKit
open Go.Maps


theorem rd_fits {t r n m : Nat} (ht : t + 1 ≤ 4 + r * 4) (hr : r + 1 ≤ n) (hn : n ≤ 2000) (hm : m ≤ 4) : t + m ≤ 4 + (r + 1) * 4 ∧ t + m ≤ 1000000 ∧ (n - (r + 1)) * 5 + (t + m) < (n - r) * 5 + (t + 1) := by omega
theorem rd_idx {t r : Nat} (ht : t + 1 ≤ 4 + r * 4) (hr : r ≤ 2000) : wrap64 (t : Int) = (t : Int) ∧ (0 : Int) ≤ (t : Int) ∧ (t : Int) < (t : Int) + 1 ∧ (t : Int) + 1 > 0 := by
  unfold wrap64; omega
theorem p4_adj {T : Lx} (h : ∀ x ∈ T, x.2.2.length ≤ 4) (y : Key) : (adj (gr T) y).length ≤ 4 := by
  unfold adj
  rw [gr_get]
  cases hg : aget y T with
  | none => simp
  | some v => exact h _ (aget_mem hg)
theorem h32_adj {W : World} {rg n cap : Nat} {p : Option Addr} {T : Lx} (R : RG W rg p n cap T) (y : Key) : H32 (adj (gr T) y) := by
  unfold adj
  rw [gr_get]
  cases hg : aget y T with
  | none => exact H32.nil
  | some v => exact (R.p32 _ (aget_mem hg)).1
theorem own_lt {w : World} {B : Nat} {e : TypeId} {s : Nat} {v : Value} {n : Nat} {xs : List Value} (h : w.ownsRow B e s v n xs) : ∀ j, v.ownBlock = some j → j < w.heap.size := fun j hj => by
  obtain ⟨cs, h1, _⟩ := own_type h hj
  exact (Array.getElem?_eq_some_iff.1 h1).1
/-- The commits that are seen, and those that are still to be looked at: two rows of one's own, the second one behind the first. -/
structure SnTd (W : World) (B : Nat) (vs vt : Value) (S D : List Key) : Prop where
  sn : HOwn W B vs S
  td : HOwn W B vt D
  ap : ∀ j, vs.ownBlock = some j → vt.ownBlock ≠ some j
theorem SnTd.kb {W W' : World} {B : Nat} {vs vt : Value} {S D : List Key} (h : SnTd W B vs vt S D) (k : Below W.heap.size W W') : SnTd W' B vs vt S D := ⟨own_below h.sn k, own_below h.td k, h.ap⟩
section
variable {ops : Array Oper} {rest : List Oper} {a : Act} {Q : Exit → Act → World → Prop} {o : Oper} {w : World}
theorem push_empty_h (hgd : o.guard = none) (ho : o.op = .buildSlice 25 0 #[]) (h : wpList Try.prog ops Q rest (a.put o.dst (.slice (some ⟨w.heap.size, 0, none⟩) 0 0)) (w.alloc (.cells #[] 28))) : wpList Try.prog ops Q (o :: rest) a w := by
  refine wpList_plain hgd fun K hK => ?_
  have h9 := step_empty_h (K := K) (Q := Q) (X := True) (ops := ops) hgd ho (hK _ _ h)
  rwa [if_pos (by simp [Region.wanted, hgd])] at h9
end
set_option linter.unusedSimpArgs false in
set_option maxRecDepth 20000 in
set_option maxHeartbeats 8000000 in
attribute [local go_sem ↓] hld_open heq_open in
theorem rround_to (w : World) (rg : Nat) (p : Option Addr) (n cap : Nat) (T : Lx) (R : RG w rg p n cap T) (h : Key) (hh : h.length = 32) (hcl : Clo (gr T)) (hp : ∀ x ∈ T, x.2.2.length ≤ 4) (hT : T.length ≤ 2000) :
    Calls Try.prog 53 #[rp rg, .agg (hv h)] w fun e w' => ∃ b : Bool, e = .returned (.bool b) ∧ (b = true ↔ ∃ p ∈ adj (gr T) h, Up (adj (gr T)) p h) ∧ Below w.heap.size w w' := by
  have BA := Lib.hid (below_al11 w (.cells (hv h) 28))
  have HB := Lib.hid (heap_alloc_last w (.cells (hv h) 28))
  have RR := Lib.hid (R.kb BA.out)
  have HH := Lib.hid hh
  have HCL := Lib.hid hcl
  have HP4 := Lib.hid (p4_adj hp)
  have HA32 := Lib.hid (h32_adj R)
  have HUL : Hid (((gr T).map (·.1)).length ≤ 2000) := Lib.hid (by rw [List.length_map, gr_len]; exact hT)
  have HUA : Hid (∀ x, ∀ q ∈ adj (gr T) x, q ∈ (gr T).map (·.1)) := Lib.hid (fun x q hq => mem_keys.2 (hcl x q hq))
  have hgd := heq_guard
  obtain ⟨f, hf⟩ : ∃ f, f = adj (gr T) := ⟨_, rfl⟩
  obtain ⟨U, hU⟩ : ∃ U, U = (gr T).map (·.1) := ⟨_, rfl⟩
  rw [← hf] at HP4 HA32 HUA ⊢
  rw [← hU] at HUL HUA
  have HF := Lib.hid hf
  clear R hh hcl hp hT hf hU
  go_enter Try.func53, Try.ntmps53
  go_upto_region 2 with fail
  generalize w.alloc (.cells (hv h) 28) = w0 at *
  generalize hbh : w.heap.size = bh at HB
  clear hbh
  have BE := Lib.hid (below_al11 w0 (.cells #[] 28))
  have E0 : Hid (HOwn (w0.alloc (.cells #[] 28)) w0.heap.size (.slice (some ⟨w0.heap.size, 0, none⟩) 0 0) []) := Lib.hid (own_empty w0 _ _ (Nat.le_refl _))
  have hld0 := hld_row (w := w0.alloc (.cells #[] 28)) HH.out ((mild_below BE.out).cells HB.out)
  have HPA := Lib.hid (rparents_to (w0.alloc (.cells #[] 28)) rg p n cap T h HH.out (RR.out.kb BE.out))
  go_upto_region 3 with (first
    | (go_at_call 51; refine HPA.out.mono ?_; rintro e w2 ⟨vp, rfl, hsp, b2⟩; have HSP := Lib.hid hsp; have B2 := Lib.hid b2; clear hsp b2)
    | (at_builtin; refine push_hash rfl _ _ rfl w0.heap.size (.slice (some ⟨w0.heap.size, 0, none⟩) 0 0) vp [] (f h) rfl (own_below E0.out B2.out) rfl (by have := HSP.out; rw [HF.out]; exact this) (HA32.out h) (by have := HP4.out h; simp; omega) (by exact Nat.le_trans BE.out.size B2.out.size) ?_; intro v3 w3 o3 oth3; have O3 := Lib.hid o3; have B3 := Lib.hid ((BE.out.trans (B2.out.mono BE.out.size)).trans (oth3.below (Nat.le_trans BE.out.size B2.out.size) (fun k hk => own_from (own_below E0.out B2.out) k hk))); clear o3 oth3)
    | (refine push_empty_h rfl rfl ?_))
  obtain ⟨p3, n3, c3, rfl, hn3⟩ := own_sh O3.out
  have hn3' : n3 = (f h).length := by rw [hn3]; simp
  have O3' : Hid (HOwn w3 w0.heap.size (.slice p3 n3 c3) (f h)) := Lib.hid (by have := O3.out; rwa [List.nil_append] at this)
  have HFL := Lib.hid (HP4.out h)
  have HFH := Lib.hid (HA32.out h)
  clear HSP B2 O3 hld0 HPA E0 BE hn3
  go_wp2_with fail
  go_loopw [5, 6] (fun v5 v6 wr => ∃ (S D : List Key) (q5 : Option Addr) (n5 c5 : Nat) (q6 : Option Addr) (n6 c6 : Nat), v5 = .slice q5 n5 c5 ∧ v6 = .slice q6 n6 c6 ∧ n5 = S.length ∧ n6 = D.length ∧ Hid (SnTd wr w0.heap.size (.slice q5 n5 c5) (.slice q6 n6 c6) S D) ∧ Hid (RInv f (f h) S D ∧ h ∉ S ∧ S.Nodup ∧ D.length ≤ 4 + S.length * 4 ∧ H32 S ∧ H32 D) ∧ Hid (Below w0.heap.size w0 wr)) (fun v5 v6 _ => (U.length - slen v5) * 5 + slen v6)
  case atStart => exact ⟨[], f h, none, 0, 0, p3, n3, c3, rfl, rfl, rfl, hn3', Lib.hid ⟨World.ownsRow_nil _ _ _ _, O3'.out, fun j hj => by cases hj⟩, Lib.hid ⟨RInv.start _ _, by simp, List.nodup_nil, by have := HFL.out; simp; omega, H32.nil, HFH.out⟩, B3⟩
  case round =>
    obtain ⟨S, D, q5, n5, c5, q6, n6, c6, rfl, rfl, h5, h6, ST, I, B⟩ := hrel
    clear O3' B3 hn3' HFL HFH
    cases hD : D.reverse with
    | nil =>
      obtain rfl : D = [] := by simpa using hD
      obtain rfl : n6 = 0 := h6
      clear hD h5
      go_wp2_with fail
      go_ret
      exact ⟨false, rfl, ⟨(fun h => by cases h), (fun ⟨p, hp, hu⟩ => absurd ((I.out.1.done h).2 ⟨p, hp, hu⟩) I.out.2.1)⟩, BA.out.trans (B.out.mono BA.out.size)⟩
    | cons x D' =>
      obtain ⟨D1, rfl⟩ : ∃ D1, D = D1 ++ [x] := ⟨D'.reverse, by rw [← List.reverse_reverse D, hD, List.reverse_cons]⟩
      clear hD D'
      obtain ⟨hI, hhS, hSn, hDl, hS32, hD32⟩ := I.out
      have hx : x.length = 32 := hD32 x (List.mem_append_right _ List.mem_cons_self)
      have hD1 : H32 D1 := fun y hy => hD32 y (List.mem_append_left _ hy)
      obtain ⟨g, rfl, hn', hcap, hrg⟩ := ST.out.td.last hD32
      have hSU : ∀ y ∈ S ++ [x], y ∈ U := fun y hy => by
        obtain ⟨a, ha, hu⟩ := hI.up y (by
          rcases List.mem_append.1 hy with hy | hy
          · exact .inl hy
          · exact .inr (List.mem_append_right _ hy))
        exact up_in (fun z hz => HUA.out h z hz) HUA.out ha hu
      have hSl : S.length ≤ U.length := nodup_le hSn fun y hy => hSU y (by simp [hy])
      obtain ⟨m, hm⟩ : ∃ m, m = D1.length := ⟨_, rfl⟩
      rw [List.length_append, List.length_singleton, ← hm] at hDl
      rw [← hm] at hn' hcap hrg
      clear h6
      subst hn'
      obtain ⟨i1, i2, i3, i4⟩ := rd_idx hDl (Nat.le_trans hSl HUL.out)
      have hcm : (m : Int) ≤ (c6 : Int) := by omega
      have OC : Hid (HOwn wr w0.heap.size (.slice (some ⟨g, 0, none⟩) m c6) D1) := Lib.hid (by rw [hm]; exact HOwn.cut ST.out.td hD1)
      have OS : Hid (HOwn wr w0.heap.size (.slice q5 n5 c5) S) := Lib.hid ST.out.sn
      have HAP : Hid (∀ j, (Value.slice q5 n5 c5).ownBlock = some j → (Value.slice (some ⟨g, 0, none⟩) m c6).ownBlock ≠ some j) := Lib.hid (fun j hj => ST.out.ap j hj)
      have HLS := Lib.hid (own_lt ST.out.sn)
      have hld0 := hld_range hx hrg
      have st := hst_cells x hx wr
      have hks : (hv x).size = 32 := by rw [hv_size, hx]
      have b3 : Below wr.heap.size wr (wr.alloc (.cells (hv x) 28)) := (Below.refl _ _).alloc (Nat.le_refl _) _
      have HV3 := Lib.hid (heap_alloc_last wr (.cells (hv x) 28))
      have hld3 := hld_row (w := wr.alloc (.cells (hv x) 28)) hx HV3.out
      have hldh := hld_row (w := wr.alloc (.cells (hv x) 28)) HH.out ((mild_below (B.out.alloc B.out.size _)).cells HB.out)
      have OC3 := Lib.hid (own_below OC.out b3)
      have OS3 := Lib.hid (own_below OS.out b3)
      have B3 : Hid (Below w0.heap.size w0 (wr.alloc (.cells (hv x) 28))) := Lib.hid (B.out.alloc B.out.size _)
      have HX := Lib.hid hx
      have HI := Lib.hid hI
      have HHS := Lib.hid hhS
      have HSN := Lib.hid hSn
      have HDL := Lib.hid hDl
      have HS32 := Lib.hid hS32
      have HD1 := Lib.hid hD1
      have HM := Lib.hid hm
      have HSL := Lib.hid hSl
      have H5 := Lib.hid h5
      have HSU := Lib.hid hSU
      have heq := heq_hv hx HH.out (wr.alloc (.cells (hv x) 28))
      obtain ⟨d, hd⟩ : ∃ d, d = decide (x = h) := ⟨_, rfl⟩
      rw [← hd] at heq
      have HD := Lib.hid hd
      clear hI hhS hSn hDl hS32 hD32 hD1 hm hSl h5 hSU hrg hx b3 I ST OC OS B hcap hd
      go_upto_region 6 with fail
      clear st
      generalize wr.alloc (.cells (hv x) 28) = w4 at *
      generalize hbx : wr.heap.size = bx at *
      clear hbx
      cases d with
      | true =>
        go_wp2_with fail
        go_ret
        refine ⟨true, rfl, ⟨fun _ => ?_, fun _ => rfl⟩, BA.out.trans (B3.out.mono BA.out.size)⟩
        have e : x = h := of_decide_eq_true HD.out.symm
        exact HI.out.up h (.inr (by rw [e]; simp))
      | false =>
        go_wp2_with fail
        refine (in_any w4 _ S x HX.out (HSeen.own OS3.out) HS32.out (by have := HSL.out; have := HUL.out; omega)).mono ?_
        rintro e w5 ⟨rfl, b5⟩
        have B5 := Lib.hid (B3.out.trans (b5.mono B3.out.size))
        have OC5 := Lib.hid (own_below OC3.out b5)
        have OS5 := Lib.hid (own_below OS3.out b5)
        have HV5 := Lib.hid ((mild_below b5).cells HV3.out)
        have hld5 := hld_row (w := w5) HX.out HV5.out
        obtain ⟨z, hz⟩ : ∃ z, z = decide (x ∈ S) := ⟨_, rfl⟩
        rw [← hz]
        have HZ := Lib.hid hz
        clear hz b5 hld3 hldh heq hld0
        cases z with
        | true =>
          go_wp2_with fail
          refine ⟨⟨S, D1, q5, n5, c5, some ⟨g, 0, none⟩, m, c6, rfl, rfl, H5.out, HM.out, Lib.hid ⟨OS5.out, OC5.out, HAP.out⟩, Lib.hid ⟨HI.out.old (of_decide_eq_true HZ.out.symm), HHS.out, HSN.out, by have := HDL.out; have := HM.out; omega, HS32.out, HD1.out⟩, B5⟩, ?_⟩
          simp only [slen]; omega
        | false =>
          have hxS : x ∉ S := of_decide_eq_false HZ.out.symm
          have HSX := Lib.hid hxS
          have hSl1 : S.length + 1 ≤ U.length := by
            have := nodup_le (R := S ++ [x]) (U := U) (List.nodup_append.2 ⟨HSN.out, by simp, fun a ha b hb e => by rw [List.mem_singleton.1 hb] at e; exact hxS (e ▸ ha)⟩) HSU.out
            simpa using this
          have HSL1 := Lib.hid hSl1
          have HMS := Lib.hid (rd_fits HDL.out (by have := H5.out; have := HSL1.out; omega) HUL.out (HP4.out x))
          clear hxS hSl1
          have AL := Lib.hid (below_al11 w5 (.cells (hv x) 28))
          have OC6 := Lib.hid (own_below OC5.out AL.out)
          have OS6 := Lib.hid (own_below OS5.out AL.out)
          have HV6 := Lib.hid ((mild_below AL.out).cells HV5.out)
          have HN6 := Lib.hid (heap_alloc_last w5 (.cells (hv x) 28))
          have B6 := Lib.hid (B5.out.trans (AL.out.mono B5.out.size))
          go_upto_region 10 with (first
            | (at_builtin; refine push_loc rfl (.tmp 33) (.tmp 35) rfl w0.heap.size (.slice q5 n5 c5) S w5.heap.size x HX.out rfl OS6.out rfl (by have := range_row HN6.out; rwa [hv_list] at this) (by have := HSL1.out; have := HUL.out; omega) B6.out.size ?_; intro v7 w7 o7 oth7 loc7; have O7 := Lib.hid o7; have OT7 := Lib.hid oth7; clear o7 oth7 loc7)
            | (refine build_one x HX.out rfl ?_))
          have OC7 := Lib.hid (own_keep OC6.out OT7.out (fun j hj e => HAP.out j e hj))
          have HV7 : Hid (w7.heap[bx]? = some (.cells (hv x) 28 (0, 0))) := Lib.hid ((OT7.out.block bx (Array.getElem?_eq_some_iff.1 HV6.out).1 (fun e => by have := HLS.out bx e; omega)).trans HV6.out)
          have B7 := Lib.hid (B6.out.trans (OT7.out.below B6.out.size (fun k hk => own_from OS6.out k hk)))
          obtain ⟨q7, n7, c7, rfl, hn7⟩ := own_sh O7.out
          have HN7 := Lib.hid hn7
          have HL7 := Lib.hid (own_lt O7.out)
          clear OT7 OC6 OS6 HV6 HN6 B6 OC5 OS5 HV5 B5 OC3 OS3 HV3 hn7 hld5 AL HAP HLS
          have bq : Below w7.heap.size w7 w7.drew := blw_qt _ 1 w7
          have OCq := Lib.hid (own_below OC7.out bq)
          have OSq := Lib.hid (own_below O7.out bq)
          have HVq := Lib.hid ((mild_below bq).cells HV7.out)
          have Bq := Lib.hid (B7.out.trans (bq.mono B7.out.size))
          have HL7q : Hid (∀ j, (Value.slice q7 n7 c7).ownBlock = some j → j < w7.drew.heap.size) := Lib.hid (fun j hj => Nat.lt_of_lt_of_le (HL7.out j hj) bq.size)
          clear bq OC7 O7 HV7 B7 HL7
          go_wp2_with fail
          try simp only [List.append]
          refine wp_region_noPanic ?_
          refine wp_region_held_drew (S := (fun V => (hld ⟨bx, 0, none⟩).run Try.prog V = .ok (.agg (hv x)) V)) (by kernel_rfl) (hld_row HX.out HVq.out) (fun hHeld => ?_)
          generalize w7.drew = cw at *
          refine wpAnyH_take (i := 1) (v := ?_) (by simp only [List.getElem?_toArray, List.getElem?_cons_succ, List.getElem?_cons_zero]; rfl) (by kernel_rfl) (by kernel_rfl) (by kernel_rfl) (fun _ _ _ h => h) (Or.inl ⟨by rfl, ?_⟩) (by assumption) ?_
          rotate_left
          · intro w hSw
            try dsimp only at hSw
            go_simp
            try with_reducible rfl
          try simp only [Act.put, List.setIfInBounds_toArray, List.set_cons_zero, List.set_cons_succ]
          refine wpAnyH_take (i := 3) (v := ?_) (by simp only [List.getElem?_toArray, List.getElem?_cons_succ, List.getElem?_cons_zero]; rfl) (by kernel_rfl) (by kernel_rfl) (by kernel_rfl) (fun _ _ _ h => h) (Or.inl ⟨by rfl, ?_⟩) (by assumption) ?_
          rotate_left
          · intro w hSw
            try dsimp only at hSw
            go_simp
            try with_reducible rfl
          try simp only [Act.put, List.setIfInBounds_toArray, List.set_cons_zero, List.set_cons_succ]
          refine wpAnyH_take (i := 4) (v := ?_) (by simp only [List.getElem?_toArray, List.getElem?_cons_succ, List.getElem?_cons_zero]; rfl) (by kernel_rfl) (by kernel_rfl) (by kernel_rfl) (fun _ _ _ h => h) (Or.inl ⟨by rfl, ?_⟩) (by assumption) ?_
          rotate_left
          · intro w hSw
            try dsimp only at hSw
            go_simp
            try with_reducible rfl
          try simp only [Act.put, List.setIfInBounds_toArray, List.set_cons_zero, List.set_cons_succ]
          refine wpAnyH_ready (rs := [0]) (by kernel_rfl) (by simp) ?_
          refine AllReadyH.cons (by simp only [List.getElem?_toArray, List.getElem?_cons_zero]; rfl) (fun K hK => ?_) AllReadyH.nil
          refine step_empty_h rfl rfl ?_
          have bq := below_al11 cw (.cells #[] 28)
          have E1 : Hid (HOwn (cw.alloc (.cells #[] 28)) cw.heap.size (.slice (some ⟨cw.heap.size, 0, none⟩) 0 0) []) := Lib.hid (own_empty cw _ _ (Nat.le_refl _))
          have OC1 := Lib.hid (own_below OCq.out bq)
          have OS1 := Lib.hid (own_below OSq.out bq)
          have HV1 := Lib.hid ((mild_below bq).cells HVq.out)
          have B1 := Lib.hid (Bq.out.trans (bq.mono Bq.out.size))
          have BC1 := Lib.hid bq
          refine hK.out _ _ (hld_row HX.out HV1.out) (fun hHeld => ?_)
          clear hK K
          try simp only [Act.put, List.setIfInBounds_toArray, List.set_cons_zero, List.set_cons_succ]
          have HBX : Hid (bx < cw.heap.size) := Lib.hid (Array.getElem?_eq_some_iff.1 HVq.out).1
          have HW0q := Bq.out.size
          clear bq OCq OSq HVq Bq
          obtain ⟨b0, hb0⟩ : ∃ b0, b0 = cw.heap.size := ⟨_, rfl⟩
          have HW0 : Hid (w0.heap.size ≤ b0) := Lib.hid (by rw [hb0]; exact HW0q)
          clear HW0q
          rw [← hb0] at E1 HL7q BC1 HBX ⊢
          generalize cw.alloc (.cells #[] 28) = c1 at *
          have HB01 : Hid (b0 ≤ c1.heap.size) := Lib.hid (by rw [hb0]; have := BC1.out.size; omega)
          clear hb0
          refine wpAnyH_ready (rs := [2]) (by kernel_rfl) (by simp) ?_
          refine AllReadyH.cons (by simp only [List.getElem?_toArray, List.getElem?_cons_succ, List.getElem?_cons_zero]; rfl) (fun K hK => ?_) AllReadyH.nil
          refine step_hashes rfl _ _ rfl b0 (.slice (some ⟨b0, 0, none⟩) 0 0) (.slice (some ⟨g, 0, none⟩) m c6) [] D1 (by rfl) E1.out (by rfl) (HSeen.own OC1.out) HD1.out (by have := HMS.out; have := HM.out; simp; omega) HB01.out ?_
          intro v2 c2 o2 oth2
          obtain ⟨q2, n2, cc2, rfl, hn2⟩ := own_sh o2
          have O2 : Hid (HOwn c2 b0 (.slice q2 n2 cc2) D1) := Lib.hid (by rwa [List.nil_append] at o2)
          have OS2 := Lib.hid (own_keep OS1.out oth2 (fun j hj e => by have h1 := HL7q.out j hj; have h2 := own_from E1.out j e; omega))
          have HV2 := Lib.hid ((oth2.block bx (Array.getElem?_eq_some_iff.1 HV1.out).1 (fun e => by have h1 := HBX.out; have h2 := own_from E1.out bx e; omega)).trans HV1.out)
          have B2 := Lib.hid (B1.out.trans (oth2.below B1.out.size (fun k hk => by have h2 := own_from E1.out k hk; have := HW0.out; omega)))
          have HB02 : Hid (b0 ≤ c2.heap.size) := Lib.hid (Nat.le_trans HB01.out (oth2.below (B := 0) (Nat.zero_le _) (fun _ _ => Nat.zero_le _)).size)
          refine hK.out _ _ (hld_row HX.out HV2.out) (fun hHeld => ?_)
          clear hK K
          try simp only [Act.put, List.setIfInBounds_toArray, List.set_cons_zero, List.set_cons_succ]
          clear o2 oth2 OC1 OS1 HV1 B1 HB01 E1 hn2 BC1
          refine wpAnyH_ready (rs := [5]) (by kernel_rfl) (by simp) ?_
          refine AllReadyH.cons (by simp only [List.getElem?_toArray, List.getElem?_cons_succ, List.getElem?_cons_zero]; rfl) (fun K hK => ?_) AllReadyH.nil
          go_simp
          refine (rparents_to c2 rg p n cap T x HX.out (RR.out.kb B2.out)).mono ?_
          rintro e c3 ⟨vp, rfl, hsp, b3⟩
          have HSP : Hid (HSeen c3 vp (f x)) := Lib.hid (by rw [HF.out]; exact hsp)
          have O3 := Lib.hid (own_below O2.out b3)
          have OS3 := Lib.hid (own_below OS2.out b3)
          have HV3 := Lib.hid ((mild_below b3).cells HV2.out)
          have B3 := Lib.hid (B2.out.trans (b3.mono B2.out.size))
          have HB03 : Hid (b0 ≤ c3.heap.size) := Lib.hid (Nat.le_trans HB02.out b3.size)
          obtain ⟨pp, cp, rfl⟩ := HSP.out.shape
          obtain ⟨np, hnp⟩ : ∃ np, np = (f x).length := ⟨_, rfl⟩
          rw [← hnp] at HSP ⊢
          clear hsp b3 O2 OS2 HV2 B2 HB02 hnp
          go_wp2_with fail
          refine hK.out _ _ (hld_row HX.out HV3.out) (fun hHeld => ?_)
          clear hK K
          try simp only [Act.put, List.setIfInBounds_toArray, List.set_cons_zero, List.set_cons_succ]
          refine wpAnyH_ready (rs := [6]) (by kernel_rfl) (by simp) ?_
          refine AllReadyH.cons (by simp only [List.getElem?_toArray, List.getElem?_cons_succ, List.getElem?_cons_zero]; rfl) (fun K hK => ?_) AllReadyH.nil
          refine step_hashes rfl _ _ rfl b0 (.slice q2 n2 cc2) (.slice pp np cp) D1 (f x) (by rfl) O3.out (by rfl) HSP.out (HA32.out x) (by have := HMS.out; have := HM.out; have := HP4.out x; omega) HB03.out ?_
          intro v4 c4 o4 oth4
          obtain ⟨q4, n4, cc4, rfl, hn4⟩ := own_sh o4
          have O4 := Lib.hid o4
          have HN4 := Lib.hid hn4
          have OS4 := Lib.hid (own_keep OS3.out oth4 (fun j hj e => by have h1 := HL7q.out j hj; have h2 := own_from O3.out j e; omega))
          have HV4 := Lib.hid ((oth4.block bx (Array.getElem?_eq_some_iff.1 HV3.out).1 (fun e => by have h1 := HBX.out; have h2 := own_from O3.out bx e; omega)).trans HV3.out)
          have B4 := Lib.hid (B3.out.trans (oth4.below B3.out.size (fun k hk => by have h2 := own_from O3.out k hk; have := HW0.out; omega)))
          refine hK.out _ _ (hld_row HX.out HV4.out) (fun hHeld => ?_)
          clear hK K
          try simp only [Act.put, List.setIfInBounds_toArray, List.set_cons_zero, List.set_cons_succ]
          clear o4 oth4 hn4 O3 OS3 HV3 B3 HB03
          refine wpAnyH_take (i := 7) (v := ?_) (by simp only [List.getElem?_toArray, List.getElem?_cons_succ, List.getElem?_cons_zero]; rfl) (by kernel_rfl) (by kernel_rfl) (by kernel_rfl) (fun _ _ _ h => h) (Or.inl ⟨by rfl, ?_⟩) (by assumption) ?_
          rotate_left
          · intro w hSw
            try dsimp only at hSw
            go_simp
            try with_reducible rfl
          try simp only [Act.put, List.setIfInBounds_toArray, List.set_cons_zero, List.set_cons_succ]
          refine wpAnyH_done (by kernel_rfl) ?_ _
          refine NoPanic.normal ?_
          go_wp2_with fail
          refine ⟨⟨S ++ [x], D1 ++ f x, q7, n7, c7, q4, n4, cc4, rfl, rfl, HN7.out, HN4.out, Lib.hid ⟨OS4.out, own_lower O4.out HW0.out, fun j hj e => by have h1 := HL7q.out j hj; have h2 := own_from O4.out j e; omega⟩, Lib.hid ⟨HI.out.new (fun y => by simp [or_comm]), ?_, ?_, ?_, ?_, HD1.out.app (HA32.out x)⟩, B4⟩, ?_⟩
          · intro hm
            rcases List.mem_append.1 hm with hm | hm
            · exact HHS.out hm
            · have := List.mem_singleton.1 hm
              exact (of_decide_eq_false HD.out.symm) this.symm
          · exact List.nodup_append.2 ⟨HSN.out, by simp, fun a ha b hb e => by rw [List.mem_singleton.1 hb] at e; exact HSX.out (e ▸ ha)⟩
          · have := HMS.out; have := HM.out; have := H5.out
            rw [List.length_append, List.length_append, List.length_singleton]; omega
          · exact HS32.out.app (H32.one HX.out)
          · simp only [slen]
            have h1 := HMS.out; have h2 := HM.out; have h3 := H5.out; have h4 := HN7.out; have h5 := HN4.out
            rw [List.length_append, List.length_singleton] at h4
            rw [List.length_append] at h5
            rw [h5, h4, ← h2, h3]
            exact h1.2.2
end Go.Proofs.Ythfkmfepeafgjaa
namespace Go.Proofs.Ythfkmfepeafgjaa
open Go.RowKit
open Go.Maps

theorem clo_adds {G : Gr} {cs : List Cm} (W : Wf G) (h4 : ck4 G (addA G [] cs) cs = none) : Clo (adds G cs) := by
  have j := adds_jn W.asc cs
  intro k p hp
  obtain ⟨ps, e1, e2⟩ := adj_some hp
  rw [j.get] at e1
  rw [← jn_some j]
  cases hg : aget k G with
  | some y =>
    rw [hg] at e1
    have e1' : some y = some ps := e1
    injection e1' with e1'
    have := W.clo k p (by unfold adj; rw [hg, e1']; exact e2)
    rw [this]; rfl
  | none =>
    rw [hg] at e1
    rcases addA_mem (show aget k (addA G [] cs) = some ps from e1) with h | h
    · cases h
    · rcases ck4_none h4 _ h p e2 with h | h
      · rw [h]; rfl
      · rw [h, Bool.or_true]
theorem par_adds {G : Gr} {cs : List Cm} (W : Wf G) (h2 : ck2 cs = none) : ∀ c ∈ adds G cs, c.2.length ≤ 4 := by
  have j := adds_jn W.asc cs
  intro c hc
  have h := aget_of_mem j.ascM hc
  rw [j.get] at h
  cases hg : aget c.1 G with
  | some y =>
    rw [hg] at h
    have h' : some y = some c.2 := h
    injection h' with h'
    exact (W.par _ (by rw [← h']; exact aget_mem hg : (c.1, c.2) ∈ G)).1
  | none =>
    rw [hg] at h
    rcases addA_mem (show aget c.1 (addA G [] cs) = some c.2 from h) with h | h
    · cases h
    · exact (ck2_none h2 _ h).1
theorem hz_again {w : World} {b : Nat} {t : TypeId} (h : w.heap[b]? = some (.cells hzer t (0, 0))) : (w.setCells b 0 hzer.toList).heap[b]? = some (.cells hzer t (0, 0)) := by
  have h1 : hzer = hzer.toList.toArray := by simp
  rw [h1] at h
  have h2 := cells_puts hzer.toList 0 hzer.toList w h (by simp)
  rw [h2]
  rfl
theorem rng_lt {W : World} {b o : Nat} {y : Key} (hy : y.length = 32) (h : W.rangeAt b o (us (nmb y))) : b < W.heap.size := by
  have hl : 0 < (us (nmb y)).length := by rw [usn_length, hy]; decide
  exact World.block_lt_of_cell? W ⟨b, _, none⟩ (h 0 _ (List.getElem?_eq_getElem hl))
theorem meas_nw {k n : Nat} (h : k < n) : n - (intOf (.int .i64 ((k + 1 : Nat) : Int))).toNat < n - (intOf (.int .i64 (k : Int))).toNat := by
  simp only [intOf, Int.toNat_natCast]; omega
theorem meas_nv {k n : Nat} (h : k < n) (e : wrap64 ((k : Int) + 1) = ((k + 1 : Nat) : Int)) : n - (intOf (.int .i64 (wrap64 ((k : Int) + 1)))).toNat < n - (intOf (.int .i64 (k : Int))).toNat := by
  rw [e]; exact meas_nw h
theorem neq_one (g : Int) (h : g ≠ 1) : (g != 1) = true := by simp [h]
set_option linter.unusedSimpArgs false in
set_option maxRecDepth 20000 in
set_option maxHeartbeats 32000000 in
attribute [local go_sem ↓] hld_open cld_open in
theorem rcheck_to (w : World) (rg : Nat) (p : Option Addr) (n cap : Nat) (T : Lx) (R : RG w rg p n cap T) (HW : Wf (gr T)) (v u : Value) (grp : Int) (cs : List Cm) (hs : List Key)
    (hv' : CSeen w v cs) (hu : HSeen w u hs) (hok : COk cs) (h32 : H32 hs) (hl : cs.length ≤ 1000000) (hp : ∀ c ∈ cs, c.2.length ≤ 1000000) (hhl : hs.length ≤ 1000000) :
    Calls Try.prog 35 #[rp rg, .agg #[v, u, .int .i64 grp]] w fun e w' => e = .returned (.tuple #[.int .i64 (kindOf (chk (gr T) grp cs hs)), .agg (hv (whoH (chk (gr T) grp cs hs))), .bool (whoB (chk (gr T) grp cs hs))]) ∧ Below w.heap.size w w' := by
  obtain ⟨p1, c1, rfl, hcc⟩ := id hv'
  clear hcc
  obtain ⟨p2, c2, rfl⟩ := hu.shape
  obtain ⟨m, hm⟩ : ∃ m, m = cs.length := ⟨_, rfl⟩
  obtain ⟨mh, hmh⟩ : ∃ mh, mh = hs.length := ⟨_, rfl⟩
  rw [← hm] at hv' ⊢
  rw [← hmh] at hu ⊢
  obtain ⟨r, hr⟩ : ∃ r, r = chk (gr T) grp cs hs := ⟨_, rfl⟩
  rw [← hr]
  have HRR := Lib.hid hr
  have RR := Lib.hid R
  have HWF := Lib.hid HW
  have HV := Lib.hid hv'
  have HU := Lib.hid hu
  have HO := Lib.hid hok
  have H3 := Lib.hid h32
  have HL := Lib.hid hl
  have HP := Lib.hid hp
  have HHL := Lib.hid hhl
  have HM := Lib.hid hm
  have HMH := Lib.hid hmh
  clear R HW hv' hu hok h32 hl hp hhl hm hmh hr
  obtain ⟨wA, hwA⟩ : ∃ wA, wA = (w.alloc (.cells #[.slice p1 m c1, .slice p2 mh c2, .int .i64 grp] 64)).alloc (.cells hzer 28) := ⟨_, rfl⟩
  have hsA : wA.heap.size = w.heap.size + 2 := by rw [hwA]; simp
  have bA : Below w.heap.size w wA := by rw [hwA]; exact ((Below.refl _ w).alloc (Nat.le_refl _) _).alloc (by simp) _
  have hRA : wA.heap[w.heap.size]? = some (.cells #[.slice p1 m c1, .slice p2 mh c2, .int .i64 grp] 64 (0, 0)) := by rw [hwA]; exact (Below.heap_alloc _ _ _ (by simp)).trans (heap_alloc_last w _)
  have h5A : wA.heap[w.heap.size + 1]? = some (.cells hzer 28 (0, 0)) := by
    have := heap_alloc_last (w.alloc (.cells #[.slice p1 m c1, .slice p2 mh c2, .int .i64 grp] 64)) (.cells hzer 28)
    rw [← hwA] at this
    simpa using this
  have HWA := Lib.hid hwA
  have BAA := Lib.hid bA
  have HRA := Lib.hid hRA
  have H5A := Lib.hid h5A
  have HSA := Lib.hid hsA
  clear bA hRA h5A hwA hsA
  have HT0 : Hid ((wA.alloc (.cells hzer 28)).there wA.heap.size 0 hzer.size) := Lib.hid (there_row (heap_alloc_last wA _))
  go_enter Try.func35, Try.ntmps35
  go_upto_region 1 with fail
  change Code.wp _ _ _ _ ((w.alloc (.cells #[.slice p1 m c1, .slice p2 mh c2, .int .i64 grp] 64)).alloc (.cells hzer 28))
  rw [← HWA.out]
  go_upto_region 2 with (first
    | (refine store_to HT0.out (hinfo hzer rfl) (hv_one hz) ?hx ?hy ?_; (case hx => rfl); (case hy => rfl))
    | (refine build_to (vals := #[]) hbuilt ?hv ?_; (case hv => simp)))
  have OS0 : Hid (Only (fun j => j = wA.heap.size) (wA.alloc (.cells hzer 28)) ((wA.alloc (.cells hzer 28)).setCells wA.heap.size 0 hzer.toList)) := Lib.hid (Only.setCells (S := fun j => j = wA.heap.size) rfl _ 0 (Only.refl _ _))
  have HB7 : Hid (((wA.alloc (.cells hzer 28)).setCells wA.heap.size 0 hzer.toList).heap[wA.heap.size]? = some (.cells hzer 28 (0, 0))) := Lib.hid (hz_again (heap_alloc_last wA _))
  have AL := Lib.hid (below_al11 wA (.cells hzer 28))
  have BA : Hid (Below w.heap.size w ((wA.alloc (.cells hzer 28)).setCells wA.heap.size 0 hzer.toList)) := Lib.hid (BAA.out.trans ((AL.out.trans (OS0.out.below AL.out.size (fun j hj => by rw [hj]; exact Nat.le_refl _))).mono BAA.out.size))
  have HR : Hid (((wA.alloc (.cells hzer 28)).setCells wA.heap.size 0 hzer.toList).heap[w.heap.size]? = some (.cells #[.slice p1 m c1, .slice p2 mh c2, .int .i64 grp] 64 (0, 0))) := Lib.hid ((OS0.out.block _ (Array.getElem?_eq_some_iff.1 ((mild_below AL.out).cells HRA.out)).1 (by have := HSA.out; omega)).trans ((mild_below AL.out).cells HRA.out))
  have HB5 : Hid (((wA.alloc (.cells hzer 28)).setCells wA.heap.size 0 hzer.toList).heap[w.heap.size + 1]? = some (.cells hzer 28 (0, 0))) := Lib.hid ((OS0.out.block _ (Array.getElem?_eq_some_iff.1 ((mild_below AL.out).cells H5A.out)).1 (by have := HSA.out; omega)).trans ((mild_below AL.out).cells H5A.out))
  have HB5E : Hid (w.heap.size ≤ w.heap.size + 1) := Lib.hid (Nat.le_succ _)
  have HN57 : Hid (wA.heap.size ≠ w.heap.size + 1) := Lib.hid (by have := HSA.out; omega)
  change Code.wp _ _ _ _ ((wA.alloc (.cells hzer 28)).setCells wA.heap.size 0 hzer.toList)
  simp only [Act.put]
  clear OS0 AL HRA H5A HT0
  generalize (wA.alloc (.cells hzer 28)).setCells wA.heap.size 0 hzer.toList = w0 at *
  clear HWA BAA HSA
  generalize hb7 : wA.heap.size = b7 at *
  clear hb7
  generalize hb5 : w.heap.size + 1 = b5 at *
  clear hb5
  have HR3 : Hid (w0.heap[w.heap.size]? = some (.cells #[.slice p1 m c1, .slice p2 mh c2, .int .i64 grp] 64 (0, 0))) := HR
  generalize hb3 : w.heap.size = b3 at HR ⊢
  have HB3 := Lib.hid hb3
  clear hb3 HR3
  obtain ⟨bd, hbd⟩ : ∃ bd, bd = bnd grp cs hs := ⟨_, rfl⟩
  have HBD := Lib.hid hbd
  have hbb : bd = ((decide (grp = 1) || decide (grp = 2)) && decide (m ≤ 200) && decide (mh ≤ 200)) := by rw [hbd, HM.out, HMH.out]; rfl
  have HBB := Lib.hid hbb
  clear hbd hbb
  have a0 := cell_obj HR.out 0 rfl
  have a1 := cell_obj HR.out 1 rfl
  have a2 := cell_obj HR.out 2 rfl
  go_cut [39] from 20 to 38 (fun v39 wr => v39 = .bool (!bd) ∧ wr = w0)
  case first =>
    by_cases g : grp = 1 ∨ grp = 2
    · by_cases hn : (m : Int) ≤ 200
      · by_cases hm : (mh : Int) ≤ 200
        · have hb : bd = true := by rw [HBB.out]; rcases g with g | g <;> simp [g, show m ≤ 200 by omega, show mh ≤ 200 by omega]
          subst hb
          rcases g with rfl | rfl
          · go_wp2_with fail
            go_meet
            case rel => exact ⟨by simp; omega, rfl⟩
          · go_wp2_with fail
            go_meet
            case rel => exact ⟨by simp; omega, rfl⟩
        · have hb : bd = false := by rw [HBB.out]; simp [show ¬ mh ≤ 200 by omega]
          subst hb
          have hm' : (mh : Int) > 200 := by omega
          rcases g with rfl | rfl
          · go_wp2_with fail
            go_meet
            case rel => exact ⟨rfl, rfl⟩
          · go_wp2_with fail
            go_meet
            case rel => exact ⟨rfl, rfl⟩
      · have hb : bd = false := by rw [HBB.out]; simp [show ¬ m ≤ 200 by omega]
        subst hb
        have hn' : (m : Int) > 200 := by omega
        rcases g with rfl | rfl
        · go_wp2_with fail
          go_meet
          case rel => exact ⟨rfl, rfl⟩
        · go_wp2_with fail
          go_meet
          case rel => exact ⟨rfl, rfl⟩
    · have hb : bd = false := by rw [HBB.out]; simp [show ¬ grp = 1 from fun h => g (.inl h), show ¬ grp = 2 from fun h => g (.inr h)]
      subst hb
      have e1 : (grp != 1) = true := by simp [show ¬ grp = 1 from fun h => g (.inl h)]
      have e2 : (grp != 2) = true := by simp [show ¬ grp = 2 from fun h => g (.inr h)]
      clear g
      go_wp2_with fail
      go_meet
      case rel => exact ⟨rfl, rfl⟩
  case rest =>
    obtain ⟨rfl, hw0⟩ := hcut
    subst hw0
    rename World => w0
    clear a0 a1 a2 HBB
    have B00 := Lib.hid (Below.refl w0.heap.size w0)
    have HZ32 : Hid (hz.length = 32) := Lib.hid rfl
    have HCELL : Hid (∀ V, Below w0.heap.size w0 V → V.heap[b3]? = some (.cells #[.slice p1 m c1, .slice p2 mh c2, .int .i64 grp] 64 (0, 0))) := Lib.hid (fun V k => (mild_below k).cells HR.out)
    have HLOW : Hid (b3 < w0.heap.size ∧ b5 < w0.heap.size ∧ b7 < w0.heap.size) := Lib.hid ⟨(Array.getElem?_eq_some_iff.1 HR.out).1, (Array.getElem?_eq_some_iff.1 HB5.out).1, (Array.getElem?_eq_some_iff.1 HB7.out).1⟩
    have RR0 := Lib.hid (RR.out.kb BA.out)
    have HV0 := Lib.hid (HV.out.kb BA.out)
    have HU0 := Lib.hid (HU.out.mild (mild_below BA.out))
    cases bd with
    | false =>
      as_aux_lemma =>
        have HSF : Hid (∀ V, Only (fun j => j = b5) w0 V → (fun V => (hld ⟨b7, 0, none⟩).run Try.prog V = .ok (.agg (hv hz)) V) V) := Lib.hid (fun V k => hld_row HZ32.out ((k.block b7 (Nat.lt_of_lt_of_le HLOW.out.2.2 B00.out.size) HN57.out).trans ((mild_below B00.out).cells HB7.out)))
        have HRES := Lib.hid (show r = some (1, none) by rw [HRR.out]; unfold chk; rw [← HBD.out]; rfl)
        go_upto_region 3 with fail
        have OD : Hid (Only (fun j => j = b5) w0 w0.drew) := Lib.hid (Only.of_below (blw_qt w0.heap.size 1 w0))
        have BD : Hid (Below w0.heap.size w0 w0.drew) := Lib.hid (B00.out.trans ((blw_qt w0.heap.size 1 w0).mono B00.out.size))
        go_wp2_with fail
        try simp only [List.append]
        refine wp_region_noPanic ?_
        refine wp_region_held_drew (S := (fun V => (hld ⟨b7, 0, none⟩).run Try.prog V = .ok (.agg (hv hz)) V)) (by kernel_rfl) (HSF.out _ OD.out) (fun hHeld => ?_)
        generalize w0.drew = cw at *
        refine wpAnyH_take (i := 0) (v := ?_) (by simp only [List.getElem?_toArray, List.getElem?_cons_zero]; rfl) (by kernel_rfl) (by kernel_rfl) (by kernel_rfl) (fun _ _ _ h => h) (Or.inl ⟨by rfl, ?_⟩) (by assumption) ?_
        rotate_left
        · intro w hSw
          try dsimp only at hSw
          go_simp
          try with_reducible rfl
        try simp only [Act.put, List.setIfInBounds_toArray, List.set_cons_zero, List.set_cons_succ]
        refine wpAnyH_take (i := 1) (v := ?_) (by simp only [List.getElem?_toArray, List.getElem?_cons_succ, List.getElem?_cons_zero]; rfl) (by kernel_rfl) (by kernel_rfl) (by kernel_rfl) (fun _ _ _ h => h) (Or.inl ⟨by rfl, ?_⟩) (by assumption) ?_
        rotate_left
        · intro w hSw
          try dsimp only at hSw
          go_simp
          try with_reducible rfl
        try simp only [Act.put, List.setIfInBounds_toArray, List.set_cons_zero, List.set_cons_succ]
        refine wpAnyH_ready (rs := [2]) (by kernel_rfl) (by simp) ?_
        refine (AllReadyH.cons (by simp only [List.getElem?_toArray, List.getElem?_cons_succ, List.getElem?_cons_zero]; rfl) (fun K hK => ?_) AllReadyH.nil)
        have HT : Hid (cw.there b5 0 (hv hz).size) := Lib.hid (by rw [hv_size, HZ32.out]; exact there_row ((BD.out.block b5 (Array.getElem?_eq_some_iff.1 HB5.out).1).trans HB5.out))
        have OX : Hid (Only (fun j => j = b5) w0 (cw.setCells b5 0 (hv hz).toList)) := Lib.hid (Only.setCells (S := fun j => j = b5) rfl _ 0 OD.out)
        have BX : Hid (Below w.heap.size w (cw.setCells b5 0 (hv hz).toList)) := Lib.hid (((Only.of_below (S := fun k => w.heap.size ≤ k) (BA.out.trans (BD.out.mono BA.out.size))).setCells (b := b5) HB5E.out _ 0).below (Nat.le_refl _) (fun _ h => h))
        refine step_sth rfl _ _ rfl b5 hz HZ32.out (by rfl) (by rfl) HT.out ?_
        refine hK.out _ _ (HSF.out _ OX.out) (fun hHeld => ?_)
        clear hK K
        try simp only [Act.put, List.setIfInBounds_toArray, List.set_cons_zero, List.set_cons_succ]
        refine wpAnyH_take (i := 3) (v := ?_) (by simp only [List.getElem?_toArray, List.getElem?_cons_succ, List.getElem?_cons_zero]; rfl) (by kernel_rfl) (by kernel_rfl) (by kernel_rfl) (fun _ _ _ h => h) (Or.inl ⟨by rfl, ?_⟩) (by assumption) ?_
        rotate_left
        · intro w hSw
          try dsimp only at hSw
          go_simp
          try with_reducible rfl
        try simp only [Act.put, List.setIfInBounds_toArray, List.set_cons_zero, List.set_cons_succ]
        refine wpAnyH_done (by kernel_rfl) ?_ _
        refine NoPanic.normal ?_
        go_wp2_with fail
        refine bodyPost_ret (v := .tuple #[.int .i64 1, .agg (hv hz), .bool false]) ?_ rfl ⟨by rw [HRES.out]; rfl, BX.out⟩
        have ht := HT.out
        rw [hv_size, HZ32.out] at ht
        have hl := load_back HZ32.out ht
        clear hHeld
        generalize cw.setCells b5 0 (hv hz).toList = W3 at hl ⊢
        simp only [results, Try.results35]
        simp [hl, asAddr, hld_open]
    | true =>
      have HCK : Hid (r = (ck2 cs).or ((ck3 (gr T) [] cs).or ((ck4 (gr T) (addA (gr T) [] cs) cs).or ((ck5 (gr T) (addA (gr T) [] cs) hs).or ((ck6 (addA (gr T) [] cs) cs).or (if 1000 < (gr T).length + (addA (gr T) [] cs).length then some (13, none) else none)))))) := Lib.hid (by rw [HRR.out]; unfold chk; rw [if_pos HBD.out.symm])
      have HCL : Hid (cs.length ≤ 200 ∧ hs.length ≤ 200) := Lib.hid (by
        have h := HBD.out
        unfold bnd at h
        simp only [Bool.true_eq, Bool.and_eq_true, decide_eq_true_eq] at h
        exact ⟨h.1.2, h.2⟩)
      clear HRR HBD
      simp only [Bool.not_true]
      go_upto_block 0 with fail
      go_cut [8] from 41 to 77 (fun _ wr => Hid (ck2 cs = none) ∧ Hid (Below w0.heap.size w0 wr))
      case first =>
        as_aux_lemma =>
          go_wp2_with fail
          go_loopw [8] (fun v8 wr => ∃ i : Nat, v8 = .int .i64 i ∧ i ≤ m ∧ Hid (ck2 cs = ck2 (cs.drop i)) ∧ Hid (Below w0.heap.size w0 wr)) (fun v8 _ => m - (intOf v8).toNat)
          case atStart => exact ⟨0, rfl, Nat.zero_le _, Lib.hid rfl, B00⟩
          case round =>
            obtain ⟨i, rfl, hi, TT, B⟩ := hrel
            clear B00
            rename World => wr
            have a0 := cell_obj (HCELL.out wr B.out) 0 rfl
            by_cases hlt : i < m
            · obtain ⟨j1, j2, j3⟩ := next_fit hlt (by rw [HM.out]; exact HL.out)
              have HJ1 := Lib.hid j1
              have hiE : i < cs.length := by rw [← HM.out]; exact hlt
              obtain ⟨p', cap', e1, hc⟩ := HV0.out.kb B.out
              injection e1 with e1 e2 e3
              obtain ⟨b, o, u, rfl, hrg, hsn⟩ := hc i cs[i] (List.getElem?_eq_getElem hiE)
              subst e1
              have hdr : cs.drop i = cs[i] :: cs.drop (i + 1) := drop_at hiE
              have htk : cs.take (i + 1) = cs.take i ++ [cs[i]] := List.take_succ_eq_append_getElem hiE
              have hoki := HO.out _ (List.getElem_mem hiE)
              have hpi := HP.out _ (List.getElem_mem hiE)
              have hmi := List.getElem_mem hiE
              obtain ⟨⟨h, E⟩, hce⟩ : ∃ c : Cm, c = cs[i] := ⟨_, rfl⟩
              rw [← hce] at hrg hsn hdr hoki hpi htk hmi
              dsimp only at hrg hsn hoki hpi
              obtain ⟨pu, cu, rfl⟩ := hsn.shape
              obtain ⟨me, hme⟩ : ∃ me, me = E.length := ⟨_, rfl⟩
              rw [← hme] at hrg hsn hpi
              have HH := Lib.hid hoki.1
              have HE32 := Lib.hid hoki.2
              have HME := Lib.hid hme
              have HPI := Lib.hid hpi
              have HDR := Lib.hid hdr
              have HTK := Lib.hid htk
              have HMI := Lib.hid hmi
              have hld0 := cld_range hoki.1 hrg
              have st := cst_cells h (.slice pu me cu) hoki.1 hsn.one wr
              have hks : (cmv h (.slice pu me cu)).size = 33 := cmv_size hoki.1 _
              have HCM := Lib.hid (heap_alloc_last wr (.cells (cmv h (.slice pu me cu)) 49))
              have B2 : Hid (Below w0.heap.size w0 (wr.alloc (.cells (cmv h (.slice pu me cu)) 49))) := Lib.hid (B.out.alloc B.out.size _)
              have AL2 := Lib.hid (below_al11 wr (.cells (cmv h (.slice pu me cu)) 49))
              have HSN := Lib.hid (hsn.mild (mild_below AL2.out))
              have HIN := Lib.hid hlt
              clear hrg hsn hdr hoki hpi hc e2 e3 hce hme hiE htk hmi hlt
              have hc3 := cm_cell HH.out HCM.out
              have hld3 := cm_hld HH.out HCM.out
              have HN59 : Hid (wr.heap.size ≠ b5) := Lib.hid (by have := HLOW.out; have := B.out.size; omega)
              go_upto_region 8 with fail
              clear st hld0 a0
              generalize wr.alloc (.cells (cmv h (.slice pu me cu)) 49) = wc at *
              generalize wr.heap.size = b9 at *
              by_cases h4 : 4 < me
              · have h4' : (me : Int) > 4 := by omega
                have H4 := Lib.hid h4
                clear h4
                have HSF : Hid (∀ V, Only (fun j => j = b5) wc V → (fun V => (hld ⟨b9, 0, none⟩).run Try.prog V = .ok (.agg (hv h)) V) V) := Lib.hid (fun V k => cm_hld HH.out ((k.block b9 (Array.getElem?_eq_some_iff.1 HCM.out).1 HN59.out).trans HCM.out))
                have HRES := Lib.hid (show r = some (8, some h) by rw [HCK.out, TT.out, HDR.out, ck2, if_pos (by rw [← HME.out]; exact H4.out)]; rfl)
                go_upto_region 9 with fail
                have OD : Hid (Only (fun j => j = b5) wc wc.drew) := Lib.hid (Only.of_below (blw_qt wc.heap.size 1 wc))
                have BD : Hid (Below w0.heap.size w0 wc.drew) := Lib.hid (B2.out.trans ((blw_qt wc.heap.size 1 wc).mono B2.out.size))
                go_wp2_with fail
                try simp only [List.append]
                refine wp_region_noPanic ?_
                refine wp_region_held_drew (S := (fun V => (hld ⟨b9, 0, none⟩).run Try.prog V = .ok (.agg (hv h)) V)) (by kernel_rfl) (HSF.out _ OD.out) (fun hHeld => ?_)
                generalize wc.drew = cw at *
                refine wpAnyH_take (i := 0) (v := ?_) (by simp only [List.getElem?_toArray, List.getElem?_cons_zero]; rfl) (by kernel_rfl) (by kernel_rfl) (by kernel_rfl) (fun _ _ _ h => h) (Or.inl ⟨by rfl, ?_⟩) (by assumption) ?_
                rotate_left
                · intro w hSw
                  try dsimp only at hSw
                  go_simp
                  try with_reducible rfl
                try simp only [Act.put, List.setIfInBounds_toArray, List.set_cons_zero, List.set_cons_succ]
                refine wpAnyH_take (i := 1) (v := ?_) (by simp only [List.getElem?_toArray, List.getElem?_cons_succ, List.getElem?_cons_zero]; rfl) (by kernel_rfl) (by kernel_rfl) (by kernel_rfl) (fun _ _ _ h => h) (Or.inl ⟨by rfl, ?_⟩) (by assumption) ?_
                rotate_left
                · intro w hSw
                  try dsimp only at hSw
                  go_simp
                  try with_reducible rfl
                try simp only [Act.put, List.setIfInBounds_toArray, List.set_cons_zero, List.set_cons_succ]
                refine wpAnyH_take (i := 2) (v := ?_) (by simp only [List.getElem?_toArray, List.getElem?_cons_succ, List.getElem?_cons_zero]; rfl) (by kernel_rfl) (by kernel_rfl) (by kernel_rfl) (fun _ _ _ h => h) (Or.inl ⟨by rfl, ?_⟩) (by assumption) ?_
                rotate_left
                · intro w hSw
                  try dsimp only at hSw
                  go_simp
                  try with_reducible rfl
                try simp only [Act.put, List.setIfInBounds_toArray, List.set_cons_zero, List.set_cons_succ]
                refine wpAnyH_ready (rs := [3]) (by kernel_rfl) (by simp) ?_
                refine (AllReadyH.cons (by simp only [List.getElem?_toArray, List.getElem?_cons_succ, List.getElem?_cons_zero]; rfl) (fun K hK => ?_) AllReadyH.nil)
                have HT : Hid (cw.there b5 0 (hv h).size) := Lib.hid (by rw [hv_size, HH.out]; exact there_row ((BD.out.block b5 (Array.getElem?_eq_some_iff.1 HB5.out).1).trans HB5.out))
                have OX : Hid (Only (fun j => j = b5) wc (cw.setCells b5 0 (hv h).toList)) := Lib.hid (Only.setCells (S := fun j => j = b5) rfl _ 0 OD.out)
                have BX : Hid (Below w.heap.size w (cw.setCells b5 0 (hv h).toList)) := Lib.hid (((Only.of_below (S := fun k => w.heap.size ≤ k) (BA.out.trans (BD.out.mono BA.out.size))).setCells (b := b5) HB5E.out _ 0).below (Nat.le_refl _) (fun _ h => h))
                refine step_sth rfl _ _ rfl b5 h HH.out (by rfl) (by rfl) HT.out ?_
                refine hK.out _ _ (HSF.out _ OX.out) (fun hHeld => ?_)
                clear hK K
                try simp only [Act.put, List.setIfInBounds_toArray, List.set_cons_zero, List.set_cons_succ]
                refine wpAnyH_take (i := 4) (v := ?_) (by simp only [List.getElem?_toArray, List.getElem?_cons_succ, List.getElem?_cons_zero]; rfl) (by kernel_rfl) (by kernel_rfl) (by kernel_rfl) (fun _ _ _ h => h) (Or.inl ⟨by rfl, ?_⟩) (by assumption) ?_
                rotate_left
                · intro w hSw
                  try dsimp only at hSw
                  go_simp
                  try with_reducible rfl
                try simp only [Act.put, List.setIfInBounds_toArray, List.set_cons_zero, List.set_cons_succ]
                refine wpAnyH_done (by kernel_rfl) ?_ _
                refine NoPanic.normal ?_
                go_wp2_with fail
                refine bodyPost_ret (v := .tuple #[.int .i64 8, .agg (hv h), .bool true]) ?_ rfl ⟨by rw [HRES.out]; rfl, BX.out⟩
                have ht := HT.out
                rw [hv_size, HH.out] at ht
                have hl := load_back HH.out ht
                clear hHeld
                generalize cw.setCells b5 0 (hv h).toList = W3 at hl ⊢
                simp only [results, Try.results35]
                simp [hl, asAddr, hld_open]
              · have h4' : ¬ (me : Int) > 4 := by omega
                have H4 := Lib.hid h4
                clear h4
                go_wp2_with fail
                clear hc3 hld3
                go_loopw [10] (fun v10 wz => ∃ k : Nat, v10 = .int .i64 k ∧ k ≤ me ∧ Hid ((E.take k).Nodup) ∧ Hid (Below wc.heap.size wc wz)) (fun v10 _ => me - (intOf v10).toNat)
                case atStart => exact ⟨0, rfl, Nat.zero_le _, Lib.hid (by simp), Lib.hid (Below.refl _ _)⟩
                case round =>
                  obtain ⟨k, rfl, hk, HND, C⟩ := hrel
                  rename World => wz
                  have HCZ := Lib.hid ((mild_below C.out).cells HCM.out)
                  have hc3 := cm_cell HH.out HCZ.out
                  have B3 := Lib.hid (B2.out.trans (C.out.mono B2.out.size))
                  by_cases hkm : k < me
                  · obtain ⟨k1, k2, k3⟩ := next_fit hkm HPI.out
                    have hkE : k < E.length := by rw [← HME.out]; exact hkm
                    have HSZ := Lib.hid (HSN.out.mild (mild_below C.out))
                    obtain ⟨by_, oy, cy, e1, hry⟩ := HSZ.out.at HE32.out hkE
                    injection e1 with e1 e2 e3
                    subst e1
                    have htk : E.take (k + 1) = E.take k ++ [E[k]] := List.take_succ_eq_append_getElem hkE
                    obtain ⟨y, hy⟩ : ∃ y, y = E[k] := ⟨_, rfl⟩
                    rw [← hy] at hry htk
                    have HY := Lib.hid (show y.length = 32 by rw [hy]; exact HE32.out.at hkE)
                    have HRY := Lib.hid hry
                    have HTY := Lib.hid htk
                    have HCAP : Hid (k ≤ me ∧ me ≤ cu) := Lib.hid ⟨Nat.le_of_lt hkm, by
                      rcases HSZ.out with ⟨h1, _⟩ | ⟨a, cap, h1, h2, _⟩
                      · cases h1
                      · injection h1 with _ h1 h3; omega⟩
                    have HST := Lib.hid (HSZ.out.take (k := k) (by have := HME.out; omega) (by omega))
                    have HKM := Lib.hid hkm
                    have HK1 := Lib.hid k1
                    have kb1 : (k : Int) ≤ cu := by have := HCAP.out; omega
                    have kb2 : (k : Int) ≤ me := by omega
                    have kb3 : k ≤ cu := by have := HCAP.out; omega
                    have kb4 : k ≤ me := by omega
                    clear hkE e2 e3 htk hy hry hk
                    go_upto_region 13 with fail
                    clear hc3
                    have bq : Below wz.heap.size wz wz.drew := blw_qt _ 1 wz
                    have HCQ := Lib.hid ((mild_below bq).cells HCZ.out)
                    have HRQ := Lib.hid (hsr_kb HRY.out (mild_below bq))
                    have HSQ := Lib.hid (HST.out.mild (mild_below bq))
                    have CQ := Lib.hid (C.out.trans (bq.mono C.out.size))
                    go_wp2_with fail
                    try simp only [List.append]
                    refine wp_region_noPanic ?_
                    refine wp_region_held_drew (S := (fun V => V.cell? ⟨b9, 32, none⟩ = some (.slice (some ⟨by_, oy, none⟩) me cu) ∧ (hld ⟨by_, oy + k * 32, none⟩).run Try.prog V = .ok (.agg (hv y)) V)) (by kernel_rfl) ⟨cm_cell HH.out HCQ.out, hld_range HY.out HRQ.out⟩ (fun hHeld => ?_)
                    generalize wz.drew = cw at *
                    refine wpAnyH_take (i := 0) (v := ?_) (by simp only [List.getElem?_toArray, List.getElem?_cons_zero]; rfl) (by kernel_rfl) (by kernel_rfl) (by kernel_rfl) (fun _ _ _ h => h) (Or.inl ⟨by rfl, ?_⟩) (by assumption) ?_
                    rotate_left
                    · intro w hSw
                      try dsimp only at hSw
                      go_simp
                      try with_reducible rfl
                    try simp only [Act.put, List.setIfInBounds_toArray, List.set_cons_zero, List.set_cons_succ]
                    refine wpAnyH_take (i := 1) (v := ?_) (by simp only [List.getElem?_toArray, List.getElem?_cons_succ, List.getElem?_cons_zero]; rfl) (by kernel_rfl) (by kernel_rfl) (by kernel_rfl) (fun _ _ _ h => h) (Or.inl ⟨by rfl, ?_⟩) (by assumption) ?_
                    rotate_left
                    · intro w hSw
                      try dsimp only at hSw
                      go_simp
                      try with_reducible rfl
                    try simp only [Act.put, List.setIfInBounds_toArray, List.set_cons_zero, List.set_cons_succ]
                    refine wpAnyH_take (i := 2) (v := ?_) (by simp only [List.getElem?_toArray, List.getElem?_cons_succ, List.getElem?_cons_zero]; rfl) (by kernel_rfl) (by kernel_rfl) (by kernel_rfl) (fun _ _ _ h => h) (Or.inl ⟨by rfl, ?_⟩) (by assumption) ?_
                    rotate_left
                    · intro w hSw
                      try dsimp only at hSw
                      go_simp
                      try with_reducible rfl
                    try simp only [Act.put, List.setIfInBounds_toArray, List.set_cons_zero, List.set_cons_succ]
                    refine wpAnyH_take (i := 3) (v := ?_) (by simp only [List.getElem?_toArray, List.getElem?_cons_succ, List.getElem?_cons_zero]; rfl) (by kernel_rfl) (by kernel_rfl) (by kernel_rfl) (fun _ _ _ h => h) (Or.inl ⟨by rfl, ?_⟩) (by assumption) ?_
                    rotate_left
                    · intro w hSw
                      try dsimp only at hSw
                      go_simp
                      try with_reducible rfl
                    try simp only [Act.put, List.setIfInBounds_toArray, List.set_cons_zero, List.set_cons_succ]
                    refine wpAnyH_take (i := 4) (v := ?_) (by simp only [List.getElem?_toArray, List.getElem?_cons_succ, List.getElem?_cons_zero]; rfl) (by kernel_rfl) (by kernel_rfl) (by kernel_rfl) (fun _ _ _ h => h) (Or.inl ⟨by rfl, ?_⟩) (by assumption) ?_
                    rotate_left
                    · intro w hSw
                      try dsimp only at hSw
                      go_simp
                      try with_reducible rfl
                    try simp only [Act.put, List.setIfInBounds_toArray, List.set_cons_zero, List.set_cons_succ]
                    refine wpAnyH_take (i := 5) (v := ?_) (by simp only [List.getElem?_toArray, List.getElem?_cons_succ, List.getElem?_cons_zero]; rfl) (by kernel_rfl) (by kernel_rfl) (by kernel_rfl) (fun _ _ _ h => h) (Or.inl ⟨by rfl, ?_⟩) (by assumption) ?_
                    rotate_left
                    · intro w hSw
                      try dsimp only at hSw
                      go_simp
                      try with_reducible rfl
                    try simp only [Act.put, List.setIfInBounds_toArray, List.set_cons_zero, List.set_cons_succ]
                    refine wpAnyH_take (i := 6) (v := ?_) (by simp only [List.getElem?_toArray, List.getElem?_cons_succ, List.getElem?_cons_zero]; rfl) (by kernel_rfl) (by kernel_rfl) (by kernel_rfl) (fun _ _ _ h => h) (Or.inl ⟨by rfl, ?_⟩) (by assumption) ?_
                    rotate_left
                    · intro w hSw
                      try dsimp only at hSw
                      go_simp
                      try with_reducible rfl
                    try simp only [Act.put, List.setIfInBounds_toArray, List.set_cons_zero, List.set_cons_succ]
                    refine wpAnyH_take (i := 7) (v := ?_) (by simp only [List.getElem?_toArray, List.getElem?_cons_succ, List.getElem?_cons_zero]; rfl) (by kernel_rfl) (by kernel_rfl) (by kernel_rfl) (fun _ _ _ h => h) (Or.inl ⟨by rfl, ?_⟩) (by assumption) ?_
                    rotate_left
                    · intro w hSw
                      try dsimp only at hSw
                      go_simp
                      try with_reducible rfl
                    try simp only [Act.put, List.setIfInBounds_toArray, List.set_cons_zero, List.set_cons_succ]
                    refine wpAnyH_take (i := 8) (v := ?_) (by simp only [List.getElem?_toArray, List.getElem?_cons_succ, List.getElem?_cons_zero]; rfl) (by kernel_rfl) (by kernel_rfl) (by kernel_rfl) (fun _ _ _ h => h) (Or.inl ⟨by rfl, ?_⟩) (by assumption) ?_
                    rotate_left
                    · intro w hSw
                      try dsimp only at hSw
                      go_simp
                      try with_reducible rfl
                    try simp only [Act.put, List.setIfInBounds_toArray, List.set_cons_zero, List.set_cons_succ]
                    refine wpAnyH_ready (rs := [9]) (by kernel_rfl) (by simp) ?_
                    refine AllReadyH.cons (by simp only [List.getElem?_toArray, List.getElem?_cons_succ, List.getElem?_cons_zero]; rfl) (fun K hK => ?_) AllReadyH.nil
                    go_simp
                    refine (in_any cw (.slice (some ⟨by_, oy, none⟩) k cu) (E.take k) y HY.out HSQ.out (fun z hz => HE32.out z (List.mem_of_mem_take hz)) (by rw [List.length_take]; have := HPI.out; have := HCAP.out; omega)).mono ?_
                    rintro e cx ⟨rfl, bb⟩
                    have CX := Lib.hid (CQ.out.trans (bb.mono CQ.out.size))
                    have HCX := Lib.hid ((mild_below bb).cells HCQ.out)
                    have HRX := Lib.hid (hsr_kb HRQ.out (mild_below bb))
                    obtain ⟨d, hd⟩ : ∃ d, d = decide (y ∈ E.take k) := ⟨_, rfl⟩
                    rw [← hd]
                    have HD := Lib.hid hd
                    clear hd bb bq
                    go_wp2_with fail
                    refine hK.out _ _ ⟨cm_cell HH.out HCX.out, hld_range HY.out HRX.out⟩ (fun hHeld => ?_)
                    clear hK K
                    try simp only [Act.put, List.setIfInBounds_toArray, List.set_cons_zero, List.set_cons_succ]
                    refine wpAnyH_done (by kernel_rfl) ?_ _
                    refine NoPanic.normal ?_
                    cases d with
                    | true =>
                      have BC := Lib.hid (B2.out.trans (CX.out.mono B2.out.size))
                      have HNN : Hid (¬ E.Nodup) := Lib.hid (fun hn => by
                        have h1 := nodup_take hn (k + 1)
                        rw [HTY.out] at h1
                        exact (List.nodup_append.1 h1).2.2 y (of_decide_eq_true HD.out.symm) y (by simp) rfl)
                      clear hHeld
                      generalize hcz : cx = c9 at *
                      clear hcz
                      have HSF : Hid (∀ V, Only (fun j => j = b5) c9 V → (fun V => (hld ⟨b9, 0, none⟩).run Try.prog V = .ok (.agg (hv h)) V) V) := Lib.hid (fun V k => cm_hld HH.out ((k.block b9 (Array.getElem?_eq_some_iff.1 HCX.out).1 HN59.out).trans HCX.out))
                      have HRES := Lib.hid (show r = some (1, some h) by rw [HCK.out, TT.out, HDR.out, ck2, if_neg (by rw [← HME.out]; exact H4.out), if_neg HNN.out]; rfl)
                      go_upto_region 14 with fail
                      have OD : Hid (Only (fun j => j = b5) c9 c9.drew) := Lib.hid (Only.of_below (blw_qt c9.heap.size 1 c9))
                      have BD : Hid (Below w0.heap.size w0 c9.drew) := Lib.hid (BC.out.trans ((blw_qt c9.heap.size 1 c9).mono BC.out.size))
                      go_wp2_with fail
                      try simp only [List.append]
                      refine wp_region_noPanic ?_
                      refine wp_region_held_drew (S := (fun V => (hld ⟨b9, 0, none⟩).run Try.prog V = .ok (.agg (hv h)) V)) (by kernel_rfl) (HSF.out _ OD.out) (fun hHeld => ?_)
                      generalize c9.drew = cw at *
                      refine wpAnyH_take (i := 0) (v := ?_) (by simp only [List.getElem?_toArray, List.getElem?_cons_zero]; rfl) (by kernel_rfl) (by kernel_rfl) (by kernel_rfl) (fun _ _ _ h => h) (Or.inl ⟨by rfl, ?_⟩) (by assumption) ?_
                      rotate_left
                      · intro w hSw
                        try dsimp only at hSw
                        go_simp
                        try with_reducible rfl
                      try simp only [Act.put, List.setIfInBounds_toArray, List.set_cons_zero, List.set_cons_succ]
                      refine wpAnyH_take (i := 1) (v := ?_) (by simp only [List.getElem?_toArray, List.getElem?_cons_succ, List.getElem?_cons_zero]; rfl) (by kernel_rfl) (by kernel_rfl) (by kernel_rfl) (fun _ _ _ h => h) (Or.inl ⟨by rfl, ?_⟩) (by assumption) ?_
                      rotate_left
                      · intro w hSw
                        try dsimp only at hSw
                        go_simp
                        try with_reducible rfl
                      try simp only [Act.put, List.setIfInBounds_toArray, List.set_cons_zero, List.set_cons_succ]
                      refine wpAnyH_take (i := 2) (v := ?_) (by simp only [List.getElem?_toArray, List.getElem?_cons_succ, List.getElem?_cons_zero]; rfl) (by kernel_rfl) (by kernel_rfl) (by kernel_rfl) (fun _ _ _ h => h) (Or.inl ⟨by rfl, ?_⟩) (by assumption) ?_
                      rotate_left
                      · intro w hSw
                        try dsimp only at hSw
                        go_simp
                        try with_reducible rfl
                      try simp only [Act.put, List.setIfInBounds_toArray, List.set_cons_zero, List.set_cons_succ]
                      refine wpAnyH_ready (rs := [3]) (by kernel_rfl) (by simp) ?_
                      refine (AllReadyH.cons (by simp only [List.getElem?_toArray, List.getElem?_cons_succ, List.getElem?_cons_zero]; rfl) (fun K hK => ?_) AllReadyH.nil)
                      have HT : Hid (cw.there b5 0 (hv h).size) := Lib.hid (by rw [hv_size, HH.out]; exact there_row ((BD.out.block b5 (Array.getElem?_eq_some_iff.1 HB5.out).1).trans HB5.out))
                      have OX : Hid (Only (fun j => j = b5) c9 (cw.setCells b5 0 (hv h).toList)) := Lib.hid (Only.setCells (S := fun j => j = b5) rfl _ 0 OD.out)
                      have BX : Hid (Below w.heap.size w (cw.setCells b5 0 (hv h).toList)) := Lib.hid (((Only.of_below (S := fun k => w.heap.size ≤ k) (BA.out.trans (BD.out.mono BA.out.size))).setCells (b := b5) HB5E.out _ 0).below (Nat.le_refl _) (fun _ h => h))
                      refine step_sth rfl _ _ rfl b5 h HH.out (by rfl) (by rfl) HT.out ?_
                      refine hK.out _ _ (HSF.out _ OX.out) (fun hHeld => ?_)
                      clear hK K
                      try simp only [Act.put, List.setIfInBounds_toArray, List.set_cons_zero, List.set_cons_succ]
                      refine wpAnyH_take (i := 4) (v := ?_) (by simp only [List.getElem?_toArray, List.getElem?_cons_succ, List.getElem?_cons_zero]; rfl) (by kernel_rfl) (by kernel_rfl) (by kernel_rfl) (fun _ _ _ h => h) (Or.inl ⟨by rfl, ?_⟩) (by assumption) ?_
                      rotate_left
                      · intro w hSw
                        try dsimp only at hSw
                        go_simp
                        try with_reducible rfl
                      try simp only [Act.put, List.setIfInBounds_toArray, List.set_cons_zero, List.set_cons_succ]
                      refine wpAnyH_done (by kernel_rfl) ?_ _
                      refine NoPanic.normal ?_
                      go_wp2_with fail
                      refine bodyPost_ret (v := .tuple #[.int .i64 1, .agg (hv h), .bool true]) ?_ rfl ⟨by rw [HRES.out]; rfl, BX.out⟩
                      have ht := HT.out
                      rw [hv_size, HH.out] at ht
                      have hl := load_back HH.out ht
                      clear hHeld
                      generalize cw.setCells b5 0 (hv h).toList = W3 at hl ⊢
                      simp only [results, Try.results35]
                      simp [hl, asAddr, hld_open]
                    | false =>
                      go_wp2_with fail
                      refine ⟨⟨k + 1, by first | rw [HK1.out] | rfl, HKM.out, Lib.hid ((nodup_step HTY.out).2 ⟨HND.out, of_decide_eq_false HD.out.symm⟩), CX⟩, ?_⟩
                      first | exact meas_nv HKM.out HK1.out | exact meas_nw HKM.out
                  · obtain rfl : k = me := by omega
                    have hl3 : decide ((k : Int) < k) = false := by simp
                    have HNN : Hid (E.Nodup) := Lib.hid (by have h := HND.out; rw [List.take_of_length_le (by rw [HME.out]; exact Nat.le_refl _)] at h; exact h)
                    clear hkm hk
                    go_wp2_with fail
                    refine ⟨⟨i + 1, by rw [HJ1.out], HIN.out, Lib.hid (by rw [TT.out, HDR.out, ck2, if_neg (by rw [← HME.out]; exact H4.out), if_pos HNN.out]), B3⟩, ?_⟩
                    rw [HJ1.out]; simp only [intOf, Int.toNat_natCast]; exact Nat.sub_lt_sub_left HIN.out (Nat.lt_succ_self i)
            · obtain rfl : i = m := by omega
              have hl2 : decide ((i : Int) < i) = false := by simp
              clear hlt hi
              go_wp2_with fail
              go_meet
              case rel => exact ⟨Lib.hid (by rw [TT.out, HM.out, List.drop_length]; rfl), B⟩
      case rest =>
        obtain ⟨HC2, B⟩ := hcut
        rename World => w1
        clear B00
        have hr1 := (RR0.out.kb B.out).c
        have AL := Lib.hid (below_al11 w1 (.cells #[.slice p n cap] 62))
        have RX : Hid (RG (w1.alloc (.cells #[.slice p n cap] 62)) w1.heap.size p n cap T) := Lib.hid ⟨heap_alloc_last w1 _, ((RR0.out.kb B.out).kb AL.out).ts, RR0.out.len, RR0.out.asc, RR0.out.few, RR0.out.p32⟩
        have BX1 := Lib.hid (B.out.trans (AL.out.mono B.out.size))
        have HRX : Hid (w0.heap.size ≤ w1.heap.size) := Lib.hid B.out.size
        go_upto_block 4 with fail
        clear hr1
        generalize w1.alloc (.cells #[.slice p n cap] 62) = w2 at *
        generalize w1.heap.size = rgx at *
        clear AL B
        go_cut [12] from 84 to 114 (fun _ wr => ∃ p' n' cap' Z, Hid (RG wr rgx p' n' cap' Z) ∧ Hid (Ck (gr T) cs cs.length (gr Z)) ∧ Hid (Z.length ≤ T.length + m) ∧ Hid (Below w0.heap.size w0 wr))
        case first =>
          as_aux_lemma =>
            go_wp2_with fail
            go_loopw [12] (fun v12 wr => ∃ i : Nat, v12 = .int .i64 i ∧ i ≤ m ∧ Hid (∃ p' n' cap' Z, RG wr rgx p' n' cap' Z ∧ Ck (gr T) cs i (gr Z) ∧ Z.length ≤ T.length + i) ∧ Hid (Below w0.heap.size w0 wr)) (fun v12 _ => m - (intOf v12).toNat)
            case atStart => exact ⟨0, rfl, Nat.zero_le _, Lib.hid ⟨p, n, cap, T, RX.out, Ck.start HWF.out.asc cs, Nat.le_refl _⟩, BX1⟩
            case round =>
              obtain ⟨i, rfl, hi, ZZ, B⟩ := hrel
              clear BX1 RX
              rename World => wr
              have a0 := cell_obj (HCELL.out wr B.out) 0 rfl
              by_cases hlt : i < m
              · obtain ⟨j1, j2, j3⟩ := next_fit hlt (by rw [HM.out]; exact HL.out)
                have HJ1 := Lib.hid j1
                obtain ⟨p', n', cap', Z, hRZ, hck, hZl⟩ := ZZ.out
                have HZ := Lib.hid hRZ
                have HCKI := Lib.hid hck
                have HZL := Lib.hid hZl
                clear hRZ hck hZl ZZ
                have hiE : i < cs.length := by rw [← HM.out]; exact hlt
                obtain ⟨p'', cap'', e1, hc⟩ := HV0.out.kb B.out
                injection e1 with e1 e2 e3
                obtain ⟨b, o, u, rfl, hrg, hsn⟩ := hc i cs[i] (List.getElem?_eq_getElem hiE)
                subst e1
                have hdr : cs.drop i = cs[i] :: cs.drop (i + 1) := drop_at hiE
                have htk : cs.take (i + 1) = cs.take i ++ [cs[i]] := List.take_succ_eq_append_getElem hiE
                have hoki := HO.out _ (List.getElem_mem hiE)
                have hpi := HP.out _ (List.getElem_mem hiE)
                have hmi := List.getElem_mem hiE
                obtain ⟨⟨h, E⟩, hce⟩ : ∃ c : Cm, c = cs[i] := ⟨_, rfl⟩
                rw [← hce] at hrg hsn hdr hoki hpi htk hmi
                dsimp only at hrg hsn hoki hpi
                obtain ⟨pu, cu, rfl⟩ := hsn.shape
                obtain ⟨me, hme⟩ : ∃ me, me = E.length := ⟨_, rfl⟩
                rw [← hme] at hrg hsn hpi
                have HH := Lib.hid hoki.1
                have HE32 := Lib.hid hoki.2
                have HME := Lib.hid hme
                have HPI := Lib.hid hpi
                have HDR := Lib.hid hdr
                have HTK := Lib.hid htk
                have HMI := Lib.hid hmi
                have hld0 := cld_range hoki.1 hrg
                have st := cst_cells h (.slice pu me cu) hoki.1 hsn.one wr
                have hks : (cmv h (.slice pu me cu)).size = 33 := cmv_size hoki.1 _
                have HCM := Lib.hid (heap_alloc_last wr (.cells (cmv h (.slice pu me cu)) 49))
                have B2 : Hid (Below w0.heap.size w0 (wr.alloc (.cells (cmv h (.slice pu me cu)) 49))) := Lib.hid (B.out.alloc B.out.size _)
                have AL2 := Lib.hid (below_al11 wr (.cells (cmv h (.slice pu me cu)) 49))
                have HSN := Lib.hid (hsn.mild (mild_below AL2.out))
                have HIN := Lib.hid hlt
                clear hrg hsn hdr hoki hpi hc e2 e3 hce hme hiE htk hmi hlt
                have HN135 : Hid (wr.heap.size ≠ b5) := Lib.hid (by have := HLOW.out; have := B.out.size; omega)
                have HP4 : Hid (E.length ≤ 4) := Lib.hid (ck2_none HC2.out _ HMI.out).1
                have HZ2 := Lib.hid (HZ.out.kb AL2.out)
                go_upto_region 20 with fail
                clear st hld0 a0
                generalize wr.alloc (.cells (cmv h (.slice pu me cu)) 49) = wc at *
                generalize wr.heap.size = b13 at *
                have bq : Below wc.heap.size wc wc.drew := blw_qt _ 1 wc
                have HCQ := Lib.hid ((mild_below bq).cells HCM.out)
                have BQ := Lib.hid (B2.out.trans (bq.mono B2.out.size))
                have HZQ := Lib.hid (HZ2.out.kb bq)
                have HSQ := Lib.hid (HSN.out.mild (mild_below bq))
                clear bq HZ2 HZ HCM
                obtain ⟨q, hq⟩ : ∃ q, q = (aget h (gr Z)).isSome := ⟨_, rfl⟩
                have HQ := Lib.hid hq
                clear hq
                go_wp2_with fail
                try simp only [List.append]
                refine wp_region_noPanic ?_
                refine wp_region_held_drew (S := (fun V => (hld ⟨b13, 0, none⟩).run Try.prog V = .ok (.agg (hv h)) V ∧ V.cell? ⟨b13, 32, none⟩ = some (.slice pu me cu))) (by kernel_rfl) ⟨cm_hld HH.out HCQ.out, cm_cell HH.out HCQ.out⟩ (fun hHeld => ?_)
                generalize wc.drew = cw at *
                refine wpAnyH_take (i := 0) (v := ?_) (by simp only [List.getElem?_toArray, List.getElem?_cons_zero]; rfl) (by kernel_rfl) (by kernel_rfl) (by kernel_rfl) (fun _ _ _ h => h) (Or.inl ⟨by rfl, ?_⟩) (by assumption) ?_
                rotate_left
                · intro w hSw
                  try dsimp only at hSw
                  go_simp
                  try with_reducible rfl
                try simp only [Act.put, List.setIfInBounds_toArray, List.set_cons_zero, List.set_cons_succ]
                refine wpAnyH_take (i := 1) (v := ?_) (by simp only [List.getElem?_toArray, List.getElem?_cons_succ, List.getElem?_cons_zero]; rfl) (by kernel_rfl) (by kernel_rfl) (by kernel_rfl) (fun _ _ _ h => h) (Or.inl ⟨by rfl, ?_⟩) (by assumption) ?_
                rotate_left
                · intro w hSw
                  try dsimp only at hSw
                  go_simp
                  try with_reducible rfl
                try simp only [Act.put, List.setIfInBounds_toArray, List.set_cons_zero, List.set_cons_succ]
                refine wpAnyH_take (i := 2) (v := ?_) (by simp only [List.getElem?_toArray, List.getElem?_cons_succ, List.getElem?_cons_zero]; rfl) (by kernel_rfl) (by kernel_rfl) (by kernel_rfl) (fun _ _ _ h => h) (Or.inl ⟨by rfl, ?_⟩) (by assumption) ?_
                rotate_left
                · intro w hSw
                  try dsimp only at hSw
                  go_simp
                  try with_reducible rfl
                try simp only [Act.put, List.setIfInBounds_toArray, List.set_cons_zero, List.set_cons_succ]
                refine wpAnyH_ready (rs := [3]) (by kernel_rfl) (by simp) ?_
                refine AllReadyH.cons (by simp only [List.getElem?_toArray, List.getElem?_cons_succ, List.getElem?_cons_zero]; rfl) (fun K hK => ?_) AllReadyH.nil
                go_simp
                refine (rhas_to cw rgx p' n' cap' Z h HH.out HZQ.out).mono ?_
                rintro e cx ⟨rfl, bb⟩
                rw [← HQ.out]
                have HCX := Lib.hid ((mild_below bb).cells HCQ.out)
                have BX := Lib.hid (BQ.out.trans (bb.mono BQ.out.size))
                have HZX := Lib.hid (HZQ.out.kb bb)
                have HSX := Lib.hid (HSQ.out.mild (mild_below bb))
                clear bb HCQ BQ HZQ HSQ
                cases q with
                | false =>
                  go_wp2_with fail
                  refine hK.out _ _ ⟨cm_hld HH.out HCX.out, cm_cell HH.out HCX.out⟩ (fun hHeld => ?_)
                  clear hK K
                  try simp only [Act.put, List.setIfInBounds_toArray, List.set_cons_zero, List.set_cons_succ]
                  refine wpAnyH_take (i := 4) (v := ?_) (by simp only [List.getElem?_toArray, List.getElem?_cons_succ, List.getElem?_cons_zero]; rfl) (by kernel_rfl) (by kernel_rfl) (by kernel_rfl) (fun _ _ _ h => h) (Or.inl ⟨by rfl, ?_⟩) (by assumption) ?_
                  rotate_left
                  · intro w hSw
                    try dsimp only at hSw
                    go_simp
                    try with_reducible rfl
                  try simp only [Act.put, List.setIfInBounds_toArray, List.set_cons_zero, List.set_cons_succ]
                  refine wpAnyH_take (i := 5) (v := undef) (by simp only [List.getElem?_toArray, List.getElem?_cons_succ, List.getElem?_cons_zero]; rfl) (by kernel_rfl) (by kernel_rfl) (by kernel_rfl) (fun _ _ _ h => h) (Or.inr ⟨by rfl, rfl⟩) (by assumption) ?_
                  try simp only [Act.put, List.setIfInBounds_toArray, List.set_cons_zero, List.set_cons_succ]
                  refine wpAnyH_take (i := 6) (v := undef) (by simp only [List.getElem?_toArray, List.getElem?_cons_succ, List.getElem?_cons_zero]; rfl) (by kernel_rfl) (by kernel_rfl) (by kernel_rfl) (fun _ _ _ h => h) (Or.inr ⟨by rfl, rfl⟩) (by assumption) ?_
                  try simp only [Act.put, List.setIfInBounds_toArray, List.set_cons_zero, List.set_cons_succ]
                  refine wpAnyH_take (i := 7) (v := undef) (by simp only [List.getElem?_toArray, List.getElem?_cons_succ, List.getElem?_cons_zero]; rfl) (by kernel_rfl) (by kernel_rfl) (by kernel_rfl) (fun _ _ _ h => h) (Or.inr ⟨by rfl, rfl⟩) (by assumption) ?_
                  try simp only [Act.put, List.setIfInBounds_toArray, List.set_cons_zero, List.set_cons_succ]
                  refine wpAnyH_take (i := 8) (v := undef) (by simp only [List.getElem?_toArray, List.getElem?_cons_succ, List.getElem?_cons_zero]; rfl) (by kernel_rfl) (by kernel_rfl) (by kernel_rfl) (fun _ _ _ h => h) (Or.inr ⟨by rfl, rfl⟩) (by assumption) ?_
                  try simp only [Act.put, List.setIfInBounds_toArray, List.set_cons_zero, List.set_cons_succ]
                  refine wpAnyH_take (i := 9) (v := undef) (by simp only [List.getElem?_toArray, List.getElem?_cons_succ, List.getElem?_cons_zero]; rfl) (by kernel_rfl) (by kernel_rfl) (by kernel_rfl) (fun _ _ _ h => h) (Or.inr ⟨by rfl, rfl⟩) (by assumption) ?_
                  try simp only [Act.put, List.setIfInBounds_toArray, List.set_cons_zero, List.set_cons_succ]
                  refine wpAnyH_take (i := 10) (v := undef) (by simp only [List.getElem?_toArray, List.getElem?_cons_succ, List.getElem?_cons_zero]; rfl) (by kernel_rfl) (by kernel_rfl) (by kernel_rfl) (fun _ _ _ h => h) (Or.inr ⟨by rfl, rfl⟩) (by assumption) ?_
                  try simp only [Act.put, List.setIfInBounds_toArray, List.set_cons_zero, List.set_cons_succ]
                  refine wpAnyH_take (i := 11) (v := undef) (by simp only [List.getElem?_toArray, List.getElem?_cons_succ, List.getElem?_cons_zero]; rfl) (by kernel_rfl) (by kernel_rfl) (by kernel_rfl) (fun _ _ _ h => h) (Or.inr ⟨by rfl, rfl⟩) (by assumption) ?_
                  try simp only [Act.put, List.setIfInBounds_toArray, List.set_cons_zero, List.set_cons_succ]
                  refine wpAnyH_take (i := 12) (v := undef) (by simp only [List.getElem?_toArray, List.getElem?_cons_succ, List.getElem?_cons_zero]; rfl) (by kernel_rfl) (by kernel_rfl) (by kernel_rfl) (fun _ _ _ h => h) (Or.inr ⟨by rfl, rfl⟩) (by assumption) ?_
                  try simp only [Act.put, List.setIfInBounds_toArray, List.set_cons_zero, List.set_cons_succ]
                  refine wpAnyH_take (i := 13) (v := ?_) (by simp only [List.getElem?_toArray, List.getElem?_cons_succ, List.getElem?_cons_zero]; rfl) (by kernel_rfl) (by kernel_rfl) (by kernel_rfl) (fun _ _ _ h => h) (Or.inl ⟨by rfl, ?_⟩) (by assumption) ?_
                  rotate_left
                  · intro w hSw
                    try dsimp only at hSw
                    go_simp
                    try with_reducible rfl
                  try simp only [Act.put, List.setIfInBounds_toArray, List.set_cons_zero, List.set_cons_succ]
                  refine wpAnyH_done (by kernel_rfl) ?_ _
                  refine NoPanic.normal ?_
                  clear hHeld
                  have hld9 := cld_range HH.out (by have h9 := range_row HCX.out; rwa [cmv_list] at h9)
                  have HPT := Lib.hid (rput_to cx rgx p' n' cap' Z HZX.out h (.slice pu me cu) E HH.out HSX.out HE32.out (Nat.le_trans HP4.out (by decide)) (by have := HZL.out; have := RR0.out.few; have := HWF.out.few; have := HCL.out; have := HIN.out; have := HM.out; rw [gr_len] at *; omega))
                  go_wp2_with fail
                  refine HPT.out.mono ?_
                  rintro e w3 ⟨rfl, o3, p3, n3, c3, Z3, r3, g3⟩
                  have O3 := Lib.hid o3
                  have R3 := Lib.hid r3
                  have G3 := Lib.hid g3
                  clear o3 r3 g3
                  go_wp2_with fail
                  refine ⟨⟨i + 1, by rw [HJ1.out], HIN.out, Lib.hid ⟨p3, n3, c3, Z3, R3.out, HCKI.out.next HDR.out HTK.out (fun hs => by rw [← HQ.out] at hs; cases hs) G3.out, ?_⟩, Lib.hid (BX.out.trans (O3.out.below BX.out.size (fun j hj => by rw [hj]; exact HRX.out)))⟩, ?_⟩
                  · have h1 : (gr Z3).length ≤ (gr Z).length + 1 := by
                      rw [G3.out]
                      split
                      · exact Nat.le_succ _
                      · exact aput_len _ _ _
                    rw [gr_len, gr_len] at h1
                    have := HZL.out
                    omega
                  · rw [HJ1.out]; simp only [intOf, Int.toNat_natCast]; exact Nat.sub_lt_sub_left HIN.out (Nat.lt_succ_self i)
                | true =>
                  go_wp2_with fail
                  refine hK.out _ _ ⟨cm_hld HH.out HCX.out, cm_cell HH.out HCX.out⟩ (fun hHeld => ?_)
                  clear hK K
                  try simp only [Act.put, List.setIfInBounds_toArray, List.set_cons_zero, List.set_cons_succ]
                  rename World => cw
                  refine wpAnyH_take (i := 4) (v := ?_) (by simp only [List.getElem?_toArray, List.getElem?_cons_succ, List.getElem?_cons_zero]; rfl) (by kernel_rfl) (by kernel_rfl) (by kernel_rfl) (fun _ _ _ h => h) (Or.inl ⟨by rfl, ?_⟩) (by assumption) ?_
                  rotate_left
                  · intro w hSw
                    try dsimp only at hSw
                    go_simp
                    try with_reducible rfl
                  try simp only [Act.put, List.setIfInBounds_toArray, List.set_cons_zero, List.set_cons_succ]
                  refine wpAnyH_take (i := 5) (v := ?_) (by simp only [List.getElem?_toArray, List.getElem?_cons_succ, List.getElem?_cons_zero]; rfl) (by kernel_rfl) (by kernel_rfl) (by kernel_rfl) (fun _ _ _ h => h) (Or.inl ⟨by rfl, ?_⟩) (by assumption) ?_
                  rotate_left
                  · intro w hSw
                    try dsimp only at hSw
                    go_simp
                    try with_reducible rfl
                  try simp only [Act.put, List.setIfInBounds_toArray, List.set_cons_zero, List.set_cons_succ]
                  refine wpAnyH_take (i := 6) (v := ?_) (by simp only [List.getElem?_toArray, List.getElem?_cons_succ, List.getElem?_cons_zero]; rfl) (by kernel_rfl) (by kernel_rfl) (by kernel_rfl) (fun _ _ _ h => h) (Or.inl ⟨by rfl, ?_⟩) (by assumption) ?_
                  rotate_left
                  · intro w hSw
                    try dsimp only at hSw
                    go_simp
                    try with_reducible rfl
                  try simp only [Act.put, List.setIfInBounds_toArray, List.set_cons_zero, List.set_cons_succ]
                  refine wpAnyH_take (i := 7) (v := ?_) (by simp only [List.getElem?_toArray, List.getElem?_cons_succ, List.getElem?_cons_zero]; rfl) (by kernel_rfl) (by kernel_rfl) (by kernel_rfl) (fun _ _ _ h => h) (Or.inl ⟨by rfl, ?_⟩) (by assumption) ?_
                  rotate_left
                  · intro w hSw
                    try dsimp only at hSw
                    go_simp
                    try with_reducible rfl
                  try simp only [Act.put, List.setIfInBounds_toArray, List.set_cons_zero, List.set_cons_succ]
                  refine wpAnyH_take (i := 9) (v := ?_) (by simp only [List.getElem?_toArray, List.getElem?_cons_succ, List.getElem?_cons_zero]; rfl) (by kernel_rfl) (by kernel_rfl) (by kernel_rfl) (fun _ _ _ h => h) (Or.inl ⟨by rfl, ?_⟩) (by assumption) ?_
                  rotate_left
                  · intro w hSw
                    try dsimp only at hSw
                    go_simp
                    try with_reducible rfl
                  try simp only [Act.put, List.setIfInBounds_toArray, List.set_cons_zero, List.set_cons_succ]
                  refine wpAnyH_take (i := 10) (v := ?_) (by simp only [List.getElem?_toArray, List.getElem?_cons_succ, List.getElem?_cons_zero]; rfl) (by kernel_rfl) (by kernel_rfl) (by kernel_rfl) (fun _ _ _ h => h) (Or.inl ⟨by rfl, ?_⟩) (by assumption) ?_
                  rotate_left
                  · intro w hSw
                    try dsimp only at hSw
                    go_simp
                    try with_reducible rfl
                  try simp only [Act.put, List.setIfInBounds_toArray, List.set_cons_zero, List.set_cons_succ]
                  refine wpAnyH_ready (rs := [8]) (by kernel_rfl) (by simp) ?_
                  refine AllReadyH.cons (by simp only [List.getElem?_toArray, List.getElem?_cons_succ, List.getElem?_cons_zero]; rfl) (fun K hK => ?_) AllReadyH.nil
                  go_simp
                  refine (rparents_to cw rgx p' n' cap' Z h HH.out HZX.out).mono ?_
                  rintro e cx ⟨vp, rfl, hsp, bb⟩
                  have HSP := Lib.hid hsp
                  obtain ⟨pp, cp, rfl⟩ := hsp.shape
                  obtain ⟨F, hF⟩ : ∃ F, F = (aget h (gr Z)).getD [] := ⟨_, rfl⟩
                  obtain ⟨np, hnp⟩ : ∃ np, np = ((aget h (gr Z)).getD []).length := ⟨_, rfl⟩
                  rw [← hnp] at HSP ⊢
                  rw [← hF] at HSP
                  have HF := Lib.hid hF
                  have HF32 : Hid (H32 F ∧ F.length ≤ 1000000) := Lib.hid (by
                    rw [hF, gr_get]
                    cases hg : aget h Z with
                    | none => exact ⟨H32.nil, Nat.zero_le _⟩
                    | some v => exact HZX.out.p32 _ (aget_mem hg))
                  have HCY := Lib.hid ((mild_below bb).cells HCX.out)
                  have BY := Lib.hid (BX.out.trans (bb.mono BX.out.size))
                  have HZY := Lib.hid (HZX.out.kb bb)
                  have HSY := Lib.hid (HSX.out.mild (mild_below bb))
                  clear bb hsp hF hnp HCX BX HZX HSX
                  go_wp2_with fail
                  refine hK.out _ _ ⟨cm_hld HH.out HCY.out, cm_cell HH.out HCY.out⟩ (fun hHeld => ?_)
                  clear hK K
                  try simp only [Act.put, List.setIfInBounds_toArray, List.set_cons_zero, List.set_cons_succ]
                  rename World => cw
                  refine wpAnyH_ready (rs := [11]) (by kernel_rfl) (by simp) ?_
                  refine AllReadyH.cons (by simp only [List.getElem?_toArray, List.getElem?_cons_succ, List.getElem?_cons_zero]; rfl) (fun K hK => ?_) AllReadyH.nil
                  go_simp
                  refine (same_two cw _ _ F E HSP.out HSY.out HF32.out.1 HE32.out HF32.out.2 (by rw [← HME.out]; exact HPI.out)).mono ?_
                  rintro e cx ⟨rfl, k, rfl⟩
                  have HCX := Lib.hid ((mild_below (blw_qt cw.heap.size k cw)).cells HCY.out)
                  have BX := Lib.hid (BY.out.trans ((blw_qt cw.heap.size k cw).mono BY.out.size))
                  have HZX := Lib.hid (HZY.out.kb (blw_qt cw.heap.size k cw))
                  have HSX := Lib.hid (HSY.out.mild (mild_below (blw_qt cw.heap.size k cw)))
                  clear HCY BY HZY HSY HSP
                  generalize cw.drewN k = cx at *
                  obtain ⟨d, hd⟩ : ∃ d, d = decide (F = E) := ⟨_, rfl⟩
                  rw [← hd]
                  have HD := Lib.hid hd
                  clear hd
                  go_wp2_with fail
                  refine hK.out _ _ ⟨cm_hld HH.out HCX.out, cm_cell HH.out HCX.out⟩ (fun hHeld => ?_)
                  clear hK K
                  try simp only [Act.put, List.setIfInBounds_toArray, List.set_cons_zero, List.set_cons_succ]
                  refine wpAnyH_take (i := 12) (v := ?_) (by simp only [List.getElem?_toArray, List.getElem?_cons_succ, List.getElem?_cons_zero]; rfl) (by kernel_rfl) (by kernel_rfl) (by kernel_rfl) (fun _ _ _ h => h) (Or.inl ⟨by rfl, ?_⟩) (by assumption) ?_
                  rotate_left
                  · intro w hSw
                    try dsimp only at hSw
                    go_simp
                    try with_reducible rfl
                  try simp only [Act.put, List.setIfInBounds_toArray, List.set_cons_zero, List.set_cons_succ]
                  refine wpAnyH_take (i := 13) (v := ?_) (by simp only [List.getElem?_toArray, List.getElem?_cons_succ, List.getElem?_cons_zero]; rfl) (by kernel_rfl) (by kernel_rfl) (by kernel_rfl) (fun _ _ _ h => h) (Or.inl ⟨by rfl, ?_⟩) (by assumption) ?_
                  rotate_left
                  · intro w hSw
                    try dsimp only at hSw
                    go_simp
                    try with_reducible rfl
                  try simp only [Act.put, List.setIfInBounds_toArray, List.set_cons_zero, List.set_cons_succ]
                  refine wpAnyH_done (by kernel_rfl) ?_ _
                  refine NoPanic.normal ?_
                  clear hHeld
                  cases d with
                  | false =>
                    have HBAD := Lib.hid (HCKI.out.bad HDR.out HQ.out.symm (by rw [← HF.out]; exact of_decide_eq_false HD.out.symm))
                    have BC := BX
                    clear BX HZX HSX HCKI
                    obtain ⟨cz, hcz⟩ : ∃ cz, cz = cx := ⟨_, rfl⟩
                    rw [← hcz] at HCX BC ⊢
                    clear hcz
                    have HSF : Hid (∀ V, Only (fun j => j = b5) cz V → (fun V => (hld ⟨b13, 0, none⟩).run Try.prog V = .ok (.agg (hv h)) V) V) := Lib.hid (fun V k => cm_hld HH.out ((k.block b13 (Array.getElem?_eq_some_iff.1 HCX.out).1 HN135.out).trans HCX.out))
                    have HRES := Lib.hid (show r = some (9, some h) by rw [HCK.out, HC2.out, HBAD.out]; rfl)
                    go_upto_region 21 with fail
                    have OD : Hid (Only (fun j => j = b5) cz cz.drew) := Lib.hid (Only.of_below (blw_qt cz.heap.size 1 cz))
                    have BD : Hid (Below w0.heap.size w0 cz.drew) := Lib.hid (BC.out.trans ((blw_qt cz.heap.size 1 cz).mono BC.out.size))
                    go_wp2_with fail
                    try simp only [List.append]
                    refine wp_region_noPanic ?_
                    refine wp_region_held_drew (S := (fun V => (hld ⟨b13, 0, none⟩).run Try.prog V = .ok (.agg (hv h)) V)) (by kernel_rfl) (HSF.out _ OD.out) (fun hHeld => ?_)
                    generalize cz.drew = cw at *
                    refine wpAnyH_take (i := 0) (v := ?_) (by simp only [List.getElem?_toArray, List.getElem?_cons_zero]; rfl) (by kernel_rfl) (by kernel_rfl) (by kernel_rfl) (fun _ _ _ h => h) (Or.inl ⟨by rfl, ?_⟩) (by assumption) ?_
                    rotate_left
                    · intro w hSw
                      try dsimp only at hSw
                      go_simp
                      try with_reducible rfl
                    try simp only [Act.put, List.setIfInBounds_toArray, List.set_cons_zero, List.set_cons_succ]
                    refine wpAnyH_take (i := 1) (v := ?_) (by simp only [List.getElem?_toArray, List.getElem?_cons_succ, List.getElem?_cons_zero]; rfl) (by kernel_rfl) (by kernel_rfl) (by kernel_rfl) (fun _ _ _ h => h) (Or.inl ⟨by rfl, ?_⟩) (by assumption) ?_
                    rotate_left
                    · intro w hSw
                      try dsimp only at hSw
                      go_simp
                      try with_reducible rfl
                    try simp only [Act.put, List.setIfInBounds_toArray, List.set_cons_zero, List.set_cons_succ]
                    refine wpAnyH_take (i := 2) (v := ?_) (by simp only [List.getElem?_toArray, List.getElem?_cons_succ, List.getElem?_cons_zero]; rfl) (by kernel_rfl) (by kernel_rfl) (by kernel_rfl) (fun _ _ _ h => h) (Or.inl ⟨by rfl, ?_⟩) (by assumption) ?_
                    rotate_left
                    · intro w hSw
                      try dsimp only at hSw
                      go_simp
                      try with_reducible rfl
                    try simp only [Act.put, List.setIfInBounds_toArray, List.set_cons_zero, List.set_cons_succ]
                    refine wpAnyH_ready (rs := [3]) (by kernel_rfl) (by simp) ?_
                    refine (AllReadyH.cons (by simp only [List.getElem?_toArray, List.getElem?_cons_succ, List.getElem?_cons_zero]; rfl) (fun K hK => ?_) AllReadyH.nil)
                    have HT : Hid (cw.there b5 0 (hv h).size) := Lib.hid (by rw [hv_size, HH.out]; exact there_row ((BD.out.block b5 (Array.getElem?_eq_some_iff.1 HB5.out).1).trans HB5.out))
                    have OX : Hid (Only (fun j => j = b5) cz (cw.setCells b5 0 (hv h).toList)) := Lib.hid (Only.setCells (S := fun j => j = b5) rfl _ 0 OD.out)
                    have BX : Hid (Below w.heap.size w (cw.setCells b5 0 (hv h).toList)) := Lib.hid (((Only.of_below (S := fun k => w.heap.size ≤ k) (BA.out.trans (BD.out.mono BA.out.size))).setCells (b := b5) HB5E.out _ 0).below (Nat.le_refl _) (fun _ h => h))
                    refine step_sth rfl _ _ rfl b5 h HH.out (by rfl) (by rfl) HT.out ?_
                    refine hK.out _ _ (HSF.out _ OX.out) (fun hHeld => ?_)
                    clear hK K
                    try simp only [Act.put, List.setIfInBounds_toArray, List.set_cons_zero, List.set_cons_succ]
                    refine wpAnyH_take (i := 4) (v := ?_) (by simp only [List.getElem?_toArray, List.getElem?_cons_succ, List.getElem?_cons_zero]; rfl) (by kernel_rfl) (by kernel_rfl) (by kernel_rfl) (fun _ _ _ h => h) (Or.inl ⟨by rfl, ?_⟩) (by assumption) ?_
                    rotate_left
                    · intro w hSw
                      try dsimp only at hSw
                      go_simp
                      try with_reducible rfl
                    try simp only [Act.put, List.setIfInBounds_toArray, List.set_cons_zero, List.set_cons_succ]
                    refine wpAnyH_done (by kernel_rfl) ?_ _
                    refine NoPanic.normal ?_
                    go_wp2_with fail
                    refine bodyPost_ret (v := .tuple #[.int .i64 9, .agg (hv h), .bool true]) ?_ rfl ⟨by rw [HRES.out]; rfl, BX.out⟩
                    have ht := HT.out
                    rw [hv_size, HH.out] at ht
                    have hl := load_back HH.out ht
                    clear hHeld
                    generalize cw.setCells b5 0 (hv h).toList = W3 at hl ⊢
                    simp only [results, Try.results35]
                    simp [hl, asAddr, hld_open]
                  | true =>
                    have HFE := Lib.hid (of_decide_eq_true HD.out.symm)
                    have hld9 := cld_range HH.out (by have h9 := range_row HCX.out; rwa [cmv_list] at h9)
                    have HPT := Lib.hid (rput_to cx rgx p' n' cap' Z HZX.out h (.slice pu me cu) E HH.out HSX.out HE32.out (Nat.le_trans HP4.out (by decide)) (by have := HZL.out; have := RR0.out.few; have := HWF.out.few; have := HCL.out; have := HIN.out; have := HM.out; rw [gr_len] at *; omega))
                    go_wp2_with fail
                    refine HPT.out.mono ?_
                    rintro e w3 ⟨rfl, o3, p3, n3, c3, Z3, r3, g3⟩
                    have O3 := Lib.hid o3
                    have R3 := Lib.hid r3
                    have G3 := Lib.hid g3
                    clear o3 r3 g3
                    go_wp2_with fail
                    refine ⟨⟨i + 1, by rw [HJ1.out], HIN.out, Lib.hid ⟨p3, n3, c3, Z3, R3.out, HCKI.out.next HDR.out HTK.out (fun _ => by rw [← HF.out]; exact HFE.out) G3.out, ?_⟩, Lib.hid (BX.out.trans (O3.out.below BX.out.size (fun j hj => by rw [hj]; exact HRX.out)))⟩, ?_⟩
                    · have h1 : (gr Z3).length ≤ (gr Z).length + 1 := by
                        rw [G3.out]
                        split
                        · exact Nat.le_succ _
                        · exact aput_len _ _ _
                      rw [gr_len, gr_len] at h1
                      have := HZL.out
                      omega
                    · rw [HJ1.out]; simp only [intOf, Int.toNat_natCast]; exact Nat.sub_lt_sub_left HIN.out (Nat.lt_succ_self i)
              · obtain rfl : i = m := by omega
                have hl2 : decide ((i : Int) < i) = false := by simp
                clear hlt hi
                go_wp2_with fail
                go_meet
                case rel =>
                  obtain ⟨p', n', cap', Z, hRZ, hck, hZl⟩ := ZZ.out
                  exact ⟨p', n', cap', Z, Lib.hid hRZ, Lib.hid (by rw [HM.out] at hck; exact hck), Lib.hid hZl, B⟩
        case rest =>
          clear BX1 RX
          obtain ⟨p', n', cap', Z, HZ, HCKD, HZL, B⟩ := hcut
          rename World => w3
          obtain ⟨hn3, hjn⟩ := HCKD.out.done
          have N3 := Lib.hid hn3
          have J := Lib.hid hjn
          have HMA := Lib.hid (jn_adds HWF.out.asc hjn)
          clear hn3 hjn HCKD
          obtain ⟨A, hA⟩ : ∃ A, A = addA (gr T) [] cs := ⟨_, rfl⟩
          rw [← hA] at HCK J
          have HA := Lib.hid hA
          clear hA
          have HN35 : Hid (b3 ≠ b5) := Lib.hid (by have h1 := HR.out; intro e; rw [e, HB5.out] at h1; cases h1)
          go_upto_block 6 with fail
          go_cut [14] from 115 to 146 (fun _ wr => Hid (ck4 (gr T) A cs = none) ∧ Hid (Below w3.heap.size w3 wr) ∧ Hid (Below w0.heap.size w0 wr))
          case first =>
            as_aux_lemma =>
              go_wp2_with fail
              go_loopw [14] (fun v14 wr => ∃ i : Nat, v14 = .int .i64 i ∧ i ≤ m ∧ Hid (ck4 (gr T) A cs = ck4 (gr T) A (cs.drop i)) ∧ Hid (Below w3.heap.size w3 wr) ∧ Hid (Below w0.heap.size w0 wr)) (fun v14 _ => m - (intOf v14).toNat)
              case atStart => exact ⟨0, rfl, Nat.zero_le _, Lib.hid rfl, Lib.hid (Below.refl _ _), B⟩
              case round =>
                obtain ⟨i, rfl, hi, CK4, D, B1⟩ := hrel
                clear B
                have B := B1
                clear B1
                rename World => wr
                have HZ' := Lib.hid (HZ.out.kb D.out)
                have a0 := cell_obj (HCELL.out wr B.out) 0 rfl
                by_cases hlt : i < m
                · obtain ⟨j1, j2, j3⟩ := next_fit hlt (by rw [HM.out]; exact HL.out)
                  have HJ1 := Lib.hid j1
                  have hiE : i < cs.length := by rw [← HM.out]; exact hlt
                  obtain ⟨p'', cap'', e1, hc⟩ := HV0.out.kb B.out
                  injection e1 with e1 e2 e3
                  obtain ⟨b, o, u, rfl, hrg, hsn⟩ := hc i cs[i] (List.getElem?_eq_getElem hiE)
                  subst e1
                  have hdr : cs.drop i = cs[i] :: cs.drop (i + 1) := drop_at hiE
                  have hoki := HO.out _ (List.getElem_mem hiE)
                  have hpi := HP.out _ (List.getElem_mem hiE)
                  have hmi := List.getElem_mem hiE
                  obtain ⟨⟨h, E⟩, hce⟩ : ∃ c : Cm, c = cs[i] := ⟨_, rfl⟩
                  rw [← hce] at hrg hsn hdr hoki hpi hmi
                  dsimp only at hrg hsn hoki hpi
                  obtain ⟨pu, cu, rfl⟩ := hsn.shape
                  obtain ⟨me, hme⟩ : ∃ me, me = E.length := ⟨_, rfl⟩
                  rw [← hme] at hrg hsn hpi
                  have HH := Lib.hid hoki.1
                  have HE32 := Lib.hid hoki.2
                  have HME := Lib.hid hme
                  have HPI := Lib.hid hpi
                  have HDR := Lib.hid hdr
                  have HMI := Lib.hid hmi
                  have HRG := Lib.hid hrg
                  have HSN := Lib.hid hsn
                  have HIN := Lib.hid hlt
                  clear hrg hsn hdr hoki hpi hc e2 e3 hce hme hiE hmi hlt
                  clear HZ
                  have HZ := HZ'
                  clear HZ'
                  go_wp2_with fail
                  clear a0
                  go_loopw [15] (fun v15 wz => ∃ k : Nat, v15 = .int .i64 k ∧ k ≤ me ∧ Hid (miss (gr T) A E = miss (gr T) A (E.drop k)) ∧ Hid (Below wr.heap.size wr wz)) (fun v15 _ => me - (intOf v15).toNat)
                  case atStart => exact ⟨0, rfl, Nat.zero_le _, Lib.hid rfl, Lib.hid (Below.refl _ _)⟩
                  case round =>
                    obtain ⟨k, rfl, hk, MS, C⟩ := hrel
                    rename World => wz
                    have B3 := Lib.hid (B.out.trans (C.out.mono B.out.size))
                    have a0 := cell_obj (HCELL.out wz B3.out) 0 rfl
                    have hcu := cu_at' HH.out (hsr_kb HRG.out (mild_below C.out))
                    by_cases hkm : k < me
                    · obtain ⟨k1, k2, k3⟩ := next_fit hkm HPI.out
                      have hkE : k < E.length := by rw [← HME.out]; exact hkm
                      obtain ⟨by_, oy, cy, e1, hry⟩ := (HSN.out.mild (mild_below C.out)).at HE32.out hkE
                      injection e1 with e1 e2 e3
                      subst e1
                      have hdy : E.drop k = E[k] :: E.drop (k + 1) := drop_at hkE
                      obtain ⟨y, hy⟩ : ∃ y, y = E[k] := ⟨_, rfl⟩
                      rw [← hy] at hry hdy
                      have HY := Lib.hid (show y.length = 32 by rw [hy]; exact HE32.out.at hkE)
                      have hldy := hld_range HY.out hry
                      have st := hst_cells y HY.out wz
                      have hks : (hv y).size = 32 := by rw [hv_size, HY.out]
                      have HC16 := Lib.hid (heap_alloc_last wz (.cells (hv y) 28))
                      have hld3 := hld_row (w := wz.alloc (.cells (hv y) 28)) HY.out HC16.out
                      have ALz := Lib.hid (below_al11 wz (.cells (hv y) 28))
                      have HN165 : Hid (wz.heap.size ≠ b5) := Lib.hid (by have := HLOW.out; have := B3.out.size; omega)
                      have HKM := Lib.hid hkm
                      have HK1 := Lib.hid k1
                      have HMS : Hid (miss (gr T) A (E.drop k) = if (aget y (gr Z)).isSome then miss (gr T) A (E.drop (k + 1)) else some y) := Lib.hid (by rw [hdy]; exact miss_step J.out _ _)
                      clear hkE e2 e3 hdy hy hry hk hkm
                      go_upto_region 30 with fail
                      clear st hldy a0 hcu
                      have HZw := Lib.hid (HZ.out.kb (C.out.trans (ALz.out.mono C.out.size)))
                      have BZ := Lib.hid (B3.out.trans (ALz.out.mono B3.out.size))
                      have CZ := Lib.hid (C.out.trans (ALz.out.mono C.out.size))
                      generalize wz.alloc (.cells (hv y) 28) = w4 at *
                      generalize wz.heap.size = b16 at *
                      go_wp2_with fail
                      refine (rhas_to w4 rgx p' n' cap' Z y HY.out HZw.out).mono ?_
                      rintro e cx ⟨rfl, bb⟩
                      have HC16 := Lib.hid ((mild_below bb).cells HC16.out)
                      have BX := Lib.hid (BZ.out.trans (bb.mono BZ.out.size))
                      have CX := Lib.hid (CZ.out.trans (bb.mono CZ.out.size))
                      obtain ⟨q, hq⟩ : ∃ q, q = (aget y (gr Z)).isSome := ⟨_, rfl⟩
                      rw [← hq] at HMS ⊢
                      clear hq bb hld3
                      cases q with
                      | true =>
                        go_wp2_with fail
                        refine ⟨⟨k + 1, by first | rw [HK1.out] | rfl, HKM.out, Lib.hid (by rw [MS.out, HMS.out]; rfl), CX⟩, ?_⟩
                        first | exact meas_nv HKM.out HK1.out | exact meas_nw HKM.out
                      | false =>
                        have HSF : Hid (∀ V, Only (fun j => j = b5) cx V → (fun V => (hld ⟨b16, 0, none⟩).run Try.prog V = .ok (.agg (hv y)) V) V) := Lib.hid (fun V k => hld_row HY.out ((k.block b16 (Array.getElem?_eq_some_iff.1 HC16.out).1 HN165.out).trans HC16.out))
                        have HRES := Lib.hid (show r = some (10, some y) by rw [HCK.out, HC2.out, N3.out, CK4.out, HDR.out, ck4, MS.out, HMS.out]; rfl)
                        go_upto_region 31 with fail
                        have OD : Hid (Only (fun j => j = b5) cx cx.drew) := Lib.hid (Only.of_below (blw_qt cx.heap.size 1 cx))
                        have BD : Hid (Below w0.heap.size w0 cx.drew) := Lib.hid (BX.out.trans ((blw_qt cx.heap.size 1 cx).mono BX.out.size))
                        go_wp2_with fail
                        try simp only [List.append]
                        refine wp_region_noPanic ?_
                        refine wp_region_held_drew (S := (fun V => (hld ⟨b16, 0, none⟩).run Try.prog V = .ok (.agg (hv y)) V)) (by kernel_rfl) (HSF.out _ OD.out) (fun hHeld => ?_)
                        generalize cx.drew = cw at *
                        refine wpAnyH_take (i := 0) (v := ?_) (by simp only [List.getElem?_toArray, List.getElem?_cons_zero]; rfl) (by kernel_rfl) (by kernel_rfl) (by kernel_rfl) (fun _ _ _ h => h) (Or.inl ⟨by rfl, ?_⟩) (by assumption) ?_
                        rotate_left
                        · intro w hSw
                          try dsimp only at hSw
                          go_simp
                          try with_reducible rfl
                        try simp only [Act.put, List.setIfInBounds_toArray, List.set_cons_zero, List.set_cons_succ]
                        refine wpAnyH_take (i := 1) (v := ?_) (by simp only [List.getElem?_toArray, List.getElem?_cons_succ, List.getElem?_cons_zero]; rfl) (by kernel_rfl) (by kernel_rfl) (by kernel_rfl) (fun _ _ _ h => h) (Or.inl ⟨by rfl, ?_⟩) (by assumption) ?_
                        rotate_left
                        · intro w hSw
                          try dsimp only at hSw
                          go_simp
                          try with_reducible rfl
                        try simp only [Act.put, List.setIfInBounds_toArray, List.set_cons_zero, List.set_cons_succ]
                        refine wpAnyH_ready (rs := [2]) (by kernel_rfl) (by simp) ?_
                        refine (AllReadyH.cons (by simp only [List.getElem?_toArray, List.getElem?_cons_succ, List.getElem?_cons_zero]; rfl) (fun K hK => ?_) AllReadyH.nil)
                        have HT : Hid (cw.there b5 0 (hv y).size) := Lib.hid (by rw [hv_size, HY.out]; exact there_row ((BD.out.block b5 (Array.getElem?_eq_some_iff.1 HB5.out).1).trans HB5.out))
                        have OX : Hid (Only (fun j => j = b5) cx (cw.setCells b5 0 (hv y).toList)) := Lib.hid (Only.setCells (S := fun j => j = b5) rfl _ 0 OD.out)
                        have BX : Hid (Below w.heap.size w (cw.setCells b5 0 (hv y).toList)) := Lib.hid (((Only.of_below (S := fun k => w.heap.size ≤ k) (BA.out.trans (BD.out.mono BA.out.size))).setCells (b := b5) HB5E.out _ 0).below (Nat.le_refl _) (fun _ h => h))
                        refine step_sth rfl _ _ rfl b5 y HY.out (by rfl) (by rfl) HT.out ?_
                        refine hK.out _ _ (HSF.out _ OX.out) (fun hHeld => ?_)
                        clear hK K
                        try simp only [Act.put, List.setIfInBounds_toArray, List.set_cons_zero, List.set_cons_succ]
                        refine wpAnyH_take (i := 3) (v := ?_) (by simp only [List.getElem?_toArray, List.getElem?_cons_succ, List.getElem?_cons_zero]; rfl) (by kernel_rfl) (by kernel_rfl) (by kernel_rfl) (fun _ _ _ h => h) (Or.inl ⟨by rfl, ?_⟩) (by assumption) ?_
                        rotate_left
                        · intro w hSw
                          try dsimp only at hSw
                          go_simp
                          try with_reducible rfl
                        try simp only [Act.put, List.setIfInBounds_toArray, List.set_cons_zero, List.set_cons_succ]
                        refine wpAnyH_done (by kernel_rfl) ?_ _
                        refine NoPanic.normal ?_
                        go_wp2_with fail
                        refine bodyPost_ret (v := .tuple #[.int .i64 10, .agg (hv y), .bool true]) ?_ rfl ⟨by rw [HRES.out]; rfl, BX.out⟩
                        have ht := HT.out
                        rw [hv_size, HY.out] at ht
                        have hl := load_back HY.out ht
                        clear hHeld
                        generalize cw.setCells b5 0 (hv y).toList = W3 at hl ⊢
                        simp only [results, Try.results35]
                        simp [hl, asAddr, hld_open]
                    · obtain rfl : k = me := by omega
                      have hl3 : decide ((k : Int) < k) = false := by simp
                      clear hkm hk
                      go_wp2_with fail
                      refine ⟨⟨i + 1, by rw [HJ1.out], HIN.out, Lib.hid (by rw [CK4.out, HDR.out, ck4, MS.out, HME.out, List.drop_length]; rfl), Lib.hid (D.out.trans (C.out.mono D.out.size)), B3⟩, ?_⟩
                      rw [HJ1.out]; simp only [intOf, Int.toNat_natCast]; exact Nat.sub_lt_sub_left HIN.out (Nat.lt_succ_self i)
                · obtain rfl : i = m := by omega
                  have hl2 : decide ((i : Int) < i) = false := by simp
                  clear hlt hi
                  go_wp2_with fail
                  go_meet
                  case rel => exact ⟨Lib.hid (by rw [CK4.out, HM.out, List.drop_length]; rfl), D, B⟩
          case rest =>
            obtain ⟨N4, D3, B1⟩ := hcut
            clear B
            have B := B1
            clear B1
            rename World => w4
            have HZ4 := Lib.hid (HZ.out.kb D3.out)
            clear HZ
            have HZ := HZ4
            clear HZ4 D3
            go_upto_block 10 with fail
            go_cut [17] from 147 to 166 (fun _ wr => Hid (miss (gr T) A hs = none) ∧ Hid (Below w4.heap.size w4 wr) ∧ Hid (Below w0.heap.size w0 wr))
            case first =>
              as_aux_lemma =>
                go_wp2_with fail
                go_loopw [17] (fun v17 wr => ∃ i : Nat, v17 = .int .i64 i ∧ i ≤ mh ∧ Hid (miss (gr T) A hs = miss (gr T) A (hs.drop i)) ∧ Hid (Below w4.heap.size w4 wr) ∧ Hid (Below w0.heap.size w0 wr)) (fun v17 _ => mh - (intOf v17).toNat)
                case atStart => exact ⟨0, rfl, Nat.zero_le _, Lib.hid rfl, Lib.hid (Below.refl _ _), B⟩
                case round =>
                  obtain ⟨i, rfl, hi, MS, D, B1⟩ := hrel
                  clear B
                  have B := B1
                  clear B1
                  rename World => wr
                  have a1 := cell_obj (HCELL.out wr B.out) 1 rfl
                  by_cases hlt : i < mh
                  · obtain ⟨j1, j2, j3⟩ := next_fit hlt (by rw [HMH.out]; exact HHL.out)
                    have HJ1 := Lib.hid j1
                    have hiE : i < hs.length := by rw [← HMH.out]; exact hlt
                    obtain ⟨by_, oy, cy, e1, hry0⟩ := HU0.out.at H3.out hiE
                    injection e1 with e1 e2 e3
                    subst e1
                    have hry := hsr_kb hry0 (mild_below B.out)
                    have hdy : hs.drop i = hs[i] :: hs.drop (i + 1) := drop_at hiE
                    obtain ⟨y, hy⟩ : ∃ y, y = hs[i] := ⟨_, rfl⟩
                    rw [← hy] at hry hry0 hdy
                    have HY := Lib.hid (show y.length = 32 by rw [hy]; exact H3.out.at hiE)
                    have hldy := hld_range HY.out hry
                    have HRY := Lib.hid hry
                    have HNY : Hid (by_ ≠ b5) := Lib.hid (by
                      obtain ⟨b', o', c', e, hr⟩ := HU.out.at H3.out hiE
                      injection e with e _ _
                      injection e with e
                      injection e with e _ _
                      have h1 := rng_lt (H3.out.at hiE) hr
                      have := HB5E.out
                      omega)
                    have HIN := Lib.hid hlt
                    have HMS : Hid (miss (gr T) A (hs.drop i) = if (aget y (gr Z)).isSome then miss (gr T) A (hs.drop (i + 1)) else some y) := Lib.hid (by rw [hdy]; exact miss_step J.out _ _)
                    clear hiE e2 e3 hdy hy hry hry0 hi hlt
                    have HZw := Lib.hid (HZ.out.kb D.out)
                    go_wp2_with fail
                    refine (rhas_to wr rgx p' n' cap' Z y HY.out HZw.out).mono ?_
                    rintro e cx ⟨rfl, bb⟩
                    have BX := Lib.hid (B.out.trans (bb.mono B.out.size))
                    have DX := Lib.hid (D.out.trans (bb.mono D.out.size))
                    have bb9 := Lib.hid bb
                    obtain ⟨q, hq⟩ : ∃ q, q = (aget y (gr Z)).isSome := ⟨_, rfl⟩
                    rw [← hq] at HMS ⊢
                    clear hq bb hldy a1
                    cases q with
                    | true =>
                      go_wp2_with fail
                      refine ⟨⟨i + 1, by first | rw [HJ1.out] | rfl, HIN.out, Lib.hid (by rw [MS.out, HMS.out]; rfl), DX, BX⟩, ?_⟩
                      first | exact meas_nv HIN.out HJ1.out | exact meas_nw HIN.out
                    | false =>
                      have HSF : Hid (∀ V, Only (fun j => j = b5) cx V → (fun V => V.cell? ⟨b3, 1, none⟩ = some (.slice (some ⟨by_, oy, none⟩) mh c2) ∧ (hld ⟨by_, oy + i * 32, none⟩).run Try.prog V = .ok (.agg (hv y)) V) V) := Lib.hid (fun V k => ⟨cell_obj ((k.block b3 (Nat.lt_of_lt_of_le HLOW.out.1 BX.out.size) HN35.out).trans (HCELL.out cx BX.out)) 1 rfl, hld_range HY.out (fun j u hj => by have h4 := hsr_kb HRY.out (mild_below bb9.out) j u hj; rw [World.cell?_of_block (k.block by_ (World.block_lt_of_cell? cx ⟨by_, _, none⟩ h4) HNY.out)]; exact h4)⟩)
                      have HRES := Lib.hid (show r = some (11, some y) by rw [HCK.out, HC2.out, N3.out, N4.out, ck5, MS.out, HMS.out]; rfl)
                      go_upto_region 36 with fail
                      have OD : Hid (Only (fun j => j = b5) cx cx.drew) := Lib.hid (Only.of_below (blw_qt cx.heap.size 1 cx))
                      have BD : Hid (Below w0.heap.size w0 cx.drew) := Lib.hid (BX.out.trans ((blw_qt cx.heap.size 1 cx).mono BX.out.size))
                      go_wp2_with fail
                      try simp only [List.append]
                      refine wp_region_noPanic ?_
                      refine wp_region_held_drew (S := (fun V => V.cell? ⟨b3, 1, none⟩ = some (.slice (some ⟨by_, oy, none⟩) mh c2) ∧ (hld ⟨by_, oy + i * 32, none⟩).run Try.prog V = .ok (.agg (hv y)) V)) (by kernel_rfl) (HSF.out _ OD.out) (fun hHeld => ?_)
                      generalize cx.drew = cw at *
                      refine wpAnyH_take (i := 0) (v := ?_) (by simp only [List.getElem?_toArray, List.getElem?_cons_zero]; rfl) (by kernel_rfl) (by kernel_rfl) (by kernel_rfl) (fun _ _ _ h => h) (Or.inl ⟨by rfl, ?_⟩) (by assumption) ?_
                      rotate_left
                      · intro w hSw
                        try dsimp only at hSw
                        go_simp
                        try with_reducible rfl
                      try simp only [Act.put, List.setIfInBounds_toArray, List.set_cons_zero, List.set_cons_succ]
                      refine wpAnyH_take (i := 1) (v := ?_) (by simp only [List.getElem?_toArray, List.getElem?_cons_succ, List.getElem?_cons_zero]; rfl) (by kernel_rfl) (by kernel_rfl) (by kernel_rfl) (fun _ _ _ h => h) (Or.inl ⟨by rfl, ?_⟩) (by assumption) ?_
                      rotate_left
                      · intro w hSw
                        try dsimp only at hSw
                        go_simp
                        try with_reducible rfl
                      try simp only [Act.put, List.setIfInBounds_toArray, List.set_cons_zero, List.set_cons_succ]
                      refine wpAnyH_take (i := 2) (v := ?_) (by simp only [List.getElem?_toArray, List.getElem?_cons_succ, List.getElem?_cons_zero]; rfl) (by kernel_rfl) (by kernel_rfl) (by kernel_rfl) (fun _ _ _ h => h) (Or.inl ⟨by rfl, ?_⟩) (by assumption) ?_
                      rotate_left
                      · intro w hSw
                        try dsimp only at hSw
                        go_simp
                        try with_reducible rfl
                      try simp only [Act.put, List.setIfInBounds_toArray, List.set_cons_zero, List.set_cons_succ]
                      refine wpAnyH_take (i := 3) (v := ?_) (by simp only [List.getElem?_toArray, List.getElem?_cons_succ, List.getElem?_cons_zero]; rfl) (by kernel_rfl) (by kernel_rfl) (by kernel_rfl) (fun _ _ _ h => h) (Or.inl ⟨by rfl, ?_⟩) (by assumption) ?_
                      rotate_left
                      · intro w hSw
                        try dsimp only at hSw
                        go_simp
                        try with_reducible rfl
                      try simp only [Act.put, List.setIfInBounds_toArray, List.set_cons_zero, List.set_cons_succ]
                      refine wpAnyH_take (i := 4) (v := ?_) (by simp only [List.getElem?_toArray, List.getElem?_cons_succ, List.getElem?_cons_zero]; rfl) (by kernel_rfl) (by kernel_rfl) (by kernel_rfl) (fun _ _ _ h => h) (Or.inl ⟨by rfl, ?_⟩) (by assumption) ?_
                      rotate_left
                      · intro w hSw
                        try dsimp only at hSw
                        go_simp
                        try with_reducible rfl
                      try simp only [Act.put, List.setIfInBounds_toArray, List.set_cons_zero, List.set_cons_succ]
                      refine wpAnyH_take (i := 5) (v := ?_) (by simp only [List.getElem?_toArray, List.getElem?_cons_succ, List.getElem?_cons_zero]; rfl) (by kernel_rfl) (by kernel_rfl) (by kernel_rfl) (fun _ _ _ h => h) (Or.inl ⟨by rfl, ?_⟩) (by assumption) ?_
                      rotate_left
                      · intro w hSw
                        try dsimp only at hSw
                        go_simp
                        try with_reducible rfl
                      try simp only [Act.put, List.setIfInBounds_toArray, List.set_cons_zero, List.set_cons_succ]
                      refine wpAnyH_ready (rs := [6]) (by kernel_rfl) (by simp) ?_
                      refine (AllReadyH.cons (by simp only [List.getElem?_toArray, List.getElem?_cons_succ, List.getElem?_cons_zero]; rfl) (fun K hK => ?_) AllReadyH.nil)
                      have HT : Hid (cw.there b5 0 (hv y).size) := Lib.hid (by rw [hv_size, HY.out]; exact there_row ((BD.out.block b5 (Array.getElem?_eq_some_iff.1 HB5.out).1).trans HB5.out))
                      have OX : Hid (Only (fun j => j = b5) cx (cw.setCells b5 0 (hv y).toList)) := Lib.hid (Only.setCells (S := fun j => j = b5) rfl _ 0 OD.out)
                      have BX : Hid (Below w.heap.size w (cw.setCells b5 0 (hv y).toList)) := Lib.hid (((Only.of_below (S := fun k => w.heap.size ≤ k) (BA.out.trans (BD.out.mono BA.out.size))).setCells (b := b5) HB5E.out _ 0).below (Nat.le_refl _) (fun _ h => h))
                      refine step_sth rfl _ _ rfl b5 y HY.out (by rfl) (by rfl) HT.out ?_
                      refine hK.out _ _ (HSF.out _ OX.out) (fun hHeld => ?_)
                      clear hK K
                      try simp only [Act.put, List.setIfInBounds_toArray, List.set_cons_zero, List.set_cons_succ]
                      refine wpAnyH_take (i := 7) (v := ?_) (by simp only [List.getElem?_toArray, List.getElem?_cons_succ, List.getElem?_cons_zero]; rfl) (by kernel_rfl) (by kernel_rfl) (by kernel_rfl) (fun _ _ _ h => h) (Or.inl ⟨by rfl, ?_⟩) (by assumption) ?_
                      rotate_left
                      · intro w hSw
                        try dsimp only at hSw
                        go_simp
                        try with_reducible rfl
                      try simp only [Act.put, List.setIfInBounds_toArray, List.set_cons_zero, List.set_cons_succ]
                      refine wpAnyH_done (by kernel_rfl) ?_ _
                      refine NoPanic.normal ?_
                      go_wp2_with fail
                      refine bodyPost_ret (v := .tuple #[.int .i64 11, .agg (hv y), .bool true]) ?_ rfl ⟨by rw [HRES.out]; rfl, BX.out⟩
                      have ht := HT.out
                      rw [hv_size, HY.out] at ht
                      have hl := load_back HY.out ht
                      clear hHeld
                      generalize cw.setCells b5 0 (hv y).toList = W3 at hl ⊢
                      simp only [results, Try.results35]
                      simp [hl, asAddr, hld_open]
                  · obtain rfl : i = mh := by omega
                    have hl2 : decide ((i : Int) < i) = false := by simp
                    clear hlt hi
                    go_wp2_with fail
                    go_meet
                    case rel => exact ⟨Lib.hid (by rw [MS.out, HMH.out, List.drop_length]; rfl), D, B⟩
            case rest =>
              obtain ⟨NMS, D4, B1⟩ := hcut
              clear B
              have B := B1
              clear B1
              rename World => w5
              have HZ4 := Lib.hid (HZ.out.kb D4.out)
              clear HZ
              have HZ := HZ4
              clear HZ4 D4
              have N5 : Hid (ck5 (gr T) A hs = none) := Lib.hid (by unfold ck5; rw [NMS.out])
              have HCLO : Hid (Clo (gr Z)) := Lib.hid (by rw [HMA.out]; exact clo_adds HWF.out (by rw [← HA.out]; exact N4.out))
              have HPAR : Hid (∀ x ∈ Z, x.2.2.length ≤ 4) := Lib.hid (fun x hx => par_adds HWF.out HC2.out (x.1, x.2.2) (by rw [← HMA.out]; exact mem_gr.2 ⟨x, hx, rfl⟩))
              have HZ2K : Hid (Z.length ≤ 2000) := Lib.hid (by have h1 := HZL.out; have h2 := HWF.out.few; rw [gr_len] at h2; have := HCL.out; have := HM.out; omega)
              go_upto_block 12 with fail
              go_cut [18] from 167 to 187 (fun _ wr => Hid (ck6 A cs = none) ∧ Hid (Below w5.heap.size w5 wr) ∧ Hid (Below w0.heap.size w0 wr))
              case first =>
                as_aux_lemma =>
                  go_wp2_with fail
                  go_loopw [18] (fun v18 wr => ∃ i : Nat, v18 = .int .i64 i ∧ i ≤ m ∧ Hid (ck6 A cs = ck6 A (cs.drop i)) ∧ Hid (Below w5.heap.size w5 wr) ∧ Hid (Below w0.heap.size w0 wr)) (fun v18 _ => m - (intOf v18).toNat)
                  case atStart => exact ⟨0, rfl, Nat.zero_le _, Lib.hid rfl, Lib.hid (Below.refl _ _), B⟩
                  case round =>
                    obtain ⟨i, rfl, hi, CK6, D, B1⟩ := hrel
                    clear B
                    have B := B1
                    clear B1
                    rename World => wr
                    have a0 := cell_obj (HCELL.out wr B.out) 0 rfl
                    by_cases hlt : i < m
                    · obtain ⟨j1, j2, j3⟩ := next_fit hlt (by rw [HM.out]; exact HL.out)
                      have HJ1 := Lib.hid j1
                      have hiE : i < cs.length := by rw [← HM.out]; exact hlt
                      obtain ⟨p'', cap'', e1, hc⟩ := HV0.out.kb B.out
                      injection e1 with e1 e2 e3
                      obtain ⟨b, o, u, rfl, hrg, hsn⟩ := hc i cs[i] (List.getElem?_eq_getElem hiE)
                      subst e1
                      have hdr : cs.drop i = cs[i] :: cs.drop (i + 1) := drop_at hiE
                      have hoki := HO.out _ (List.getElem_mem hiE)
                      have hpi := HP.out _ (List.getElem_mem hiE)
                      have hmi := List.getElem_mem hiE
                      obtain ⟨⟨h, E⟩, hce⟩ : ∃ c : Cm, c = cs[i] := ⟨_, rfl⟩
                      rw [← hce] at hrg hsn hdr hoki hpi hmi
                      dsimp only at hrg hsn hoki hpi
                      obtain ⟨pu, cu, rfl⟩ := hsn.shape
                      obtain ⟨me, hme⟩ : ∃ me, me = E.length := ⟨_, rfl⟩
                      rw [← hme] at hrg hsn hpi
                      have HH := Lib.hid hoki.1
                      have HE32 := Lib.hid hoki.2
                      have HME := Lib.hid hme
                      have HPI := Lib.hid hpi
                      have HDR := Lib.hid hdr
                      have HMI := Lib.hid hmi
                      have HRG := Lib.hid hrg
                      have HSN := Lib.hid hsn
                      have HIN := Lib.hid hlt
                      clear hrg hsn hdr hoki hpi hc e2 e3 hce hme hiE hmi hlt
                      have hld0 := hld_range HH.out (rng_pre HRG.out)
                      have HNY : Hid (b ≠ b5) := Lib.hid (by
                        obtain ⟨p9, c9, e9, hc9⟩ := HV.out
                        injection e9 with e9 _ _
                        obtain ⟨b', o', u', e8, hr9, _⟩ := hc9 i (h, E) (by rw [← List.head?_drop, HDR.out]; rfl)
                        rw [e8] at e9
                        injection e9 with e9
                        injection e9 with e9 _ _
                        have h1 := rng_lt HH.out (rng_pre hr9)
                        have := HB5E.out
                        omega)
                      have HZw := Lib.hid (HZ.out.kb D.out)
                      go_wp2_with fail
                      refine (rround_to wr rgx p' n' cap' Z HZw.out h HH.out HCLO.out HPAR.out HZ2K.out).mono ?_
                      rintro e cx ⟨q, rfl, hq, bb⟩
                      have BX := Lib.hid (B.out.trans (bb.mono B.out.size))
                      have DX := Lib.hid (D.out.trans (bb.mono D.out.size))
                      have bb9 := Lib.hid bb
                      have HRI : Hid (q = true ↔ ∃ p ∈ E, Up (adj A) p h) := Lib.hid (by rw [hq, HMA.out, HA.out]; exact round_iff HWF.out N3.out HMI.out)
                      clear hq bb hld0 a0
                      cases q with
                      | false =>
                        have HNR : Hid (¬ ∃ p ∈ E, Up (adj A) p h) := Lib.hid (fun h9 => by have := HRI.out.2 h9; cases this)
                        go_wp2_with fail
                        refine ⟨⟨i + 1, by first | rw [HJ1.out] | rfl, HIN.out, Lib.hid (by rw [CK6.out, HDR.out, ck6, if_neg HNR.out]), DX, BX⟩, ?_⟩
                        first | exact meas_nv HIN.out HJ1.out | exact meas_nw HIN.out
                      | true =>
                        have HRJ : Hid (∃ p ∈ E, Up (adj A) p h) := Lib.hid (HRI.out.1 rfl)
                        clear HRI
                        have HRI := HRJ
                        clear HRJ
                        have HSF : Hid (∀ V, Only (fun j => j = b5) cx V → (fun V => V.cell? ⟨b3, 0, none⟩ = some (.slice (some ⟨b, o, none⟩) m c1) ∧ (hld ⟨b, o + i * 33, none⟩).run Try.prog V = .ok (.agg (hv h)) V) V) := Lib.hid (fun V k => ⟨cell_obj ((k.block b3 (Nat.lt_of_lt_of_le HLOW.out.1 BX.out.size) HN35.out).trans (HCELL.out cx BX.out)) 0 rfl, hld_range HH.out (rng_pre (fun j u hj => by have h4 := hsr_kb HRG.out (mild_below bb9.out) j u hj; rw [World.cell?_of_block (k.block b (World.block_lt_of_cell? cx ⟨b, _, none⟩ h4) HNY.out)]; exact h4))⟩)
                        have HRES := Lib.hid (show r = some (12, some h) by rw [HCK.out, HC2.out, N3.out, N4.out, N5.out, CK6.out, HDR.out, ck6, if_pos HRI.out]; rfl)
                        go_upto_region 41 with fail
                        have OD : Hid (Only (fun j => j = b5) cx cx.drew) := Lib.hid (Only.of_below (blw_qt cx.heap.size 1 cx))
                        have BD : Hid (Below w0.heap.size w0 cx.drew) := Lib.hid (BX.out.trans ((blw_qt cx.heap.size 1 cx).mono BX.out.size))
                        go_wp2_with fail
                        try simp only [List.append]
                        refine wp_region_noPanic ?_
                        refine wp_region_held_drew (S := (fun V => V.cell? ⟨b3, 0, none⟩ = some (.slice (some ⟨b, o, none⟩) m c1) ∧ (hld ⟨b, o + i * 33, none⟩).run Try.prog V = .ok (.agg (hv h)) V)) (by kernel_rfl) (HSF.out _ OD.out) (fun hHeld => ?_)
                        generalize cx.drew = cw at *
                        refine wpAnyH_take (i := 0) (v := ?_) (by simp only [List.getElem?_toArray, List.getElem?_cons_zero]; rfl) (by kernel_rfl) (by kernel_rfl) (by kernel_rfl) (fun _ _ _ h => h) (Or.inl ⟨by rfl, ?_⟩) (by assumption) ?_
                        rotate_left
                        · intro w hSw
                          try dsimp only at hSw
                          go_simp
                          try with_reducible rfl
                        try simp only [Act.put, List.setIfInBounds_toArray, List.set_cons_zero, List.set_cons_succ]
                        refine wpAnyH_take (i := 1) (v := ?_) (by simp only [List.getElem?_toArray, List.getElem?_cons_succ, List.getElem?_cons_zero]; rfl) (by kernel_rfl) (by kernel_rfl) (by kernel_rfl) (fun _ _ _ h => h) (Or.inl ⟨by rfl, ?_⟩) (by assumption) ?_
                        rotate_left
                        · intro w hSw
                          try dsimp only at hSw
                          go_simp
                          try with_reducible rfl
                        try simp only [Act.put, List.setIfInBounds_toArray, List.set_cons_zero, List.set_cons_succ]
                        refine wpAnyH_take (i := 2) (v := ?_) (by simp only [List.getElem?_toArray, List.getElem?_cons_succ, List.getElem?_cons_zero]; rfl) (by kernel_rfl) (by kernel_rfl) (by kernel_rfl) (fun _ _ _ h => h) (Or.inl ⟨by rfl, ?_⟩) (by assumption) ?_
                        rotate_left
                        · intro w hSw
                          try dsimp only at hSw
                          go_simp
                          try with_reducible rfl
                        try simp only [Act.put, List.setIfInBounds_toArray, List.set_cons_zero, List.set_cons_succ]
                        refine wpAnyH_take (i := 3) (v := ?_) (by simp only [List.getElem?_toArray, List.getElem?_cons_succ, List.getElem?_cons_zero]; rfl) (by kernel_rfl) (by kernel_rfl) (by kernel_rfl) (fun _ _ _ h => h) (Or.inl ⟨by rfl, ?_⟩) (by assumption) ?_
                        rotate_left
                        · intro w hSw
                          try dsimp only at hSw
                          go_simp
                          try with_reducible rfl
                        try simp only [Act.put, List.setIfInBounds_toArray, List.set_cons_zero, List.set_cons_succ]
                        refine wpAnyH_take (i := 4) (v := ?_) (by simp only [List.getElem?_toArray, List.getElem?_cons_succ, List.getElem?_cons_zero]; rfl) (by kernel_rfl) (by kernel_rfl) (by kernel_rfl) (fun _ _ _ h => h) (Or.inl ⟨by rfl, ?_⟩) (by assumption) ?_
                        rotate_left
                        · intro w hSw
                          try dsimp only at hSw
                          go_simp
                          try with_reducible rfl
                        try simp only [Act.put, List.setIfInBounds_toArray, List.set_cons_zero, List.set_cons_succ]
                        refine wpAnyH_take (i := 5) (v := ?_) (by simp only [List.getElem?_toArray, List.getElem?_cons_succ, List.getElem?_cons_zero]; rfl) (by kernel_rfl) (by kernel_rfl) (by kernel_rfl) (fun _ _ _ h => h) (Or.inl ⟨by rfl, ?_⟩) (by assumption) ?_
                        rotate_left
                        · intro w hSw
                          try dsimp only at hSw
                          go_simp
                          try with_reducible rfl
                        try simp only [Act.put, List.setIfInBounds_toArray, List.set_cons_zero, List.set_cons_succ]
                        refine wpAnyH_take (i := 6) (v := ?_) (by simp only [List.getElem?_toArray, List.getElem?_cons_succ, List.getElem?_cons_zero]; rfl) (by kernel_rfl) (by kernel_rfl) (by kernel_rfl) (fun _ _ _ h => h) (Or.inl ⟨by rfl, ?_⟩) (by assumption) ?_
                        rotate_left
                        · intro w hSw
                          try dsimp only at hSw
                          go_simp
                          try with_reducible rfl
                        try simp only [Act.put, List.setIfInBounds_toArray, List.set_cons_zero, List.set_cons_succ]
                        refine wpAnyH_ready (rs := [7]) (by kernel_rfl) (by simp) ?_
                        refine (AllReadyH.cons (by simp only [List.getElem?_toArray, List.getElem?_cons_succ, List.getElem?_cons_zero]; rfl) (fun K hK => ?_) AllReadyH.nil)
                        have HT : Hid (cw.there b5 0 (hv h).size) := Lib.hid (by rw [hv_size, HH.out]; exact there_row ((BD.out.block b5 (Array.getElem?_eq_some_iff.1 HB5.out).1).trans HB5.out))
                        have OX : Hid (Only (fun j => j = b5) cx (cw.setCells b5 0 (hv h).toList)) := Lib.hid (Only.setCells (S := fun j => j = b5) rfl _ 0 OD.out)
                        have BX : Hid (Below w.heap.size w (cw.setCells b5 0 (hv h).toList)) := Lib.hid (((Only.of_below (S := fun k => w.heap.size ≤ k) (BA.out.trans (BD.out.mono BA.out.size))).setCells (b := b5) HB5E.out _ 0).below (Nat.le_refl _) (fun _ h => h))
                        refine step_sth rfl _ _ rfl b5 h HH.out (by rfl) (by rfl) HT.out ?_
                        refine hK.out _ _ (HSF.out _ OX.out) (fun hHeld => ?_)
                        clear hK K
                        try simp only [Act.put, List.setIfInBounds_toArray, List.set_cons_zero, List.set_cons_succ]
                        refine wpAnyH_take (i := 8) (v := ?_) (by simp only [List.getElem?_toArray, List.getElem?_cons_succ, List.getElem?_cons_zero]; rfl) (by kernel_rfl) (by kernel_rfl) (by kernel_rfl) (fun _ _ _ h => h) (Or.inl ⟨by rfl, ?_⟩) (by assumption) ?_
                        rotate_left
                        · intro w hSw
                          try dsimp only at hSw
                          go_simp
                          try with_reducible rfl
                        try simp only [Act.put, List.setIfInBounds_toArray, List.set_cons_zero, List.set_cons_succ]
                        refine wpAnyH_done (by kernel_rfl) ?_ _
                        refine NoPanic.normal ?_
                        go_wp2_with fail
                        refine bodyPost_ret (v := .tuple #[.int .i64 12, .agg (hv h), .bool true]) ?_ rfl ⟨by rw [HRES.out]; rfl, BX.out⟩
                        have ht := HT.out
                        rw [hv_size, HH.out] at ht
                        have hl := load_back HH.out ht
                        clear hHeld
                        generalize cw.setCells b5 0 (hv h).toList = W3 at hl ⊢
                        simp only [results, Try.results35]
                        simp [hl, asAddr, hld_open]
                    · obtain rfl : i = m := by omega
                      have hl2 : decide ((i : Int) < i) = false := by simp
                      clear hlt hi
                      go_wp2_with fail
                      go_meet
                      case rel => exact ⟨Lib.hid (by rw [CK6.out, HM.out, List.drop_length]; rfl), D, B⟩
              case rest =>
                obtain ⟨N6, D5, B1⟩ := hcut
                clear B
                have B := B1
                clear B1
                rename World => w6
                have HZ4 := Lib.hid (HZ.out.kb D5.out)
                clear HZ
                have HZ := HZ4
                clear HZ4 D5
                as_aux_lemma =>
                  have hr1 := HZ.out.c
                  have HLZ : Hid (n' = (gr T).length + A.length) := Lib.hid (by rw [HZ.out.len, ← gr_len, J.out.len])
                  by_cases hf : 1000 < n'
                  · have hf' : (n' : Int) > 1000 := by omega
                    have HF : Hid (1000 < (gr T).length + A.length) := Lib.hid (by rw [← HLZ.out]; exact hf)
                    clear hf
                    have HSF : Hid (∀ V, Only (fun j => j = b5) w6 V → (fun V => (hld ⟨b7, 0, none⟩).run Try.prog V = .ok (.agg (hv hz)) V) V) := Lib.hid (fun V k => hld_row HZ32.out ((k.block b7 (Nat.lt_of_lt_of_le HLOW.out.2.2 B.out.size) HN57.out).trans ((mild_below B.out).cells HB7.out)))
                    have HRES := Lib.hid (show r = some (13, none) by rw [HCK.out, HC2.out, N3.out, N4.out, N5.out, N6.out, if_pos HF.out]; rfl)
                    go_upto_region 43 with fail
                    have OD : Hid (Only (fun j => j = b5) w6 w6.drew) := Lib.hid (Only.of_below (blw_qt w6.heap.size 1 w6))
                    have BD : Hid (Below w0.heap.size w0 w6.drew) := Lib.hid (B.out.trans ((blw_qt w6.heap.size 1 w6).mono B.out.size))
                    go_wp2_with fail
                    try simp only [List.append]
                    refine wp_region_noPanic ?_
                    refine wp_region_held_drew (S := (fun V => (hld ⟨b7, 0, none⟩).run Try.prog V = .ok (.agg (hv hz)) V)) (by kernel_rfl) (HSF.out _ OD.out) (fun hHeld => ?_)
                    generalize w6.drew = cw at *
                    refine wpAnyH_take (i := 0) (v := ?_) (by simp only [List.getElem?_toArray, List.getElem?_cons_zero]; rfl) (by kernel_rfl) (by kernel_rfl) (by kernel_rfl) (fun _ _ _ h => h) (Or.inl ⟨by rfl, ?_⟩) (by assumption) ?_
                    rotate_left
                    · intro w hSw
                      try dsimp only at hSw
                      go_simp
                      try with_reducible rfl
                    try simp only [Act.put, List.setIfInBounds_toArray, List.set_cons_zero, List.set_cons_succ]
                    refine wpAnyH_take (i := 1) (v := ?_) (by simp only [List.getElem?_toArray, List.getElem?_cons_succ, List.getElem?_cons_zero]; rfl) (by kernel_rfl) (by kernel_rfl) (by kernel_rfl) (fun _ _ _ h => h) (Or.inl ⟨by rfl, ?_⟩) (by assumption) ?_
                    rotate_left
                    · intro w hSw
                      try dsimp only at hSw
                      go_simp
                      try with_reducible rfl
                    try simp only [Act.put, List.setIfInBounds_toArray, List.set_cons_zero, List.set_cons_succ]
                    refine wpAnyH_ready (rs := [2]) (by kernel_rfl) (by simp) ?_
                    refine (AllReadyH.cons (by simp only [List.getElem?_toArray, List.getElem?_cons_succ, List.getElem?_cons_zero]; rfl) (fun K hK => ?_) AllReadyH.nil)
                    have HT : Hid (cw.there b5 0 (hv hz).size) := Lib.hid (by rw [hv_size, HZ32.out]; exact there_row ((BD.out.block b5 (Array.getElem?_eq_some_iff.1 HB5.out).1).trans HB5.out))
                    have OX : Hid (Only (fun j => j = b5) w6 (cw.setCells b5 0 (hv hz).toList)) := Lib.hid (Only.setCells (S := fun j => j = b5) rfl _ 0 OD.out)
                    have BX : Hid (Below w.heap.size w (cw.setCells b5 0 (hv hz).toList)) := Lib.hid (((Only.of_below (S := fun k => w.heap.size ≤ k) (BA.out.trans (BD.out.mono BA.out.size))).setCells (b := b5) HB5E.out _ 0).below (Nat.le_refl _) (fun _ h => h))
                    refine step_sth rfl _ _ rfl b5 hz HZ32.out (by rfl) (by rfl) HT.out ?_
                    refine hK.out _ _ (HSF.out _ OX.out) (fun hHeld => ?_)
                    clear hK K
                    try simp only [Act.put, List.setIfInBounds_toArray, List.set_cons_zero, List.set_cons_succ]
                    refine wpAnyH_take (i := 3) (v := ?_) (by simp only [List.getElem?_toArray, List.getElem?_cons_succ, List.getElem?_cons_zero]; rfl) (by kernel_rfl) (by kernel_rfl) (by kernel_rfl) (fun _ _ _ h => h) (Or.inl ⟨by rfl, ?_⟩) (by assumption) ?_
                    rotate_left
                    · intro w hSw
                      try dsimp only at hSw
                      go_simp
                      try with_reducible rfl
                    try simp only [Act.put, List.setIfInBounds_toArray, List.set_cons_zero, List.set_cons_succ]
                    refine wpAnyH_done (by kernel_rfl) ?_ _
                    refine NoPanic.normal ?_
                    go_wp2_with fail
                    refine bodyPost_ret (v := .tuple #[.int .i64 13, .agg (hv hz), .bool false]) ?_ rfl ⟨by rw [HRES.out]; rfl, BX.out⟩
                    have ht := HT.out
                    rw [hv_size, HZ32.out] at ht
                    have hl := load_back HZ32.out ht
                    clear hHeld
                    generalize cw.setCells b5 0 (hv hz).toList = W3 at hl ⊢
                    simp only [results, Try.results35]
                    simp [hl, asAddr, hld_open]
                  · have hf' : ¬ (n' : Int) > 1000 := by omega
                    have HF : Hid (¬ 1000 < (gr T).length + A.length) := Lib.hid (by rw [← HLZ.out]; exact hf)
                    clear hf
                    have HSF : Hid (∀ V, Only (fun j => j = b5) w6 V → (fun V => (hld ⟨b7, 0, none⟩).run Try.prog V = .ok (.agg (hv hz)) V) V) := Lib.hid (fun V k => hld_row HZ32.out ((k.block b7 (Nat.lt_of_lt_of_le HLOW.out.2.2 B.out.size) HN57.out).trans ((mild_below B.out).cells HB7.out)))
                    have HRES := Lib.hid (show r = none by rw [HCK.out, HC2.out, N3.out, N4.out, N5.out, N6.out, if_neg HF.out]; rfl)
                    go_upto_region 44 with fail
                    have OD : Hid (Only (fun j => j = b5) w6 w6.drew) := Lib.hid (Only.of_below (blw_qt w6.heap.size 1 w6))
                    have BD : Hid (Below w0.heap.size w0 w6.drew) := Lib.hid (B.out.trans ((blw_qt w6.heap.size 1 w6).mono B.out.size))
                    go_wp2_with fail
                    try simp only [List.append]
                    refine wp_region_noPanic ?_
                    refine wp_region_held_drew (S := (fun V => (hld ⟨b7, 0, none⟩).run Try.prog V = .ok (.agg (hv hz)) V)) (by kernel_rfl) (HSF.out _ OD.out) (fun hHeld => ?_)
                    generalize w6.drew = cw at *
                    refine wpAnyH_take (i := 0) (v := ?_) (by simp only [List.getElem?_toArray, List.getElem?_cons_zero]; rfl) (by kernel_rfl) (by kernel_rfl) (by kernel_rfl) (fun _ _ _ h => h) (Or.inl ⟨by rfl, ?_⟩) (by assumption) ?_
                    rotate_left
                    · intro w hSw
                      try dsimp only at hSw
                      go_simp
                      try with_reducible rfl
                    try simp only [Act.put, List.setIfInBounds_toArray, List.set_cons_zero, List.set_cons_succ]
                    refine wpAnyH_take (i := 1) (v := ?_) (by simp only [List.getElem?_toArray, List.getElem?_cons_succ, List.getElem?_cons_zero]; rfl) (by kernel_rfl) (by kernel_rfl) (by kernel_rfl) (fun _ _ _ h => h) (Or.inl ⟨by rfl, ?_⟩) (by assumption) ?_
                    rotate_left
                    · intro w hSw
                      try dsimp only at hSw
                      go_simp
                      try with_reducible rfl
                    try simp only [Act.put, List.setIfInBounds_toArray, List.set_cons_zero, List.set_cons_succ]
                    refine wpAnyH_ready (rs := [2]) (by kernel_rfl) (by simp) ?_
                    refine (AllReadyH.cons (by simp only [List.getElem?_toArray, List.getElem?_cons_succ, List.getElem?_cons_zero]; rfl) (fun K hK => ?_) AllReadyH.nil)
                    have HT : Hid (cw.there b5 0 (hv hz).size) := Lib.hid (by rw [hv_size, HZ32.out]; exact there_row ((BD.out.block b5 (Array.getElem?_eq_some_iff.1 HB5.out).1).trans HB5.out))
                    have OX : Hid (Only (fun j => j = b5) w6 (cw.setCells b5 0 (hv hz).toList)) := Lib.hid (Only.setCells (S := fun j => j = b5) rfl _ 0 OD.out)
                    have BX : Hid (Below w.heap.size w (cw.setCells b5 0 (hv hz).toList)) := Lib.hid (((Only.of_below (S := fun k => w.heap.size ≤ k) (BA.out.trans (BD.out.mono BA.out.size))).setCells (b := b5) HB5E.out _ 0).below (Nat.le_refl _) (fun _ h => h))
                    refine step_sth rfl _ _ rfl b5 hz HZ32.out (by rfl) (by rfl) HT.out ?_
                    refine hK.out _ _ (HSF.out _ OX.out) (fun hHeld => ?_)
                    clear hK K
                    try simp only [Act.put, List.setIfInBounds_toArray, List.set_cons_zero, List.set_cons_succ]
                    refine wpAnyH_take (i := 3) (v := ?_) (by simp only [List.getElem?_toArray, List.getElem?_cons_succ, List.getElem?_cons_zero]; rfl) (by kernel_rfl) (by kernel_rfl) (by kernel_rfl) (fun _ _ _ h => h) (Or.inl ⟨by rfl, ?_⟩) (by assumption) ?_
                    rotate_left
                    · intro w hSw
                      try dsimp only at hSw
                      go_simp
                      try with_reducible rfl
                    try simp only [Act.put, List.setIfInBounds_toArray, List.set_cons_zero, List.set_cons_succ]
                    refine wpAnyH_done (by kernel_rfl) ?_ _
                    refine NoPanic.normal ?_
                    go_wp2_with fail
                    refine bodyPost_ret (v := .tuple #[.int .i64 0, .agg (hv hz), .bool false]) ?_ rfl ⟨by rw [HRES.out]; rfl, BX.out⟩
                    have ht := HT.out
                    rw [hv_size, HZ32.out] at ht
                    have hl := load_back HZ32.out ht
                    clear hHeld
                    generalize cw.setCells b5 0 (hv hz).toList = W3 at hl ⊢
                    simp only [results, Try.results35]
                    simp [hl, asAddr, hld_open]
end Go.Proofs.Ythfkmfepeafgjaa
