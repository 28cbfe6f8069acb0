/- Check. Conditions: hashes of 32 bytes; no more than a million commits, heads and parents; no commit of the graph has more than 1000 parents. -/
import Derived.Test.YthfkmfepeafgjaaGphN
namespace Go.Proofs.Ythfkmfepeafgjaa
open Go.RowKit
open Go.Maps

theorem nn_iface (t : TypeId) (x : Value) (w : World) : (binOp .neq 51 (.iface t x) .nilIface).run Try.prog w = .ok (.bool true) w := by kernel_rfl
theorem nn_nil (w : World) : (binOp .neq 51 .nilIface .nilIface).run Try.prog w = .ok (.bool false) w := by kernel_rfl
/-- A request's bounds. -/
def bnd (grp : Int) (cs : List Cm) (hs : List Key) : Bool := (decide (grp = 1) || decide (grp = 2)) && decide (cs.length ≤ 200) && decide (hs.length ≤ 200)
noncomputable def chk (G : Gr) (grp : Int) (cs : List Cm) (hs : List Key) : Rf :=
  if bnd grp cs hs then
    (ck2 cs).or ((ck3 G [] cs).or ((ck4 G (addA G [] cs) cs).or ((ck5 G (addA G [] cs) hs).or ((ck6 (addA G [] cs) cs).or (if 1000 < G.length + (addA G [] cs).length then some (13, none) else none)))))
  else some (1, none)
theorem ErrW.form {w : World} {v : Value} : ∀ {r : Rf}, ErrW w v r → (r = none ∧ v = .nilIface) ∨ (r.isSome = true ∧ ∃ t x, v = .iface t x)
  | none, h => .inl ⟨rfl, h⟩
  | some (_, none), h => .inr ⟨rfl, _, _, h⟩
  | some (_, some _), h => by
    obtain ⟨_, p, h2, _⟩ := h
    exact .inr ⟨rfl, _, _, h2⟩
theorem or_left {r s : Rf} (h : r.isSome = true) : r.or s = r := by cases r <;> simp at h ⊢
theorem or_none {s : Rf} : (none : Rf).or s = s := rfl
theorem addA_mem {G : Gr} {x : Key} {ps : List Key} : ∀ {cs : List Cm} {A : Gr}, aget x (addA G A cs) = some ps → aget x A = some ps ∨ (x, ps) ∈ cs
  | [], A, h => .inl h
  | c :: cs, A, h => by
    rw [addA] at h
    rcases addA_mem h with h | h
    · split at h
      · exact .inl h
      · by_cases e : x = c.1
        · subst e
          rw [aget_put_same] at h
          injection h with h
          exact .inr (by rw [← h]; exact List.mem_cons_self)
        · rw [aget_put_other _ _ _ e] at h
          exact .inl h
    · exact .inr (List.mem_cons_of_mem _ h)
theorem ck2_none {cs : List Cm} : ck2 cs = none → ∀ c ∈ cs, c.2.length ≤ 4 ∧ c.2.Nodup := by
  induction cs with
  | nil => intro _ c hc; cases hc
  | cons d cs ih =>
    intro h c hc
    rw [ck2] at h
    by_cases h4 : 4 < d.2.length
    · rw [if_pos h4] at h; cases h
    · rw [if_neg h4] at h
      by_cases hn : d.2.Nodup
      · rw [if_pos hn] at h
        rcases List.mem_cons.1 hc with rfl | hc
        · exact ⟨by omega, hn⟩
        · exact ih h c hc
      · rw [if_neg hn] at h; cases h
theorem flat_len {cs : List Cm} (h : ∀ c ∈ cs, c.2.length ≤ 4) : (cs.flatMap (·.2)).length ≤ cs.length * 4 := by
  induction cs with
  | nil => simp
  | cons c cs ih =>
    have h1 := h c List.mem_cons_self
    have h2 := ih fun d hd => h d (List.mem_cons_of_mem _ hd)
    rw [List.flatMap_cons, List.length_append, List.length_cons]
    omega
theorem adj_some {G : Gr} {x p : Key} (h : p ∈ adj G x) : ∃ ps, aget x G = some ps ∧ p ∈ ps := by
  unfold adj at h
  cases hg : aget x G with
  | none => rw [hg] at h; cases h
  | some ps => rw [hg] at h; exact ⟨ps, rfl, h⟩
theorem addA_len {G : Gr} : ∀ (cs : List Cm) (A : Gr), (addA G A cs).length ≤ A.length + cs.length
  | [], A => Nat.le_refl _
  | c :: cs, A => by
    rw [addA, List.length_cons]
    split
    · have := addA_len (G := G) cs A; omega
    · have := addA_len (G := G) cs (aput c.1 c.2 A)
      have := aput_len c.1 c.2 A
      omega
theorem bounded_to (w : World) (grp : Int) (p1 p2 : Option Addr) (c1 c2 : Nat) (cs : List Cm) (hs : List Key) : Calls Try.prog 59 #[.agg #[.slice p1 cs.length c1, .slice p2 hs.length c2, .int .i64 grp]] w fun e w' => e = .returned (.bool (bnd grp cs hs)) ∧ Below w.heap.size w w' := by
  have hb : bnd grp cs hs = ((decide (grp = 1) || decide (grp = 2)) && decide (cs.length ≤ 200) && decide (hs.length ≤ 200)) := rfl
  generalize bnd grp cs hs = b at hb ⊢
  generalize cs.length = n at hb ⊢
  generalize hs.length = m at hb ⊢
  have HB := Lib.hid hb
  have B1 : Hid (Below w.heap.size w (w.alloc (.cells #[.slice p1 n c1, .slice p2 m c2, .int .i64 grp] 64))) := Lib.hid ((Below.refl _ w).alloc (Nat.le_refl _) _)
  clear hb
  by_cases g1 : grp = 1
  · subst g1
    by_cases hn : (n : Int) ≤ 200
    · have hn' : n ≤ 200 := by omega
      by_cases hm : (m : Int) ≤ 200
      · have hm' : m ≤ 200 := by omega
        have HB2 : Hid (b = true) := Lib.hid (by rw [HB.out]; simp [hn', hm'])
        clear HB hn' hm'
        go_enter Try.func59, Try.ntmps59
        go_wp2
        go_ret
        exact ⟨by rw [HB2.out]; rfl, B1.out⟩
      · have hm' : ¬ m ≤ 200 := by omega
        have HB2 : Hid (b = false) := Lib.hid (by rw [HB.out]; simp [hm'])
        clear HB hn' hm'
        go_enter Try.func59, Try.ntmps59
        go_wp2
        go_ret
        exact ⟨by rw [HB2.out]; rfl, B1.out⟩
    · have hn' : ¬ n ≤ 200 := by omega
      have HB2 : Hid (b = false) := Lib.hid (by rw [HB.out]; simp [hn'])
      clear HB hn'
      go_enter Try.func59, Try.ntmps59
      go_wp2
      go_ret
      exact ⟨by rw [HB2.out]; rfl, B1.out⟩
  · by_cases g2 : grp = 2
    · subst g2
      clear g1
      by_cases hn : (n : Int) ≤ 200
      · have hn' : n ≤ 200 := by omega
        by_cases hm : (m : Int) ≤ 200
        · have hm' : m ≤ 200 := by omega
          have HB2 : Hid (b = true) := Lib.hid (by rw [HB.out]; simp [hn', hm'])
          clear HB hn' hm'
          go_enter Try.func59, Try.ntmps59
          go_wp2
          go_ret
          exact ⟨by rw [HB2.out]; rfl, B1.out⟩
        · have hm' : ¬ m ≤ 200 := by omega
          have HB2 : Hid (b = false) := Lib.hid (by rw [HB.out]; simp [hm'])
          clear HB hn' hm'
          go_enter Try.func59, Try.ntmps59
          go_wp2
          go_ret
          exact ⟨by rw [HB2.out]; rfl, B1.out⟩
      · have hn' : ¬ n ≤ 200 := by omega
        have HB2 : Hid (b = false) := Lib.hid (by rw [HB.out]; simp [hn'])
        clear HB hn'
        go_enter Try.func59, Try.ntmps59
        go_wp2
        go_ret
        exact ⟨by rw [HB2.out]; rfl, B1.out⟩
    · have HB2 : Hid (b = false) := Lib.hid (by rw [HB.out]; simp [g1, g2])
      have e1 : (grp != 1) = true := by simp [g1]
      have e2 : (grp != 2) = true := by simp [g2]
      clear HB g1 g2
      go_enter Try.func59, Try.ntmps59
      go_wp2
      go_ret
      exact ⟨by rw [HB2.out]; rfl, B1.out⟩

theorem full_fits {a b : Nat} (ha : a ≤ 1000000) (hb : b ≤ 1000000) : wrap64 ((a : Int) + b) = ((a + b : Nat) : Int) ∧ ((((a + b : Nat) : Int) > 1000) ↔ 1000 < a + b) := by unfold wrap64; omega
set_option maxRecDepth 20000 in
set_option maxHeartbeats 8000000 in
theorem check_to (w : World) (g bm : Nat) (X : Lx) (v u : Value) (grp : Int) (cs : List Cm) (hs : List Key) (H : GA w g bm X) (hXl : X.length ≤ 1000) (hXp : ∀ x ∈ X, x.2.2.length ≤ 1000)
    (hv' : CSeen w v cs) (hu : HSeen w u hs) (hok : COk cs) (h32 : H32 hs) (hl : cs.length ≤ 1000000) (hp : ∀ c ∈ cs, c.2.length ≤ 1000000) (hhl : hs.length ≤ 1000000) :
    Calls Try.prog 45 #[gp g, .agg #[v, u, .int .i64 grp]] w fun e w' => ∃ x, e = .returned x ∧ ErrW w' x (chk (gr X) grp cs hs) ∧ Below w.heap.size w w' := by
  obtain ⟨p1, c1, rfl, hcc⟩ := id hv'
  clear hcc
  obtain ⟨p2, c2, rfl⟩ := hu.shape
  have hne := nn_iface
  have hnn := nn_nil
  have b1 : Below w.heap.size w (w.alloc (.cells #[.slice p1 cs.length c1, .slice p2 hs.length c2, .int .i64 grp] 64)) := (Below.refl _ w).alloc (Nat.le_refl _) _
  have HBD := Lib.hid (bounded_to (w.alloc (.cells #[.slice p1 cs.length c1, .slice p2 hs.length c2, .int .i64 grp] 64)) grp p1 p2 c1 c2 cs hs)
  have HR := Lib.hid (heap_alloc_last w (.cells #[.slice p1 cs.length c1, .slice p2 hs.length c2, .int .i64 grp] 64))
  have B1 := Lib.hid b1
  have HG := Lib.hid H
  have HXL := Lib.hid hXl
  have HXP := Lib.hid hXp
  have HV := Lib.hid hv'
  have HU := Lib.hid hu
  have HO := Lib.hid hok
  have H3 := Lib.hid h32
  have HL := Lib.hid hl
  have HP := Lib.hid hp
  have HHL := Lib.hid hhl
  obtain ⟨n, hn⟩ : ∃ n, n = cs.length := ⟨_, rfl⟩
  obtain ⟨m, hm⟩ : ∃ m, m = hs.length := ⟨_, rfl⟩
  rw [← hn] at HBD HR HV b1 B1 ⊢
  rw [← hm] at HBD HR HU b1 B1 ⊢
  have HN := Lib.hid hn
  clear b1 H hXl hXp hv' hu hok h32 hl hp hhl hn hm
  go_enter Try.func45, Try.ntmps45
  go_wp2_with fail
  generalize hw1 : w.alloc (.cells #[.slice p1 n c1, .slice p2 m c2, .int .i64 grp] 64) = w1 at *
  refine HBD.out.mono ?_
  rintro e w2 ⟨rfl, b2⟩
  have B2 : Hid (Below w.heap.size w w2) := Lib.hid (B1.out.trans (b2.mono B1.out.size))
  have HR2 := Lib.hid ((b2.block _ (Array.getElem?_eq_some_iff.1 HR.out).1).trans HR.out)
  clear b2
  cases hb : bnd grp cs hs with
  | false =>
    have HB := Lib.hid hb
    clear hb
    go_wp2
    go_ret
    exact ⟨_, rfl, by unfold chk; rw [HB.out]; rfl, B2.out⟩
  | true =>
    have hcl : cs.length ≤ 200 := by
      unfold bnd at hb
      simp only [Bool.and_eq_true, decide_eq_true_eq] at hb
      exact hb.1.2
    have HCK : Hid (chk (gr X) grp cs hs = (ck2 cs).or ((ck3 (gr X) [] cs).or ((ck4 (gr X) (addA (gr X) [] cs) cs).or ((ck5 (gr X) (addA (gr X) [] cs) hs).or ((ck6 (addA (gr X) [] cs) cs).or (if 1000 < (gr X).length + (addA (gr X) [] cs).length then some (13, none) else none)))))) := Lib.hid (by unfold chk; rw [if_pos hb])
    have HCL := Lib.hid hcl
    have a0 := cell_obj HR2.out 0 rfl
    have a1 := cell_obj HR2.out 1 rfl
    clear hb hcl
    have HQ2 := Lib.hid (checkLists_to w2 _ cs (HV.out.kb B2.out) HO.out HL.out HP.out)
    go_wp2_with fail
    refine HQ2.out.mono ?_
    rintro e w3 ⟨x3, rfl, e3, b3⟩
    have B3 : Hid (Below w.heap.size w w3) := Lib.hid (B2.out.trans (b3.mono B2.out.size))
    have HR3 := Lib.hid ((b3.block _ (Array.getElem?_eq_some_iff.1 HR2.out).1).trans HR2.out)
    clear b3 a0 a1
    have E3 := Lib.hid e3
    rcases e3.form with ⟨hn3, rfl⟩ | ⟨hs3, t3, y3, rfl⟩
    · have N3 := Lib.hid hn3
      have a0 := cell_obj HR3.out 0 rfl
      have a1 := cell_obj HR3.out 1 rfl
      have H4 := Lib.hid (ck2_none hn3)
      clear e3 hn3 E3
      have HQ3 := Lib.hid (added_to w3 g bm X _ cs (HG.out.kb B3.out) (fun x hx => Nat.le_trans (HXP.out x hx) (by decide)) (HV.out.kb B3.out) HO.out HL.out HP.out)
      go_wp2_with fail
      refine HQ3.out.mono ?_
      rintro e w4 (⟨ba, Y, h3, rfl, hY, hYA, _, b4⟩ | ⟨r, px, h3, rfl, he, b4⟩)
      · have B4 : Hid (Below w.heap.size w w4) := Lib.hid (B3.out.trans (b4.mono B3.out.size))
        have HR4 := Lib.hid ((b4.block _ (Array.getElem?_eq_some_iff.1 HR3.out).1).trans HR3.out)
        have N4 := Lib.hid h3
        have HY := Lib.hid hY
        have HYA := Lib.hid hYA
        clear b4 a0 a1 h3 hY hYA
        have a0 := cell_obj HR4.out 0 rfl
        have a1 := cell_obj HR4.out 1 rfl
        have HQ4 := Lib.hid (checkParents_to w4 g bm ba X Y _ cs (HG.out.kb B4.out) HY.out (HV.out.kb B4.out) HO.out HL.out HP.out)
        go_wp2_with fail
        refine HQ4.out.mono ?_
        rintro e w5 ⟨x5, rfl, e5, b5⟩
        have B5 : Hid (Below w.heap.size w w5) := Lib.hid (B4.out.trans (b5.mono B4.out.size))
        have HR5 := Lib.hid ((b5.block _ (Array.getElem?_eq_some_iff.1 HR4.out).1).trans HR4.out)
        have HY5 := Lib.hid (HY.out.kb b5)
        rw [HYA.out] at e5
        have E5 := Lib.hid e5
        clear b5 a0 a1
        rcases e5.form with ⟨hn5, rfl⟩ | ⟨hs5, t5, y5, rfl⟩
        · have N5 := Lib.hid hn5
          clear e5 hn5 E5
          have a0 := cell_obj HR5.out 0 rfl
          have a1 := cell_obj HR5.out 1 rfl
          have HQ5 := Lib.hid (checkHeads_to w5 g bm ba X Y _ hs (HG.out.kb B5.out) HY5.out (HU.out.mild (mild_below B5.out)) H3.out HHL.out)
          go_wp2_with fail
          refine HQ5.out.mono ?_
          rintro e w6 ⟨x6, rfl, e6, b6⟩
          have B6 : Hid (Below w.heap.size w w6) := Lib.hid (B5.out.trans (b6.mono B5.out.size))
          have HR6 := Lib.hid ((b6.block _ (Array.getElem?_eq_some_iff.1 HR5.out).1).trans HR5.out)
          have HY6 := Lib.hid (HY5.out.kb b6)
          rw [HYA.out] at e6
          have E6 := Lib.hid e6
          clear b6 a0 a1
          rcases e6.form with ⟨hn6, rfl⟩ | ⟨hs6, t6, y6, rfl⟩
          · have N6 := Lib.hid hn6
            clear e6 hn6 E6
            have a0 := cell_obj HR6.out 0 rfl
            have a1 := cell_obj HR6.out 1 rfl
            have hUm : ∀ c ∈ cs, ∀ p ∈ c.2, p ∈ cs.flatMap (·.2) := fun c hc p hp => List.mem_flatMap.2 ⟨c, hc, hp⟩
            have HQ6 := Lib.hid (checkCycles_to w6 ba Y _ cs (cs.flatMap (·.2)) HY6.out (HV.out.kb B6.out) HO.out HL.out (fun c hc => Nat.le_trans (H4.out c hc).1 (by decide))
              (by have := flat_len (fun c hc => (H4.out c hc).1); have := HCL.out; omega) hUm
              (fun x p hx => by
                obtain ⟨ps, h1, h2⟩ := adj_some hx
                rw [HYA.out] at h1
                rcases addA_mem h1 with h1 | h1
                · cases h1
                · exact hUm _ h1 p h2)
              (fun y hy => by
                have h1 : aget y.1 (gr Y) = some y.2.2 := by rw [gr_get, aget_of_mem (kvs_asc_gr HY6.out.mp.asc) hy]; rfl
                rw [HYA.out] at h1
                rcases addA_mem h1 with h1 | h1
                · cases h1
                · exact Nat.le_trans (H4.out _ h1).1 (by decide)))
            clear hUm
            go_wp2_with fail
            refine HQ6.out.mono ?_
            rintro e w7 ⟨x7, rfl, e7, b7⟩
            have B7 : Hid (Below w.heap.size w w7) := Lib.hid (B6.out.trans (b7.mono B6.out.size))
            have HY7 := Lib.hid (HY6.out.kb b7)
            rw [HYA.out] at e7
            have E7 := Lib.hid e7
            clear b7 a0 a1
            rcases e7.form with ⟨hn7, rfl⟩ | ⟨hs7, t7, y7, rfl⟩
            · have N7 := Lib.hid hn7
              clear e7 hn7 E7
              have HQ7 := Lib.hid (count_to w7 g bm X (HG.out.kb B7.out))
              have ho := HY7.out.mp.own
              have hsz : Maps.size (mapV (kvs Y)) = Y.length := by rw [mapV_size, kvs_len]
              have hYl : Y.length ≤ 1000000 := by
                have h1 := addA_len (G := gr X) cs []
                rw [← HYA.out, gr_len] at h1
                have := HCL.out
                simp at h1
                omega
              obtain ⟨f1, f2⟩ := full_fits (a := X.length) (b := Y.length) (by have := HXL.out; omega) hYl
              have HF : Hid (chk (gr X) grp cs hs = if 1000 < X.length + Y.length then some (13, none) else none) := Lib.hid (by
                rw [HCK.out, N3.out, N4.out, N5.out, N6.out, N7.out, ← HYA.out, gr_len, gr_len]; rfl)
              obtain ⟨ly, hly⟩ : ∃ ly, ly = Y.length := ⟨_, rfl⟩
              rw [← hly] at hsz f1 f2 HF
              clear hYl hly
              generalize mapV (kvs Y) = D at ho hsz
              by_cases hf : 1000 < X.length + ly
              · have hf' := f2.2 hf
                have HF2 := Lib.hid hf
                clear f2 hf
                go_wp2_with (first
                  | (go_at_call 65; refine HQ7.out.mono ?_; rintro e w8 ⟨rfl, rfl⟩)
                  | (at_len; refine wpList_len_own _ rfl _ 81 rfl _ _ Try.underlying81 rdv ba (kvs Y).length D rfl ho ?_; rw [hsz]))
                go_ret
                exact ⟨_, rfl, by rw [HF.out, if_pos HF2.out]; rfl, B7.out⟩
              · have hf' : ¬ (((X.length + ly : Nat) : Int) > 1000) := fun h => hf (f2.1 h)
                have HF2 := Lib.hid hf
                clear f2 hf
                go_wp2_with (first
                  | (go_at_call 65; refine HQ7.out.mono ?_; rintro e w8 ⟨rfl, rfl⟩)
                  | (at_len; refine wpList_len_own _ rfl _ 81 rfl _ _ Try.underlying81 rdv ba (kvs Y).length D rfl ho ?_; rw [hsz]))
                go_ret
                exact ⟨_, rfl, by rw [HF.out, if_neg HF2.out]; rfl, B7.out⟩
            · have HS7 := Lib.hid hs7
              clear e7 hs7
              go_wp2
              go_ret
              exact ⟨_, rfl, by rw [HCK.out, N3.out, N4.out, N5.out, N6.out, or_none, or_none, or_none, or_none, or_left HS7.out]; exact E7.out, B7.out⟩
          · have HS6 := Lib.hid hs6
            clear e6 hs6
            go_wp2
            go_ret
            exact ⟨_, rfl, by rw [HCK.out, N3.out, N4.out, N5.out, or_none, or_none, or_none, or_left HS6.out]; exact E6.out, B6.out⟩
        · have HS5 := Lib.hid hs5
          clear e5 hs5
          go_wp2
          go_ret
          exact ⟨_, rfl, by rw [HCK.out, N3.out, N4.out, or_none, or_none, or_left HS5.out]; exact E5.out, B5.out⟩
      · have B4 : Hid (Below w.heap.size w w4) := Lib.hid (B3.out.trans (b4.mono B3.out.size))
        have N4 := Lib.hid h3
        have E4 := Lib.hid he
        clear b4 a0 a1 h3 he
        go_wp2
        go_ret
        exact ⟨_, rfl, by rw [HCK.out, N3.out, N4.out, or_none, or_left rfl]; exact E4.out, B4.out⟩
    · have HS3 := Lib.hid hs3
      clear e3 hs3
      go_wp2
      go_ret
      exact ⟨_, rfl, by rw [HCK.out, or_left HS3.out]; exact E3.out, B3.out⟩
end Go.Proofs.Ythfkmfepeafgjaa
