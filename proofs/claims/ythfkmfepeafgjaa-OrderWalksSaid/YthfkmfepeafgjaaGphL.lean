/- added: the commits of a request that do not exist, unless there is a conflict. Conditions: hashes of 32 bytes; no more than a million commits and parents. -/
import Derived.Test.YthfkmfepeafgjaaGphK
namespace Go.Proofs.Ythfkmfepeafgjaa
open Go.RowKit
open Go.Maps

/-- The commits that are to be added, behind A. -/
def addA (G A : Gr) : List Cm → Gr
  | [] => A
  | c :: cs => addA G (if ((aget c.1 G).or (aget c.1 A)).isSome then A else aput c.1 c.2 A) cs
/-- The first commit that has another list of parents. -/
def ck3 (G A : Gr) : List Cm → Rf
  | [] => none
  | c :: cs => match (aget c.1 G).or (aget c.1 A) with
    | some ps => if ps = c.2 then ck3 G A cs else some (9, some c.1)
    | none => ck3 G (aput c.1 c.2 A) cs
/-- What added hands back. -/
def AdPost (w : World) (G : Gr) (cs : List Cm) (e : Ending) (w' : World) : Prop :=
  (∃ ba Y, ck3 G [] cs = none ∧ e = .returned (.tuple #[.map (some ba), .nilIface]) ∧ LAt w' ba Y ∧ gr Y = addA G [] cs ∧ w.heap.size ≤ ba ∧ Below w.heap.size w w') ∨
  (∃ r p, ck3 G [] cs = some r ∧ e = .returned (.tuple #[.map none, whv p]) ∧ ErrW w' (whv p) (some r) ∧ Below w.heap.size w w')
theorem lat_made (w : World) : LAt (w.alloc (.map #[] 0)) w.heap.size [] := ⟨MpH.made w, fun x h => by cases h⟩
theorem LAt.store {w w' : World} {b : Nat} {Y : Lx} {k : Key} {v : Value} {E : List Key} (h : LAt w b Y) (mp' : MpH w' b (aput k v (kvs Y))) (ho : Only (fun j => j = b) w w') (hv' : HSeen w v E) (hE : H32 E) : LAt w' b (aput k (v, E) Y) := by
  have hm := mild_map h.mp ho
  refine ⟨by rw [show kvs (aput k (v, E) Y) = aput k v (kvs Y) from amap_put _ _ _ _]; exact mp', fun x hx => ?_⟩
  rcases mem_aput.1 hx with rfl | ⟨hx, _⟩
  · exact ⟨hv'.mild hm, hE⟩
  · exact ⟨(h.seen x hx).1.mild hm, (h.seen x hx).2⟩
theorem gr_put (k : Key) (v : Value) (E : List Key) (Y : Lx) : gr (aput k (v, E) Y) = aput k E (gr Y) := amap_put _ _ _ _
theorem aput_len {α : Type} (k : Key) (v : α) (M : List (Key × α)) : (aput k v M).length ≤ M.length + 1 := by
  unfold aput
  have h1 : ∀ l : List (Key × α), (ains (k, v) l).length = l.length + 1 := fun l => by
    induction l with
    | nil => rfl
    | cons y l ih => unfold ains; split <;> simp [ih]
  rw [h1]
  have := List.length_filter_le (fun p : Key × α => !(p.1 == k)) M
  unfold adel
  omega
set_option maxRecDepth 20000 in
set_option maxHeartbeats 8000000 in
attribute [local go_sem ↓] hld_open cld_open in
theorem added_to (w : World) (g bm : Nat) (X : Lx) (v : Value) (cs : List Cm) (H : GA w g bm X) (hXp : ∀ x ∈ X, x.2.2.length ≤ 1000000) (hv' : CSeen w v cs) (hok : COk cs) (hl : cs.length ≤ 1000000) (hp : ∀ c ∈ cs, c.2.length ≤ 1000000) :
    Calls Try.prog 61 #[gp g, v] w (AdPost w (gr X) cs) := by
  obtain ⟨p, cap, rfl, hc⟩ := id hv'
  clear hc
  obtain ⟨n, hn⟩ : ∃ n, n = cs.length := ⟨_, rfl⟩
  rw [← hn] at hv' hl ⊢
  have HV := Lib.hid hv'
  have HO := Lib.hid hok
  have HN := Lib.hid hn
  have HL := Lib.hid hl
  have HP := Lib.hid hp
  have hmm := @run_makeMap Try.prog
  have b1 : Below w.heap.size w (w.alloc (.map #[] 0)) := (Below.refl _ w).alloc (Nat.le_refl _) _
  have HG := Lib.hid H
  have HXP := Lib.hid hXp
  have B1 := Lib.hid b1
  have HY0 := Lib.hid (lat_made w)
  clear hv' hok hl hn hp b1 H hXp
  go_enter Try.func61, Try.ntmps61
  go_wp2_with fail
  go_loopw [14] (fun s wr => ∃ (i : Nat) (Y : Lx), s = .int .i64 i ∧ i ≤ n ∧ Hid (ck3 (gr X) [] cs = ck3 (gr X) (gr Y) (cs.drop i)) ∧ Hid (addA (gr X) [] cs = addA (gr X) (gr Y) (cs.drop i)) ∧ Hid (LAt wr w.heap.size Y ∧ Y.length ≤ i ∧ ∀ y ∈ Y, y.2.2.length ≤ 1000000) ∧ Hid (Below w.heap.size w wr))
    (fun s _ => n - (intOf s).toNat)
  case atStart => exact ⟨0, [], rfl, Nat.zero_le _, Lib.hid rfl, Lib.hid rfl, Lib.hid ⟨HY0.out, Nat.le_refl _, fun y hy => by cases hy⟩, B1⟩
  case round =>
    clear HY0 B1
    obtain ⟨i, Y, rfl, hi, T, TA, HY, B⟩ := hrel
    by_cases hlt : i < n
    · obtain ⟨j1, j2, j3⟩ := next_fit hlt HL.out
      have hiE : i < cs.length := by rw [← HN.out]; exact hlt
      obtain ⟨p', cap', e1, hc⟩ := HV.out.mild (mild_below B.out)
      injection e1 with e1 e2 e3
      obtain ⟨b, o, u, rfl, hrg, hsn⟩ := hc i cs[i] (List.getElem?_eq_getElem hiE)
      subst e1
      have hdr : cs.drop i = cs[i] :: cs.drop (i + 1) := drop_at hiE
      have hoki := HO.out _ (List.getElem_mem hiE)
      have hmemi := List.getElem_mem hiE
      obtain ⟨⟨h, E⟩, hce⟩ : ∃ c : Cm, c = cs[i] := ⟨_, rfl⟩
      rw [← hce] at hrg hsn hdr hoki hmemi
      dsimp only at hrg hsn hoki
      have hh := hoki.1
      have hld0 := cld_range hh hrg
      have st := cst_cells h u hh hsn.one wr
      have hks : (cmv h u).size = 33 := cmv_size hh u
      have b3 : Below wr.heap.size wr (wr.alloc (.cells (cmv h u) 49)) := (Below.refl _ _).alloc (Nat.le_refl _) _
      have B3 : Hid (Below w.heap.size w (wr.alloc (.cells (cmv h u) 49))) := Lib.hid (B.out.alloc B.out.size _)
      have HV3 := heap_alloc_last wr (.cells (cmv h u) 49)
      have hsn3 := hsn.mild (mild_below b3)
      have hs3 : (wr.alloc (.cells (cmv h u) 49)).heap.size = wr.heap.size + 1 := by simp
      obtain ⟨pu, cu, rfl⟩ := hsn3.shape
      have HH3 := Lib.hid HV3
      have HSN := Lib.hid hsn3
      have HOK := Lib.hid hoki
      have HDR := Lib.hid hdr
      have HMI := Lib.hid hmemi
      obtain ⟨m, hm⟩ : ∃ m, m = E.length := ⟨_, rfl⟩
      rw [← hm] at hld0 st hks HH3 HSN hs3 B3
      have HB3 := Lib.hid b3
      rw [← hm] at HB3
      have HM := Lib.hid hm
      have HPI : Hid (E.length ≤ 1000000) := Lib.hid (HP.out _ hmemi)
      have HY3 : Hid (LAt (wr.alloc (.cells (cmv h (.slice pu m cu)) 49)) w.heap.size Y) := Lib.hid (HY.out.1.kb HB3.out)
      clear hrg hsn hdr hoki hmemi hh b3 HV3 hsn3 hc e2 e3 hce hm hiE
      generalize hw3 : wr.alloc (.cells (cmv h (.slice pu m cu)) 49) = w3 at *
      have HG3 := Lib.hid (HG.out.kb B3.out)
      have c0 := HG3.out.c0
      have hld3 := fun j => cm_hld (w := w3.drewN j) HOK.out.1 HH3.out
      have hlkA := fun j => (HG3.out.at_.mp.drew j).lookOk Try.underlying81 (lzero _) h HOK.out.1
      have hlkB := fun j => (HY3.out.mp.drew j).lookOk Try.underlying81 (lzero _) h HOK.out.1
      rw [kvs_get] at hlkA hlkB
      have hck : ck3 (gr X) [] cs = ck3 (gr X) (gr Y) ((h, E) :: cs.drop (i + 1)) := by rw [T.out, HDR.out]
      have had : addA (gr X) [] cs = addA (gr X) (gr Y) ((h, E) :: cs.drop (i + 1)) := by rw [TA.out, HDR.out]
      simp only [ck3] at hck
      simp only [addA] at had
      rw [gr_get, gr_get] at hck had
      cases hgX : aget h X with
      | some y =>
        obtain ⟨zv, ps⟩ := y
        rw [hgX] at hlkA hck had
        simp only [Option.map_some, Option.getD_some, Option.isSome_some, Option.some_or, if_true] at hlkA hck had
        have hseen := HG3.out.at_.seen _ (aget_mem hgX)
        dsimp only at hseen
        obtain ⟨pz, cz, rfl⟩ := hseen.1.shape
        have HEQ := Lib.hid (fun W (hW : Below w3.heap.size w3 W) => equal_to W (.slice pz ps.length cz) (.slice pu m cu) ps E (hseen.1.mild (mild_below hW)) (HSN.out.mild (mild_below hW)) hseen.2 HOK.out.2 (HXP.out _ (aget_mem hgX)))
        have HOF := Lib.hid (fun W => of_kind W h HOK.out.1 9)
        have HLD := Lib.hid (fun W (hW : Below w3.heap.size w3 W) => cm_hld (w := W) HOK.out.1 ((mild_below hW).cells HH3.out))
        have HCL := Lib.hid (fun W (hW : Below w3.heap.size w3 W) => cm_cell (w := W) HOK.out.1 ((mild_below hW).cells HH3.out))
        have HCK := Lib.hid hck
        have HAD := Lib.hid had
        obtain ⟨l, hl⟩ : ∃ l, l = ps.length := ⟨_, rfl⟩
        rw [← hl] at hlkA HEQ
        clear hck had hlkB hseen hgX hl
        generalize cmv h (.slice pu m cu) = q33 at *
        go_wp2_with fail
        go_quiet (fail)
        have b4 := blw_qt w3.heap.size nq w3
        clear hlkA hld3 c0
        generalize w3.drewN nq = w4 at *
        have hc4 := HCL.out w4 b4
        have B4 : Hid (Below w.heap.size w w4) := Lib.hid (B3.out.trans (b4.mono B3.out.size))
        have HB4 := Lib.hid b4
        clear b4 HCL
        go_wp2_with fail
        refine (HEQ.out w4 HB4.out).mono ?_
        rintro e w5 ⟨rfl, b5⟩
        have b5' : Below w3.heap.size w3 w5 := HB4.out.trans (b5.mono HB4.out.size)
        have hld5 := HLD.out w5 b5'
        have B5 : Hid (Below w.heap.size w w5) := Lib.hid (B3.out.trans (b5'.mono B3.out.size))
        have HY5 := Lib.hid (HY3.out.kb b5')
        have HOF5 := Lib.hid (HOF.out w5)
        clear b5 b5' hc4
        by_cases hpe : ps = E
        · rw [decide_eq_true hpe]
          have HPE := Lib.hid hpe
          clear hpe
          go_wp2_with fail
          refine ⟨⟨i + 1, Y, by rw [j1], hlt, Lib.hid (by rw [HCK.out, if_pos HPE.out]), HAD, Lib.hid ⟨HY5.out, Nat.le_trans HY.out.2.1 (Nat.le_succ _), HY.out.2.2⟩, B5⟩, ?_⟩
          rw [j1]; simp only [intOf]; omega
        · rw [decide_eq_false hpe]
          have HPE := Lib.hid hpe
          clear hpe
          go_wp2_with fail
          refine HOF5.out.mono ?_
          rintro e w6 ⟨x, rfl, ⟨px, rfl⟩, hx, b6⟩
          go_wp2
          go_ret2
          exact .inr ⟨_, px, by rw [HCK.out, if_neg HPE.out], rfl, hx, B5.out.trans (b6.mono B5.out.size)⟩
      | none =>
        rw [hgX] at hlkA hck had
        simp only [Option.map_none, Option.getD_none, Option.isSome_none, Option.none_or] at hlkA hck had
        cases hgY : aget h Y with
        | some y =>
          obtain ⟨zv, ps⟩ := y
          rw [hgY] at hlkB hck had
          simp only [Option.map_some, Option.getD_some, Option.isSome_some, if_true] at hlkB hck had
          have hseen := HY3.out.seen _ (aget_mem hgY)
          dsimp only at hseen
          obtain ⟨pz, cz, rfl⟩ := hseen.1.shape
          have HEQ := Lib.hid (fun W (hW : Below w3.heap.size w3 W) => equal_to W (.slice pz ps.length cz) (.slice pu m cu) ps E (hseen.1.mild (mild_below hW)) (HSN.out.mild (mild_below hW)) hseen.2 HOK.out.2 (HY.out.2.2 _ (aget_mem hgY)))
          have HOF := Lib.hid (fun W => of_kind W h HOK.out.1 9)
          have HLD := Lib.hid (fun W (hW : Below w3.heap.size w3 W) => cm_hld (w := W) HOK.out.1 ((mild_below hW).cells HH3.out))
          have HCL := Lib.hid (fun W (hW : Below w3.heap.size w3 W) => cm_cell (w := W) HOK.out.1 ((mild_below hW).cells HH3.out))
          have HCK := Lib.hid hck
          have HAD := Lib.hid had
          obtain ⟨l, hl⟩ : ∃ l, l = ps.length := ⟨_, rfl⟩
          rw [← hl] at hlkB HEQ
          clear hck had hseen hgY hgX hl
          generalize cmv h (.slice pu m cu) = q33 at *
          go_wp2_with fail
          go_quiet (fail)
          have b4 := blw_qt w3.heap.size nq w3
          have HLB := Lib.hid (hlkB nq)
          have HLDq := Lib.hid (hld3 nq)
          clear hlkA hlkB hld3 c0
          generalize w3.drewN nq = w4 at *
          have hlk4 := HLB.out
          have hld4 := HLDq.out
          have hc4 := HCL.out w4 b4
          have B4 : Hid (Below w.heap.size w w4) := Lib.hid (B3.out.trans (b4.mono B3.out.size))
          have HB4 := Lib.hid b4
          clear b4 HCL
          go_wp2_with fail
          refine (HEQ.out w4 HB4.out).mono ?_
          rintro e w5 ⟨rfl, b5⟩
          have b5' : Below w3.heap.size w3 w5 := HB4.out.trans (b5.mono HB4.out.size)
          have hld5 := HLD.out w5 b5'
          have B5 : Hid (Below w.heap.size w w5) := Lib.hid (B3.out.trans (b5'.mono B3.out.size))
          have HY5 := Lib.hid (HY3.out.kb b5')
          have HOF5 := Lib.hid (HOF.out w5)
          clear b5 b5' hc4
          by_cases hpe : ps = E
          · rw [decide_eq_true hpe]
            have HPE := Lib.hid hpe
            clear hpe
            go_wp2_with fail
            refine ⟨⟨i + 1, Y, by rw [j1], hlt, Lib.hid (by rw [HCK.out, if_pos HPE.out]), HAD, Lib.hid ⟨HY5.out, Nat.le_trans HY.out.2.1 (Nat.le_succ _), HY.out.2.2⟩, B5⟩, ?_⟩
            rw [j1]; simp only [intOf]; omega
          · rw [decide_eq_false hpe]
            have HPE := Lib.hid hpe
            clear hpe
            go_wp2_with fail
            refine HOF5.out.mono ?_
            rintro e w6 ⟨x, rfl, ⟨px, rfl⟩, hx, b6⟩
            go_wp2
            go_ret2
            exact .inr ⟨_, px, by rw [HCK.out, if_neg HPE.out], rfl, hx, B5.out.trans (b6.mono B5.out.size)⟩
        | none =>
          rw [hgY] at hlkB hck had
          simp only [Option.map_none, Option.getD_none, Option.isSome_none, Bool.false_eq_true, if_false] at hlkB hck had
          have HCL := Lib.hid (fun j => cm_cell (w := w3.drewN j) HOK.out.1 HH3.out)
          have HCK := Lib.hid hck
          have HAD := Lib.hid had
          have hYl : Y.length < maxLen := by have := HY.out.2.1; have := HL.out; unfold maxLen; omega
          clear hck had hgY hgX
          generalize cmv h (.slice pu m cu) = q33 at *
          go_wp2_with fail
          go_quiet (fail)
          have b4 := blw_qt w3.heap.size nq w3
          have HLB := Lib.hid (hlkB nq)
          have HLD := Lib.hid (hld3 nq)
          have HC4 := Lib.hid (HCL.out nq)
          clear hlkA hlkB hld3 c0 HCL
          generalize w3.drewN nq = w4 at *
          have hlk4 := HLB.out
          have hld4 := HLD.out
          have hc4 := HC4.out
          have Y4 := Lib.hid (HY3.out.kb b4)
          obtain ⟨w5, hmu, mp5, o5⟩ := Y4.out.mp.store Try.underlying81 h HOK.out.1 (by rw [kvs_len]; exact hYl) (.slice pu m cu)
          have HY5 := Lib.hid (Y4.out.store mp5 o5 (HSN.out.mild (mild_below b4)) HOK.out.2)
          have B5 : Hid (Below w.heap.size w w5) := Lib.hid (B3.out.trans ((b4.mono B3.out.size).trans (Only.below (S := fun j => j = w.heap.size) o5 (Nat.le_trans B3.out.size b4.size) (fun j hj => by omega))))
          clear b4 mp5 o5 hYl
          go_wp2_with fail
          refine ⟨⟨i + 1, aput h (.slice pu m cu, E) Y, by rw [j1], hlt, Lib.hid (by rw [gr_put]; exact HCK.out), Lib.hid (by rw [gr_put]; exact HAD.out), Lib.hid ⟨HY5.out, Nat.le_trans (aput_len _ _ _) (by have := HY.out.2.1; omega), fun y hy => ?_⟩, B5⟩, ?_⟩
          · rcases mem_aput.1 hy with rfl | ⟨hy, _⟩
            · exact HPI.out
            · exact HY.out.2.2 y hy
          · rw [j1]; simp only [intOf]; omega
    · obtain rfl : i = n := by omega
      go_wp2
      go_ret2
      have hT := T.out
      have hA := TA.out
      rw [List.drop_eq_nil_of_le (by rw [HN.out]; exact Nat.le_refl _)] at hT hA
      exact .inl ⟨_, Y, hT, rfl, HY.out.1, hA.symm, Nat.le_refl _, B.out⟩
end Go.Proofs.Ythfkmfepeafgjaa
