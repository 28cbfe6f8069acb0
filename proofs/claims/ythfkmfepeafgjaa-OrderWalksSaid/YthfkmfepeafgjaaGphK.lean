/- Commits in memory; slices.Equal of hashes; checkLists. Conditions: hashes of 32 bytes; no more than a million parents. -/
import Derived.Test.YthfkmfepeafgjaaGphH
import Derived.Test.YthfkmfepeafgjaaGphE
namespace Go.Proofs.Ythfkmfepeafgjaa
open Go.RowKit
open Go.Maps

abbrev Cm := Key × List Key
def COk (cs : List Cm) : Prop := ∀ c ∈ cs, c.1.length = 32 ∧ H32 c.2
/-- A commit's cells. -/
def cmv (h : Key) (u : Value) : Array Value := (hv h).push u
theorem cmv_size {h : Key} (hh : h.length = 32) (u : Value) : (cmv h u).size = 33 := by simp [cmv, hv_size, hh]
theorem cmv_list (h : Key) (u : Value) : (cmv h u).toList = us (nmb h) ++ [u] := by simp [cmv, hv_list]
def czer : Array Value := #[.int .u8 0, .int .u8 0, .int .u8 0, .int .u8 0, .int .u8 0, .int .u8 0, .int .u8 0, .int .u8 0, .int .u8 0, .int .u8 0, .int .u8 0, .int .u8 0, .int .u8 0, .int .u8 0, .int .u8 0, .int .u8 0, .int .u8 0, .int .u8 0, .int .u8 0, .int .u8 0, .int .u8 0, .int .u8 0, .int .u8 0, .int .u8 0, .int .u8 0, .int .u8 0, .int .u8 0, .int .u8 0, .int .u8 0, .int .u8 0, .int .u8 0, .int .u8 0, .slice none 0 0]
theorem cinfo (q : Array Value) (hs : q.size = 33) : (Try.prog.info? 49).map (·.size) = some q.size := by rw [hs]; kernel_rfl
/-- A commit is loaded: one step. -/
noncomputable def cld (a : Addr) : Sem Value := loadVar 49 a
theorem cld_open (a : Addr) : loadVar 49 a = cld a := rfl
theorem cld_range {w : World} {p o : Nat} {h : Key} {u : Value} (hs : h.length = 32) (hp : w.rangeAt p o (us (nmb h) ++ [u])) : (cld ⟨p, o, none⟩).run Try.prog w = .ok (.agg (cmv h u)) w := by
  have := run_loadVar_mid (P := Try.prog) w p o 49 (us (nmb h) ++ [u]) _ hp Try.underlying49 rfl (by
    rw [← cmv_list, Array.length_toList]; exact cinfo _ (cmv_size hs u))
  unfold cld
  rw [this, ← cmv_list]
theorem cst_cells (h : Key) (u : Value) (hs : h.length = 32) (hu : u.oneCell' = true) (w : World) :
    (storeCells ⟨w.heap.size, 0, none⟩ (cmv h u).toList).run Try.prog (w.alloc (.cells #[.int .u8 0, .int .u8 0, .int .u8 0, .int .u8 0, .int .u8 0, .int .u8 0, .int .u8 0, .int .u8 0, .int .u8 0, .int .u8 0, .int .u8 0, .int .u8 0, .int .u8 0, .int .u8 0, .int .u8 0, .int .u8 0, .int .u8 0, .int .u8 0, .int .u8 0, .int .u8 0, .int .u8 0, .int .u8 0, .int .u8 0, .int .u8 0, .int .u8 0, .int .u8 0, .int .u8 0, .int .u8 0, .int .u8 0, .int .u8 0, .int .u8 0, .int .u8 0, .slice none 0 0] 49)) = .ok () (w.alloc (.cells (cmv h u) 49)) :=
  run_storeCells_new (P := Try.prog) w 49 czer (cmv h u) (cinfo _ (cmv_size hs u)) (by rw [cmv_size hs]; rfl) (by
    unfold cmv
    rw [Array.all_push]
    have := hv_one h
    simp [this, hu])
theorem cm_hld {w : World} {p : Nat} {h : Key} {u : Value} {t : TypeId} (hs : h.length = 32) (hp : w.heap[p]? = some (.cells (cmv h u) t (0, 0))) : (hld ⟨p, 0, none⟩).run Try.prog w = .ok (.agg (hv h)) w :=
  hld_range hs (fun j v hj => by
    have := range_row hp
    rw [cmv_list] at this
    refine this j v ?_
    rw [List.getElem?_append_left (List.getElem?_eq_some_iff.1 hj).1]
    exact hj)
theorem cm_cell {w : World} {p : Nat} {h : Key} {u : Value} {t : TypeId} (hs : h.length = 32) (hp : w.heap[p]? = some (.cells (cmv h u) t (0, 0))) : w.cell? ⟨p, 32, none⟩ = some u := by
  rw [cell_of_row w p 32 _ _ _ hp]
  unfold cmv
  rw [Array.getElem?_push, hv_size, hs, if_pos rfl]
/-- The slice v holds the commits cs. -/
def CSeen (w : World) (v : Value) (cs : List Cm) : Prop :=
  ∃ p cap, v = .slice p cs.length cap ∧ ∀ (i : Nat) (c : Cm), cs[i]? = some c → ∃ b o u, p = some ⟨b, o, none⟩ ∧ w.rangeAt b (o + i * 33) (us (nmb c.1) ++ [u]) ∧ HSeen w u c.2
theorem CSeen.mild {w w' : World} {v : Value} {cs : List Cm} (h : CSeen w v cs) (m : Mild w w') : CSeen w' v cs := by
  obtain ⟨p, cap, e, hc⟩ := h
  refine ⟨p, cap, e, fun i c hi => ?_⟩
  obtain ⟨b, o, u, h1, h2, h3⟩ := hc i c hi
  exact ⟨b, o, u, h1, hsr_kb h2 m, h3.mild m⟩
theorem CSeen.kb {w w' : World} {v : Value} {cs : List Cm} (h : CSeen w v cs) (k : Below w.heap.size w w') : CSeen w' v cs := h.mild (mild_below k)
theorem HSeen.one {w : World} {v : Value} {E : List Key} (h : HSeen w v E) : v.oneCell' = true := by
  rcases h with ⟨rfl, _⟩ | ⟨a, cap, rfl, _⟩ <;> rfl

set_option maxRecDepth 20000 in
set_option maxHeartbeats 2000000 in
attribute [local go_sem ↓] hld_open hne_open in
/-- slices.Equal. -/
theorem equal_to (w : World) (v u : Value) (E F : List Key) (hv' : HSeen w v E) (hu : HSeen w u F) (hE : H32 E) (hF : H32 F) (hEl : E.length ≤ 1000000) :
    Calls Try.prog 74 #[v, u] w fun e w' => e = .returned (.bool (decide (E = F))) ∧ Below w.heap.size w w' := by
  obtain ⟨p1, c1, rfl⟩ := hv'.shape
  obtain ⟨p2, c2, rfl⟩ := hu.shape
  by_cases hl : E.length = F.length
  · obtain ⟨n, hn⟩ : ∃ n, n = E.length := ⟨_, rfl⟩
    rw [← hl, ← hn] at hu ⊢
    rw [← hn] at hv' hEl
    have HV := Lib.hid hv'
    have HU := Lib.hid hu
    have HE := Lib.hid hE
    have HF := Lib.hid hF
    have HN := Lib.hid hn
    have HNF : Hid (n = F.length) := Lib.hid (hn.trans hl)
    have HL := Lib.hid hEl
    have d0 : decide ((n : Int) = n) = true := by simp
    clear hv' hu hE hF hEl hn hl
    go_enter Try.func74, Try.ntmps74
    go_wp2_with fail
    go_loopw [13] (fun s wr => ∃ i : Nat, s = .int .i64 i ∧ i ≤ n ∧ Hid (E.take i = F.take i) ∧ Hid (Below w.heap.size w wr))
      (fun s _ => n - (intOf s).toNat)
    case atStart => exact ⟨0, rfl, Nat.zero_le _, Lib.hid rfl, Lib.hid (Below.refl _ _)⟩
    case round =>
      obtain ⟨i, rfl, hi, T, B⟩ := hrel
      by_cases hlt : i < n
      · obtain ⟨j1, j2, j3⟩ := next_fit hlt HL.out
        have hiE : i < E.length := by rw [← HN.out]; exact hlt
        have hiF : i < F.length := by rw [← HNF.out]; exact hlt
        obtain ⟨b, o, c', e1, hrg⟩ := (HV.out.mild (mild_below B.out)).at HE.out hiE
        injection e1 with e1 e2 e3
        subst e1
        obtain ⟨b', o', c'', e1', hrg'⟩ := (HU.out.mild (mild_below B.out)).at HF.out hiF
        injection e1' with e1' e2' e3'
        subst e1'
        have hx := HE.out.at hiE
        have hy := HF.out.at hiF
        have hTE : E.take (i + 1) = E.take i ++ [E[i]] := by rw [List.take_add_one, List.getElem?_eq_getElem hiE]; rfl
        have hTF : F.take (i + 1) = F.take i ++ [F[i]] := by rw [List.take_add_one, List.getElem?_eq_getElem hiF]; rfl
        have hld1 := fun j => hld_range (w := wr.drewN j) hx hrg
        have hld2 := fun j => hld_range (w := wr.drewN j) hy hrg'
        have hne := fun j => hne_hv hx hy (wr.drewN j)
        have HTE := Lib.hid hTE
        have HTF := Lib.hid hTF
        obtain ⟨x, hxe⟩ : ∃ x, x = E[i] := ⟨_, rfl⟩
        obtain ⟨y, hye⟩ : ∃ y, y = F[i] := ⟨_, rfl⟩
        have HEF : Hid (E = F → x = y) := Lib.hid (fun e => by subst e; rw [hxe, hye])
        rw [← hxe] at hld1 hne HTE
        rw [← hye] at hld2 hne HTF
        clear hrg hrg' hx hy hTE hTF hiE hiF hxe hye e2 e3 e2' e3'
        by_cases he : x = y
        · have HXY := Lib.hid he
          rw [decide_eq_true he] at hne
          generalize hv x = q at *
          generalize hv y = q' at *
          clear he
          go_wp2_with fail
          go_quiet (fail)
          go_wp2_with fail
          refine ⟨⟨i + 1, by rw [j1], hlt, Lib.hid (by rw [HTE.out, HTF.out, T.out, HXY.out]), Lib.hid (B.out.trans ((blw_qt _ _ wr).mono B.out.size))⟩, ?_⟩
          rw [j1]
          simp only [intOf]
          omega
        · have HXY : Hid (¬ E = F) := Lib.hid (fun e => he (HEF.out e))
          rw [decide_eq_false he] at hne
          generalize hv x = q at *
          generalize hv y = q' at *
          clear he
          go_wp2_with fail
          go_quiet (fail)
          go_wp2
          go_ret
          exact ⟨by rw [decide_eq_false HXY.out]; rfl, B.out.trans ((blw_qt _ _ wr).mono B.out.size)⟩
      · obtain rfl : i = n := by omega
        go_wp2
        go_ret
        have hT := T.out
        rw [List.take_of_length_le (by rw [HN.out]; exact Nat.le_refl _), List.take_of_length_le (by rw [HNF.out]; exact Nat.le_refl _)] at hT
        exact ⟨by rw [decide_eq_true hT]; rfl, B.out⟩
  · have HN : Hid (¬ E = F) := Lib.hid (fun e => hl (by rw [e]))
    have d0 : decide ((E.length : Int) = F.length) = false := by simp; omega
    have d1 : ((E.length : Int) != F.length) = true := by simp; omega
    obtain ⟨n, hn⟩ : ∃ n, n = E.length := ⟨_, rfl⟩
    obtain ⟨m, hm⟩ : ∃ m, m = F.length := ⟨_, rfl⟩
    rw [← hn, ← hm] at d0 d1 ⊢
    clear hv' hu hE hF hEl hl hn hm
    go_enter Try.func74, Try.ntmps74
    go_wp2
    go_ret
    exact ⟨by rw [decide_eq_false HN.out]; rfl, Below.refl _ _⟩

theorem rsort_nodup (l : List Key) : (rsort l).Nodup := (rsort_asc l).imp fun {a b} h e => by rw [e, less_irrefl] at h; cases h
theorem rsort_len_eq {l : List Key} (h : l.Nodup) : (rsort l).length = l.length :=
  Nat.le_antisymm (rsort_length l) (nodup_le h fun x hx => (rsort_mem l x).2 hx)
theorem rsort_len_lt {l : List Key} (h : ¬ l.Nodup) : (rsort l).length < l.length := by
  have : ∀ l : List Key, ¬ l.Nodup → ∃ m : List Key, m.length < l.length ∧ ∀ x ∈ l, x ∈ m := fun l => by
    induction l with
    | nil => exact fun h => absurd List.nodup_nil h
    | cons a l ih =>
      intro h
      by_cases ha : a ∈ l
      · exact ⟨l, by simp, fun x hx => (List.mem_cons.1 hx).elim (fun e => e ▸ ha) id⟩
      · obtain ⟨m, h1, h2⟩ := ih (fun hn => h (List.nodup_cons.2 ⟨ha, hn⟩))
        exact ⟨a :: m, by simpa using h1, fun x hx => (List.mem_cons.1 hx).elim (fun e => e ▸ List.mem_cons_self) (fun e => List.mem_cons_of_mem _ (h2 x e))⟩
  obtain ⟨m, h1, h2⟩ := this l h
  exact Nat.lt_of_le_of_lt (nodup_le (rsort_nodup l) fun x hx => h2 x ((rsort_mem l x).1 hx)) h1
/-- What a refusal is: its kind, and whose hash. -/
abbrev Rf := Option (Int × Option Key)
def ErrW (w : World) (v : Value) : Rf → Prop
  | none => v = .nilIface
  | some (k, none) => v = kind k
  | some (k, some h) => h.length = 32 ∧ ∃ p, v = whv p ∧ Wh w p (hv h) k
theorem ErrW.kb {w w' : World} {v : Value} : ∀ {r : Rf}, ErrW w v r → Below w.heap.size w w' → ErrW w' v r
  | none, h, _ => h
  | some (_, none), h, _ => h
  | some (_, some _), h, b => by
    obtain ⟨h1, p, h2, h3⟩ := h
    exact ⟨h1, p, h2, h3.kb b⟩
/-- oops.Of of a kind. -/
theorem of_kind (w : World) (h : Key) (hh : h.length = 32) (k : Int) : Calls Try.prog 73 #[.agg (hv h), kind k] w fun e w' => ∃ v, e = .returned v ∧ (∃ p, v = whv p) ∧ ErrW w' v (some (k, some h)) ∧ Below w.heap.size w w' := by
  refine (of_any w (hv h) (by rw [hv_size, hh]) _ _).mono ?_
  rintro e w' ⟨rfl, rfl⟩
  have b1 : Below w.heap.size w (w.alloc (.cells (hv h) 28)) := (Below.refl _ w).alloc (Nat.le_refl _) _
  have := heap_alloc_last (w.alloc (.cells (hv h) 28)) (.cells ((hv h).push (kind k)) 124)
  rw [show (w.alloc (.cells (hv h) 28)).heap.size = w.heap.size + 1 by simp] at this
  exact ⟨_, rfl, ⟨_, rfl⟩, ⟨hh, _, rfl, this, by rw [hv_size, hh]⟩, b1.alloc b1.size _⟩
/-- The first commit with too many parents, or with one of them twice. -/
def ck2 : List Cm → Rf
  | [] => none
  | c :: cs => if 4 < c.2.length then some (8, some c.1) else if c.2.Nodup then ck2 cs else some (1, some c.1)
theorem drop_at {α : Type} {l : List α} {i : Nat} (hi : i < l.length) : l.drop i = l[i] :: l.drop (i + 1) := List.drop_eq_getElem_cons hi
set_option maxRecDepth 20000 in
set_option maxHeartbeats 4000000 in
attribute [local go_sem ↓] hld_open cld_open in
theorem checkLists_to (w : World) (v : Value) (cs : List Cm) (hv' : CSeen w v cs) (hok : COk cs) (hl : cs.length ≤ 1000000) (hp : ∀ c ∈ cs, c.2.length ≤ 1000000) :
    Calls Try.prog 60 #[v] w fun e w' => ∃ x, e = .returned x ∧ ErrW w' x (ck2 cs) ∧ Below w.heap.size w w' := by
  obtain ⟨p, cap, rfl, hc⟩ := id hv'
  clear hc
  obtain ⟨n, hn⟩ : ∃ n, n = cs.length := ⟨_, rfl⟩
  rw [← hn] at hv' hl ⊢
  have HV := Lib.hid hv'
  have HO := Lib.hid hok
  have HP := Lib.hid hp
  have HN := Lib.hid hn
  have HL := Lib.hid hl
  clear hv' hok hl hp hn
  go_enter Try.func60, Try.ntmps60
  go_wp2_with fail
  go_loopw [7] (fun s wr => ∃ i : Nat, s = .int .i64 i ∧ i ≤ n ∧ Hid (ck2 cs = ck2 (cs.drop i)) ∧ Hid (Below w.heap.size w wr))
    (fun s _ => n - (intOf s).toNat)
  case atStart => exact ⟨0, rfl, Nat.zero_le _, Lib.hid rfl, Lib.hid (Below.refl _ _)⟩
  case round =>
    obtain ⟨i, rfl, hi, T, B⟩ := hrel
    by_cases hlt : i < n
    · obtain ⟨j1, j2, j3⟩ := next_fit hlt HL.out
      have hiE : i < cs.length := by rw [← HN.out]; exact hlt
      obtain ⟨p', cap', e1, hc⟩ := HV.out.mild (mild_below B.out)
      injection e1 with e1 e2 e3
      obtain ⟨b, o, u, rfl, hrg, hsn⟩ := hc i cs[i] (List.getElem?_eq_getElem hiE)
      subst e1
      have hck : ck2 (cs.drop i) = if 4 < cs[i].2.length then some (8, some cs[i].1) else if cs[i].2.Nodup then ck2 (cs.drop (i + 1)) else some (1, some cs[i].1) := by rw [drop_at hiE]; rfl
      have hoki := HO.out _ (List.getElem_mem hiE)
      have hpi := HP.out _ (List.getElem_mem hiE)
      obtain ⟨⟨h, E⟩, hce⟩ : ∃ c : Cm, c = cs[i] := ⟨_, rfl⟩
      rw [← hce] at hrg hsn hck hoki hpi
      dsimp only at hrg hsn hck hoki hpi
      rw [← T.out] at hck
      have hh := hoki.1
      have hld0 := cld_range hh hrg
      have st := cst_cells h u hh hsn.one wr
      have hks : (cmv h u).size = 33 := cmv_size hh u
      have b3 : Below wr.heap.size wr (wr.alloc (.cells (cmv h u) 49)) := (Below.refl _ _).alloc (Nat.le_refl _) _
      have B3 : Hid (Below w.heap.size w (wr.alloc (.cells (cmv h u) 49))) := Lib.hid (B.out.alloc B.out.size _)
      have HV3 := heap_alloc_last wr (.cells (cmv h u) 49)
      have hld3 := cm_hld hh HV3
      have hc3 := cm_cell hh HV3
      have hsn3 := hsn.mild (mild_below b3)
      have hs3 : (wr.alloc (.cells (cmv h u) 49)).heap.size = wr.heap.size + 1 := by simp
      have HOF := Lib.hid (of_kind (wr.alloc (.cells (cmv h u) 49)) h hh)
      obtain ⟨pu, cu, rfl⟩ := hsn3.shape
      have HCK := Lib.hid hck
      have HH3 := Lib.hid HV3
      have HSN := Lib.hid hsn3
      have HOK := Lib.hid hoki
      have HPI := Lib.hid hpi
      obtain ⟨m, hm⟩ : ∃ m, m = E.length := ⟨_, rfl⟩
      rw [← hm] at hld0 st hks hld3 hc3 HH3 HSN HOF hs3 B3
      have HM := Lib.hid hm
      clear hrg hsn hck hoki hpi hh b3 HV3 hsn3 hc e2 e3 hce hm hiE
      generalize hw3 : wr.alloc (.cells (cmv h (.slice pu m cu)) 49) = w3 at *
      by_cases h4 : 4 < m
      · have hi4 : (m : Int) > 4 := by omega
        have H4 := Lib.hid h4
        clear h4
        generalize cmv h (.slice pu m cu) = q33 at *
        go_wp2_with fail
        refine (HOF.out 8).mono ?_
        rintro e w4 ⟨x, rfl, ⟨px, rfl⟩, hx, b4⟩
        go_wp2
        go_ret
        exact ⟨_, rfl, by rw [HCK.out, if_pos (by rw [← HM.out]; exact H4.out)]; exact hx, B3.out.trans (b4.mono B3.out.size)⟩
      · have hi4 : ¬ (m : Int) > 4 := by omega
        have H4 : Hid (¬ 4 < E.length) := Lib.hid (by rw [← HM.out]; exact h4)
        have HSO := Lib.hid (fun W (hW : Below w3.heap.size w3 W) => sort_to W (.slice pu m cu) E HOK.out.2 (srt_fit HPI.out) (HSN.out.mild (mild_below hW)))
        have HLD := Lib.hid (fun W (hW : Below w3.heap.size w3 W) => cm_hld (w := W) HOK.out.1 ((mild_below hW).cells HH3.out))
        have HO5 := Lib.hid (fun W (hW : Below w3.heap.size w3 W) => of_kind W h HOK.out.1)
        obtain ⟨k, hk⟩ : ∃ k, k = (rsort E).length := ⟨_, rfl⟩
        have HRS := Lib.hid hk.symm
        clear h4
        generalize cmv h (.slice pu m cu) = q33 at *
        by_cases hd : E.Nodup
        · have hkm : ¬ (k : Int) < m := by rw [hk, rsort_len_eq hd, ← HM.out]; omega
          have HD := Lib.hid hd
          clear hd hk
          go_wp2_with fail
          try simp only [List.append]
          refine wp_region_noPanic ?_
          refine wp_region_held_drew (S := (fun W => W.cell? ⟨wr.heap.size, 32, none⟩ = some (.slice pu m cu))) (by kernel_rfl) hc3 (fun hHeld => ?_)
          refine wpAnyH_take (i := 0) (v := ?_) (by simp only [List.getElem?_toArray, List.getElem?_cons_zero]; rfl) (by kernel_rfl) (by kernel_rfl) (by kernel_rfl) (fun _ _ _ h => h) (Or.inl ⟨by rfl, ?_⟩) (by assumption) ?_
          rotate_left
          · intro w hSw
            try dsimp only at hSw
            go_simp
            try with_reducible rfl
          try simp only [Act.put, List.setIfInBounds_toArray, List.set_cons_zero, List.set_cons_succ]
          refine wpAnyH_take (i := 1) (v := ?_) (by simp only [List.getElem?_toArray, List.getElem?_cons_succ, List.getElem?_cons_zero]; rfl) (by kernel_rfl) (by kernel_rfl) (by kernel_rfl) (fun _ _ _ h => h) (Or.inl ⟨by rfl, ?_⟩) (by assumption) ?_
          rotate_left
          · intro w hSw
            try dsimp only at hSw
            go_simp
            try with_reducible rfl
          try simp only [Act.put, List.setIfInBounds_toArray, List.set_cons_zero, List.set_cons_succ]
          refine wpAnyH_take (i := 4) (v := ?_) (by simp only [List.getElem?_toArray, List.getElem?_cons_succ, List.getElem?_cons_zero]; rfl) (by kernel_rfl) (by kernel_rfl) (by kernel_rfl) (fun _ _ _ h => h) (Or.inl ⟨by rfl, ?_⟩) (by assumption) ?_
          rotate_left
          · intro w hSw
            try dsimp only at hSw
            go_simp
            try with_reducible rfl
          try simp only [Act.put, List.setIfInBounds_toArray, List.set_cons_zero, List.set_cons_succ]
          refine wpAnyH_take (i := 5) (v := ?_) (by simp only [List.getElem?_toArray, List.getElem?_cons_succ, List.getElem?_cons_zero]; rfl) (by kernel_rfl) (by kernel_rfl) (by kernel_rfl) (fun _ _ _ h => h) (Or.inl ⟨by rfl, ?_⟩) (by assumption) ?_
          rotate_left
          · intro w hSw
            try dsimp only at hSw
            go_simp
            try with_reducible rfl
          try simp only [Act.put, List.setIfInBounds_toArray, List.set_cons_zero, List.set_cons_succ]
          refine wpAnyH_take (i := 6) (v := ?_) (by simp only [List.getElem?_toArray, List.getElem?_cons_succ, List.getElem?_cons_zero]; rfl) (by kernel_rfl) (by kernel_rfl) (by kernel_rfl) (fun _ _ _ h => h) (Or.inl ⟨by rfl, ?_⟩) (by assumption) ?_
          rotate_left
          · intro w hSw
            try dsimp only at hSw
            go_simp
            try with_reducible rfl
          try simp only [Act.put, List.setIfInBounds_toArray, List.set_cons_zero, List.set_cons_succ]
          refine wpAnyH_ready (rs := [2]) (by kernel_rfl) (by simp) ?_
          refine AllReadyH.cons (by simp only [List.getElem?_toArray, List.getElem?_cons_succ, List.getElem?_cons_zero]; rfl) (fun K hK => ?_) AllReadyH.nil
          go_simp
          refine (HSO.out w3.drew (blw_qt _ 1 w3)).mono ?_
          rintro e w5 ⟨v5, rfl, o5, b5⟩
          have b5' := blw_drn (m := 1) b5
          have c5' := (mild_below b5').cell hc3
          have hld5 := HLD.out w5 b5'
          have B5 : Hid (Below w.heap.size w w5) := Lib.hid (B3.out.trans (b5'.mono B3.out.size))
          obtain ⟨p5, q5, hv5⟩ := (HSeen.own o5).shape
          rw [HRS.out] at hv5
          subst hv5
          clear o5 b5 b5'
          go_wp2_with fail
          refine hK.out _ _ c5' (fun hHeld => ?_)
          clear hK K
          try simp only [Act.put, List.setIfInBounds_toArray, List.set_cons_zero, List.set_cons_succ]
          refine wpAnyH_take (i := 3) (v := ?_) (by simp only [List.getElem?_toArray, List.getElem?_cons_succ, List.getElem?_cons_zero]; rfl) (by kernel_rfl) (by kernel_rfl) (by kernel_rfl) (fun _ _ _ h => h) (Or.inl ⟨by rfl, ?_⟩) (by assumption) ?_
          rotate_left
          · intro w hSw
            try dsimp only at hSw
            go_simp
            try with_reducible rfl
          try simp only [Act.put, List.setIfInBounds_toArray, List.set_cons_zero, List.set_cons_succ]
          refine wpAnyH_take (i := 7) (v := ?_) (by simp only [List.getElem?_toArray, List.getElem?_cons_succ, List.getElem?_cons_zero]; rfl) (by kernel_rfl) (by kernel_rfl) (by kernel_rfl) (fun _ _ _ h => h) (Or.inl ⟨by rfl, ?_⟩) (by assumption) ?_
          rotate_left
          · intro w hSw
            try dsimp only at hSw
            go_simp
            try with_reducible rfl
          try simp only [Act.put, List.setIfInBounds_toArray, List.set_cons_zero, List.set_cons_succ]
          refine wpAnyH_done (by kernel_rfl) ?_ _
          refine NoPanic.normal ?_
          go_wp2_with fail
          refine ⟨⟨i + 1, by rw [j1], hlt, Lib.hid (by rw [HCK.out, if_neg H4.out, if_pos HD.out]), B5⟩, ?_⟩
          rw [j1]
          simp only [intOf]
          omega
        · have hkm : (k : Int) < m := by rw [hk]; have := rsort_len_lt hd; have := HM.out; omega
          have HD := Lib.hid hd
          clear hd hk
          go_wp2_with fail
          try simp only [List.append]
          refine wp_region_noPanic ?_
          refine wp_region_held_drew (S := (fun W => W.cell? ⟨wr.heap.size, 32, none⟩ = some (.slice pu m cu))) (by kernel_rfl) hc3 (fun hHeld => ?_)
          refine wpAnyH_take (i := 0) (v := ?_) (by simp only [List.getElem?_toArray, List.getElem?_cons_zero]; rfl) (by kernel_rfl) (by kernel_rfl) (by kernel_rfl) (fun _ _ _ h => h) (Or.inl ⟨by rfl, ?_⟩) (by assumption) ?_
          rotate_left
          · intro w hSw
            try dsimp only at hSw
            go_simp
            try with_reducible rfl
          try simp only [Act.put, List.setIfInBounds_toArray, List.set_cons_zero, List.set_cons_succ]
          refine wpAnyH_take (i := 1) (v := ?_) (by simp only [List.getElem?_toArray, List.getElem?_cons_succ, List.getElem?_cons_zero]; rfl) (by kernel_rfl) (by kernel_rfl) (by kernel_rfl) (fun _ _ _ h => h) (Or.inl ⟨by rfl, ?_⟩) (by assumption) ?_
          rotate_left
          · intro w hSw
            try dsimp only at hSw
            go_simp
            try with_reducible rfl
          try simp only [Act.put, List.setIfInBounds_toArray, List.set_cons_zero, List.set_cons_succ]
          refine wpAnyH_take (i := 4) (v := ?_) (by simp only [List.getElem?_toArray, List.getElem?_cons_succ, List.getElem?_cons_zero]; rfl) (by kernel_rfl) (by kernel_rfl) (by kernel_rfl) (fun _ _ _ h => h) (Or.inl ⟨by rfl, ?_⟩) (by assumption) ?_
          rotate_left
          · intro w hSw
            try dsimp only at hSw
            go_simp
            try with_reducible rfl
          try simp only [Act.put, List.setIfInBounds_toArray, List.set_cons_zero, List.set_cons_succ]
          refine wpAnyH_take (i := 5) (v := ?_) (by simp only [List.getElem?_toArray, List.getElem?_cons_succ, List.getElem?_cons_zero]; rfl) (by kernel_rfl) (by kernel_rfl) (by kernel_rfl) (fun _ _ _ h => h) (Or.inl ⟨by rfl, ?_⟩) (by assumption) ?_
          rotate_left
          · intro w hSw
            try dsimp only at hSw
            go_simp
            try with_reducible rfl
          try simp only [Act.put, List.setIfInBounds_toArray, List.set_cons_zero, List.set_cons_succ]
          refine wpAnyH_take (i := 6) (v := ?_) (by simp only [List.getElem?_toArray, List.getElem?_cons_succ, List.getElem?_cons_zero]; rfl) (by kernel_rfl) (by kernel_rfl) (by kernel_rfl) (fun _ _ _ h => h) (Or.inl ⟨by rfl, ?_⟩) (by assumption) ?_
          rotate_left
          · intro w hSw
            try dsimp only at hSw
            go_simp
            try with_reducible rfl
          try simp only [Act.put, List.setIfInBounds_toArray, List.set_cons_zero, List.set_cons_succ]
          refine wpAnyH_ready (rs := [2]) (by kernel_rfl) (by simp) ?_
          refine AllReadyH.cons (by simp only [List.getElem?_toArray, List.getElem?_cons_succ, List.getElem?_cons_zero]; rfl) (fun K hK => ?_) AllReadyH.nil
          go_simp
          refine (HSO.out w3.drew (blw_qt _ 1 w3)).mono ?_
          rintro e w5 ⟨v5, rfl, o5, b5⟩
          have b5' := blw_drn (m := 1) b5
          have c5' := (mild_below b5').cell hc3
          have hld5 := HLD.out w5 b5'
          have B5 : Hid (Below w.heap.size w w5) := Lib.hid (B3.out.trans (b5'.mono B3.out.size))
          obtain ⟨p5, q5, hv5⟩ := (HSeen.own o5).shape
          rw [HRS.out] at hv5
          subst hv5
          clear o5 b5 b5'
          go_wp2_with fail
          refine hK.out _ _ c5' (fun hHeld => ?_)
          clear hK K
          try simp only [Act.put, List.setIfInBounds_toArray, List.set_cons_zero, List.set_cons_succ]
          refine wpAnyH_take (i := 3) (v := ?_) (by simp only [List.getElem?_toArray, List.getElem?_cons_succ, List.getElem?_cons_zero]; rfl) (by kernel_rfl) (by kernel_rfl) (by kernel_rfl) (fun _ _ _ h => h) (Or.inl ⟨by rfl, ?_⟩) (by assumption) ?_
          rotate_left
          · intro w hSw
            try dsimp only at hSw
            go_simp
            try with_reducible rfl
          try simp only [Act.put, List.setIfInBounds_toArray, List.set_cons_zero, List.set_cons_succ]
          refine wpAnyH_take (i := 7) (v := ?_) (by simp only [List.getElem?_toArray, List.getElem?_cons_succ, List.getElem?_cons_zero]; rfl) (by kernel_rfl) (by kernel_rfl) (by kernel_rfl) (fun _ _ _ h => h) (Or.inl ⟨by rfl, ?_⟩) (by assumption) ?_
          rotate_left
          · intro w hSw
            try dsimp only at hSw
            go_simp
            try with_reducible rfl
          try simp only [Act.put, List.setIfInBounds_toArray, List.set_cons_zero, List.set_cons_succ]
          refine wpAnyH_done (by kernel_rfl) ?_ _
          refine NoPanic.normal ?_
          have HO7 := Lib.hid (of_kind w5 h HOK.out.1 1)
          go_wp2_with fail
          refine HO7.out.mono ?_
          rintro e w6 ⟨x, rfl, ⟨px, rfl⟩, hx, b6⟩
          go_wp2
          go_ret
          exact ⟨_, rfl, by rw [HCK.out, if_neg H4.out, if_neg HD.out]; exact hx, B5.out.trans (b6.mono B5.out.size)⟩
    · obtain rfl : i = n := by omega
      go_wp2
      go_ret
      have hT := T.out
      rw [List.drop_eq_nil_of_le (by rw [HN.out]; exact Nat.le_refl _)] at hT
      exact ⟨_, rfl, by rw [hT]; rfl, B.out⟩
end Go.Proofs.Ythfkmfepeafgjaa
