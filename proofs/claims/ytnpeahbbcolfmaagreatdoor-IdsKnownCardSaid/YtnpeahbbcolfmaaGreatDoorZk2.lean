/- A part (2 of 4) of what is needed to prove: IdsKnown returns true, whatever the memory holds and whatever the schedule is. No condition. -/
import Derived.Test.YtnpeahbbcolfmaaGreatDoorZk1
import Derived.BigFrame
import Derived.Great.BuildSlice
import Derived.Deep.AppendLies
import Derived.Maps.AppendAt
import Derived.OwnWalkIn
import Derived.Deep.WholeRow
import Derived.Deep.Slices
import Derived.ChangeSame
import Derived.OpenShut
import Derived.Deep.Fields
import Derived.SizedLaws
import Derived.BigQuiet
import Derived.Deep.CutBlock
import Derived.Deep.CutRange
import Derived.Deep.MidRow
import Derived.Laws.OwnMore
set_option linter.unusedSimpArgs false
set_option linter.unusedVariables false
namespace Go.Proofs.YtnpeahbbcolfmaaGreatDoor
open Go.RowKit
open Go.Maps
abbrev Cm := Key × List Key
def COk (cs : List Cm) : Prop := ∀ c ∈ cs, c.1.length = 32 ∧ H32 c.2
/-- A commit's cells. -/
def cmv (h : Key) (u : Value) : Array Value := (hv h).push u
theorem cmv_size {h : Key} (hh : h.length = 32) (u : Value) : (cmv h u).size = 33 := by simp [cmv, hv_size, hh]
theorem cmv_list (h : Key) (u : Value) : (cmv h u).toList = us (nmb h) ++ [u] := by simp [cmv, hv_list]
def czer : Array Value := #[.int .u8 0, .int .u8 0, .int .u8 0, .int .u8 0, .int .u8 0, .int .u8 0, .int .u8 0, .int .u8 0, .int .u8 0, .int .u8 0, .int .u8 0, .int .u8 0, .int .u8 0, .int .u8 0, .int .u8 0, .int .u8 0, .int .u8 0, .int .u8 0, .int .u8 0, .int .u8 0, .int .u8 0, .int .u8 0, .int .u8 0, .int .u8 0, .int .u8 0, .int .u8 0, .int .u8 0, .int .u8 0, .int .u8 0, .int .u8 0, .int .u8 0, .int .u8 0, .slice none 0 0]
theorem cinfo (q : Array Value) (hs : q.size = 33) : (Tryz.prog.info? 34).map (·.size) = some q.size := by rw [hs]; kernel_rfl
/-- A commit is loaded: one step. -/
noncomputable def cld (a : Addr) : Sem Value := loadVar 34 a
theorem cld_open (a : Addr) : loadVar 34 a = cld a := rfl
theorem cld_range {w : World} {p o : Nat} {h : Key} {u : Value} (hs : h.length = 32) (hp : w.rangeAt p o (us (nmb h) ++ [u])) : (cld ⟨p, o, none⟩).run Tryz.prog w = .ok (.agg (cmv h u)) w := by
  have := run_loadVar_mid (P := Tryz.prog) w p o 34 (us (nmb h) ++ [u]) _ hp Tryz.underlying34 rfl (by
    rw [← cmv_list, Array.length_toList]; exact cinfo _ (cmv_size hs u))
  unfold cld
  rw [this, ← cmv_list]
theorem cst_cells (h : Key) (u : Value) (hs : h.length = 32) (hu : u.oneCell' = true) (w : World) :
    (storeCells ⟨w.heap.size, 0, none⟩ (cmv h u).toList).run Tryz.prog (w.alloc (.cells #[.int .u8 0, .int .u8 0, .int .u8 0, .int .u8 0, .int .u8 0, .int .u8 0, .int .u8 0, .int .u8 0, .int .u8 0, .int .u8 0, .int .u8 0, .int .u8 0, .int .u8 0, .int .u8 0, .int .u8 0, .int .u8 0, .int .u8 0, .int .u8 0, .int .u8 0, .int .u8 0, .int .u8 0, .int .u8 0, .int .u8 0, .int .u8 0, .int .u8 0, .int .u8 0, .int .u8 0, .int .u8 0, .int .u8 0, .int .u8 0, .int .u8 0, .int .u8 0, .slice none 0 0] 34)) = .ok () (w.alloc (.cells (cmv h u) 34)) :=
  run_storeCells_new (P := Tryz.prog) w 34 czer (cmv h u) (cinfo _ (cmv_size hs u)) (by rw [cmv_size hs]; rfl) (by
    unfold cmv
    rw [Array.all_push]
    have := hv_one h
    simp [this, hu])
theorem cm_hld {w : World} {p : Nat} {h : Key} {u : Value} {t : TypeId} (hs : h.length = 32) (hp : w.heap[p]? = some (.cells (cmv h u) t (0, 0))) : (hld ⟨p, 0, none⟩).run Tryz.prog w = .ok (.agg (hv h)) w :=
  hld_range hs (fun j v hj => by
    have := range_row hp
    rw [cmv_list] at this
    refine this j v ?_
    rw [List.getElem?_append_left (List.getElem?_eq_some_iff.1 hj).1]
    exact hj)
theorem cm_cell {w : World} {p : Nat} {h : Key} {u : Value} {t : TypeId} (hs : h.length = 32) (hp : w.heap[p]? = some (.cells (cmv h u) t (0, 0))) : w.cell? ⟨p, 32, none⟩ = some u := by
  rw [cell_of_row w p 32 _ _ _ hp]
  unfold cmv
  rw [Array.getElem?_push, hv_size, hs, if_pos rfl]
/-- The slice v holds the commits cs. -/
def CSeen (w : World) (v : Value) (cs : List Cm) : Prop :=
  ∃ p cap, v = .slice p cs.length cap ∧ ∀ (i : Nat) (c : Cm), cs[i]? = some c → ∃ b o u, p = some ⟨b, o, none⟩ ∧ w.rangeAt b (o + i * 33) (us (nmb c.1) ++ [u]) ∧ HSeen w u c.2
theorem CSeen.mild {w w' : World} {v : Value} {cs : List Cm} (h : CSeen w v cs) (m : Mild w w') : CSeen w' v cs := by
  obtain ⟨p, cap, e, hc⟩ := h
  refine ⟨p, cap, e, fun i c hi => ?_⟩
  obtain ⟨b, o, u, h1, h2, h3⟩ := hc i c hi
  exact ⟨b, o, u, h1, hsr_kb h2 m, h3.mild m⟩
theorem CSeen.kb {w w' : World} {v : Value} {cs : List Cm} (h : CSeen w v cs) (k : Below w.heap.size w w') : CSeen w' v cs := h.mild (mild_below k)
theorem HSeen.one {w : World} {v : Value} {E : List Key} (h : HSeen w v E) : v.oneCell' = true := by
  rcases h with ⟨rfl, _⟩ | ⟨a, cap, rfl, _⟩ <;> rfl

set_option maxRecDepth 20000 in
set_option maxHeartbeats 2000000 in
attribute [local go_sem ↓] hld_open hne_open in
/-- slices.Equal. -/
theorem equal_to (w : World) (v u : Value) (E F : List Key) (hv' : HSeen w v E) (hu : HSeen w u F) (hE : H32 E) (hF : H32 F) (hEl : E.length ≤ 1000000) :
    Calls Tryz.prog 100 #[v, u] w fun e w' => e = .returned (.bool (decide (E = F))) ∧ Below w.heap.size w w' := by
  obtain ⟨p1, c1, rfl⟩ := hv'.shape
  obtain ⟨p2, c2, rfl⟩ := hu.shape
  by_cases hl : E.length = F.length
  · obtain ⟨n, hn⟩ : ∃ n, n = E.length := ⟨_, rfl⟩
    rw [← hl, ← hn] at hu ⊢
    rw [← hn] at hv' hEl
    have HV := Lib.hid hv'
    have HU := Lib.hid hu
    have HE := Lib.hid hE
    have HF := Lib.hid hF
    have HN := Lib.hid hn
    have HNF : Hid (n = F.length) := Lib.hid (hn.trans hl)
    have HL := Lib.hid hEl
    have d0 : decide ((n : Int) = n) = true := by simp
    clear hv' hu hE hF hEl hn hl
    go_enter Tryz.func100, Tryz.ntmps100
    go_wp2_with fail
    go_loopw [13] (fun s wr => ∃ i : Nat, s = .int .i64 i ∧ i ≤ n ∧ Hid (E.take i = F.take i) ∧ Hid (Below w.heap.size w wr))
      (fun s _ => n - (intOf s).toNat)
    case atStart => exact ⟨0, rfl, Nat.zero_le _, Lib.hid rfl, Lib.hid (Below.refl _ _)⟩
    case round =>
      obtain ⟨i, rfl, hi, T, B⟩ := hrel
      by_cases hlt : i < n
      · obtain ⟨j1, j2, j3⟩ := next_fit hlt HL.out
        have hiE : i < E.length := by rw [← HN.out]; exact hlt
        have hiF : i < F.length := by rw [← HNF.out]; exact hlt
        obtain ⟨b, o, c', e1, hrg⟩ := (HV.out.mild (mild_below B.out)).at HE.out hiE
        injection e1 with e1 e2 e3
        subst e1
        obtain ⟨b', o', c'', e1', hrg'⟩ := (HU.out.mild (mild_below B.out)).at HF.out hiF
        injection e1' with e1' e2' e3'
        subst e1'
        have hx := HE.out.at hiE
        have hy := HF.out.at hiF
        have hTE : E.take (i + 1) = E.take i ++ [E[i]] := by rw [List.take_add_one, List.getElem?_eq_getElem hiE]; rfl
        have hTF : F.take (i + 1) = F.take i ++ [F[i]] := by rw [List.take_add_one, List.getElem?_eq_getElem hiF]; rfl
        have hld1 := fun j => hld_range (w := wr.drewN j) hx hrg
        have hld2 := fun j => hld_range (w := wr.drewN j) hy hrg'
        have hne := fun j => hne_hv hx hy (wr.drewN j)
        have HTE := Lib.hid hTE
        have HTF := Lib.hid hTF
        obtain ⟨x, hxe⟩ : ∃ x, x = E[i] := ⟨_, rfl⟩
        obtain ⟨y, hye⟩ : ∃ y, y = F[i] := ⟨_, rfl⟩
        have HEF : Hid (E = F → x = y) := Lib.hid (fun e => by subst e; rw [hxe, hye])
        rw [← hxe] at hld1 hne HTE
        rw [← hye] at hld2 hne HTF
        clear hrg hrg' hx hy hTE hTF hiE hiF hxe hye e2 e3 e2' e3'
        by_cases he : x = y
        · have HXY := Lib.hid he
          rw [decide_eq_true he] at hne
          generalize hv x = q at *
          generalize hv y = q' at *
          clear he
          go_wp2_with fail
          go_quiet (fail)
          go_wp2_with fail
          refine ⟨⟨i + 1, by rw [j1], hlt, Lib.hid (by rw [HTE.out, HTF.out, T.out, HXY.out]), Lib.hid (B.out.trans ((blw_qt _ _ wr).mono B.out.size))⟩, ?_⟩
          rw [j1]
          simp only [intOf]
          omega
        · have HXY : Hid (¬ E = F) := Lib.hid (fun e => he (HEF.out e))
          rw [decide_eq_false he] at hne
          generalize hv x = q at *
          generalize hv y = q' at *
          clear he
          go_wp2_with fail
          go_quiet (fail)
          go_wp2
          go_ret
          exact ⟨by rw [decide_eq_false HXY.out]; rfl, B.out.trans ((blw_qt _ _ wr).mono B.out.size)⟩
      · obtain rfl : i = n := by omega
        go_wp2
        go_ret
        have hT := T.out
        rw [List.take_of_length_le (by rw [HN.out]; exact Nat.le_refl _), List.take_of_length_le (by rw [HNF.out]; exact Nat.le_refl _)] at hT
        exact ⟨by rw [decide_eq_true hT]; rfl, B.out⟩
  · have HN : Hid (¬ E = F) := Lib.hid (fun e => hl (by rw [e]))
    have d0 : decide ((E.length : Int) = F.length) = false := by simp; omega
    have d1 : ((E.length : Int) != F.length) = true := by simp; omega
    obtain ⟨n, hn⟩ : ∃ n, n = E.length := ⟨_, rfl⟩
    obtain ⟨m, hm⟩ : ∃ m, m = F.length := ⟨_, rfl⟩
    rw [← hn, ← hm] at d0 d1 ⊢
    clear hv' hu hE hF hEl hl hn hm
    go_enter Tryz.func100, Tryz.ntmps100
    go_wp2
    go_ret
    exact ⟨by rw [decide_eq_false HN.out]; rfl, Below.refl _ _⟩

theorem rsort_nodup (l : List Key) : (rsort l).Nodup := (rsort_asc l).imp fun {a b} h e => by rw [e, less_irrefl] at h; cases h
theorem rsort_len_eq {l : List Key} (h : l.Nodup) : (rsort l).length = l.length :=
  Nat.le_antisymm (rsort_length l) (nodup_le h fun x hx => (rsort_mem l x).2 hx)
theorem rsort_len_lt {l : List Key} (h : ¬ l.Nodup) : (rsort l).length < l.length := by
  have : ∀ l : List Key, ¬ l.Nodup → ∃ m : List Key, m.length < l.length ∧ ∀ x ∈ l, x ∈ m := fun l => by
    induction l with
    | nil => exact fun h => absurd List.nodup_nil h
    | cons a l ih =>
      intro h
      by_cases ha : a ∈ l
      · exact ⟨l, by simp, fun x hx => (List.mem_cons.1 hx).elim (fun e => e ▸ ha) id⟩
      · obtain ⟨m, h1, h2⟩ := ih (fun hn => h (List.nodup_cons.2 ⟨ha, hn⟩))
        exact ⟨a :: m, by simpa using h1, fun x hx => (List.mem_cons.1 hx).elim (fun e => e ▸ List.mem_cons_self) (fun e => List.mem_cons_of_mem _ (h2 x e))⟩
  obtain ⟨m, h1, h2⟩ := this l h
  exact Nat.lt_of_le_of_lt (nodup_le (rsort_nodup l) fun x hx => h2 x ((rsort_mem l x).1 hx)) h1
/-- What a refusal is: its kind, and whose hash. -/
abbrev Rf := Option (Int × Option Key)
def ErrW (w : World) (v : Value) : Rf → Prop
  | none => v = .nilIface
  | some (k, none) => v = kind k
  | some (k, some h) => h.length = 32 ∧ ∃ p, v = whv p ∧ Wh w p (hv h) k
theorem ErrW.kb {w w' : World} {v : Value} : ∀ {r : Rf}, ErrW w v r → Below w.heap.size w w' → ErrW w' v r
  | none, h, _ => h
  | some (_, none), h, _ => h
  | some (_, some _), h, b => by
    obtain ⟨h1, p, h2, h3⟩ := h
    exact ⟨h1, p, h2, h3.kb b⟩
/-- oops.Of of a kind. -/
theorem of_kind (w : World) (h : Key) (hh : h.length = 32) (k : Int) : Calls Tryz.prog 45 #[.agg (hv h), kind k] w fun e w' => ∃ v, e = .returned v ∧ (∃ p, v = whv p) ∧ ErrW w' v (some (k, some h)) ∧ Below w.heap.size w w' := by
  refine (of_any w (hv h) (by rw [hv_size, hh]) _ _).mono ?_
  rintro e w' ⟨rfl, rfl⟩
  have b1 : Below w.heap.size w (w.alloc (.cells (hv h) 31)) := (Below.refl _ w).alloc (Nat.le_refl _) _
  have := heap_alloc_last (w.alloc (.cells (hv h) 31)) (.cells ((hv h).push (kind k)) 107)
  rw [show (w.alloc (.cells (hv h) 31)).heap.size = w.heap.size + 1 by simp] at this
  exact ⟨_, rfl, ⟨_, rfl⟩, ⟨hh, _, rfl, this, by rw [hv_size, hh]⟩, b1.alloc b1.size _⟩
/-- The first commit with too many parents, or with one of them twice. -/
def ck2 : List Cm → Rf
  | [] => none
  | c :: cs => if 4 < c.2.length then some (8, some c.1) else if c.2.Nodup then ck2 cs else some (1, some c.1)
theorem drop_at {α : Type} {l : List α} {i : Nat} (hi : i < l.length) : l.drop i = l[i] :: l.drop (i + 1) := List.drop_eq_getElem_cons hi
set_option maxRecDepth 20000 in
set_option maxHeartbeats 4000000 in
attribute [local go_sem ↓] hld_open cld_open in
theorem checkLists_to (w : World) (v : Value) (cs : List Cm) (hv' : CSeen w v cs) (hok : COk cs) (hl : cs.length ≤ 1000000) (hp : ∀ c ∈ cs, c.2.length ≤ 1000000) :
    Calls Tryz.prog 68 #[v] w fun e w' => ∃ x, e = .returned x ∧ ErrW w' x (ck2 cs) ∧ Below w.heap.size w w' := by
  obtain ⟨p, cap, rfl, hc⟩ := id hv'
  clear hc
  obtain ⟨n, hn⟩ : ∃ n, n = cs.length := ⟨_, rfl⟩
  rw [← hn] at hv' hl ⊢
  have HV := Lib.hid hv'
  have HO := Lib.hid hok
  have HP := Lib.hid hp
  have HN := Lib.hid hn
  have HL := Lib.hid hl
  clear hv' hok hl hp hn
  go_enter Tryz.func68, Tryz.ntmps68
  go_wp2_with fail
  go_loopw [7] (fun s wr => ∃ i : Nat, s = .int .i64 i ∧ i ≤ n ∧ Hid (ck2 cs = ck2 (cs.drop i)) ∧ Hid (Below w.heap.size w wr))
    (fun s _ => n - (intOf s).toNat)
  case atStart => exact ⟨0, rfl, Nat.zero_le _, Lib.hid rfl, Lib.hid (Below.refl _ _)⟩
  case round =>
    obtain ⟨i, rfl, hi, T, B⟩ := hrel
    by_cases hlt : i < n
    · obtain ⟨j1, j2, j3⟩ := next_fit hlt HL.out
      have hiE : i < cs.length := by rw [← HN.out]; exact hlt
      obtain ⟨p', cap', e1, hc⟩ := HV.out.mild (mild_below B.out)
      injection e1 with e1 e2 e3
      obtain ⟨b, o, u, rfl, hrg, hsn⟩ := hc i cs[i] (List.getElem?_eq_getElem hiE)
      subst e1
      have hck : ck2 (cs.drop i) = if 4 < cs[i].2.length then some (8, some cs[i].1) else if cs[i].2.Nodup then ck2 (cs.drop (i + 1)) else some (1, some cs[i].1) := by rw [drop_at hiE]; rfl
      have hoki := HO.out _ (List.getElem_mem hiE)
      have hpi := HP.out _ (List.getElem_mem hiE)
      obtain ⟨⟨h, E⟩, hce⟩ : ∃ c : Cm, c = cs[i] := ⟨_, rfl⟩
      rw [← hce] at hrg hsn hck hoki hpi
      dsimp only at hrg hsn hck hoki hpi
      rw [← T.out] at hck
      have hh := hoki.1
      have hld0 := cld_range hh hrg
      have st := cst_cells h u hh hsn.one wr
      have hks : (cmv h u).size = 33 := cmv_size hh u
      have b3 : Below wr.heap.size wr (wr.alloc (.cells (cmv h u) 34)) := (Below.refl _ _).alloc (Nat.le_refl _) _
      have B3 : Hid (Below w.heap.size w (wr.alloc (.cells (cmv h u) 34))) := Lib.hid (B.out.alloc B.out.size _)
      have HV3 := heap_alloc_last wr (.cells (cmv h u) 34)
      have hld3 := cm_hld hh HV3
      have hc3 := cm_cell hh HV3
      have hsn3 := hsn.mild (mild_below b3)
      have hs3 : (wr.alloc (.cells (cmv h u) 34)).heap.size = wr.heap.size + 1 := by simp
      have HOF := Lib.hid (of_kind (wr.alloc (.cells (cmv h u) 34)) h hh)
      obtain ⟨pu, cu, rfl⟩ := hsn3.shape
      have HCK := Lib.hid hck
      have HH3 := Lib.hid HV3
      have HSN := Lib.hid hsn3
      have HOK := Lib.hid hoki
      have HPI := Lib.hid hpi
      obtain ⟨m, hm⟩ : ∃ m, m = E.length := ⟨_, rfl⟩
      rw [← hm] at hld0 st hks hld3 hc3 HH3 HSN HOF hs3 B3
      have HM := Lib.hid hm
      clear hrg hsn hck hoki hpi hh b3 HV3 hsn3 hc e2 e3 hce hm hiE
      generalize hw3 : wr.alloc (.cells (cmv h (.slice pu m cu)) 34) = w3 at *
      by_cases h4 : 4 < m
      · have hi4 : (m : Int) > 4 := by omega
        have H4 := Lib.hid h4
        clear h4
        generalize cmv h (.slice pu m cu) = q33 at *
        go_wp2_with fail
        refine (HOF.out 8).mono ?_
        rintro e w4 ⟨x, rfl, ⟨px, rfl⟩, hx, b4⟩
        go_wp2
        go_ret
        exact ⟨_, rfl, by rw [HCK.out, if_pos (by rw [← HM.out]; exact H4.out)]; exact hx, B3.out.trans (b4.mono B3.out.size)⟩
      · have hi4 : ¬ (m : Int) > 4 := by omega
        have H4 : Hid (¬ 4 < E.length) := Lib.hid (by rw [← HM.out]; exact h4)
        have HSO := Lib.hid (fun W (hW : Below w3.heap.size w3 W) => sort_to W (.slice pu m cu) E HOK.out.2 (srt_fit HPI.out) (HSN.out.mild (mild_below hW)))
        have HLD := Lib.hid (fun W (hW : Below w3.heap.size w3 W) => cm_hld (w := W) HOK.out.1 ((mild_below hW).cells HH3.out))
        have HO5 := Lib.hid (fun W (hW : Below w3.heap.size w3 W) => of_kind W h HOK.out.1)
        obtain ⟨k, hk⟩ : ∃ k, k = (rsort E).length := ⟨_, rfl⟩
        have HRS := Lib.hid hk.symm
        clear h4
        generalize cmv h (.slice pu m cu) = q33 at *
        by_cases hd : E.Nodup
        · have hkm : ¬ (k : Int) < m := by rw [hk, rsort_len_eq hd, ← HM.out]; omega
          have HD := Lib.hid hd
          clear hd hk
          go_wp2_with fail
          try simp only [List.append]
          refine wp_region_noPanic ?_
          refine wp_region_held_drew (S := (fun W => W.cell? ⟨wr.heap.size, 32, none⟩ = some (.slice pu m cu))) (by kernel_rfl) hc3 (fun hHeld => ?_)
          refine wpAnyH_take (i := 0) (v := ?_) (by simp only [List.getElem?_toArray, List.getElem?_cons_zero]; rfl) (by kernel_rfl) (by kernel_rfl) (by kernel_rfl) (fun _ _ _ h => h) (Or.inl ⟨by rfl, ?_⟩) (by assumption) ?_
          rotate_left
          · intro w hSw
            try dsimp only at hSw
            go_simp
            try with_reducible rfl
          try simp only [Act.put, List.setIfInBounds_toArray, List.set_cons_zero, List.set_cons_succ]
          refine wpAnyH_take (i := 1) (v := ?_) (by simp only [List.getElem?_toArray, List.getElem?_cons_succ, List.getElem?_cons_zero]; rfl) (by kernel_rfl) (by kernel_rfl) (by kernel_rfl) (fun _ _ _ h => h) (Or.inl ⟨by rfl, ?_⟩) (by assumption) ?_
          rotate_left
          · intro w hSw
            try dsimp only at hSw
            go_simp
            try with_reducible rfl
          try simp only [Act.put, List.setIfInBounds_toArray, List.set_cons_zero, List.set_cons_succ]
          refine wpAnyH_take (i := 4) (v := ?_) (by simp only [List.getElem?_toArray, List.getElem?_cons_succ, List.getElem?_cons_zero]; rfl) (by kernel_rfl) (by kernel_rfl) (by kernel_rfl) (fun _ _ _ h => h) (Or.inl ⟨by rfl, ?_⟩) (by assumption) ?_
          rotate_left
          · intro w hSw
            try dsimp only at hSw
            go_simp
            try with_reducible rfl
          try simp only [Act.put, List.setIfInBounds_toArray, List.set_cons_zero, List.set_cons_succ]
          refine wpAnyH_take (i := 5) (v := ?_) (by simp only [List.getElem?_toArray, List.getElem?_cons_succ, List.getElem?_cons_zero]; rfl) (by kernel_rfl) (by kernel_rfl) (by kernel_rfl) (fun _ _ _ h => h) (Or.inl ⟨by rfl, ?_⟩) (by assumption) ?_
          rotate_left
          · intro w hSw
            try dsimp only at hSw
            go_simp
            try with_reducible rfl
          try simp only [Act.put, List.setIfInBounds_toArray, List.set_cons_zero, List.set_cons_succ]
          refine wpAnyH_take (i := 6) (v := ?_) (by simp only [List.getElem?_toArray, List.getElem?_cons_succ, List.getElem?_cons_zero]; rfl) (by kernel_rfl) (by kernel_rfl) (by kernel_rfl) (fun _ _ _ h => h) (Or.inl ⟨by rfl, ?_⟩) (by assumption) ?_
          rotate_left
          · intro w hSw
            try dsimp only at hSw
            go_simp
            try with_reducible rfl
          try simp only [Act.put, List.setIfInBounds_toArray, List.set_cons_zero, List.set_cons_succ]
          refine wpAnyH_ready (rs := [2]) (by kernel_rfl) (by simp) ?_
          refine AllReadyH.cons (by simp only [List.getElem?_toArray, List.getElem?_cons_succ, List.getElem?_cons_zero]; rfl) (fun K hK => ?_) AllReadyH.nil
          go_simp
          refine (HSO.out w3.drew (blw_qt _ 1 w3)).mono ?_
          rintro e w5 ⟨v5, rfl, o5, b5⟩
          have b5' := blw_drn (m := 1) b5
          have c5' := (mild_below b5').cell hc3
          have hld5 := HLD.out w5 b5'
          have B5 : Hid (Below w.heap.size w w5) := Lib.hid (B3.out.trans (b5'.mono B3.out.size))
          obtain ⟨p5, q5, hv5⟩ := (HSeen.own o5).shape
          rw [HRS.out] at hv5
          subst hv5
          clear o5 b5 b5'
          go_wp2_with fail
          refine hK.out _ _ c5' (fun hHeld => ?_)
          clear hK K
          try simp only [Act.put, List.setIfInBounds_toArray, List.set_cons_zero, List.set_cons_succ]
          refine wpAnyH_take (i := 3) (v := ?_) (by simp only [List.getElem?_toArray, List.getElem?_cons_succ, List.getElem?_cons_zero]; rfl) (by kernel_rfl) (by kernel_rfl) (by kernel_rfl) (fun _ _ _ h => h) (Or.inl ⟨by rfl, ?_⟩) (by assumption) ?_
          rotate_left
          · intro w hSw
            try dsimp only at hSw
            go_simp
            try with_reducible rfl
          try simp only [Act.put, List.setIfInBounds_toArray, List.set_cons_zero, List.set_cons_succ]
          refine wpAnyH_take (i := 7) (v := ?_) (by simp only [List.getElem?_toArray, List.getElem?_cons_succ, List.getElem?_cons_zero]; rfl) (by kernel_rfl) (by kernel_rfl) (by kernel_rfl) (fun _ _ _ h => h) (Or.inl ⟨by rfl, ?_⟩) (by assumption) ?_
          rotate_left
          · intro w hSw
            try dsimp only at hSw
            go_simp
            try with_reducible rfl
          try simp only [Act.put, List.setIfInBounds_toArray, List.set_cons_zero, List.set_cons_succ]
          refine wpAnyH_done (by kernel_rfl) ?_ _
          refine NoPanic.normal ?_
          go_wp2_with fail
          refine ⟨⟨i + 1, by rw [j1], hlt, Lib.hid (by rw [HCK.out, if_neg H4.out, if_pos HD.out]), B5⟩, ?_⟩
          rw [j1]
          simp only [intOf]
          omega
        · have hkm : (k : Int) < m := by rw [hk]; have := rsort_len_lt hd; have := HM.out; omega
          have HD := Lib.hid hd
          clear hd hk
          go_wp2_with fail
          try simp only [List.append]
          refine wp_region_noPanic ?_
          refine wp_region_held_drew (S := (fun W => W.cell? ⟨wr.heap.size, 32, none⟩ = some (.slice pu m cu))) (by kernel_rfl) hc3 (fun hHeld => ?_)
          refine wpAnyH_take (i := 0) (v := ?_) (by simp only [List.getElem?_toArray, List.getElem?_cons_zero]; rfl) (by kernel_rfl) (by kernel_rfl) (by kernel_rfl) (fun _ _ _ h => h) (Or.inl ⟨by rfl, ?_⟩) (by assumption) ?_
          rotate_left
          · intro w hSw
            try dsimp only at hSw
            go_simp
            try with_reducible rfl
          try simp only [Act.put, List.setIfInBounds_toArray, List.set_cons_zero, List.set_cons_succ]
          refine wpAnyH_take (i := 1) (v := ?_) (by simp only [List.getElem?_toArray, List.getElem?_cons_succ, List.getElem?_cons_zero]; rfl) (by kernel_rfl) (by kernel_rfl) (by kernel_rfl) (fun _ _ _ h => h) (Or.inl ⟨by rfl, ?_⟩) (by assumption) ?_
          rotate_left
          · intro w hSw
            try dsimp only at hSw
            go_simp
            try with_reducible rfl
          try simp only [Act.put, List.setIfInBounds_toArray, List.set_cons_zero, List.set_cons_succ]
          refine wpAnyH_take (i := 4) (v := ?_) (by simp only [List.getElem?_toArray, List.getElem?_cons_succ, List.getElem?_cons_zero]; rfl) (by kernel_rfl) (by kernel_rfl) (by kernel_rfl) (fun _ _ _ h => h) (Or.inl ⟨by rfl, ?_⟩) (by assumption) ?_
          rotate_left
          · intro w hSw
            try dsimp only at hSw
            go_simp
            try with_reducible rfl
          try simp only [Act.put, List.setIfInBounds_toArray, List.set_cons_zero, List.set_cons_succ]
          refine wpAnyH_take (i := 5) (v := ?_) (by simp only [List.getElem?_toArray, List.getElem?_cons_succ, List.getElem?_cons_zero]; rfl) (by kernel_rfl) (by kernel_rfl) (by kernel_rfl) (fun _ _ _ h => h) (Or.inl ⟨by rfl, ?_⟩) (by assumption) ?_
          rotate_left
          · intro w hSw
            try dsimp only at hSw
            go_simp
            try with_reducible rfl
          try simp only [Act.put, List.setIfInBounds_toArray, List.set_cons_zero, List.set_cons_succ]
          refine wpAnyH_take (i := 6) (v := ?_) (by simp only [List.getElem?_toArray, List.getElem?_cons_succ, List.getElem?_cons_zero]; rfl) (by kernel_rfl) (by kernel_rfl) (by kernel_rfl) (fun _ _ _ h => h) (Or.inl ⟨by rfl, ?_⟩) (by assumption) ?_
          rotate_left
          · intro w hSw
            try dsimp only at hSw
            go_simp
            try with_reducible rfl
          try simp only [Act.put, List.setIfInBounds_toArray, List.set_cons_zero, List.set_cons_succ]
          refine wpAnyH_ready (rs := [2]) (by kernel_rfl) (by simp) ?_
          refine AllReadyH.cons (by simp only [List.getElem?_toArray, List.getElem?_cons_succ, List.getElem?_cons_zero]; rfl) (fun K hK => ?_) AllReadyH.nil
          go_simp
          refine (HSO.out w3.drew (blw_qt _ 1 w3)).mono ?_
          rintro e w5 ⟨v5, rfl, o5, b5⟩
          have b5' := blw_drn (m := 1) b5
          have c5' := (mild_below b5').cell hc3
          have hld5 := HLD.out w5 b5'
          have B5 : Hid (Below w.heap.size w w5) := Lib.hid (B3.out.trans (b5'.mono B3.out.size))
          obtain ⟨p5, q5, hv5⟩ := (HSeen.own o5).shape
          rw [HRS.out] at hv5
          subst hv5
          clear o5 b5 b5'
          go_wp2_with fail
          refine hK.out _ _ c5' (fun hHeld => ?_)
          clear hK K
          try simp only [Act.put, List.setIfInBounds_toArray, List.set_cons_zero, List.set_cons_succ]
          refine wpAnyH_take (i := 3) (v := ?_) (by simp only [List.getElem?_toArray, List.getElem?_cons_succ, List.getElem?_cons_zero]; rfl) (by kernel_rfl) (by kernel_rfl) (by kernel_rfl) (fun _ _ _ h => h) (Or.inl ⟨by rfl, ?_⟩) (by assumption) ?_
          rotate_left
          · intro w hSw
            try dsimp only at hSw
            go_simp
            try with_reducible rfl
          try simp only [Act.put, List.setIfInBounds_toArray, List.set_cons_zero, List.set_cons_succ]
          refine wpAnyH_take (i := 7) (v := ?_) (by simp only [List.getElem?_toArray, List.getElem?_cons_succ, List.getElem?_cons_zero]; rfl) (by kernel_rfl) (by kernel_rfl) (by kernel_rfl) (fun _ _ _ h => h) (Or.inl ⟨by rfl, ?_⟩) (by assumption) ?_
          rotate_left
          · intro w hSw
            try dsimp only at hSw
            go_simp
            try with_reducible rfl
          try simp only [Act.put, List.setIfInBounds_toArray, List.set_cons_zero, List.set_cons_succ]
          refine wpAnyH_done (by kernel_rfl) ?_ _
          refine NoPanic.normal ?_
          have HO7 := Lib.hid (of_kind w5 h HOK.out.1 1)
          go_wp2_with fail
          refine HO7.out.mono ?_
          rintro e w6 ⟨x, rfl, ⟨px, rfl⟩, hx, b6⟩
          go_wp2
          go_ret
          exact ⟨_, rfl, by rw [HCK.out, if_neg H4.out, if_neg HD.out]; exact hx, B5.out.trans (b6.mono B5.out.size)⟩
    · obtain rfl : i = n := by omega
      go_wp2
      go_ret
      have hT := T.out
      rw [List.drop_eq_nil_of_le (by rw [HN.out]; exact Nat.le_refl _)] at hT
      exact ⟨_, rfl, by rw [hT]; rfl, B.out⟩
end Go.Proofs.YtnpeahbbcolfmaaGreatDoor
namespace Go.Proofs.YtnpeahbbcolfmaaGreatDoor
open Go.RowKit
open Go.Maps
/-- The commits that are to be added, behind A. -/
def addA (G A : Gr) : List Cm → Gr
  | [] => A
  | c :: cs => addA G (if ((aget c.1 G).or (aget c.1 A)).isSome then A else aput c.1 c.2 A) cs
/-- The first commit that has another list of parents. -/
def ck3 (G A : Gr) : List Cm → Rf
  | [] => none
  | c :: cs => match (aget c.1 G).or (aget c.1 A) with
    | some ps => if ps = c.2 then ck3 G A cs else some (9, some c.1)
    | none => ck3 G (aput c.1 c.2 A) cs
/-- What added hands back. -/
def AdPost (w : World) (G : Gr) (cs : List Cm) (e : Ending) (w' : World) : Prop :=
  (∃ ba Y, ck3 G [] cs = none ∧ e = .returned (.tuple #[.map (some ba), .nilIface]) ∧ LAt w' ba Y ∧ gr Y = addA G [] cs ∧ w.heap.size ≤ ba ∧ Below w.heap.size w w') ∨
  (∃ r p, ck3 G [] cs = some r ∧ e = .returned (.tuple #[.map none, whv p]) ∧ ErrW w' (whv p) (some r) ∧ Below w.heap.size w w')
theorem lat_made (w : World) : LAt (w.alloc (.map #[] 0)) w.heap.size [] := ⟨MpH.made w, fun x h => by cases h⟩
theorem LAt.store {w w' : World} {b : Nat} {Y : Lx} {k : Key} {v : Value} {E : List Key} (h : LAt w b Y) (mp' : MpH w' b (aput k v (kvs Y))) (ho : Only (fun j => j = b) w w') (hv' : HSeen w v E) (hE : H32 E) : LAt w' b (aput k (v, E) Y) := by
  have hm := mild_map h.mp ho
  refine ⟨by rw [show kvs (aput k (v, E) Y) = aput k v (kvs Y) from amap_put _ _ _ _]; exact mp', fun x hx => ?_⟩
  rcases mem_aput.1 hx with rfl | ⟨hx, _⟩
  · exact ⟨hv'.mild hm, hE⟩
  · exact ⟨(h.seen x hx).1.mild hm, (h.seen x hx).2⟩
theorem gr_put (k : Key) (v : Value) (E : List Key) (Y : Lx) : gr (aput k (v, E) Y) = aput k E (gr Y) := amap_put _ _ _ _
theorem aput_len {α : Type} (k : Key) (v : α) (M : List (Key × α)) : (aput k v M).length ≤ M.length + 1 := by
  unfold aput
  have h1 : ∀ l : List (Key × α), (ains (k, v) l).length = l.length + 1 := fun l => by
    induction l with
    | nil => rfl
    | cons y l ih => unfold ains; split <;> simp [ih]
  rw [h1]
  have := List.length_filter_le (fun p : Key × α => !(p.1 == k)) M
  unfold adel
  omega
set_option maxRecDepth 20000 in
set_option maxHeartbeats 8000000 in
attribute [local go_sem ↓] hld_open cld_open in
theorem added_to (w : World) (g bm : Nat) (X : Lx) (v : Value) (cs : List Cm) (H : GA w g bm X) (hXp : ∀ x ∈ X, x.2.2.length ≤ 1000000) (hv' : CSeen w v cs) (hok : COk cs) (hl : cs.length ≤ 1000000) (hp : ∀ c ∈ cs, c.2.length ≤ 1000000) :
    Calls Tryz.prog 69 #[gp g, v] w (AdPost w (gr X) cs) := by
  obtain ⟨p, cap, rfl, hc⟩ := id hv'
  clear hc
  obtain ⟨n, hn⟩ : ∃ n, n = cs.length := ⟨_, rfl⟩
  rw [← hn] at hv' hl ⊢
  have HV := Lib.hid hv'
  have HO := Lib.hid hok
  have HN := Lib.hid hn
  have HL := Lib.hid hl
  have HP := Lib.hid hp
  have hmm := @run_makeMap Tryz.prog
  have b1 : Below w.heap.size w (w.alloc (.map #[] 0)) := (Below.refl _ w).alloc (Nat.le_refl _) _
  have HG := Lib.hid H
  have HXP := Lib.hid hXp
  have B1 := Lib.hid b1
  have HY0 := Lib.hid (lat_made w)
  clear hv' hok hl hn hp b1 H hXp
  go_enter Tryz.func69, Tryz.ntmps69
  go_wp2_with fail
  go_loopw [14] (fun s wr => ∃ (i : Nat) (Y : Lx), s = .int .i64 i ∧ i ≤ n ∧ Hid (ck3 (gr X) [] cs = ck3 (gr X) (gr Y) (cs.drop i)) ∧ Hid (addA (gr X) [] cs = addA (gr X) (gr Y) (cs.drop i)) ∧ Hid (LAt wr w.heap.size Y ∧ Y.length ≤ i ∧ ∀ y ∈ Y, y.2.2.length ≤ 1000000) ∧ Hid (Below w.heap.size w wr))
    (fun s _ => n - (intOf s).toNat)
  case atStart => exact ⟨0, [], rfl, Nat.zero_le _, Lib.hid rfl, Lib.hid rfl, Lib.hid ⟨HY0.out, Nat.le_refl _, fun y hy => by cases hy⟩, B1⟩
  case round =>
    clear HY0 B1
    obtain ⟨i, Y, rfl, hi, T, TA, HY, B⟩ := hrel
    by_cases hlt : i < n
    · obtain ⟨j1, j2, j3⟩ := next_fit hlt HL.out
      have hiE : i < cs.length := by rw [← HN.out]; exact hlt
      obtain ⟨p', cap', e1, hc⟩ := HV.out.mild (mild_below B.out)
      injection e1 with e1 e2 e3
      obtain ⟨b, o, u, rfl, hrg, hsn⟩ := hc i cs[i] (List.getElem?_eq_getElem hiE)
      subst e1
      have hdr : cs.drop i = cs[i] :: cs.drop (i + 1) := drop_at hiE
      have hoki := HO.out _ (List.getElem_mem hiE)
      have hmemi := List.getElem_mem hiE
      obtain ⟨⟨h, E⟩, hce⟩ : ∃ c : Cm, c = cs[i] := ⟨_, rfl⟩
      rw [← hce] at hrg hsn hdr hoki hmemi
      dsimp only at hrg hsn hoki
      have hh := hoki.1
      have hld0 := cld_range hh hrg
      have st := cst_cells h u hh hsn.one wr
      have hks : (cmv h u).size = 33 := cmv_size hh u
      have b3 : Below wr.heap.size wr (wr.alloc (.cells (cmv h u) 34)) := (Below.refl _ _).alloc (Nat.le_refl _) _
      have B3 : Hid (Below w.heap.size w (wr.alloc (.cells (cmv h u) 34))) := Lib.hid (B.out.alloc B.out.size _)
      have HV3 := heap_alloc_last wr (.cells (cmv h u) 34)
      have hsn3 := hsn.mild (mild_below b3)
      have hs3 : (wr.alloc (.cells (cmv h u) 34)).heap.size = wr.heap.size + 1 := by simp
      obtain ⟨pu, cu, rfl⟩ := hsn3.shape
      have HH3 := Lib.hid HV3
      have HSN := Lib.hid hsn3
      have HOK := Lib.hid hoki
      have HDR := Lib.hid hdr
      have HMI := Lib.hid hmemi
      obtain ⟨m, hm⟩ : ∃ m, m = E.length := ⟨_, rfl⟩
      rw [← hm] at hld0 st hks HH3 HSN hs3 B3
      have HB3 := Lib.hid b3
      rw [← hm] at HB3
      have HM := Lib.hid hm
      have HPI : Hid (E.length ≤ 1000000) := Lib.hid (HP.out _ hmemi)
      have HY3 : Hid (LAt (wr.alloc (.cells (cmv h (.slice pu m cu)) 34)) w.heap.size Y) := Lib.hid (HY.out.1.kb HB3.out)
      clear hrg hsn hdr hoki hmemi hh b3 HV3 hsn3 hc e2 e3 hce hm hiE
      generalize hw3 : wr.alloc (.cells (cmv h (.slice pu m cu)) 34) = w3 at *
      have HG3 := Lib.hid (HG.out.kb B3.out)
      have c0 := HG3.out.c0
      have hld3 := fun j => cm_hld (w := w3.drewN j) HOK.out.1 HH3.out
      have hlkA := fun j => (HG3.out.at_.mp.drew j).lookOk Tryz.underlying89 (lzero _) h HOK.out.1
      have hlkB := fun j => (HY3.out.mp.drew j).lookOk Tryz.underlying89 (lzero _) h HOK.out.1
      rw [kvs_get] at hlkA hlkB
      have hck : ck3 (gr X) [] cs = ck3 (gr X) (gr Y) ((h, E) :: cs.drop (i + 1)) := by rw [T.out, HDR.out]
      have had : addA (gr X) [] cs = addA (gr X) (gr Y) ((h, E) :: cs.drop (i + 1)) := by rw [TA.out, HDR.out]
      simp only [ck3] at hck
      simp only [addA] at had
      rw [gr_get, gr_get] at hck had
      cases hgX : aget h X with
      | some y =>
        obtain ⟨zv, ps⟩ := y
        rw [hgX] at hlkA hck had
        simp only [Option.map_some, Option.getD_some, Option.isSome_some, Option.some_or, if_true] at hlkA hck had
        have hseen := HG3.out.at_.seen _ (aget_mem hgX)
        dsimp only at hseen
        obtain ⟨pz, cz, rfl⟩ := hseen.1.shape
        have HEQ := Lib.hid (fun W (hW : Below w3.heap.size w3 W) => equal_to W (.slice pz ps.length cz) (.slice pu m cu) ps E (hseen.1.mild (mild_below hW)) (HSN.out.mild (mild_below hW)) hseen.2 HOK.out.2 (HXP.out _ (aget_mem hgX)))
        have HOF := Lib.hid (fun W => of_kind W h HOK.out.1 9)
        have HLD := Lib.hid (fun W (hW : Below w3.heap.size w3 W) => cm_hld (w := W) HOK.out.1 ((mild_below hW).cells HH3.out))
        have HCL := Lib.hid (fun W (hW : Below w3.heap.size w3 W) => cm_cell (w := W) HOK.out.1 ((mild_below hW).cells HH3.out))
        have HCK := Lib.hid hck
        have HAD := Lib.hid had
        obtain ⟨l, hl⟩ : ∃ l, l = ps.length := ⟨_, rfl⟩
        rw [← hl] at hlkA HEQ
        clear hck had hlkB hseen hgX hl
        generalize cmv h (.slice pu m cu) = q33 at *
        go_wp2_with fail
        go_quiet (fail)
        have b4 := blw_qt w3.heap.size nq w3
        clear hlkA hld3 c0
        generalize w3.drewN nq = w4 at *
        have hc4 := HCL.out w4 b4
        have B4 : Hid (Below w.heap.size w w4) := Lib.hid (B3.out.trans (b4.mono B3.out.size))
        have HB4 := Lib.hid b4
        clear b4 HCL
        go_wp2_with fail
        refine (HEQ.out w4 HB4.out).mono ?_
        rintro e w5 ⟨rfl, b5⟩
        have b5' : Below w3.heap.size w3 w5 := HB4.out.trans (b5.mono HB4.out.size)
        have hld5 := HLD.out w5 b5'
        have B5 : Hid (Below w.heap.size w w5) := Lib.hid (B3.out.trans (b5'.mono B3.out.size))
        have HY5 := Lib.hid (HY3.out.kb b5')
        have HOF5 := Lib.hid (HOF.out w5)
        clear b5 b5' hc4
        by_cases hpe : ps = E
        · rw [decide_eq_true hpe]
          have HPE := Lib.hid hpe
          clear hpe
          go_wp2_with fail
          refine ⟨⟨i + 1, Y, by rw [j1], hlt, Lib.hid (by rw [HCK.out, if_pos HPE.out]), HAD, Lib.hid ⟨HY5.out, Nat.le_trans HY.out.2.1 (Nat.le_succ _), HY.out.2.2⟩, B5⟩, ?_⟩
          rw [j1]; simp only [intOf]; omega
        · rw [decide_eq_false hpe]
          have HPE := Lib.hid hpe
          clear hpe
          go_wp2_with fail
          refine HOF5.out.mono ?_
          rintro e w6 ⟨x, rfl, ⟨px, rfl⟩, hx, b6⟩
          go_wp2
          go_ret2
          exact .inr ⟨_, px, by rw [HCK.out, if_neg HPE.out], rfl, hx, B5.out.trans (b6.mono B5.out.size)⟩
      | none =>
        rw [hgX] at hlkA hck had
        simp only [Option.map_none, Option.getD_none, Option.isSome_none, Option.none_or] at hlkA hck had
        cases hgY : aget h Y with
        | some y =>
          obtain ⟨zv, ps⟩ := y
          rw [hgY] at hlkB hck had
          simp only [Option.map_some, Option.getD_some, Option.isSome_some, if_true] at hlkB hck had
          have hseen := HY3.out.seen _ (aget_mem hgY)
          dsimp only at hseen
          obtain ⟨pz, cz, rfl⟩ := hseen.1.shape
          have HEQ := Lib.hid (fun W (hW : Below w3.heap.size w3 W) => equal_to W (.slice pz ps.length cz) (.slice pu m cu) ps E (hseen.1.mild (mild_below hW)) (HSN.out.mild (mild_below hW)) hseen.2 HOK.out.2 (HY.out.2.2 _ (aget_mem hgY)))
          have HOF := Lib.hid (fun W => of_kind W h HOK.out.1 9)
          have HLD := Lib.hid (fun W (hW : Below w3.heap.size w3 W) => cm_hld (w := W) HOK.out.1 ((mild_below hW).cells HH3.out))
          have HCL := Lib.hid (fun W (hW : Below w3.heap.size w3 W) => cm_cell (w := W) HOK.out.1 ((mild_below hW).cells HH3.out))
          have HCK := Lib.hid hck
          have HAD := Lib.hid had
          obtain ⟨l, hl⟩ : ∃ l, l = ps.length := ⟨_, rfl⟩
          rw [← hl] at hlkB HEQ
          clear hck had hseen hgY hgX hl
          generalize cmv h (.slice pu m cu) = q33 at *
          go_wp2_with fail
          go_quiet (fail)
          have b4 := blw_qt w3.heap.size nq w3
          have HLB := Lib.hid (hlkB nq)
          have HLDq := Lib.hid (hld3 nq)
          clear hlkA hlkB hld3 c0
          generalize w3.drewN nq = w4 at *
          have hlk4 := HLB.out
          have hld4 := HLDq.out
          have hc4 := HCL.out w4 b4
          have B4 : Hid (Below w.heap.size w w4) := Lib.hid (B3.out.trans (b4.mono B3.out.size))
          have HB4 := Lib.hid b4
          clear b4 HCL
          go_wp2_with fail
          refine (HEQ.out w4 HB4.out).mono ?_
          rintro e w5 ⟨rfl, b5⟩
          have b5' : Below w3.heap.size w3 w5 := HB4.out.trans (b5.mono HB4.out.size)
          have hld5 := HLD.out w5 b5'
          have B5 : Hid (Below w.heap.size w w5) := Lib.hid (B3.out.trans (b5'.mono B3.out.size))
          have HY5 := Lib.hid (HY3.out.kb b5')
          have HOF5 := Lib.hid (HOF.out w5)
          clear b5 b5' hc4
          by_cases hpe : ps = E
          · rw [decide_eq_true hpe]
            have HPE := Lib.hid hpe
            clear hpe
            go_wp2_with fail
            refine ⟨⟨i + 1, Y, by rw [j1], hlt, Lib.hid (by rw [HCK.out, if_pos HPE.out]), HAD, Lib.hid ⟨HY5.out, Nat.le_trans HY.out.2.1 (Nat.le_succ _), HY.out.2.2⟩, B5⟩, ?_⟩
            rw [j1]; simp only [intOf]; omega
          · rw [decide_eq_false hpe]
            have HPE := Lib.hid hpe
            clear hpe
            go_wp2_with fail
            refine HOF5.out.mono ?_
            rintro e w6 ⟨x, rfl, ⟨px, rfl⟩, hx, b6⟩
            go_wp2
            go_ret2
            exact .inr ⟨_, px, by rw [HCK.out, if_neg HPE.out], rfl, hx, B5.out.trans (b6.mono B5.out.size)⟩
        | none =>
          rw [hgY] at hlkB hck had
          simp only [Option.map_none, Option.getD_none, Option.isSome_none, Bool.false_eq_true, if_false] at hlkB hck had
          have HCL := Lib.hid (fun j => cm_cell (w := w3.drewN j) HOK.out.1 HH3.out)
          have HCK := Lib.hid hck
          have HAD := Lib.hid had
          have hYl : Y.length < maxLen := by have := HY.out.2.1; have := HL.out; unfold maxLen; omega
          clear hck had hgY hgX
          generalize cmv h (.slice pu m cu) = q33 at *
          go_wp2_with fail
          go_quiet (fail)
          have b4 := blw_qt w3.heap.size nq w3
          have HLB := Lib.hid (hlkB nq)
          have HLD := Lib.hid (hld3 nq)
          have HC4 := Lib.hid (HCL.out nq)
          clear hlkA hlkB hld3 c0 HCL
          generalize w3.drewN nq = w4 at *
          have hlk4 := HLB.out
          have hld4 := HLD.out
          have hc4 := HC4.out
          have Y4 := Lib.hid (HY3.out.kb b4)
          obtain ⟨w5, hmu, mp5, o5⟩ := Y4.out.mp.store Tryz.underlying89 h HOK.out.1 (by rw [kvs_len]; exact hYl) (.slice pu m cu)
          have HY5 := Lib.hid (Y4.out.store mp5 o5 (HSN.out.mild (mild_below b4)) HOK.out.2)
          have B5 : Hid (Below w.heap.size w w5) := Lib.hid (B3.out.trans ((b4.mono B3.out.size).trans (Only.below (S := fun j => j = w.heap.size) o5 (Nat.le_trans B3.out.size b4.size) (fun j hj => by omega))))
          clear b4 mp5 o5 hYl
          go_wp2_with fail
          refine ⟨⟨i + 1, aput h (.slice pu m cu, E) Y, by rw [j1], hlt, Lib.hid (by rw [gr_put]; exact HCK.out), Lib.hid (by rw [gr_put]; exact HAD.out), Lib.hid ⟨HY5.out, Nat.le_trans (aput_len _ _ _) (by have := HY.out.2.1; omega), fun y hy => ?_⟩, B5⟩, ?_⟩
          · rcases mem_aput.1 hy with rfl | ⟨hy, _⟩
            · exact HPI.out
            · exact HY.out.2.2 y hy
          · rw [j1]; simp only [intOf]; omega
    · obtain rfl : i = n := by omega
      go_wp2
      go_ret2
      have hT := T.out
      have hA := TA.out
      rw [List.drop_eq_nil_of_le (by rw [HN.out]; exact Nat.le_refl _)] at hT hA
      exact .inl ⟨_, Y, hT, rfl, HY.out.1, hA.symm, Nat.le_refl _, B.out⟩
end Go.Proofs.YtnpeahbbcolfmaaGreatDoor
namespace Go.Proofs.YtnpeahbbcolfmaaGreatDoor
open Go.RowKit
open Go.Maps
/-- The first hash that is nowhere. -/
def miss (G A : Gr) : List Key → Option Key
  | [] => none
  | p :: E => if (aget p G).isSome || (aget p A).isSome then miss G A E else some p
def ck5 (G A : Gr) (hs : List Key) : Rf := match miss G A hs with | some p => some (11, some p) | none => none
def ck4 (G A : Gr) : List Cm → Rf
  | [] => none
  | c :: cs => match miss G A c.2 with | some p => some (10, some p) | none => ck4 G A cs
open Classical in
noncomputable def ck6 (A : Gr) : List Cm → Rf
  | [] => none
  | c :: cs => if ∃ p ∈ c.2, Up (adj A) p c.1 then some (12, some c.1) else ck6 A cs

set_option maxRecDepth 20000 in
set_option maxHeartbeats 8000000 in
attribute [local go_sem ↓] hld_open in
theorem checkHeads_to (w : World) (g bm ba : Nat) (X Y : Lx) (v : Value) (hs : List Key) (H : GA w g bm X) (hY : LAt w ba Y) (hv' : HSeen w v hs) (h32 : H32 hs) (hl : hs.length ≤ 1000000) :
    Calls Tryz.prog 71 #[gp g, v, .map (some ba)] w fun e w' => ∃ x, e = .returned x ∧ ErrW w' x (ck5 (gr X) (gr Y) hs) ∧ Below w.heap.size w w' := by
  obtain ⟨p, cap, rfl⟩ := hv'.shape
  obtain ⟨n, hn⟩ : ∃ n, n = hs.length := ⟨_, rfl⟩
  rw [← hn] at hv' hl ⊢
  have HG := Lib.hid H
  have HY := Lib.hid hY
  have HV := Lib.hid hv'
  have H3 := Lib.hid h32
  have HN := Lib.hid hn
  have HL := Lib.hid hl
  clear H hY hv' h32 hn hl
  go_enter Tryz.func71, Tryz.ntmps71
  go_wp2_with fail
  go_loopw [11] (fun s wr => ∃ i : Nat, s = .int .i64 i ∧ i ≤ n ∧ Hid (miss (gr X) (gr Y) hs = miss (gr X) (gr Y) (hs.drop i)) ∧ Hid (Below w.heap.size w wr))
    (fun s _ => n - (intOf s).toNat)
  case atStart => exact ⟨0, rfl, Nat.zero_le _, Lib.hid rfl, Lib.hid (Below.refl _ _)⟩
  case round =>
    obtain ⟨i, rfl, hi, T, B⟩ := hrel
    by_cases hlt : i < n
    · obtain ⟨j1, j2, j3⟩ := next_fit hlt HL.out
      have hiE : i < hs.length := by rw [← HN.out]; exact hlt
      obtain ⟨b, o, c', e1, hrg⟩ := (HV.out.mild (mild_below B.out)).at H3.out hiE
      injection e1 with e1 e2 e3
      subst e1
      have hdr : hs.drop i = hs[i] :: hs.drop (i + 1) := drop_at hiE
      obtain ⟨x, hx⟩ : ∃ x, x = hs[i] := ⟨_, rfl⟩
      rw [← hx] at hrg hdr
      have hx32 : x.length = 32 := by rw [hx]; exact H3.out.at hiE
      have hld0 := hld_range hx32 hrg
      have st := hst_cells x hx32 wr
      have hks : (hv x).size = 32 := by rw [hv_size, hx32]
      have b3 : Below wr.heap.size wr (wr.alloc (.cells (hv x) 31)) := (Below.refl _ _).alloc (Nat.le_refl _) _
      have HV3 := Lib.hid (heap_alloc_last wr (.cells (hv x) 31))
      have hld3 := hld_row (w := wr.alloc (.cells (hv x) 31)) hx32 HV3.out
      have B3 : Hid (Below w.heap.size w (wr.alloc (.cells (hv x) 31))) := Lib.hid (B.out.alloc B.out.size _)
      have HHS := Lib.hid (has_to (wr.alloc (.cells (hv x) 31)) g bm X x hx32 (HG.out.kb B3.out))
      have HLS := Lib.hid (fun W (hW : Below w.heap.size w W) => lhas_to W ba (kvs Y) x hx32 (HY.out.kb hW).mp)
      have hs3 : (wr.alloc (.cells (hv x) 31)).heap.size = wr.heap.size + 1 := by simp
      have H32x := Lib.hid hx32
      have HDR := Lib.hid hdr
      have HOF := Lib.hid (fun W => of_kind W x hx32 11)
      have hq : (aget x (kvs Y)).isSome = (aget x (gr Y)).isSome := by rw [kvs_get, gr_get]; cases aget x Y <;> rfl
      rw [hq] at HLS
      have hms : miss (gr X) (gr Y) hs = if (aget x (gr X)).isSome || (aget x (gr Y)).isSome then miss (gr X) (gr Y) (hs.drop (i + 1)) else some x := by rw [T.out, hdr]; rfl
      have HMS := Lib.hid hms
      clear hx hrg hx32 b3 e2 e3 hiE hdr hq hms
      generalize hw3 : wr.alloc (.cells (hv x) 31) = w3 at *
      generalize (aget x (gr Y)).isSome = okA at HLS HMS
      cases hokG : (aget x (gr X)).isSome with
      | true =>
        rw [hokG] at HHS HMS
        go_wp2_with fail
        refine HHS.out.mono ?_
        rintro e w4 ⟨rfl, b4⟩
        rw [hs3] at b4
        have B4 : Hid (Below w.heap.size w w4) := Lib.hid (B3.out.trans (b4.mono (by have := B.out.size; omega)))
        skip
        clear b4
        go_wp2_with fail
        refine ⟨⟨i + 1, by rw [j1], hlt, Lib.hid (by rw [HMS.out]; rfl), B4⟩, ?_⟩
        rw [j1]; simp only [intOf]; omega
      | false =>
        rw [hokG] at HHS HMS
        go_wp2_with fail
        refine HHS.out.mono ?_
        rintro e w4 ⟨rfl, b4⟩
        rw [hs3] at b4
        have B4 : Hid (Below w.heap.size w w4) := Lib.hid (B3.out.trans (b4.mono (by have := B.out.size; omega)))
        have HV4 := Lib.hid ((b4.block wr.heap.size (by omega)).trans HV3.out)
        have hld4 := hld_row (w := w4) H32x.out HV4.out
        skip
        clear b4
        go_wp2_with fail
        refine (HLS.out w4 B4.out).mono ?_
        rintro e w5 ⟨rfl, b5⟩
        have HV5 := Lib.hid ((b5.block _ (Array.getElem?_eq_some_iff.1 HV4.out).1).trans HV4.out)
        have hld5 := hld_row (w := w5) H32x.out HV5.out
        have B5 : Hid (Below w.heap.size w w5) := Lib.hid (B4.out.trans (b5.mono B4.out.size))
        skip
        clear b5
        cases okA with
        | true =>
          go_wp2_with fail
          refine ⟨⟨i + 1, by rw [j1], hlt, Lib.hid (by rw [HMS.out]; rfl), B5⟩, ?_⟩
          rw [j1]; simp only [intOf]; omega
        | false =>
          go_wp2_with fail
          refine (HOF.out w5).mono ?_
          rintro e w6 ⟨z, rfl, ⟨pz, rfl⟩, hz, b6⟩
          go_wp2
          go_ret
          refine ⟨_, rfl, ?_, B5.out.trans (b6.mono B5.out.size)⟩
          unfold ck5
          rw [HMS.out]
          exact hz
    · obtain rfl : i = n := by omega
      go_wp2
      go_ret
      have hT := T.out
      rw [List.drop_eq_nil_of_le (by rw [HN.out]; exact Nat.le_refl _)] at hT
      exact ⟨_, rfl, by unfold ck5; rw [hT]; rfl, B.out⟩
set_option maxRecDepth 20000 in
set_option maxHeartbeats 8000000 in
attribute [local go_sem ↓] hld_open cld_open in
theorem checkParents_to (w : World) (g bm ba : Nat) (X Y : Lx) (v : Value) (cs : List Cm) (H : GA w g bm X) (hY : LAt w ba Y) (hv' : CSeen w v cs) (hok : COk cs) (hl : cs.length ≤ 1000000) (hp : ∀ c ∈ cs, c.2.length ≤ 1000000) :
    Calls Tryz.prog 70 #[gp g, v, .map (some ba)] w fun e w' => ∃ x, e = .returned x ∧ ErrW w' x (ck4 (gr X) (gr Y) cs) ∧ Below w.heap.size w w' := by
  obtain ⟨p, cap, rfl, hc⟩ := id hv'
  clear hc
  obtain ⟨n, hn⟩ : ∃ n, n = cs.length := ⟨_, rfl⟩
  rw [← hn] at hv' hl ⊢
  have HV := Lib.hid hv'
  have HO := Lib.hid hok
  have HN := Lib.hid hn
  have HL := Lib.hid hl
  have HP := Lib.hid hp
  have HG := Lib.hid H
  have HY := Lib.hid hY
  clear hv' hok hl hn hp H hY
  go_enter Tryz.func70, Tryz.ntmps70
  go_wp2_with fail
  go_loopw [13] (fun s wr => ∃ i : Nat, s = .int .i64 i ∧ i ≤ n ∧ Hid (ck4 (gr X) (gr Y) cs = ck4 (gr X) (gr Y) (cs.drop i)) ∧ Hid (Below w.heap.size w wr))
    (fun s _ => n - (intOf s).toNat)
  case atStart => exact ⟨0, rfl, Nat.zero_le _, Lib.hid rfl, Lib.hid (Below.refl _ _)⟩
  case round =>
    obtain ⟨i, rfl, hi, T, B⟩ := hrel
    by_cases hlt : i < n
    · obtain ⟨j1, j2, j3⟩ := next_fit hlt HL.out
      have hiE : i < cs.length := by rw [← HN.out]; exact hlt
      obtain ⟨p', cap', e1, hc⟩ := HV.out.mild (mild_below B.out)
      injection e1 with e1 e2 e3
      obtain ⟨b, o, u, rfl, hrg, hsn⟩ := hc i cs[i] (List.getElem?_eq_getElem hiE)
      subst e1
      have hdr : cs.drop i = cs[i] :: cs.drop (i + 1) := drop_at hiE
      have hoki := HO.out _ (List.getElem_mem hiE)
      have hmemi := List.getElem_mem hiE
      obtain ⟨⟨h, E⟩, hce⟩ : ∃ c : Cm, c = cs[i] := ⟨_, rfl⟩
      rw [← hce] at hrg hsn hdr hoki hmemi
      dsimp only at hrg hsn hoki
      have hh := hoki.1
      have hld0 := cld_range hh hrg
      have st := cst_cells h u hh hsn.one wr
      have hks : (cmv h u).size = 33 := cmv_size hh u
      have b3 : Below wr.heap.size wr (wr.alloc (.cells (cmv h u) 34)) := (Below.refl _ _).alloc (Nat.le_refl _) _
      have B3 : Hid (Below w.heap.size w (wr.alloc (.cells (cmv h u) 34))) := Lib.hid (B.out.alloc B.out.size _)
      have HV3 := heap_alloc_last wr (.cells (cmv h u) 34)
      have hsn3 := hsn.mild (mild_below b3)
      have hs3 : (wr.alloc (.cells (cmv h u) 34)).heap.size = wr.heap.size + 1 := by simp
      obtain ⟨pu, cu, rfl⟩ := hsn3.shape
      have HH3 := Lib.hid HV3
      have HSN := Lib.hid hsn3
      have HOK := Lib.hid hoki
      have HDR := Lib.hid hdr
      have HMI := Lib.hid hmemi
      obtain ⟨m, hm⟩ : ∃ m, m = E.length := ⟨_, rfl⟩
      rw [← hm] at hld0 st hks HH3 HSN hs3 B3
      have HB3 := Lib.hid b3
      rw [← hm] at HB3
      have HM := Lib.hid hm
      have HPI : Hid (E.length ≤ 1000000) := Lib.hid (HP.out _ hmemi)
      clear hrg hsn hdr hoki hmemi hh b3 HV3 hsn3 hc e2 e3 hce hm hiE
      generalize hV3 : wr.alloc (.cells (cmv h (.slice pu m cu)) 34) = V3 at *
      have hc3 := cm_cell HOK.out.1 HH3.out
      have HCK : Hid (ck4 (gr X) (gr Y) cs = match miss (gr X) (gr Y) E with | some p => some (10, some p) | none => ck4 (gr X) (gr Y) (cs.drop (i + 1))) := Lib.hid (by rw [T.out, HDR.out]; rfl)
      have HJ1 := Lib.hid j1
      have HLT := Lib.hid hlt
      generalize cmv h (.slice pu m cu) = q33 at *
      clear T
      generalize i = I at *
      have HB0 := Lib.hid B.out.size
      go_wp2_with fail
      go_loopw [20] (fun s wr => ∃ i : Nat, s = .int .i64 i ∧ i ≤ m ∧ Hid (miss (gr X) (gr Y) E = miss (gr X) (gr Y) (E.drop i)) ∧ Hid (Below w.heap.size w wr) ∧ Hid (Below V3.heap.size V3 wr))
        (fun s _ => m - (intOf s).toNat)
      case atStart => exact ⟨0, rfl, Nat.zero_le _, Lib.hid rfl, B3, Lib.hid (Below.refl _ _)⟩
      case round =>
        clear B3 B hld0 st hks
        have hMl : m ≤ 1000000 := by rw [HM.out]; exact HPI.out
        have HML := Lib.hid hMl
        clear hMl
        obtain ⟨i, rfl, hi, T, B, BV⟩ := hrel
        by_cases hlt : i < m
        · obtain ⟨j1, j2, j3⟩ := next_fit hlt HML.out
          have hiE : i < E.length := by rw [← HM.out]; exact hlt
          obtain ⟨b, o, c', e1, hrg⟩ := (HSN.out.mild (mild_below BV.out)).at HOK.out.2 hiE
          injection e1 with e1 e2 e3
          subst e1
          have hdr : E.drop i = E[i] :: E.drop (i + 1) := drop_at hiE
          obtain ⟨x, hx⟩ : ∃ x, x = E[i] := ⟨_, rfl⟩
          rw [← hx] at hrg hdr
          have hx32 : x.length = 32 := by rw [hx]; exact HOK.out.2.at hiE
          have hld0 := hld_range hx32 hrg
          have st := hst_cells x hx32 wr
          have hks : (hv x).size = 32 := by rw [hv_size, hx32]
          have b3 : Below wr.heap.size wr (wr.alloc (.cells (hv x) 31)) := (Below.refl _ _).alloc (Nat.le_refl _) _
          have HV3 := Lib.hid (heap_alloc_last wr (.cells (hv x) 31))
          have hld3 := hld_row (w := wr.alloc (.cells (hv x) 31)) hx32 HV3.out
          have B3 : Hid (Below w.heap.size w (wr.alloc (.cells (hv x) 31))) := Lib.hid (B.out.alloc B.out.size _)
          have BV3 : Hid (Below V3.heap.size V3 (wr.alloc (.cells (hv x) 31))) := Lib.hid (BV.out.alloc BV.out.size _)
          have HHS := Lib.hid (has_to (wr.alloc (.cells (hv x) 31)) g bm X x hx32 (HG.out.kb B3.out))
          have HLS := Lib.hid (fun W (hW : Below w.heap.size w W) => lhas_to W ba (kvs Y) x hx32 (HY.out.kb hW).mp)
          have hs3 : (wr.alloc (.cells (hv x) 31)).heap.size = wr.heap.size + 1 := by simp
          have H32x := Lib.hid hx32
          have HDR := Lib.hid hdr
          have HOF := Lib.hid (fun W => of_kind W x hx32 10)
          have hq : (aget x (kvs Y)).isSome = (aget x (gr Y)).isSome := by rw [kvs_get, gr_get]; cases aget x Y <;> rfl
          rw [hq] at HLS
          have hms : miss (gr X) (gr Y) E = if (aget x (gr X)).isSome || (aget x (gr Y)).isSome then miss (gr X) (gr Y) (E.drop (i + 1)) else some x := by rw [T.out, hdr]; rfl
          have HMS := Lib.hid hms
          clear hx hrg hx32 b3 e2 e3 hiE hdr hq hms
          generalize hw3 : wr.alloc (.cells (hv x) 31) = w3 at *
          generalize (aget x (gr Y)).isSome = okA at HLS HMS
          cases hokG : (aget x (gr X)).isSome with
          | true =>
            rw [hokG] at HHS HMS
            go_wp2_with fail
            refine HHS.out.mono ?_
            rintro e w4 ⟨rfl, b4⟩
            rw [hs3] at b4
            have B4 : Hid (Below w.heap.size w w4) := Lib.hid (B3.out.trans (b4.mono (by have := B.out.size; omega)))
            have BV4 : Hid (Below V3.heap.size V3 w4) := Lib.hid (BV3.out.trans (b4.mono (by have := BV.out.size; omega)))
            clear b4
            go_wp2_with fail
            refine ⟨⟨i + 1, by rw [j1], hlt, Lib.hid (by rw [HMS.out]; rfl), B4, BV4⟩, ?_⟩
            rw [j1]; simp only [intOf]; omega
          | false =>
            rw [hokG] at HHS HMS
            go_wp2_with fail
            refine HHS.out.mono ?_
            rintro e w4 ⟨rfl, b4⟩
            rw [hs3] at b4
            have B4 : Hid (Below w.heap.size w w4) := Lib.hid (B3.out.trans (b4.mono (by have := B.out.size; omega)))
            have HV4 := Lib.hid ((b4.block wr.heap.size (by omega)).trans HV3.out)
            have hld4 := hld_row (w := w4) H32x.out HV4.out
            have BV4 : Hid (Below V3.heap.size V3 w4) := Lib.hid (BV3.out.trans (b4.mono (by have := BV.out.size; omega)))
            clear b4
            go_wp2_with fail
            refine (HLS.out w4 B4.out).mono ?_
            rintro e w5 ⟨rfl, b5⟩
            have HV5 := Lib.hid ((b5.block _ (Array.getElem?_eq_some_iff.1 HV4.out).1).trans HV4.out)
            have hld5 := hld_row (w := w5) H32x.out HV5.out
            have B5 : Hid (Below w.heap.size w w5) := Lib.hid (B4.out.trans (b5.mono B4.out.size))
            have BV5 : Hid (Below V3.heap.size V3 w5) := Lib.hid (BV4.out.trans (b5.mono BV4.out.size))
            clear b5
            cases okA with
            | true =>
              go_wp2_with fail
              refine ⟨⟨i + 1, by rw [j1], hlt, Lib.hid (by rw [HMS.out]; rfl), B5, BV5⟩, ?_⟩
              rw [j1]; simp only [intOf]; omega
            | false =>
              go_wp2_with fail
              refine (HOF.out w5).mono ?_
              rintro e w6 ⟨z, rfl, ⟨pz, rfl⟩, hz, b6⟩
              go_wp2
              go_ret
              refine ⟨_, rfl, ?_, B5.out.trans (b6.mono B5.out.size)⟩
              rw [HCK.out, HMS.out]
              exact hz
        · obtain rfl : i = m := by omega
          have hT := T.out
          rw [List.drop_eq_nil_of_le (by rw [HM.out]; exact Nat.le_refl _)] at hT
          have HT := Lib.hid hT
          clear hT
          go_wp2_with fail
          refine ⟨⟨I + 1, by rw [HJ1.out], HLT.out, Lib.hid (by rw [HCK.out, HT.out]; rfl), B⟩, ?_⟩
          rw [HJ1.out]; simp only [intOf]
          have := HLT.out
          omega
    · obtain rfl : i = n := by omega
      go_wp2
      go_ret
      have hT := T.out
      rw [List.drop_eq_nil_of_le (by rw [HN.out]; exact Nat.le_refl _)] at hT
      exact ⟨_, rfl, by rw [hT]; rfl, B.out⟩
set_option maxRecDepth 20000 in
set_option maxHeartbeats 8000000 in
attribute [local go_sem ↓] hld_open cld_open in
theorem checkCycles_to (w : World) (ba : Nat) (Y : Lx) (v : Value) (cs : List Cm) (U : List Key) (hY : LAt w ba Y) (hv' : CSeen w v cs) (hok : COk cs) (hl : cs.length ≤ 1000000) (hp : ∀ c ∈ cs, c.2.length ≤ 1000)
    (hU : U.length ≤ 4000) (hcU : ∀ c ∈ cs, ∀ p ∈ c.2, p ∈ U) (hYU : ∀ x, ∀ p ∈ adj (gr Y) x, p ∈ U) (hYl : ∀ y ∈ Y, y.2.2.length ≤ 1000) :
    Calls Tryz.prog 72 #[v, .map (some ba)] w fun e w' => ∃ x, e = .returned x ∧ ErrW w' x (ck6 (gr Y) cs) ∧ Below w.heap.size w w' := by
  obtain ⟨p, cap, rfl, hc⟩ := id hv'
  clear hc
  obtain ⟨n, hn⟩ : ∃ n, n = cs.length := ⟨_, rfl⟩
  rw [← hn] at hv' hl ⊢
  have HV := Lib.hid hv'
  have HO := Lib.hid hok
  have HN := Lib.hid hn
  have HL := Lib.hid hl
  have HP := Lib.hid hp
  have HY := Lib.hid hY
  have HUl := Lib.hid hU
  have HCU := Lib.hid hcU
  have HYU := Lib.hid hYU
  have HYL := Lib.hid hYl
  clear hv' hok hl hn hp hY hU hcU hYU hYl
  go_enter Tryz.func72, Tryz.ntmps72
  go_wp2_with fail
  go_loopw [9] (fun s wr => ∃ i : Nat, s = .int .i64 i ∧ i ≤ n ∧ Hid (ck6 (gr Y) cs = ck6 (gr Y) (cs.drop i)) ∧ Hid (Below w.heap.size w wr))
    (fun s _ => n - (intOf s).toNat)
  case atStart => exact ⟨0, rfl, Nat.zero_le _, Lib.hid rfl, Lib.hid (Below.refl _ _)⟩
  case round =>
    obtain ⟨i, rfl, hi, T, B⟩ := hrel
    by_cases hlt : i < n
    · obtain ⟨j1, j2, j3⟩ := next_fit hlt HL.out
      have hiE : i < cs.length := by rw [← HN.out]; exact hlt
      obtain ⟨p', cap', e1, hc⟩ := HV.out.mild (mild_below B.out)
      injection e1 with e1 e2 e3
      obtain ⟨b, o, u, rfl, hrg, hsn⟩ := hc i cs[i] (List.getElem?_eq_getElem hiE)
      subst e1
      have hdr : cs.drop i = cs[i] :: cs.drop (i + 1) := drop_at hiE
      have hoki := HO.out _ (List.getElem_mem hiE)
      have hmemi := List.getElem_mem hiE
      obtain ⟨⟨h, E⟩, hce⟩ : ∃ c : Cm, c = cs[i] := ⟨_, rfl⟩
      rw [← hce] at hrg hsn hdr hoki hmemi
      dsimp only at hrg hsn hoki
      have hh := hoki.1
      have hld0 := cld_range hh hrg
      have st := cst_cells h u hh hsn.one wr
      have hks : (cmv h u).size = 33 := cmv_size hh u
      have b3 : Below wr.heap.size wr (wr.alloc (.cells (cmv h u) 34)) := (Below.refl _ _).alloc (Nat.le_refl _) _
      have B3 : Hid (Below w.heap.size w (wr.alloc (.cells (cmv h u) 34))) := Lib.hid (B.out.alloc B.out.size _)
      have HV3 := heap_alloc_last wr (.cells (cmv h u) 34)
      have hsn3 := hsn.mild (mild_below b3)
      have hs3 : (wr.alloc (.cells (cmv h u) 34)).heap.size = wr.heap.size + 1 := by simp
      obtain ⟨pu, cu, rfl⟩ := hsn3.shape
      have HH3 := Lib.hid HV3
      have HSN := Lib.hid hsn3
      have HOK := Lib.hid hoki
      have HDR := Lib.hid hdr
      have HMI := Lib.hid hmemi
      obtain ⟨m, hm⟩ : ∃ m, m = E.length := ⟨_, rfl⟩
      rw [← hm] at hld0 st hks HH3 HSN hs3 B3
      have HB3 := Lib.hid b3
      rw [← hm] at HB3
      have HM := Lib.hid hm
      have HPI : Hid (E.length ≤ 1000 ∧ ∀ p ∈ E, p ∈ U) := Lib.hid ⟨HP.out _ hmemi, HCU.out _ hmemi⟩
      clear hrg hsn hdr hoki hmemi hh b3 HV3 hsn3 hc e2 e3 hce hm hiE
      generalize hw3 : wr.alloc (.cells (cmv h (.slice pu m cu)) 34) = w3 at *
      have hc3 := cm_cell HOK.out.1 HH3.out
      have hld3 := cm_hld (w := w3.drew) HOK.out.1 HH3.out
      have HCL := Lib.hid (fun W (hW : Below w3.heap.size w3 W) => cm_cell (w := W) HOK.out.1 ((mild_below hW).cells HH3.out))
      have HLD := Lib.hid (fun W (hW : Below w3.heap.size w3 W) => cm_hld (w := W) HOK.out.1 ((mild_below hW).cells HH3.out))
      have HRE := Lib.hid (fun W (hW : Below w3.heap.size w3 W) => reach_to W ba Y (.slice pu m cu) E U (HY.out.kb (B3.out.trans (hW.mono B3.out.size))) (HSN.out.mild (mild_below hW)) HOK.out.2 (by have := HPI.out.1; omega) HUl.out HPI.out.2 HYU.out HYL.out)
      have HCK : Hid (ck6 (gr Y) cs = open Classical in if ∃ p ∈ E, Up (adj (gr Y)) p h then some (12, some h) else ck6 (gr Y) (cs.drop (i + 1))) := Lib.hid (by rw [T.out, HDR.out]; rfl)
      generalize cmv h (.slice pu m cu) = q33 at *
      go_wp2_with fail
      try simp only [List.append]
      refine wp_region_noPanic ?_
      refine wp_region_held_drew (S := (fun W => W.cell? ⟨wr.heap.size, 32, none⟩ = some (.slice pu m cu) ∧ (hld ⟨wr.heap.size, 0, none⟩).run Tryz.prog W = .ok (.agg (hv h)) W)) (by kernel_rfl) ⟨hc3, hld3⟩ (fun hHeld => ?_)
      refine wpAnyH_take (i := 0) (v := ?_) (by simp only [List.getElem?_toArray, List.getElem?_cons_zero]; rfl) (by kernel_rfl) (by kernel_rfl) (by kernel_rfl) (fun _ _ _ h => h) (Or.inl ⟨by rfl, ?_⟩) (by assumption) ?_
      rotate_left
      · intro w hSw
        try dsimp only at hSw
        go_simp
        try with_reducible rfl
      try simp only [Act.put, List.setIfInBounds_toArray, List.set_cons_zero, List.set_cons_succ]
      refine wpAnyH_take (i := 1) (v := ?_) (by simp only [List.getElem?_toArray, List.getElem?_cons_succ, List.getElem?_cons_zero]; rfl) (by kernel_rfl) (by kernel_rfl) (by kernel_rfl) (fun _ _ _ h => h) (Or.inl ⟨by rfl, ?_⟩) (by assumption) ?_
      rotate_left
      · intro w hSw
        try dsimp only at hSw
        go_simp
        try with_reducible rfl
      try simp only [Act.put, List.setIfInBounds_toArray, List.set_cons_zero, List.set_cons_succ]
      refine wpAnyH_take (i := 2) (v := ?_) (by simp only [List.getElem?_toArray, List.getElem?_cons_succ, List.getElem?_cons_zero]; rfl) (by kernel_rfl) (by kernel_rfl) (by kernel_rfl) (fun _ _ _ h => h) (Or.inl ⟨by rfl, ?_⟩) (by assumption) ?_
      rotate_left
      · intro w hSw
        try dsimp only at hSw
        go_simp
        try with_reducible rfl
      try simp only [Act.put, List.setIfInBounds_toArray, List.set_cons_zero, List.set_cons_succ]
      refine wpAnyH_take (i := 4) (v := ?_) (by simp only [List.getElem?_toArray, List.getElem?_cons_succ, List.getElem?_cons_zero]; rfl) (by kernel_rfl) (by kernel_rfl) (by kernel_rfl) (fun _ _ _ h => h) (Or.inl ⟨by rfl, ?_⟩) (by assumption) ?_
      rotate_left
      · intro w hSw
        try dsimp only at hSw
        go_simp
        try with_reducible rfl
      try simp only [Act.put, List.setIfInBounds_toArray, List.set_cons_zero, List.set_cons_succ]
      refine wpAnyH_take (i := 5) (v := ?_) (by simp only [List.getElem?_toArray, List.getElem?_cons_succ, List.getElem?_cons_zero]; rfl) (by kernel_rfl) (by kernel_rfl) (by kernel_rfl) (fun _ _ _ h => h) (Or.inl ⟨by rfl, ?_⟩) (by assumption) ?_
      rotate_left
      · intro w hSw
        try dsimp only at hSw
        go_simp
        try with_reducible rfl
      try simp only [Act.put, List.setIfInBounds_toArray, List.set_cons_zero, List.set_cons_succ]
      refine wpAnyH_ready (rs := [3]) (by kernel_rfl) (by simp) ?_
      refine AllReadyH.cons (by simp only [List.getElem?_toArray, List.getElem?_cons_succ, List.getElem?_cons_zero]; rfl) (fun K hK => ?_) AllReadyH.nil
      go_simp
      refine (HRE.out w3.drew (blw_qt _ 1 w3)).mono ?_
      rintro e w4 ⟨b4, R, rfl, hS, _, hR, _, bb4⟩
      have b5 := blw_drn (m := 1) bb4
      have c4 := HCL.out w4 b5
      have l4 := HLD.out w4 b5
      have HSH := Lib.hid (shas_to w4 b4 R h HOK.out.1 hS)
      have HR := Lib.hid (hR h)
      have HB5 := Lib.hid b5
      clear hS hR bb4 b5
      go_wp2_with fail
      refine hK.out _ _ ⟨c4, l4⟩ (fun hHeld => ?_)
      clear hK K
      try simp only [Act.put, List.setIfInBounds_toArray, List.set_cons_zero, List.set_cons_succ]
      by_cases hup : h ∈ R
      · rw [decide_eq_true hup] at HSH
        have HUP := Lib.hid (HR.out.1 hup)
        clear hup
        refine wpAnyH_ready (rs := [6]) (by kernel_rfl) (by simp) ?_
        refine AllReadyH.cons (by simp only [List.getElem?_toArray, List.getElem?_cons_succ, List.getElem?_cons_zero]; rfl) (fun K hK => ?_) AllReadyH.nil
        go_simp
        refine HSH.out.mono ?_
        rintro e w6 ⟨rfl, b6⟩
        have b7 := HB5.out.trans (b6.mono HB5.out.size)
        have c6 := HCL.out w6 b7
        have l6 := HLD.out w6 b7
        have B6 : Hid (Below w.heap.size w w6) := Lib.hid (B3.out.trans (b7.mono B3.out.size))
        have HOF := Lib.hid (of_kind w6 h HOK.out.1 12)
        clear b6 b7
        go_wp2_with fail
        refine hK.out _ _ ⟨c6, l6⟩ (fun hHeld => ?_)
        clear hK K
        try simp only [Act.put, List.setIfInBounds_toArray, List.set_cons_zero, List.set_cons_succ]
        refine wpAnyH_done (by kernel_rfl) ?_ _
        refine NoPanic.normal ?_
        go_wp2_with fail
        refine HOF.out.mono ?_
        rintro e w8 ⟨x, rfl, ⟨px, rfl⟩, hx, b8⟩
        go_wp2
        go_ret
        exact ⟨_, rfl, by rw [HCK.out, if_pos HUP.out]; exact hx, B6.out.trans (b8.mono B6.out.size)⟩
      · rw [decide_eq_false hup] at HSH
        have HUP : Hid (¬ ∃ p ∈ E, Up (adj (gr Y)) p h) := Lib.hid (fun e => hup (HR.out.2 e))
        clear hup
        refine wpAnyH_ready (rs := [6]) (by kernel_rfl) (by simp) ?_
        refine AllReadyH.cons (by simp only [List.getElem?_toArray, List.getElem?_cons_succ, List.getElem?_cons_zero]; rfl) (fun K hK => ?_) AllReadyH.nil
        go_simp
        refine HSH.out.mono ?_
        rintro e w6 ⟨rfl, b6⟩
        have b7 := HB5.out.trans (b6.mono HB5.out.size)
        have c6 := HCL.out w6 b7
        have l6 := HLD.out w6 b7
        have B6 : Hid (Below w.heap.size w w6) := Lib.hid (B3.out.trans (b7.mono B3.out.size))
        clear b6 b7
        go_wp2_with fail
        refine hK.out _ _ ⟨c6, l6⟩ (fun hHeld => ?_)
        clear hK K
        try simp only [Act.put, List.setIfInBounds_toArray, List.set_cons_zero, List.set_cons_succ]
        refine wpAnyH_done (by kernel_rfl) ?_ _
        refine NoPanic.normal ?_
        go_wp2_with fail
        refine ⟨⟨i + 1, by rw [j1], hlt, Lib.hid (by rw [HCK.out, if_neg HUP.out]), B6⟩, ?_⟩
        rw [j1]; simp only [intOf]; omega
    · obtain rfl : i = n := by omega
      go_wp2
      go_ret
      have hT := T.out
      rw [List.drop_eq_nil_of_le (by rw [HN.out]; exact Nat.le_refl _)] at hT
      exact ⟨_, rfl, by rw [hT]; rfl, B.out⟩
end Go.Proofs.YtnpeahbbcolfmaaGreatDoor
namespace Go.Proofs.YtnpeahbbcolfmaaGreatDoor
open Go.RowKit
open Go.Maps
theorem nn_iface (t : TypeId) (x : Value) (w : World) : (binOp .neq 26 (.iface t x) .nilIface).run Tryz.prog w = .ok (.bool true) w := by kernel_rfl
theorem nn_nil (w : World) : (binOp .neq 26 .nilIface .nilIface).run Tryz.prog w = .ok (.bool false) w := by kernel_rfl
/-- A request's bounds. -/
def bnd (grp : Int) (cs : List Cm) (hs : List Key) : Bool := (decide (grp = 1) || decide (grp = 2)) && decide (cs.length ≤ 200) && decide (hs.length ≤ 200)
noncomputable def chk (G : Gr) (grp : Int) (cs : List Cm) (hs : List Key) : Rf :=
  if bnd grp cs hs then
    (ck2 cs).or ((ck3 G [] cs).or ((ck4 G (addA G [] cs) cs).or ((ck5 G (addA G [] cs) hs).or ((ck6 (addA G [] cs) cs).or (if 1000 < G.length + (addA G [] cs).length then some (13, none) else none)))))
  else some (1, none)
theorem ErrW.form {w : World} {v : Value} : ∀ {r : Rf}, ErrW w v r → (r = none ∧ v = .nilIface) ∨ (r.isSome = true ∧ ∃ t x, v = .iface t x)
  | none, h => .inl ⟨rfl, h⟩
  | some (_, none), h => .inr ⟨rfl, _, _, h⟩
  | some (_, some _), h => by
    obtain ⟨_, p, h2, _⟩ := h
    exact .inr ⟨rfl, _, _, h2⟩
theorem or_left {r s : Rf} (h : r.isSome = true) : r.or s = r := by cases r <;> simp at h ⊢
theorem or_none {s : Rf} : (none : Rf).or s = s := rfl
theorem addA_mem {G : Gr} {x : Key} {ps : List Key} : ∀ {cs : List Cm} {A : Gr}, aget x (addA G A cs) = some ps → aget x A = some ps ∨ (x, ps) ∈ cs
  | [], A, h => .inl h
  | c :: cs, A, h => by
    rw [addA] at h
    rcases addA_mem h with h | h
    · split at h
      · exact .inl h
      · by_cases e : x = c.1
        · subst e
          rw [aget_put_same] at h
          injection h with h
          exact .inr (by rw [← h]; exact List.mem_cons_self)
        · rw [aget_put_other _ _ _ e] at h
          exact .inl h
    · exact .inr (List.mem_cons_of_mem _ h)
theorem ck2_none {cs : List Cm} : ck2 cs = none → ∀ c ∈ cs, c.2.length ≤ 4 ∧ c.2.Nodup := by
  induction cs with
  | nil => intro _ c hc; cases hc
  | cons d cs ih =>
    intro h c hc
    rw [ck2] at h
    by_cases h4 : 4 < d.2.length
    · rw [if_pos h4] at h; cases h
    · rw [if_neg h4] at h
      by_cases hn : d.2.Nodup
      · rw [if_pos hn] at h
        rcases List.mem_cons.1 hc with rfl | hc
        · exact ⟨by omega, hn⟩
        · exact ih h c hc
      · rw [if_neg hn] at h; cases h
theorem flat_len {cs : List Cm} (h : ∀ c ∈ cs, c.2.length ≤ 4) : (cs.flatMap (·.2)).length ≤ cs.length * 4 := by
  induction cs with
  | nil => simp
  | cons c cs ih =>
    have h1 := h c List.mem_cons_self
    have h2 := ih fun d hd => h d (List.mem_cons_of_mem _ hd)
    rw [List.flatMap_cons, List.length_append, List.length_cons]
    omega
theorem adj_some {G : Gr} {x p : Key} (h : p ∈ adj G x) : ∃ ps, aget x G = some ps ∧ p ∈ ps := by
  unfold adj at h
  cases hg : aget x G with
  | none => rw [hg] at h; cases h
  | some ps => rw [hg] at h; exact ⟨ps, rfl, h⟩
theorem addA_len {G : Gr} : ∀ (cs : List Cm) (A : Gr), (addA G A cs).length ≤ A.length + cs.length
  | [], A => Nat.le_refl _
  | c :: cs, A => by
    rw [addA, List.length_cons]
    split
    · have := addA_len (G := G) cs A; omega
    · have := addA_len (G := G) cs (aput c.1 c.2 A)
      have := aput_len c.1 c.2 A
      omega
theorem bounded_to (w : World) (grp : Int) (p1 p2 : Option Addr) (c1 c2 : Nat) (cs : List Cm) (hs : List Key) : Calls Tryz.prog 67 #[.agg #[.slice p1 cs.length c1, .slice p2 hs.length c2, .int .i64 grp]] w fun e w' => e = .returned (.bool (bnd grp cs hs)) ∧ Below w.heap.size w w' := by
  have hb : bnd grp cs hs = ((decide (grp = 1) || decide (grp = 2)) && decide (cs.length ≤ 200) && decide (hs.length ≤ 200)) := rfl
  generalize bnd grp cs hs = b at hb ⊢
  generalize cs.length = n at hb ⊢
  generalize hs.length = m at hb ⊢
  have HB := Lib.hid hb
  have B1 : Hid (Below w.heap.size w (w.alloc (.cells #[.slice p1 n c1, .slice p2 m c2, .int .i64 grp] 37))) := Lib.hid ((Below.refl _ w).alloc (Nat.le_refl _) _)
  clear hb
  by_cases g1 : grp = 1
  · subst g1
    by_cases hn : (n : Int) ≤ 200
    · have hn' : n ≤ 200 := by omega
      by_cases hm : (m : Int) ≤ 200
      · have hm' : m ≤ 200 := by omega
        have HB2 : Hid (b = true) := Lib.hid (by rw [HB.out]; simp [hn', hm'])
        clear HB hn' hm'
        go_enter Tryz.func67, Tryz.ntmps67
        go_wp2
        go_ret
        exact ⟨by rw [HB2.out]; rfl, B1.out⟩
      · have hm' : ¬ m ≤ 200 := by omega
        have HB2 : Hid (b = false) := Lib.hid (by rw [HB.out]; simp [hm'])
        clear HB hn' hm'
        go_enter Tryz.func67, Tryz.ntmps67
        go_wp2
        go_ret
        exact ⟨by rw [HB2.out]; rfl, B1.out⟩
    · have hn' : ¬ n ≤ 200 := by omega
      have HB2 : Hid (b = false) := Lib.hid (by rw [HB.out]; simp [hn'])
      clear HB hn'
      go_enter Tryz.func67, Tryz.ntmps67
      go_wp2
      go_ret
      exact ⟨by rw [HB2.out]; rfl, B1.out⟩
  · by_cases g2 : grp = 2
    · subst g2
      clear g1
      by_cases hn : (n : Int) ≤ 200
      · have hn' : n ≤ 200 := by omega
        by_cases hm : (m : Int) ≤ 200
        · have hm' : m ≤ 200 := by omega
          have HB2 : Hid (b = true) := Lib.hid (by rw [HB.out]; simp [hn', hm'])
          clear HB hn' hm'
          go_enter Tryz.func67, Tryz.ntmps67
          go_wp2
          go_ret
          exact ⟨by rw [HB2.out]; rfl, B1.out⟩
        · have hm' : ¬ m ≤ 200 := by omega
          have HB2 : Hid (b = false) := Lib.hid (by rw [HB.out]; simp [hm'])
          clear HB hn' hm'
          go_enter Tryz.func67, Tryz.ntmps67
          go_wp2
          go_ret
          exact ⟨by rw [HB2.out]; rfl, B1.out⟩
      · have hn' : ¬ n ≤ 200 := by omega
        have HB2 : Hid (b = false) := Lib.hid (by rw [HB.out]; simp [hn'])
        clear HB hn'
        go_enter Tryz.func67, Tryz.ntmps67
        go_wp2
        go_ret
        exact ⟨by rw [HB2.out]; rfl, B1.out⟩
    · have HB2 : Hid (b = false) := Lib.hid (by rw [HB.out]; simp [g1, g2])
      have e1 : (grp != 1) = true := by simp [g1]
      have e2 : (grp != 2) = true := by simp [g2]
      clear HB g1 g2
      go_enter Tryz.func67, Tryz.ntmps67
      go_wp2
      go_ret
      exact ⟨by rw [HB2.out]; rfl, B1.out⟩

theorem full_fits {a b : Nat} (ha : a ≤ 1000000) (hb : b ≤ 1000000) : wrap64 ((a : Int) + b) = ((a + b : Nat) : Int) ∧ ((((a + b : Nat) : Int) > 1000) ↔ 1000 < a + b) := by unfold wrap64; omega
set_option maxRecDepth 20000 in
set_option maxHeartbeats 8000000 in
theorem check_to (w : World) (g bm : Nat) (X : Lx) (v u : Value) (grp : Int) (cs : List Cm) (hs : List Key) (H : GA w g bm X) (hXl : X.length ≤ 1000) (hXp : ∀ x ∈ X, x.2.2.length ≤ 1000)
    (hv' : CSeen w v cs) (hu : HSeen w u hs) (hok : COk cs) (h32 : H32 hs) (hl : cs.length ≤ 1000000) (hp : ∀ c ∈ cs, c.2.length ≤ 1000000) (hhl : hs.length ≤ 1000000) :
    Calls Tryz.prog 31 #[gp g, .agg #[v, u, .int .i64 grp]] w fun e w' => ∃ x, e = .returned x ∧ ErrW w' x (chk (gr X) grp cs hs) ∧ Below w.heap.size w w' := by
  obtain ⟨p1, c1, rfl, hcc⟩ := id hv'
  clear hcc
  obtain ⟨p2, c2, rfl⟩ := hu.shape
  have hne := nn_iface
  have hnn := nn_nil
  have b1 : Below w.heap.size w (w.alloc (.cells #[.slice p1 cs.length c1, .slice p2 hs.length c2, .int .i64 grp] 37)) := (Below.refl _ w).alloc (Nat.le_refl _) _
  have HBD := Lib.hid (bounded_to (w.alloc (.cells #[.slice p1 cs.length c1, .slice p2 hs.length c2, .int .i64 grp] 37)) grp p1 p2 c1 c2 cs hs)
  have HR := Lib.hid (heap_alloc_last w (.cells #[.slice p1 cs.length c1, .slice p2 hs.length c2, .int .i64 grp] 37))
  have B1 := Lib.hid b1
  have HG := Lib.hid H
  have HXL := Lib.hid hXl
  have HXP := Lib.hid hXp
  have HV := Lib.hid hv'
  have HU := Lib.hid hu
  have HO := Lib.hid hok
  have H3 := Lib.hid h32
  have HL := Lib.hid hl
  have HP := Lib.hid hp
  have HHL := Lib.hid hhl
  obtain ⟨n, hn⟩ : ∃ n, n = cs.length := ⟨_, rfl⟩
  obtain ⟨m, hm⟩ : ∃ m, m = hs.length := ⟨_, rfl⟩
  rw [← hn] at HBD HR HV b1 B1 ⊢
  rw [← hm] at HBD HR HU b1 B1 ⊢
  have HN := Lib.hid hn
  clear b1 H hXl hXp hv' hu hok h32 hl hp hhl hn hm
  go_enter Tryz.func31, Tryz.ntmps31
  go_wp2_with fail
  generalize hw1 : w.alloc (.cells #[.slice p1 n c1, .slice p2 m c2, .int .i64 grp] 37) = w1 at *
  refine HBD.out.mono ?_
  rintro e w2 ⟨rfl, b2⟩
  have B2 : Hid (Below w.heap.size w w2) := Lib.hid (B1.out.trans (b2.mono B1.out.size))
  have HR2 := Lib.hid ((b2.block _ (Array.getElem?_eq_some_iff.1 HR.out).1).trans HR.out)
  clear b2
  cases hb : bnd grp cs hs with
  | false =>
    have HB := Lib.hid hb
    clear hb
    go_wp2
    go_ret
    exact ⟨_, rfl, by unfold chk; rw [HB.out]; rfl, B2.out⟩
  | true =>
    have hcl : cs.length ≤ 200 := by
      unfold bnd at hb
      simp only [Bool.and_eq_true, decide_eq_true_eq] at hb
      exact hb.1.2
    have HCK : Hid (chk (gr X) grp cs hs = (ck2 cs).or ((ck3 (gr X) [] cs).or ((ck4 (gr X) (addA (gr X) [] cs) cs).or ((ck5 (gr X) (addA (gr X) [] cs) hs).or ((ck6 (addA (gr X) [] cs) cs).or (if 1000 < (gr X).length + (addA (gr X) [] cs).length then some (13, none) else none)))))) := Lib.hid (by unfold chk; rw [if_pos hb])
    have HCL := Lib.hid hcl
    have a0 := cell_obj HR2.out 0 rfl
    have a1 := cell_obj HR2.out 1 rfl
    clear hb hcl
    have HQ2 := Lib.hid (checkLists_to w2 _ cs (HV.out.kb B2.out) HO.out HL.out HP.out)
    go_wp2_with fail
    refine HQ2.out.mono ?_
    rintro e w3 ⟨x3, rfl, e3, b3⟩
    have B3 : Hid (Below w.heap.size w w3) := Lib.hid (B2.out.trans (b3.mono B2.out.size))
    have HR3 := Lib.hid ((b3.block _ (Array.getElem?_eq_some_iff.1 HR2.out).1).trans HR2.out)
    clear b3 a0 a1
    have E3 := Lib.hid e3
    rcases e3.form with ⟨hn3, rfl⟩ | ⟨hs3, t3, y3, rfl⟩
    · have N3 := Lib.hid hn3
      have a0 := cell_obj HR3.out 0 rfl
      have a1 := cell_obj HR3.out 1 rfl
      have H4 := Lib.hid (ck2_none hn3)
      clear e3 hn3 E3
      have HQ3 := Lib.hid (added_to w3 g bm X _ cs (HG.out.kb B3.out) (fun x hx => Nat.le_trans (HXP.out x hx) (by decide)) (HV.out.kb B3.out) HO.out HL.out HP.out)
      go_wp2_with fail
      refine HQ3.out.mono ?_
      rintro e w4 (⟨ba, Y, h3, rfl, hY, hYA, _, b4⟩ | ⟨r, px, h3, rfl, he, b4⟩)
      · have B4 : Hid (Below w.heap.size w w4) := Lib.hid (B3.out.trans (b4.mono B3.out.size))
        have HR4 := Lib.hid ((b4.block _ (Array.getElem?_eq_some_iff.1 HR3.out).1).trans HR3.out)
        have N4 := Lib.hid h3
        have HY := Lib.hid hY
        have HYA := Lib.hid hYA
        clear b4 a0 a1 h3 hY hYA
        have a0 := cell_obj HR4.out 0 rfl
        have a1 := cell_obj HR4.out 1 rfl
        have HQ4 := Lib.hid (checkParents_to w4 g bm ba X Y _ cs (HG.out.kb B4.out) HY.out (HV.out.kb B4.out) HO.out HL.out HP.out)
        go_wp2_with fail
        refine HQ4.out.mono ?_
        rintro e w5 ⟨x5, rfl, e5, b5⟩
        have B5 : Hid (Below w.heap.size w w5) := Lib.hid (B4.out.trans (b5.mono B4.out.size))
        have HR5 := Lib.hid ((b5.block _ (Array.getElem?_eq_some_iff.1 HR4.out).1).trans HR4.out)
        have HY5 := Lib.hid (HY.out.kb b5)
        rw [HYA.out] at e5
        have E5 := Lib.hid e5
        clear b5 a0 a1
        rcases e5.form with ⟨hn5, rfl⟩ | ⟨hs5, t5, y5, rfl⟩
        · have N5 := Lib.hid hn5
          clear e5 hn5 E5
          have a0 := cell_obj HR5.out 0 rfl
          have a1 := cell_obj HR5.out 1 rfl
          have HQ5 := Lib.hid (checkHeads_to w5 g bm ba X Y _ hs (HG.out.kb B5.out) HY5.out (HU.out.mild (mild_below B5.out)) H3.out HHL.out)
          go_wp2_with fail
          refine HQ5.out.mono ?_
          rintro e w6 ⟨x6, rfl, e6, b6⟩
          have B6 : Hid (Below w.heap.size w w6) := Lib.hid (B5.out.trans (b6.mono B5.out.size))
          have HR6 := Lib.hid ((b6.block _ (Array.getElem?_eq_some_iff.1 HR5.out).1).trans HR5.out)
          have HY6 := Lib.hid (HY5.out.kb b6)
          rw [HYA.out] at e6
          have E6 := Lib.hid e6
          clear b6 a0 a1
          rcases e6.form with ⟨hn6, rfl⟩ | ⟨hs6, t6, y6, rfl⟩
          · have N6 := Lib.hid hn6
            clear e6 hn6 E6
            have a0 := cell_obj HR6.out 0 rfl
            have a1 := cell_obj HR6.out 1 rfl
            have hUm : ∀ c ∈ cs, ∀ p ∈ c.2, p ∈ cs.flatMap (·.2) := fun c hc p hp => List.mem_flatMap.2 ⟨c, hc, hp⟩
            have HQ6 := Lib.hid (checkCycles_to w6 ba Y _ cs (cs.flatMap (·.2)) HY6.out (HV.out.kb B6.out) HO.out HL.out (fun c hc => Nat.le_trans (H4.out c hc).1 (by decide))
              (by have := flat_len (fun c hc => (H4.out c hc).1); have := HCL.out; omega) hUm
              (fun x p hx => by
                obtain ⟨ps, h1, h2⟩ := adj_some hx
                rw [HYA.out] at h1
                rcases addA_mem h1 with h1 | h1
                · cases h1
                · exact hUm _ h1 p h2)
              (fun y hy => by
                have h1 : aget y.1 (gr Y) = some y.2.2 := by rw [gr_get, aget_of_mem (kvs_asc_gr HY6.out.mp.asc) hy]; rfl
                rw [HYA.out] at h1
                rcases addA_mem h1 with h1 | h1
                · cases h1
                · exact Nat.le_trans (H4.out _ h1).1 (by decide)))
            clear hUm
            go_wp2_with fail
            refine HQ6.out.mono ?_
            rintro e w7 ⟨x7, rfl, e7, b7⟩
            have B7 : Hid (Below w.heap.size w w7) := Lib.hid (B6.out.trans (b7.mono B6.out.size))
            have HY7 := Lib.hid (HY6.out.kb b7)
            rw [HYA.out] at e7
            have E7 := Lib.hid e7
            clear b7 a0 a1
            rcases e7.form with ⟨hn7, rfl⟩ | ⟨hs7, t7, y7, rfl⟩
            · have N7 := Lib.hid hn7
              clear e7 hn7 E7
              have HQ7 := Lib.hid (count_to w7 g bm X (HG.out.kb B7.out))
              have ho := HY7.out.mp.own
              have hsz : Maps.size (mapV (kvs Y)) = Y.length := by rw [mapV_size, kvs_len]
              have hYl : Y.length ≤ 1000000 := by
                have h1 := addA_len (G := gr X) cs []
                rw [← HYA.out, gr_len] at h1
                have := HCL.out
                simp at h1
                omega
              obtain ⟨f1, f2⟩ := full_fits (a := X.length) (b := Y.length) (by have := HXL.out; omega) hYl
              have HF : Hid (chk (gr X) grp cs hs = if 1000 < X.length + Y.length then some (13, none) else none) := Lib.hid (by
                rw [HCK.out, N3.out, N4.out, N5.out, N6.out, N7.out, ← HYA.out, gr_len, gr_len]; rfl)
              obtain ⟨ly, hly⟩ : ∃ ly, ly = Y.length := ⟨_, rfl⟩
              rw [← hly] at hsz f1 f2 HF
              clear hYl hly
              generalize mapV (kvs Y) = D at ho hsz
              by_cases hf : 1000 < X.length + ly
              · have hf' := f2.2 hf
                have HF2 := Lib.hid hf
                clear f2 hf
                go_wp2_with (first
                  | (go_at_call 73; refine HQ7.out.mono ?_; rintro e w8 ⟨rfl, rfl⟩)
                  | (at_len; refine wpList_len_own _ rfl _ 89 rfl _ _ Tryz.underlying89 rdv ba (kvs Y).length D rfl ho ?_; rw [hsz]))
                go_ret
                exact ⟨_, rfl, by rw [HF.out, if_pos HF2.out]; rfl, B7.out⟩
              · have hf' : ¬ (((X.length + ly : Nat) : Int) > 1000) := fun h => hf (f2.1 h)
                have HF2 := Lib.hid hf
                clear f2 hf
                go_wp2_with (first
                  | (go_at_call 73; refine HQ7.out.mono ?_; rintro e w8 ⟨rfl, rfl⟩)
                  | (at_len; refine wpList_len_own _ rfl _ 89 rfl _ _ Tryz.underlying89 rdv ba (kvs Y).length D rfl ho ?_; rw [hsz]))
                go_ret
                exact ⟨_, rfl, by rw [HF.out, if_neg HF2.out]; rfl, B7.out⟩
            · have HS7 := Lib.hid hs7
              clear e7 hs7
              go_wp2
              go_ret
              exact ⟨_, rfl, by rw [HCK.out, N3.out, N4.out, N5.out, N6.out, or_none, or_none, or_none, or_none, or_left HS7.out]; exact E7.out, B7.out⟩
          · have HS6 := Lib.hid hs6
            clear e6 hs6
            go_wp2
            go_ret
            exact ⟨_, rfl, by rw [HCK.out, N3.out, N4.out, N5.out, or_none, or_none, or_none, or_left HS6.out]; exact E6.out, B6.out⟩
        · have HS5 := Lib.hid hs5
          clear e5 hs5
          go_wp2
          go_ret
          exact ⟨_, rfl, by rw [HCK.out, N3.out, N4.out, or_none, or_none, or_left HS5.out]; exact E5.out, B5.out⟩
      · have B4 : Hid (Below w.heap.size w w4) := Lib.hid (B3.out.trans (b4.mono B3.out.size))
        have N4 := Lib.hid h3
        have E4 := Lib.hid he
        clear b4 a0 a1 h3 he
        go_wp2
        go_ret
        exact ⟨_, rfl, by rw [HCK.out, N3.out, N4.out, or_none, or_left rfl]; exact E4.out, B4.out⟩
    · have HS3 := Lib.hid hs3
      clear e3 hs3
      go_wp2
      go_ret
      exact ⟨_, rfl, by rw [HCK.out, or_left HS3.out]; exact E3.out, B3.out⟩
end Go.Proofs.YtnpeahbbcolfmaaGreatDoor
namespace Go.Proofs.YtnpeahbbcolfmaaGreatDoor
open Go.RowKit
open Go.Maps
/-- The graph with some commits more. -/
def adds (G : Gr) : List Cm → Gr
  | [] => G
  | c :: cs => adds (if (aget c.1 G).isSome then G else aput c.1 c.2 G) cs
structure Wf (G : Gr) : Prop where
  asc : AAsc G
  h32 : COk G
  par : ∀ c ∈ G, c.2.length ≤ 4 ∧ c.2.Nodup
  clo : Clo G
  acy : ∀ h, ∀ p ∈ adj G h, ¬ Up (adj G) p h
  few : G.length ≤ 1000
theorem Wf.nil : Wf [] := ⟨.nil, fun _ h => (by cases h), fun _ h => (by cases h), fun _ _ h => (by unfold adj at h; simp [aget] at h), fun _ _ h => (by unfold adj at h; simp [aget] at h), Nat.zero_le _⟩
theorem aput_new_len {α : Type} {k : Key} {v : α} {M : List (Key × α)} (ha : AAsc M) (h : aget k M = none) : (aput k v M).length = M.length + 1 := by
  have := asum_put (fun _ => 1) k v ha
  rw [h] at this
  simp only [asum_one, olen] at this
  omega
theorem aget_put {α : Type} {x k : Key} {v : α} {M : List (Key × α)} : aget x (aput k v M) = if x = k then some v else aget x M := by
  by_cases e : x = k
  · subst e; rw [aget_put_same, if_pos rfl]
  · rw [aget_put_other _ _ _ e, if_neg e]
/-- M is G and A together. -/
structure Jn (G A M : Gr) : Prop where
  ascA : AAsc A
  ascM : AAsc M
  get : ∀ x, aget x M = (aget x G).or (aget x A)
  dis : ∀ x, (aget x A).isSome = true → aget x G = none
  len : M.length = G.length + A.length
theorem Jn.nil {G : Gr} (h : AAsc G) : Jn G [] G := ⟨.nil, h, fun x => by simp [aget], fun x h => by simp [aget] at h, by simp⟩
theorem Jn.adds {G : Gr} : ∀ {cs : List Cm} {A M : Gr}, Jn G A M → Jn G (addA G A cs) (adds M cs)
  | [], _, _, h => h
  | c :: cs, A, M, h => by
    rw [addA, Go.Proofs.YtnpeahbbcolfmaaGreatDoor.adds, h.get]
    by_cases e : ((aget c.1 G).or (aget c.1 A)).isSome = true
    · rw [if_pos e, if_pos e]
      exact Jn.adds h
    · rw [if_neg e, if_neg e]
      have e1 : aget c.1 G = none := by cases hg : aget c.1 G with
        | none => rfl
        | some y => rw [hg] at e; exact absurd rfl e
      have e2 : aget c.1 A = none := by
        rw [e1] at e
        cases hg : aget c.1 A with
        | none => rfl
        | some y => rw [hg] at e; exact absurd rfl e
      have e3 : aget c.1 M = none := by rw [h.get, e1, e2]; rfl
      refine Jn.adds ⟨h.ascA.put _ _, h.ascM.put _ _, fun x => ?_, fun x hx => ?_, ?_⟩
      · rw [aget_put, aget_put]
        by_cases ex : x = c.1
        · subst ex; rw [if_pos rfl, if_pos rfl, e1]; rfl
        · rw [if_neg ex, if_neg ex, h.get]
      · rw [aget_put] at hx
        by_cases ex : x = c.1
        · rw [ex, e1]
        · rw [if_neg ex] at hx; exact h.dis x hx
      · rw [aput_new_len h.ascM e3, aput_new_len h.ascA e2, h.len]; omega
theorem adds_jn {G : Gr} (h : AAsc G) (cs : List Cm) : Jn G (addA G [] cs) (adds G cs) := Jn.adds (Jn.nil h)
theorem or_some {r s : Rf} (h : r.or s = none) : r = none ∧ s = none := by cases r <;> simp at h ⊢; exact h
/-- What OK means. -/
structure Fine (G : Gr) (grp : Int) (cs : List Cm) (hs : List Key) : Prop where
  bd : bnd grp cs hs = true
  c2 : ck2 cs = none
  c3 : ck3 G [] cs = none
  c4 : ck4 G (addA G [] cs) cs = none
  c5 : ck5 G (addA G [] cs) hs = none
  c6 : ck6 (addA G [] cs) cs = none
  c7 : G.length + (addA G [] cs).length ≤ 1000
theorem chk_fine {G : Gr} {grp : Int} {cs : List Cm} {hs : List Key} : chk G grp cs hs = none ↔ Fine G grp cs hs := by
  unfold chk
  constructor
  · intro h
    by_cases hb : bnd grp cs hs = true
    · rw [if_pos hb] at h
      obtain ⟨h2, h⟩ := or_some h
      obtain ⟨h3, h⟩ := or_some h
      obtain ⟨h4, h⟩ := or_some h
      obtain ⟨h5, h⟩ := or_some h
      obtain ⟨h6, h⟩ := or_some h
      exact ⟨hb, h2, h3, h4, h5, h6, by split at h; cases h; omega⟩
    · rw [if_neg hb] at h; cases h
  · intro h
    rw [if_pos h.bd, h.c2, h.c3, h.c4, h.c5, h.c6, if_neg (by have := h.c7; omega)]; rfl
theorem miss_none {G A : Gr} : ∀ {E : List Key}, miss G A E = none → ∀ p ∈ E, (aget p G).isSome = true ∨ (aget p A).isSome = true
  | [], _, _, hp => by cases hp
  | q :: E, h, p, hp => by
    rw [miss] at h
    by_cases e : ((aget q G).isSome || (aget q A).isSome) = true
    · rw [if_pos e] at h
      rcases List.mem_cons.1 hp with rfl | hp
      · simpa using e
      · exact miss_none h p hp
    · rw [if_neg e] at h; cases h
theorem ck4_none {G A : Gr} : ∀ {cs : List Cm}, ck4 G A cs = none → ∀ c ∈ cs, ∀ p ∈ c.2, (aget p G).isSome = true ∨ (aget p A).isSome = true
  | [], _, _, hc => by cases hc
  | d :: cs, h, c, hc => by
    rw [ck4] at h
    cases hm : miss G A d.2 with
    | some p => rw [hm] at h; cases h
    | none =>
      rw [hm] at h
      rcases List.mem_cons.1 hc with rfl | hc
      · exact miss_none hm
      · exact ck4_none h c hc
theorem ck6_none {A : Gr} : ∀ {cs : List Cm}, ck6 A cs = none → ∀ c ∈ cs, ¬ ∃ p ∈ c.2, Up (adj A) p c.1
  | [], _, _, hc => by cases hc
  | d :: cs, h, c, hc => by
    rw [ck6] at h
    by_cases e : ∃ p ∈ d.2, Up (adj A) p d.1
    · rw [if_pos e] at h; cases h
    · rw [if_neg e] at h
      rcases List.mem_cons.1 hc with rfl | hc
      · exact e
      · exact ck6_none h c hc
theorem addA_keep {G : Gr} {x : Key} {ps : List Key} : ∀ {cs : List Cm} {A : Gr}, aget x A = some ps → aget x (addA G A cs) = some ps
  | [], _, h => h
  | c :: cs, A, h => by
    rw [addA]
    refine addA_keep ?_
    split
    · exact h
    · rename_i e
      rw [aget_put, if_neg, h]
      rintro rfl
      rw [h] at e
      cases hg : aget c.1 G with
      | none => rw [hg] at e; exact e rfl
      | some y => rw [hg] at e; exact e rfl
theorem ck3_none {G : Gr} : ∀ {cs : List Cm} {A : Gr}, ck3 G A cs = none → ∀ c ∈ cs, (aget c.1 G).or (aget c.1 (addA G A cs)) = some c.2
  | [], _, _, _, hc => by cases hc
  | d :: cs, A, h, c, hc => by
    rw [ck3] at h
    rw [addA]
    cases ho : (aget d.1 G).or (aget d.1 A) with
    | some ps =>
      rw [ho] at h
      simp only at h
      by_cases e : ps = d.2
      · rw [if_pos e] at h
        simp only [Option.isSome_some, if_true]
        rcases List.mem_cons.1 hc with rfl | hc
        · cases hg : aget c.1 G with
          | some y => rw [hg] at ho; rw [← e]; exact ho
          | none =>
            rw [hg] at ho
            rw [addA_keep (x := c.1) (ps := ps) (by simpa using ho), e]; rfl
        · exact ck3_none h c hc
      · rw [if_neg e] at h; cases h
    | none =>
      rw [ho] at h
      simp only at h
      simp only [Option.isSome_none, Bool.false_eq_true, if_false]
      rcases List.mem_cons.1 hc with rfl | hc
      · have hg : aget c.1 G = none := by cases hg : aget c.1 G with
          | none => rfl
          | some y => rw [hg] at ho; cases ho
        rw [hg, addA_keep (x := c.1) (ps := c.2) (aget_put_same _ _ _)]; rfl
      · exact ck3_none h c hc
theorem up_old {G M : Gr} (hc : Clo G) (hm : ∀ x, (aget x G).isSome = true → adj M x = adj G x) {a b : Key} (h : Up (adj M) a b) : (aget a G).isSome = true → Up (adj G) a b ∧ (aget b G).isSome = true := by
  induction h with
  | refl => exact fun h => ⟨.refl _, h⟩
  | step h1 _ ih =>
    intro ha
    rw [hm _ ha] at h1
    obtain ⟨h2, h3⟩ := ih (hc _ _ h1)
    exact ⟨.step h1 h2, h3⟩
theorem up_new {G A M : Gr} (hc : Clo G) (hm : ∀ x, (aget x G).isSome = true → adj M x = adj G x) (hn : ∀ x, (aget x G).isSome = false → adj M x = adj A x) {a b : Key} (h : Up (adj M) a b) (hb : (aget b G).isSome = false) : Up (adj A) a b := by
  induction h with
  | refl => exact .refl _
  | @step a c b h1 k ih =>
    cases ha : (aget a G).isSome with
    | true =>
      have := (up_old hc hm (.step h1 k) ha).2
      rw [hb] at this; cases this
    | false => exact .step (by rw [← hn _ ha]; exact h1) (ih hb)
theorem Jn.old {G A M : Gr} (j : Jn G A M) (x : Key) (h : (aget x G).isSome = true) : adj M x = adj G x := by
  unfold adj
  rw [j.get]
  cases hg : aget x G with
  | none => rw [hg] at h; cases h
  | some y => rfl
theorem Jn.new {G A M : Gr} (j : Jn G A M) (x : Key) (h : (aget x G).isSome = false) : adj M x = adj A x := by
  unfold adj
  rw [j.get]
  cases hg : aget x G with
  | none => rfl
  | some y => rw [hg] at h; cases h
theorem up_mono {f g : Key → List Key} (h : ∀ x, ∀ p ∈ f x, p ∈ g x) {a b : Key} (k : Up f a b) : Up g a b := by
  induction k with
  | refl => exact .refl _
  | step h1 _ ih => exact .step (h _ _ h1) ih
/-- A commit of the request that is its own ancestor: in the whole graph, or among the new ones alone. -/
theorem round_iff {G : Gr} {cs : List Cm} (W : Wf G) (h3 : ck3 G [] cs = none) {c : Cm} (hc : c ∈ cs) :
    (∃ p ∈ adj (adds G cs) c.1, Up (adj (adds G cs)) p c.1) ↔ ∃ p ∈ c.2, Up (adj (addA G [] cs)) p c.1 := by
  have j := adds_jn W.asc cs
  have hg := ck3_none h3 c hc
  have hadj : adj (adds G cs) c.1 = c.2 := by unfold adj; rw [j.get, hg]; rfl
  rw [hadj]
  constructor
  · rintro ⟨p, hp, hu⟩
    refine ⟨p, hp, ?_⟩
    cases hG : (aget c.1 G).isSome with
    | true =>
      exfalso
      have hpG : p ∈ adj G c.1 := by rw [← j.old _ hG, hadj]; exact hp
      exact W.acy _ _ hpG (up_old W.clo j.old hu (W.clo _ _ hpG)).1
    | false => exact up_new W.clo j.old j.new hu hG
  · rintro ⟨p, hp, hu⟩
    refine ⟨p, hp, up_mono (fun x q hq => ?_) hu⟩
    obtain ⟨ps, e1, e2⟩ := adj_some hq
    have hn := j.dis _ (by rw [e1]; rfl)
    unfold adj
    rw [j.get, hn, e1]
    exact e2
theorem add_wf {G : Gr} {grp : Int} {cs : List Cm} {hs : List Key} (W : Wf G) (ok : COk cs) (F : Fine G grp cs hs) : Wf (adds G cs) := by
  have j := adds_jn W.asc cs
  have hfrom : ∀ x ps, aget x (adds G cs) = some ps → aget x G = some ps ∨ ((x, ps) ∈ cs ∧ aget x G = none) := fun x ps h => by
    rw [j.get] at h
    cases hg : aget x G with
    | some y => rw [hg] at h; exact .inl h
    | none =>
      rw [hg] at h
      rcases addA_mem (by simpa using h) with h | h
      · cases h
      · exact .inr ⟨h, rfl⟩
  have hm : ∀ c ∈ adds G cs, c ∈ G ∨ c ∈ cs := fun c hc => by
    rcases hfrom c.1 c.2 (aget_of_mem j.ascM hc) with h | h
    · exact .inl (aget_mem h)
    · exact .inr h.1
  have hclo : Clo (adds G cs) := fun k p hp => by
    obtain ⟨ps, e1, e2⟩ := adj_some hp
    rw [j.get]
    rcases hfrom k ps e1 with h | h
    · have : p ∈ adj G k := by unfold adj; rw [h]; exact e2
      have := W.clo _ _ this
      cases hg : aget p G with
      | none => rw [hg] at this; cases this
      | some y => rfl
    · rcases ck4_none F.c4 _ h.1 p e2 with h | h
      · cases hg : aget p G with
        | none => rw [hg] at h; cases h
        | some y => rfl
      · cases hg : aget p G with
        | none => rw [show (none : Option (List Key)).or (aget p (addA G [] cs)) = aget p (addA G [] cs) from rfl]; exact h
        | some y => rfl
  refine ⟨j.ascM, fun c hc => (hm c hc).elim (W.h32 c) (ok c), fun c hc => (hm c hc).elim (W.par c) (ck2_none F.c2 c), hclo, fun h p hp hu => ?_, by rw [j.len]; exact F.c7⟩
  obtain ⟨ps, e1, e2⟩ := adj_some hp
  rcases hfrom h ps e1 with hG | hG
  · have hp' : p ∈ adj G h := by unfold adj; rw [hG]; exact e2
    exact W.acy _ _ hp' (up_old W.clo j.old hu (W.clo _ _ hp')).1
  · exact ck6_none F.c6 _ hG.1 ((round_iff W F.c3 hG.1).1 ⟨p, hp, hu⟩)
end Go.Proofs.YtnpeahbbcolfmaaGreatDoor
namespace Go.Proofs.YtnpeahbbcolfmaaGreatDoor
open Go.RowKit
open Go.Maps
section
variable {ops : Array Oper} {o : Oper} {a : Act} {w : World} {K : Act → World → Prop} {Q : Exit → Act → World → Prop} {X : Prop}
theorem step_upd {t : TypeId} (hgd : o.guard = none) (m k v : Operand) (ho : o.op = .mapUpdate t m k v) {mv kv vv : Value} (hm : a.eval m = mv) (hk : a.eval k = kv) (hv' : a.eval v = vv) {w' : World} (hr : (Instr.mapUpdate t mv kv vv).run Tryz.prog w = .ok () w') (h : K (a.put o.dst undef) w') :
    if Region.wanted o (yielded ops a.tmps) = true then Oper.wp Tryz.prog o a w K Q else X := by
  have hw : Region.wanted o (yielded ops a.tmps) = true := by simp [Region.wanted, hgd]
  rw [if_pos hw]
  unfold Oper.wp execOp
  simp [ho, hm, hk, hv', hr, Result.andThen]
  exact h
end
theorem GA.only {w w' : World} {g bm : Nat} {X : Lx} {S : Nat → Prop} (h : GA w g bm X) (ho : Only S w w') (m : Mild w w') (hb : ¬ S bm) : GA w' g bm X :=
  ⟨m.cells h.cell, h.at_.mild m (ho.block bm h.at_.mp.lt hb)⟩
theorem GA.store {w w' : World} {g bm : Nat} {X : Lx} {k : Key} {v : Value} {E : List Key} (h : GA w g bm X) (mp' : MpH w' bm (aput k v (kvs X))) (ho : Only (fun j => j = bm) w w') (hv' : HSeen w v E) (hE : H32 E) : GA w' g bm (aput k (v, E) X) :=
  ⟨(mild_map h.at_.mp ho).cells h.cell, h.at_.store mp' ho hv' hE⟩
/-- The block that a slice lies in. -/
def sblk : Value → Option Nat
  | .slice (some a) _ _ => some a.block
  | _ => none
/-- The rows of parents of a graph that has grown: they were there, or lie in new memory. -/
def FarX (n : Nat) (X X' : Lx) : Prop := ∀ x ∈ X', x ∈ X ∨ ∀ b, sblk x.2.1 = some b → n ≤ b
theorem FarX.refl (n : Nat) (X : Lx) : FarX n X X := fun _ h => .inl h
theorem own_sblk {w : World} {B : Nat} {v : Value} {E : List Key} (h : HOwn w B v E) {b : Nat} (hb : sblk v = some b) : B ≤ b := by
  rcases h.2 with ⟨rfl, _⟩ | ⟨g, cap, cur, rfl, h2, _⟩
  · cases hb
  · injection hb with hb; subst hb; exact h2
theorem FarX.put {n : Nat} {X Z : Lx} (h : FarX n X Z) (k : Key) {v : Value} (E : List Key) (hv : ∀ b, sblk v = some b → n ≤ b) : FarX n X (aput k (v, E) Z) := fun x hx => by
  rcases (ains_mem _ _ _).1 hx with rfl | hx
  · exact .inr hv
  · exact h x ((adel_mem _ _ _).1 hx).1
/-- What Add hands back. -/
def AddPost (w : World) (g bm : Nat) (X : Lx) (cs : List Cm) (e : Ending) (w' : World) : Prop :=
  ∃ x, e = .returned x ∧ ErrW w' x (chk (gr X) 2 cs []) ∧ Only (fun k => k = bm) w w' ∧
    ((chk (gr X) 2 cs []).isSome = true ∧ Below w.heap.size w w' ∨ ∃ X', chk (gr X) 2 cs [] = none ∧ GA w' g bm X' ∧ gr X' = adds (gr X) cs ∧ FarX w.heap.size X X')
theorem par_of {G : Gr} (W : Wf G) {X : Lx} (hX : gr X = G) : ∀ x ∈ X, x.2.2.length ≤ 4 ∧ x.2.2.Nodup := fun x hx => by
  have : (x.1, x.2.2) ∈ gr X := List.mem_map.2 ⟨x, hx, rfl⟩
  rw [hX] at this
  exact W.par _ this
set_option linter.unusedSimpArgs false in
set_option maxRecDepth 20000 in
set_option maxHeartbeats 8000000 in
attribute [local go_sem ↓] hld_open cld_open in
theorem add_to (w : World) (g bm : Nat) (X : Lx) (v : Value) (cs : List Cm) (H : GA w g bm X) (W : Wf (gr X)) (hv' : CSeen w v cs) (hok : COk cs) (hl : cs.length ≤ 1000000) (hp : ∀ c ∈ cs, c.2.length ≤ 1000000) :
    Calls Tryz.prog 9 #[gp g, v] w (AddPost w g bm X cs) := by
  obtain ⟨p, cap, rfl, hc⟩ := id hv'
  clear hc
  obtain ⟨n, hn⟩ : ∃ n, n = cs.length := ⟨_, rfl⟩
  rw [← hn] at hv' hl ⊢
  have HV := Lib.hid hv'
  have HO := Lib.hid hok
  have HN := Lib.hid hn
  have HL := Lib.hid hl
  have HP := Lib.hid hp
  have HG0 := Lib.hid H
  have HW := Lib.hid W
  have hXl : X.length ≤ 1000 := by have := W.few; rwa [gr_len] at this
  have HXL := Lib.hid hXl
  have hne := nn_iface
  have hnn := nn_nil
  have HCK := Lib.hid (check_to w g bm X (.slice p n cap) (.slice none 0 0) 2 cs [] H hXl (fun x hx => Nat.le_trans (par_of W rfl x hx).1 (by decide)) hv' (.inl ⟨rfl, rfl⟩) hok H32.nil (by rw [← hn]; exact hl) hp (by simp))
  clear hv' hok hl hn hp H W hXl
  go_enter Tryz.func9, Tryz.ntmps9
  go_wp2_with fail
  refine HCK.out.mono ?_
  rintro e w1 ⟨x1, rfl, e1, b1⟩
  have B1 := Lib.hid b1
  have E1 := Lib.hid e1
  clear b1
  rcases e1.form with ⟨hn1, rfl⟩ | ⟨hs1, t1, y1, rfl⟩
  · have N1 := Lib.hid hn1
    have G1 := Lib.hid (HG0.out.kb B1.out)
    have O1 : Hid (Only (fun k => k = bm) w w1) := Lib.hid (Only.of_below B1.out)
    clear e1 hn1 E1
    go_wp2_with fail
    go_loopw [17] (fun s wr => ∃ (i : Nat) (Z : Lx), s = .int .i64 i ∧ i ≤ n ∧ Hid (adds (gr X) cs = adds (gr Z) (cs.drop i)) ∧ Hid (GA wr g bm Z ∧ Z.length ≤ X.length + i) ∧ Hid (Only (fun k => k = bm) w wr) ∧ Hid (FarX w.heap.size X Z))
      (fun s _ => n - (intOf s).toNat)
    case atStart => exact ⟨0, X, rfl, Nat.zero_le _, Lib.hid rfl, Lib.hid ⟨G1.out, Nat.le_refl _⟩, O1, Lib.hid (FarX.refl _ _)⟩
    case round =>
      clear O1 G1
      obtain ⟨i, Z, rfl, hi, T, HZ, B, HFZ⟩ := hrel
      by_cases hlt : i < n
      · obtain ⟨j1, j2, j3⟩ := next_fit hlt HL.out
        have hiE : i < cs.length := by rw [← HN.out]; exact hlt
        obtain ⟨p', cap', e1, hc⟩ := HV.out.mild (mild_map HG0.out.at_.mp B.out)
        injection e1 with e1 e2 e3
        obtain ⟨b, o, u, rfl, hrg, hsn⟩ := hc i cs[i] (List.getElem?_eq_getElem hiE)
        subst e1
        have hdr : cs.drop i = cs[i] :: cs.drop (i + 1) := drop_at hiE
        have hoki := HO.out _ (List.getElem_mem hiE)
        have hmemi := List.getElem_mem hiE
        obtain ⟨⟨h, E⟩, hce⟩ : ∃ c : Cm, c = cs[i] := ⟨_, rfl⟩
        rw [← hce] at hrg hsn hdr hoki hmemi
        dsimp only at hrg hsn hoki
        have hh := hoki.1
        have hld0 := cld_range hh hrg
        have st := cst_cells h u hh hsn.one wr
        have hks : (cmv h u).size = 33 := cmv_size hh u
        have b3 : Below wr.heap.size wr (wr.alloc (.cells (cmv h u) 34)) := (Below.refl _ _).alloc (Nat.le_refl _) _
        have B3 : Hid (Only (fun k => k = bm) w (wr.alloc (.cells (cmv h u) 34))) := Lib.hid (B.out.alloc _)
        have HV3 := heap_alloc_last wr (.cells (cmv h u) 34)
        have hsn3 := hsn.mild (mild_below b3)
        have hs3 : (wr.alloc (.cells (cmv h u) 34)).heap.size = wr.heap.size + 1 := by simp
        obtain ⟨pu, cu, rfl⟩ := hsn3.shape
        have HH3 := Lib.hid HV3
        have HSN := Lib.hid hsn3
        have HOK := Lib.hid hoki
        have HDR := Lib.hid hdr
        have HMI := Lib.hid hmemi
        obtain ⟨m, hm⟩ : ∃ m, m = E.length := ⟨_, rfl⟩
        rw [← hm] at hld0 st hks HH3 HSN hs3 B3
        have HB3 := Lib.hid b3
        rw [← hm] at HB3
        have HM := Lib.hid hm
        have HPI : Hid (E.length ≤ 1000000) := Lib.hid (HP.out _ hmemi)
        have HZ3 : Hid (GA (wr.alloc (.cells (cmv h (.slice pu m cu)) 34)) g bm Z) := Lib.hid (HZ.out.1.kb HB3.out)
        clear hrg hsn hdr hoki hmemi hh b3 HV3 hsn3 hc e2 e3 hce hm hiE
        generalize hw3 : wr.alloc (.cells (cmv h (.slice pu m cu)) 34) = w3 at *
        have hld3 := cm_hld (w := w3) HOK.out.1 HH3.out
        have had : adds (gr X) cs = adds (if (aget h (gr Z)).isSome then gr Z else aput h E (gr Z)) (cs.drop (i + 1)) := by rw [T.out, HDR.out]; rfl
        have HHS := Lib.hid (has_to w3 g bm Z h HOK.out.1 HZ3.out)
        have HCM := Lib.hid (fun W (hW : Below w3.heap.size w3 W) => cm_cell (w := W) HOK.out.1 ((mild_below hW).cells HH3.out))
        have HLD := Lib.hid (fun W (hW : Below w3.heap.size w3 W) => cm_hld (w := W) HOK.out.1 ((mild_below hW).cells HH3.out))
        have HLM := Lib.hid (fun W (m : Mild w3 W) => cm_hld (w := W) HOK.out.1 (m.cells HH3.out))
        have HCL := Lib.hid (fun W (hW : Below w3.heap.size w3 W) => hclone_any W (.slice pu m cu) E HOK.out.2 (srt_fit HPI.out) (HSN.out.mild (mild_below hW)))
        have HAD := Lib.hid had
        clear had
        generalize cmv h (.slice pu m cu) = q33 at *
        cases hh : (aget h (gr Z)).isSome with
        | true =>
          rw [hh] at HHS
          have HA2 : Hid (adds (gr X) cs = adds (gr Z) (cs.drop (i + 1))) := Lib.hid (by rw [HAD.out, if_pos hh])
          clear HAD hh
          go_wp2_with fail
          refine HHS.out.mono ?_
          rintro e w4 ⟨rfl, b4⟩
          have B4 : Hid (Only (fun k => k = bm) w w4) := Lib.hid (B3.out.trans (Only.of_below (S := fun k => k = bm) b4) (fun _ h => h) (fun _ _ h => h))
          have HZ4 := Lib.hid (HZ3.out.kb b4)
          clear b4
          go_wp2_with fail
          refine ⟨⟨i + 1, Z, by rw [j1], hlt, HA2, Lib.hid ⟨HZ4.out, Nat.le_trans HZ.out.2 (by omega)⟩, B4, HFZ⟩, ?_⟩
          rw [j1]; simp only [intOf]; omega
        | false =>
          rw [hh] at HHS
          have HA2 : Hid (adds (gr X) cs = adds (aput h E (gr Z)) (cs.drop (i + 1))) := Lib.hid (by rw [HAD.out, if_neg (by rw [hh]; decide)])
          clear HAD hh
          go_wp2_with fail
          refine HHS.out.mono ?_
          rintro e w4 ⟨rfl, b4⟩
          have B4 : Hid (Only (fun k => k = bm) w w4) := Lib.hid (B3.out.trans (Only.of_below (S := fun k => k = bm) b4) (fun _ h => h) (fun _ _ h => h))
          have HZ4 := Lib.hid (HZ3.out.kb b4)
          have c0 := HZ4.out.c0
          have c32 := HCM.out w4 b4
          have b4d : Below w3.heap.size w3 w4.drew := b4.trans ((blw_qt _ 1 w4).mono b4.size)
          have l0 := HLD.out w4.drew b4d
          have HB4 := Lib.hid b4d
          clear b4 b4d
          go_wp2_with fail
          try simp only [List.append]
          refine wp_region_noPanic ?_
          refine wp_region_held_drew (S := (fun W => W.cell? ⟨g, 0, none⟩ = some (.map (some bm)) ∧ (hld ⟨wr.heap.size, 0, none⟩).run Tryz.prog W = .ok (.agg (hv h)) W ∧ W.cell? ⟨wr.heap.size, 32, none⟩ = some (.slice pu m cu))) (by kernel_rfl) ⟨c0, l0, c32⟩ (fun hHeld => ?_)
          refine wpAnyH_take (i := 0) (v := ?_) (by simp only [List.getElem?_toArray, List.getElem?_cons_zero]; rfl) (by kernel_rfl) (by kernel_rfl) (by kernel_rfl) (fun _ _ _ h => h) (Or.inl ⟨by rfl, ?_⟩) (by assumption) ?_
          rotate_left
          · intro w hSw
            try dsimp only at hSw
            go_simp
            try with_reducible rfl
          try simp only [Act.put, List.setIfInBounds_toArray, List.set_cons_zero, List.set_cons_succ]
          refine wpAnyH_take (i := 1) (v := ?_) (by simp only [List.getElem?_toArray, List.getElem?_cons_succ, List.getElem?_cons_zero]; rfl) (by kernel_rfl) (by kernel_rfl) (by kernel_rfl) (fun _ _ _ h => h) (Or.inl ⟨by rfl, ?_⟩) (by assumption) ?_
          rotate_left
          · intro w hSw
            try dsimp only at hSw
            go_simp
            try with_reducible rfl
          try simp only [Act.put, List.setIfInBounds_toArray, List.set_cons_zero, List.set_cons_succ]
          refine wpAnyH_take (i := 2) (v := ?_) (by simp only [List.getElem?_toArray, List.getElem?_cons_succ, List.getElem?_cons_zero]; rfl) (by kernel_rfl) (by kernel_rfl) (by kernel_rfl) (fun _ _ _ h => h) (Or.inl ⟨by rfl, ?_⟩) (by assumption) ?_
          rotate_left
          · intro w hSw
            try dsimp only at hSw
            go_simp
            try with_reducible rfl
          try simp only [Act.put, List.setIfInBounds_toArray, List.set_cons_zero, List.set_cons_succ]
          refine wpAnyH_take (i := 3) (v := ?_) (by simp only [List.getElem?_toArray, List.getElem?_cons_succ, List.getElem?_cons_zero]; rfl) (by kernel_rfl) (by kernel_rfl) (by kernel_rfl) (fun _ _ _ h => h) (Or.inl ⟨by rfl, ?_⟩) (by assumption) ?_
          rotate_left
          · intro w hSw
            try dsimp only at hSw
            go_simp
            try with_reducible rfl
          try simp only [Act.put, List.setIfInBounds_toArray, List.set_cons_zero, List.set_cons_succ]
          refine wpAnyH_take (i := 4) (v := ?_) (by simp only [List.getElem?_toArray, List.getElem?_cons_succ, List.getElem?_cons_zero]; rfl) (by kernel_rfl) (by kernel_rfl) (by kernel_rfl) (fun _ _ _ h => h) (Or.inl ⟨by rfl, ?_⟩) (by assumption) ?_
          rotate_left
          · intro w hSw
            try dsimp only at hSw
            go_simp
            try with_reducible rfl
          try simp only [Act.put, List.setIfInBounds_toArray, List.set_cons_zero, List.set_cons_succ]
          refine wpAnyH_take (i := 5) (v := ?_) (by simp only [List.getElem?_toArray, List.getElem?_cons_succ, List.getElem?_cons_zero]; rfl) (by kernel_rfl) (by kernel_rfl) (by kernel_rfl) (fun _ _ _ h => h) (Or.inl ⟨by rfl, ?_⟩) (by assumption) ?_
          rotate_left
          · intro w hSw
            try dsimp only at hSw
            go_simp
            try with_reducible rfl
          try simp only [Act.put, List.setIfInBounds_toArray, List.set_cons_zero, List.set_cons_succ]
          refine wpAnyH_take (i := 6) (v := ?_) (by simp only [List.getElem?_toArray, List.getElem?_cons_succ, List.getElem?_cons_zero]; rfl) (by kernel_rfl) (by kernel_rfl) (by kernel_rfl) (fun _ _ _ h => h) (Or.inl ⟨by rfl, ?_⟩) (by assumption) ?_
          rotate_left
          · intro w hSw
            try dsimp only at hSw
            go_simp
            try with_reducible rfl
          try simp only [Act.put, List.setIfInBounds_toArray, List.set_cons_zero, List.set_cons_succ]
          refine wpAnyH_take (i := 7) (v := ?_) (by simp only [List.getElem?_toArray, List.getElem?_cons_succ, List.getElem?_cons_zero]; rfl) (by kernel_rfl) (by kernel_rfl) (by kernel_rfl) (fun _ _ _ h => h) (Or.inl ⟨by rfl, ?_⟩) (by assumption) ?_
          rotate_left
          · intro w hSw
            try dsimp only at hSw
            go_simp
            try with_reducible rfl
          try simp only [Act.put, List.setIfInBounds_toArray, List.set_cons_zero, List.set_cons_succ]
          refine wpAnyH_ready (rs := [8]) (by kernel_rfl) (by simp) ?_
          refine AllReadyH.cons (by simp only [List.getElem?_toArray, List.getElem?_cons_succ, List.getElem?_cons_zero]; rfl) (fun K hK => ?_) AllReadyH.nil
          go_simp
          refine (HCL.out w4.drew HB4.out).mono ?_
          rintro e w5 ⟨v5, rfl, o5, b5⟩
          have b5' := HB4.out.trans (b5.mono HB4.out.size)
          have c0' := (HZ3.out.kb b5').c0
          have l0' := HLD.out w5 b5'
          have c32' := HCM.out w5 b5'
          have HZ5 := Lib.hid (HZ3.out.kb b5')
          have B5 : Hid (Only (fun k => k = bm) w w5) := Lib.hid (B3.out.trans (Only.of_below (S := fun k => k = bm) b5') (fun _ h => h) (fun _ _ h => h))
          have O5 := Lib.hid (HSeen.own o5)
          obtain ⟨p5, c5, rfl⟩ := (HSeen.own o5).shape
          have HF5 : Hid (FarX w.heap.size X (aput h (.slice p5 E.length c5, E) Z)) := Lib.hid (HFZ.out.put h E (fun b hb => Nat.le_trans B4.out.size (own_sblk o5 hb)))
          have hZl : Z.length < maxLen := by have := HZ.out.2; have := HXL.out; have := HL.out; unfold maxLen; omega
          obtain ⟨w6, hmu, mp6, o6⟩ := HZ5.out.at_.mp.store Tryz.underlying89 h HOK.out.1 (by rw [kvs_len]; exact hZl) (.slice p5 E.length c5)
          have HZ6 := Lib.hid (HZ5.out.store mp6 o6 O5.out HOK.out.2)
          have B6 : Hid (Only (fun k => k = bm) w w6) := Lib.hid (B5.out.trans o6 (fun _ h => h) (fun _ _ h => h))
          have l6 : (hld ⟨wr.heap.size, 0, none⟩).run Tryz.prog w6 = .ok (.agg (hv h)) w6 := HLM.out w6 ((mild_below b5').trans (mild_map HZ5.out.at_.mp o6))
          have c6 := (mild_map HZ5.out.at_.mp o6).cell c32'
          have g6 := HZ6.out.c0
          have HMU := Lib.hid hmu
          clear o5 b5 b5' mp6 o6 hmu
          go_wp2_with fail
          refine hK.out _ _ ⟨c0', l0', c32'⟩ (fun hHeld => ?_)
          clear hK K
          try simp only [Act.put, List.setIfInBounds_toArray, List.set_cons_zero, List.set_cons_succ]
          refine wpAnyH_ready (rs := [9]) (by kernel_rfl) (by simp) ?_
          refine AllReadyH.cons (by simp only [List.getElem?_toArray, List.getElem?_cons_succ, List.getElem?_cons_zero]; rfl) (fun K hK => ?_) AllReadyH.nil
          refine step_upd (by rfl) (.tmp 29) (.tmp 31) (.tmp 34) (by rfl) (by rfl) (by rfl) (by rfl) HMU.out ?_
          refine hK.out _ _ ⟨g6, l6, c6⟩ (fun hHeld => ?_)
          clear hK K
          try simp only [Act.put, List.setIfInBounds_toArray, List.set_cons_zero, List.set_cons_succ]
          refine wpAnyH_done (by kernel_rfl) ?_ _
          refine NoPanic.normal ?_
          go_wp2_with fail
          refine ⟨⟨i + 1, aput h (.slice p5 E.length c5, E) Z, by rw [j1], hlt, Lib.hid (by rw [gr_put]; exact HA2.out), Lib.hid ⟨HZ6.out, Nat.le_trans (aput_len _ _ _) (by have := HZ.out.2; omega)⟩, B6, HF5⟩, ?_⟩
          rw [j1]; simp only [intOf]; omega
      · obtain rfl : i = n := by omega
        go_wp2
        go_ret
        have hT := T.out
        rw [List.drop_eq_nil_of_le (by rw [HN.out]; exact Nat.le_refl _)] at hT
        exact ⟨_, rfl, by rw [N1.out]; rfl, B.out, .inr ⟨Z, N1.out, HZ.out.1, hT.symm, HFZ.out⟩⟩
  · have HS1 := Lib.hid hs1
    clear e1 hs1
    go_wp2
    go_ret
    exact ⟨_, rfl, E1.out, Only.of_below B1.out, .inl ⟨HS1.out, B1.out⟩⟩
end Go.Proofs.YtnpeahbbcolfmaaGreatDoor
namespace Go.Proofs.YtnpeahbbcolfmaaGreatDoor
open Go.RowKit Go.Extern.Stop Go.Stop Go.Extern
open Go.Maps
def kindOf : Rf → Int
  | none => 0
  | some (k, _) => k
def whoH : Rf → Key
  | some (_, some h) => h
  | _ => hz
def whoB : Rf → Bool
  | some (_, some _) => true
  | _ => false
theorem as_tgtE (w : World) (p : Nat) (q : Array Value) (k : Int) (hg : Glob w) (tb : Nat) (old : Value) (htb : w.heap[tb]? = some (.cells #[old] 48 (0, 0))) (hc : Wh w p q k) :
    Calls Tryz.prog 48 #[whv p, .iface 110 (.pointer (some ⟨tb, 0, none⟩))] w fun e w' => AsPost w tb 48 old (some (.int .i64 k)) e w' :=
  as_any11 tgtE w _ _ _ hg tb old htb fun W hW a ha ht => asEW W p q k (hc.kb hW) a tb old ha ht
theorem as_tgtW (w : World) (p : Nat) (q : Array Value) (k : Int) (hg : Glob w) (tb : Nat) (old : Value) (htb : w.heap[tb]? = some (.cells #[old] 103 (0, 0))) (hc : Wh w p q k) :
    Calls Tryz.prog 48 #[whv p, .iface 105 (.pointer (some ⟨tb, 0, none⟩))] w fun e w' => AsPost w tb 103 old (some (.pointer (some ⟨p, 0, none⟩))) e w' :=
  as_any11 tgtW w _ _ _ hg tb old htb fun W hW a ha ht => asWW W p q k (hc.kb hW) a tb old ha ht
theorem as_tgtWE (w : World) (k : Int) (hg : Glob w) (tb : Nat) (old : Value) (htb : w.heap[tb]? = some (.cells #[old] 103 (0, 0))) :
    Calls Tryz.prog 48 #[kind k, .iface 105 (.pointer (some ⟨tb, 0, none⟩))] w fun e w' => AsPost w tb 103 old none e w' :=
  as_any11 tgtW w _ _ _ hg tb old htb fun W _ a ha ht => asWE W k a tb old ha ht
set_option maxHeartbeats 1600000 in
theorem kind_to (w : World) (v : Value) (r : Rf) (hg : Glob w) (he : ErrW w v r) (hr : ∀ k o, r = some (k, o) → k ≠ 0) : Calls Tryz.prog 17 #[v] w fun e w' => e = .returned (.int .i64 (kindOf r)) ∧ Below w.heap.size w w' := by
  match r, he, hr with
  | none, he, _ =>
    obtain rfl : v = .nilIface := he
    exact khand_any w 0 hg
  | some (k, none), he, hr =>
    obtain rfl : v = kind k := he
    have := khand_any w k hg
    rw [show errOf k = kind k from if_neg (hr k none rfl)] at this
    exact this
  | some (k, some h), he, _ =>
    obtain ⟨hh, p, rfl, hc⟩ := he
    have b1 := (Below.refl w.heap.size w).alloc (Nat.le_refl _) (.cells #[.int .i64 0] 48)
    have hn := nil_iface 103 (.pointer (some ⟨p, 0, none⟩))
    have HA := Lib.hid (as_tgtE (w.alloc (.cells #[.int .i64 0] 48)) p (hv h) k (hg.kb b1) w.heap.size (.int .i64 0) (heap_alloc_new w _) (hc.kb b1))
    show Calls _ _ _ _ fun e w' => e = .returned (.int .i64 k) ∧ _
    clear hg hc b1 hh
    go_enter Tryz.func17, Tryz.ntmps17
    go_wp2_with (go_at_call 48; refine HA.out.mono ?_; rintro e w' ⟨rfl, R1, R2⟩; have HR := Lib.hid R1; have hc := cell_obj R2 0 rfl; clear R1 R2; simp only [Option.isSome, Option.getD] at hc ⊢)
    go_ret
    exact ⟨rfl, ((Below.refl _ _).alloc (Nat.le_refl _) _).trans (HR.out.below (by simp) (fun k hk => hk ▸ Nat.le_refl _))⟩
theorem load_back {w : World} {b : Nat} {q : Key} (hq : q.length = 32) (ht : w.there b 0 32) : (hld ⟨b, 0, none⟩).run Tryz.prog (w.setCells b 0 (hv q).toList) = .ok (.agg (hv q)) (w.setCells b 0 (hv q).toList) := by
  have := loaded (P := Tryz.prog) (t := 31) (q := hv q) (by rw [hv_size, hq]; exact ht) Tryz.underlying31 rfl (hinfo (hv q) (by rw [hv_size, hq]))
  exact this
theorem there32 {w : World} {b : Nat} {q : Array Value} {t : TypeId} (hs : q.size = 32) (h : w.heap[b]? = some (.cells q t (0, 0))) : w.there b 0 32 := by
  have := there_row h
  rwa [hs] at this
set_option maxRecDepth 20000 in
set_option maxHeartbeats 600000 in
theorem whose_to (w : World) (v : Value) (r : Rf) (hg : Glob w) (he : ErrW w v r) : Calls Tryz.prog 12 #[v] w fun e w' => e = .returned (.tuple #[.agg (hv (whoH r)), .bool (whoB r)]) ∧ Below w.heap.size w w' := by
  have b1 : Below w.heap.size w (w.alloc (.cells hzer 31)) := (Below.refl _ w).alloc (Nat.le_refl _) _
  have b2 : Below w.heap.size w ((w.alloc (.cells hzer 31)).alloc (.cells #[.pointer none] 103)) := b1.alloc b1.size _
  have hs1 : (w.alloc (.cells hzer 31)).heap.size = w.heap.size + 1 := by simp
  have h0 : ((w.alloc (.cells hzer 31)).alloc (.cells #[.pointer none] 103)).heap[w.heap.size]? = some (.cells hzer 31 (0, 0)) := (Below.heap_alloc _ _ _ (by rw [hs1]; omega)).trans (heap_alloc_last w _)
  have h1 : ((w.alloc (.cells hzer 31)).alloc (.cells #[.pointer none] 103)).heap[w.heap.size + 1]? = some (.cells #[.pointer none] 103 (0, 0)) := by
    have := heap_alloc_last (w.alloc (.cells hzer 31)) (.cells #[.pointer none] 103)
    rwa [hs1] at this
  have H0 := Lib.hid h0
  have B2 := Lib.hid b2
  have fin : ∀ (w' : World), Only (fun k => k = w.heap.size + 1) ((w.alloc (.cells hzer 31)).alloc (.cells #[.pointer none] 103)) w' → ∀ q : Key, Below w.heap.size w (w'.setCells w.heap.size 0 (hv q).toList) := fun w' ho q =>
    (((Only.of_below (S := fun k => w.heap.size ≤ k) b2).trans ho (fun _ h => h) (fun k _ e => by have e' : k = w.heap.size + 1 := e; show w.heap.size ≤ k; omega)).setCells (b := w.heap.size) (Nat.le_refl _) _ 0).below (Nat.le_refl _) (fun _ h => h)
  have FIN := Lib.hid fin
  have hh0 : ∀ w' : World, Only (fun k => k = w.heap.size + 1) ((w.alloc (.cells hzer 31)).alloc (.cells #[.pointer none] 103)) w' → w'.there w.heap.size 0 32 := fun w' ho =>
    there32 (q := hzer) rfl ((ho.block _ (Array.getElem?_eq_some_iff.1 h0).1 (by omega)).trans h0)
  have HTH := Lib.hid hh0
  match r, he with
  | none, he =>
    obtain rfl : v = .nilIface := he
    show Calls _ _ _ _ fun e w' => e = .returned (.tuple #[.agg (hv hz), .bool false]) ∧ _
    have HA := Lib.hid (as_nil (.iface 105 (.pointer (some ⟨w.heap.size + 1, 0, none⟩))))
    clear hg b1 b2 h0 h1 fin hh0
    go_enter Tryz.func12, Tryz.ntmps12
    go_wp2_with fail
    refine (HA.out _).mono ?_
    rintro e w' ⟨rfl, hw⟩
    have HR : Hid (Only (fun k => k = w.heap.size + 1) ((w.alloc (.cells hzer 31)).alloc (.cells #[.pointer none] 103)) w') := Lib.hid (by rw [← hw]; exact Only.refl _ _)
    clear hw
    have HT : Hid (w'.there w.heap.size 0 hzer.size) := Lib.hid (HTH.out _ HR.out)
    go_wp2_with (refine build_to (vals := #[]) hbuilt ?hv ?_; (case hv => simp); refine store_to HT.out (hinfo hzer rfl) (hv_one hz) ?hx ?hy ?_; (case hx => rfl); (case hy => rfl))
    refine bodyPost_ret (v := .tuple #[.agg hzer, .bool false]) ?_ rfl ⟨rfl, FIN.out _ HR.out hz⟩
    have hl := load_back (q := hz) rfl (HTH.out _ HR.out)
    rw [hz_hv] at hl
    generalize w'.setCells w.heap.size 0 hzer.toList = W3 at hl ⊢
    simp only [results, Tryz.results12]
    simp [hl, asAddr, hld_open]
  | some (k, none), he =>
    obtain rfl : v = kind k := he
    show Calls _ _ _ _ fun e w' => e = .returned (.tuple #[.agg (hv hz), .bool false]) ∧ _
    have HA := Lib.hid (as_tgtWE _ k (hg.kb b2) (w.heap.size + 1) (.pointer none) h1)
    clear hg b1 b2 h0 h1 fin hh0
    go_enter Tryz.func12, Tryz.ntmps12
    go_wp2_with fail
    refine HA.out.mono ?_
    rintro e w' ⟨rfl, R1, R2⟩
    have HR := Lib.hid R1
    clear R1 R2
    simp only [Option.isSome]
    have HT : Hid (w'.there w.heap.size 0 hzer.size) := Lib.hid (HTH.out _ HR.out)
    go_wp2_with (refine build_to (vals := #[]) hbuilt ?hv ?_; (case hv => simp); refine store_to HT.out (hinfo hzer rfl) (hv_one hz) ?hx ?hy ?_; (case hx => rfl); (case hy => rfl))
    refine bodyPost_ret (v := .tuple #[.agg hzer, .bool false]) ?_ rfl ⟨rfl, FIN.out _ HR.out hz⟩
    have hl := load_back (q := hz) rfl (HTH.out _ HR.out)
    rw [hz_hv] at hl
    generalize w'.setCells w.heap.size 0 hzer.toList = W3 at hl ⊢
    simp only [results, Tryz.results12]
    simp [hl, asAddr, hld_open]
  | some (k, some h), he =>
    obtain ⟨hh, p, rfl, hc⟩ := he
    show Calls _ _ _ _ fun e w' => e = .returned (.tuple #[.agg (hv h), .bool true]) ∧ _
    have HA := Lib.hid (as_tgtW _ p (hv h) k (hg.kb b2) (w.heap.size + 1) (.pointer none) h1 (hc.kb b2))
    have hpl : p < w.heap.size := (Array.getElem?_eq_some_iff.1 hc.1).1
    have HX := Lib.hid (fun (w' : World) (ho : Only (fun k => k = w.heap.size + 1) ((w.alloc (.cells hzer 31)).alloc (.cells #[.pointer none] 103)) w') =>
      show w'.rangeAt p 0 (us (nmb h)) from fun j u hj => by
        have h2 := (ho.block p (Array.getElem?_eq_some_iff.1 (hc.kb b2).1).1 (by omega)).trans (hc.kb b2).1
        have hjl : j < 32 := by have := (List.getElem?_eq_some_iff.1 hj).1; rwa [usn_length, hh] at this
        rw [Nat.zero_add, cell_of_row w' p j _ _ _ h2, Array.getElem?_push, if_neg (by rw [hv_size, hh]; omega)]
        rw [← Array.getElem?_toList, hv_list]; exact hj)
    have HH := Lib.hid hh
    have HHI := Lib.hid (hinfo (hv h) (by rw [hv_size, hh]))
    have HHI' := Lib.hid (hinfo' (hv h) (by rw [hv_size, hh]))
    clear hg b1 b2 h0 h1 fin hh0 hc hh hpl
    go_enter Tryz.func12, Tryz.ntmps12
    go_wp2_with fail
    refine HA.out.mono ?_
    rintro e w' ⟨rfl, R1, R2⟩
    have HR := Lib.hid R1
    have hc := cell_obj R2 0 rfl
    clear R1 R2
    simp only [Option.isSome, Option.getD] at hc ⊢
    have HT : Hid (w'.there w.heap.size 0 (hv h).size) := Lib.hid (by rw [hv_size, HH.out]; exact HTH.out _ HR.out)
    have hnn : ∀ w : World, (binOp .neq 103 (.pointer (some ⟨p, 0, none⟩)) (.pointer none)).run Tryz.prog w = .ok (.bool true) w := fun w => by kernel_rfl
    have HXX : Hid (w'.rangeAt p 0 (hv h).toList) := Lib.hid (by rw [hv_list]; exact HX.out _ HR.out)
    go_wp2_with (refine load_to HXX.out Tryz.underlying31 rfl HHI'.out ?hx ?_; (case hx => rfl); refine store_to HT.out HHI.out (hv_one h) ?hx ?hy ?_; (case hx => rfl); (case hy => simp [Act.put, Act.eval]))
    refine bodyPost_ret (v := .tuple #[.agg (hv h), .bool true]) ?_ rfl ⟨rfl, FIN.out _ HR.out h⟩
    have hl := load_back HH.out (HTH.out _ HR.out)
    generalize w'.setCells w.heap.size 0 (hv h).toList = W3 at hl ⊢
    simp only [results, Tryz.results12]
    simp [hl, asAddr, hld_open]
end Go.Proofs.YtnpeahbbcolfmaaGreatDoor
namespace Go.Proofs.YtnpeahbbcolfmaaGreatDoor
open Go.RowKit
open Go.Maps
/-- Is one of some hashes among others? -/
def anyIn (E R : List Key) : Bool := E.any fun p => decide (p ∈ R)
/-- The first commit that stays and has a parent that goes. -/
def rm1 (E : List Key) : Gr → Rf
  | [] => none
  | c :: G => if c.1 ∈ E then rm1 E G else if anyIn c.2 E then some (10, some c.1) else rm1 E G
/-- The commits that stay. -/
def rmv (E : List Key) (G : Gr) : Gr := G.filter fun c => !decide (c.1 ∈ E)
theorem GA.drop {w w' : World} {g bm : Nat} {X : Lx} {k : Key} (h : GA w g bm X) (mp' : MpH w' bm (adel k (kvs X))) (ho : Only (fun j => j = bm) w w') : GA w' g bm (adel k X) := by
  have hm := mild_map h.at_.mp ho
  refine ⟨hm.cells h.cell, by rw [show kvs (adel k X) = adel k (kvs X) from amap_del _ _ _]; exact mp', fun x hx => ?_⟩
  have := h.at_.seen x ((adel_mem _ _ _).1 hx).1
  exact ⟨this.1.mild hm, this.2⟩
section
variable {ops : Array Oper} {o : Oper} {a : Act} {w : World} {K : Act → World → Prop} {Q : Exit → Act → World → Prop} {X : Prop}
theorem step_del {t k : TypeId} (hgd : o.guard = none) (m x : Operand) (ho : o.op = .call { callee := .builtin .delete, args := #[m, x], argTypes := #[t, k] }) {mv xv : Value} (hm : a.eval m = mv) (hx : a.eval x = xv) {w' : World} (hr : (Builtin.delete_ #[t, k] o.type #[mv, xv]).run Tryz.prog w = .ok (.tuple #[]) w') (h : K (a.put o.dst (.tuple #[])) w') :
    if Region.wanted o (yielded ops a.tmps) = true then Oper.wp Tryz.prog o a w K Q else X := by
  have hw : Region.wanted o (yielded ops a.tmps) = true := by simp [Region.wanted, hgd]
  rw [if_pos hw]
  unfold Oper.wp execOp
  simp [ho, resolve, invoke, builtin, hm, hx, hr, Result.andThen]
  exact h
end
end Go.Proofs.YtnpeahbbcolfmaaGreatDoor
namespace Go.Proofs.YtnpeahbbcolfmaaGreatDoor
open Go.RowKit
open Go.Maps
end Go.Proofs.YtnpeahbbcolfmaaGreatDoor
namespace Go.Proofs.YtnpeahbbcolfmaaGreatDoor
open Go.RowKit
open Go.Maps
section
variable {P : Program} {ops : Array Oper} {rest : List Oper} {a : Act} {w : World} {Q : Exit → Act → World → Prop} {dst : Option Tmp} {T : TypeId} {pos : String} {after : Array Edge}
theorem build_w {g : Option (Nat × Bool)} {t : TypeId} {parts : Array (Nat × Operand)} {vals : Array (Nat × Value)} {cells : Array Value} (hr : P.built t vals.toList = some cells) (hv' : (parts.map fun (i, x) => (i, a.eval x)) = vals)
    (hw : Region.wanted ⟨dst, .build t parts, T, pos, after, g⟩ (yielded ops a.tmps) = true) (h : wpList P ops Q rest (a.put dst (.agg cells)) w) : wpList P ops Q (⟨dst, .build t parts, T, pos, after, g⟩ :: rest) a w :=
  BigFrame.wpList_want hw fun _ hK => wp_build t parts rfl (by rw [hv', hr]; rfl) (by rw [hv', hr]; exact hK _ _ h)
end
/-- A commit put together. -/
theorem built_commit (h : Key) (u : Value) (hh : h.length = 32) (hu : u.cells = #[u]) : Tryz.prog.built 34 [(0, .agg (hv h)), (1, u)] = some (cmv h u) := by
  have hi : (Tryz.prog.info? 34).map (fun i => i.zero.map (·.cells.size)) = some (some 33) := by kernel_rfl
  have hf : (Tryz.prog.underlying 34).map (fun d => match d with | .struct fs => fs.toList.mapM (fun f => (Tryz.prog.info? f.type).map fun i => (f.offset, i.size)) | _ => none) = some (some [(0, 32), (32, 1)]) := by kernel_rfl
  have hs : (hv h).size = 32 := by rw [hv_size, hh]
  unfold cmv
  generalize hv h = h at hs ⊢
  unfold Program.built
  cases hit : Tryz.prog.info? 34 with
  | none => rw [hit] at hi; cases hi
  | some it =>
    rw [hit] at hi
    cases hun : Tryz.prog.underlying 34 with
    | none => rw [hun] at hf; cases hf
    | some d =>
      rw [hun] at hf
      cases d with
      | struct fs =>
        simp only [Option.map_some, Option.some.injEq] at hf
        simp only [hf]
        cases hz : it.zero with
        | none => simp [hz] at hi
        | some z =>
          simp only [Option.map_some, Option.some.injEq, hz] at hi
          have hsz : ∀ x : Array Value, (x.zipIdx.foldl (fun (cs : Array Value) (p : Value × Nat) => cs.setIfInBounds (0 + p.2) p.1) z.cells) = (x.toList.zipIdx.foldl (fun (cs : Array Value) (p : Value × Nat) => cs.setIfInBounds (0 + p.2) p.1) z.cells) := fun x => by
            rw [← Array.foldl_toList, Array.toList_zipIdx]
          have hg := fold_get h.toList 0 z.cells
          have hn : (h.toList.zipIdx.foldl (fun (cs : Array Value) (p : Value × Nat) => cs.setIfInBounds (0 + p.2) p.1) z.cells).size = 33 := by
            rw [← hi]
            generalize h.toList.zipIdx = q
            generalize z.cells = y
            induction q generalizing y with
            | nil => rfl
            | cons a q ih => rw [List.foldl_cons, ih]; simp
          simp only [Instr.fill, List.getElem?_toArray, List.getElem?_cons_zero, List.getElem?_cons_succ, show (Value.agg h).cells = h from rfl, hs, hi, hu, hsz]
          generalize h.toList.zipIdx.foldl (fun (cs : Array Value) (p : Value × Nat) => cs.setIfInBounds (0 + p.2) p.1) z.cells = y at hg hn
          simp only [hn]
          simp
          apply Array.ext_getElem?
          intro i
          have := hg i
          simp only [Array.length_toList, hs, hi] at this
          rw [Array.getElem?_setIfInBounds, Array.getElem?_push, hn, hs]
          by_cases h1 : i = 32
          · subst h1; simp
          · rw [if_neg (by omega), if_neg h1, this]
            by_cases h2 : i < 32
            · rw [if_pos (by omega)]; simp
            · rw [if_neg (by omega)]
              rw [Array.getElem?_eq_none (by omega), Array.getElem?_eq_none (by omega)]
      | _ => simp at hf
theorem built_commit0 (h : Key) (hh : h.length = 32) : Tryz.prog.built 34 [(0, .agg (hv h))] = some (cmv h (.slice none 0 0)) := by
  have hi : (Tryz.prog.info? 34).map (fun i => i.zero) = some (some (.agg czer)) := by kernel_rfl
  have hf : (Tryz.prog.underlying 34).map (fun d => match d with | .struct fs => fs.toList.mapM (fun f => (Tryz.prog.info? f.type).map fun i => (f.offset, i.size)) | _ => none) = some (some [(0, 32), (32, 1)]) := by kernel_rfl
  have hs : (hv h).size = 32 := by rw [hv_size, hh]
  have hcz : czer.size = 33 ∧ czer[32]? = some (.slice none 0 0) := ⟨rfl, rfl⟩
  unfold cmv
  generalize hv h = h at hs ⊢
  unfold Program.built
  cases hit : Tryz.prog.info? 34 with
  | none => rw [hit] at hi; cases hi
  | some it =>
    rw [hit] at hi
    cases hun : Tryz.prog.underlying 34 with
    | none => rw [hun] at hf; cases hf
    | some d =>
      rw [hun] at hf
      cases d with
      | struct fs =>
        simp only [Option.map_some, Option.some.injEq] at hf hi
        simp only [hf, hi]
        have hsz : ∀ x : Array Value, (x.zipIdx.foldl (fun (cs : Array Value) (p : Value × Nat) => cs.setIfInBounds (0 + p.2) p.1) czer) = (x.toList.zipIdx.foldl (fun (cs : Array Value) (p : Value × Nat) => cs.setIfInBounds (0 + p.2) p.1) czer) := fun x => by
          rw [← Array.foldl_toList, Array.toList_zipIdx]
        have hg := fold_get h.toList 0 czer
        have hn : (h.toList.zipIdx.foldl (fun (cs : Array Value) (p : Value × Nat) => cs.setIfInBounds (0 + p.2) p.1) czer).size = 33 := by
          rw [← hcz.1]
          generalize h.toList.zipIdx = q
          generalize czer = y
          induction q generalizing y with
          | nil => rfl
          | cons a q ih => rw [List.foldl_cons, ih]; simp
        simp only [Instr.fill, List.getElem?_toArray, List.getElem?_cons_zero, show (Value.agg h).cells = h from rfl, show (Value.agg czer).cells = czer from rfl, hs, hcz.1, hsz]
        generalize h.toList.zipIdx.foldl (fun (cs : Array Value) (p : Value × Nat) => cs.setIfInBounds (0 + p.2) p.1) czer = y at hg hn
        simp
        apply Array.ext_getElem?
        intro i
        have := hg i
        simp only [Array.length_toList, hs, hcz.1] at this
        rw [Array.getElem?_push, hs]
        by_cases h1 : i = 32
        · subst h1; rw [this, if_neg (by omega), hcz.2]; simp
        · rw [if_neg h1, this]
          by_cases h2 : i < 32
          · rw [if_pos (by omega)]; simp
          · rw [if_neg (by omega), Array.getElem?_eq_none (by rw [hcz.1]; omega), Array.getElem?_eq_none (by omega)]
      | _ => simp at hf
/-- Commits with the slices of their parents: their cells. -/
abbrev Cv := List (Key × Value)
def cf (C : Cv) : List Value := C.flatMap fun c => us (nmb c.1) ++ [c.2]
theorem cf_cons (c : Key × Value) (C : Cv) : cf (c :: C) = (us (nmb c.1) ++ [c.2]) ++ cf C := by simp [cf]
theorem cf_app (C D : Cv) : cf (C ++ D) = cf C ++ cf D := by simp [cf]
theorem cf_one (c : Key × Value) : cf [c] = us (nmb c.1) ++ [c.2] := by simp [cf]
theorem cf_length : ∀ {C : Cv}, (∀ c ∈ C, c.1.length = 32) → (cf C).length = C.length * 33
  | [], _ => rfl
  | c :: C, h => by
    rw [cf_cons, List.length_append, List.length_append, usn_length, h c List.mem_cons_self, cf_length fun d hd => h d (List.mem_cons_of_mem _ hd)]
    simp only [List.length_cons, List.length_nil]
    omega
theorem cf_at : ∀ {C : Cv} (_ : ∀ c ∈ C, c.1.length = 32) {i j : Nat} {c : Key × Value}, C[i]? = some c → j < 33 → (cf C)[i * 33 + j]? = (us (nmb c.1) ++ [c.2])[j]?
  | [], _, i, _, _, hc, _ => by simp at hc
  | d :: C, h, 0, j, c, hc, hj => by
    simp only [List.getElem?_cons_zero, Option.some.injEq] at hc
    subst hc
    rw [cf_cons, List.getElem?_append_left]
    · simp
    · rw [List.length_append, usn_length, h d List.mem_cons_self]; simp; omega
  | d :: C, h, i + 1, j, c, hc, hj => by
    rw [cf_cons, List.getElem?_append_right]
    · rw [List.length_append, usn_length, h d List.mem_cons_self, show (i + 1) * 33 + j - (32 + [d.2].length) = i * 33 + j by simp; omega]
      exact cf_at (fun e he => h e (List.mem_cons_of_mem _ he)) (by simpa using hc) hj
    · rw [List.length_append, usn_length, h d List.mem_cons_self]; simp; omega
theorem czinfo : (Tryz.prog.info? 34).map (fun i => (i.zero, i.size, i.bytes)) = some (some (.agg czer), 33, 56) := by kernel_rfl
theorem cf_flat (C : Cv) : (C.map fun c => Value.agg (cmv c.1 c.2)).flatMap (fun v => v.cells.toList) = cf C := by
  rw [List.flatMap_map]
  unfold cf
  congr 1
  funext c
  exact cmv_list c.1 c.2
section
variable {ops : Array Oper} {rest : List Oper} {a : Act} {w : World} {Q : Exit → Act → World → Prop} {dst : Option Tmp} {T : TypeId} {pos : String} {after : Array Edge}
theorem slice_w {g : Option (Nat × Bool)} {E : List Key} {parts : Array (Nat × Operand)} {len : Nat} (hE : H32 E) (hl : len = E.length) (h0 : 0 < E.length) (h1 : E.length ≤ 1000)
    (hv' : (parts.map fun (i, x) => (i, a.eval x)).toList = ((E.map fun h => Value.agg (hv h)).zipIdx 0).map fun x => (x.2, x.1))
    (hw : Region.wanted ⟨dst, .buildSlice 32 len parts, T, pos, after, g⟩ (yielded ops a.tmps) = true)
    (h : wpList Tryz.prog ops Q rest (a.put dst (.slice (some ⟨w.heap.size, 0, none⟩) len len)) (w.alloc (.cells (fl E).toArray 31))) : wpList Tryz.prog ops Q (⟨dst, .buildSlice 32 len parts, T, pos, after, g⟩ :: rest) a w := by
  subst hl
  obtain ⟨i0, hi0, hz0, hz1, hz2⟩ := info_parts hzinfo
  have hrun : (Instr.buildSlice 32 E.length (parts.map fun (i, x) => (i, a.eval x))).run Tryz.prog w = .ok (.slice (some ⟨w.heap.size, 0, none⟩) E.length E.length) (w.alloc (.cells (fl E).toArray 31)) := by
    refine run_buildSlice w 32 31 E.length _ (fl E).toArray i0 (.agg hzer) Tryz.underlying32 hi0 hz0 (by rw [hz1]; omega) (by rw [hz1]; omega) ?_
    rw [hv', hz1]
    exact (by
      have := Great.fill_whole (s := 32) (by decide) (E.map fun h => Value.agg (hv h)) ((Array.range (E.length * 32)).map ((Value.agg hzer).cells[· % (Value.agg hzer).cells.size]!)) (fun v hvm => by
        obtain ⟨h, hm, rfl⟩ := List.mem_map.1 hvm
        show (hv h).size = 32
        rw [hv_size, hE h hm]) (by simp)
      rw [fl_flat] at this
      exact this)
  refine BigFrame.wpList_want hw fun K hK => ?_
  unfold Oper.wp execOp
  simp only [Sem.run_bind, hrun, Result.andThen_ok]
  exact hK _ _ h
theorem slicec_w {g : Option (Nat × Bool)} {C : Cv} {parts : Array (Nat × Operand)} {len : Nat} (hE : ∀ c ∈ C, c.1.length = 32) (hl : len = C.length) (h0 : 0 < C.length) (h1 : C.length ≤ 1000)
    (hv' : (parts.map fun (i, x) => (i, a.eval x)).toList = ((C.map fun c => Value.agg (cmv c.1 c.2)).zipIdx 0).map fun x => (x.2, x.1))
    (hw : Region.wanted ⟨dst, .buildSlice 35 len parts, T, pos, after, g⟩ (yielded ops a.tmps) = true)
    (h : wpList Tryz.prog ops Q rest (a.put dst (.slice (some ⟨w.heap.size, 0, none⟩) len len)) (w.alloc (.cells (cf C).toArray 34))) : wpList Tryz.prog ops Q (⟨dst, .buildSlice 35 len parts, T, pos, after, g⟩ :: rest) a w := by
  subst hl
  obtain ⟨i0, hi0, hz0, hz1, hz2⟩ := info_parts czinfo
  have hrun : (Instr.buildSlice 35 C.length (parts.map fun (i, x) => (i, a.eval x))).run Tryz.prog w = .ok (.slice (some ⟨w.heap.size, 0, none⟩) C.length C.length) (w.alloc (.cells (cf C).toArray 34)) := by
    refine run_buildSlice w 35 34 C.length _ (cf C).toArray i0 (.agg czer) Tryz.underlying35 hi0 hz0 (by rw [hz1]; omega) (by rw [hz1]; omega) ?_
    rw [hv', hz1]
    exact (by
      have := Great.fill_whole (s := 33) (by decide) (C.map fun c => Value.agg (cmv c.1 c.2)) ((Array.range (C.length * 33)).map ((Value.agg czer).cells[· % (Value.agg czer).cells.size]!)) (fun v hvm => by
        obtain ⟨c, hm, rfl⟩ := List.mem_map.1 hvm
        exact cmv_size (hE c hm) c.2) (by simp)
      rw [cf_flat] at this
      exact this)
  refine BigFrame.wpList_want hw fun K hK => ?_
  unfold Oper.wp execOp
  simp only [Sem.run_bind, hrun, Result.andThen_ok]
  exact hK _ _ h
end
/-- New commits are seen. -/
theorem cseen_new {W : World} {b : Nat} {C : Cv} {cs : List Cm} (hb : W.heap[b]? = some (.cells (cf C).toArray 34 (0, 0))) (h32 : ∀ c ∈ C, c.1.length = 32) (hl : C.length = cs.length)
    (hc : ∀ (i : Nat) (c : Key × Value) (d : Cm), C[i]? = some c → cs[i]? = some d → c.1 = d.1 ∧ HSeen W c.2 d.2) (n : Nat) (hn : n = cs.length) : CSeen W (.slice (some ⟨b, 0, none⟩) n n) cs := by
  subst hn
  refine ⟨_, _, rfl, fun i d hi => ?_⟩
  have hlt := (List.getElem?_eq_some_iff.1 hi).1
  have hci : C[i]? = some C[i] := List.getElem?_eq_getElem (by omega)
  obtain ⟨h1, h2⟩ := hc i _ d hci hi
  refine ⟨b, 0, C[i].2, rfl, fun j u hj => ?_, h2⟩
  have hj33 : j < 33 := by
    have := (List.getElem?_eq_some_iff.1 hj).1
    rw [List.length_append, usn_length, ← h1, h32 _ (List.getElem_mem _)] at this
    simpa using this
  rw [cell_of_row W b _ _ _ _ hb, List.getElem?_toArray, Nat.zero_add, cf_at h32 hci hj33, h1]
  exact hj
theorem hseen_new {W : World} {b : Nat} {E : List Key} (hb : W.heap[b]? = some (.cells (fl E).toArray 31 (0, 0))) (n : Nat) (hn : n = E.length) : HSeen W (.slice (some ⟨b, 0, none⟩) n n) E := by
  subst hn
  refine .inr ⟨_, _, rfl, Nat.le_refl _, fun j u hj => ?_⟩
  rw [Addr.add_lit, cell_of_row W b _ _ _ _ hb, List.getElem?_toArray, Nat.zero_add]
  exact hj
end Go.Proofs.YtnpeahbbcolfmaaGreatDoor
namespace Go.Proofs.YtnpeahbbcolfmaaGreatDoor
open Go.RowKit Go.Extern.Stop Go.Stop Go.Extern
open Go.Maps
/-- A hash by its first byte. -/
def kn (n : UInt8) : Key := [n, 0, 0, 0, 0, 0, 0, 0, 0, 0, 0, 0, 0, 0, 0, 0, 0, 0, 0, 0, 0, 0, 0, 0, 0, 0, 0, 0, 0, 0, 0, 0]
theorem kn_built (n : UInt8) : Tryz.prog.built 31 [(0, .int .u8 (n.toNat : Int))] = some (hv (kn n)) := by kernel_rfl
theorem below_al11 (w : World) (o : Obj) : Below w.heap.size w (w.alloc o) := (Below.refl _ _).alloc (Nat.le_refl _) _
/-- What the example is. -/
structure Kx11 (a b : Key) : Prop where
  la : a.length = 32
  lb : b.length = 32
  ba : Tryz.prog.built 31 [(0, .int .u8 1)] = some (hv a)
  bb : Tryz.prog.built 31 [(0, .int .u8 2)] = some (hv b)
  f1 : chk [] 2 [(a, [b])] [] = some (10, some b)
  f2 : chk [] 2 [(a, [])] [] = none
  g2 : adds [] [(a, [])] = [(a, [])]
end Go.Proofs.YtnpeahbbcolfmaaGreatDoor
namespace Go.Proofs.YtnpeahbbcolfmaaGreatDoor
open Go.RowKit Go.Extern.Stop Go.Stop Go.Extern
open Go.Maps
/-- What the closed sentence says of its hashes. -/
structure Kz (a b c d4 d5 d6 d7 d8 d9 : Key) : Prop where
  la : a.length = 32
  lb : b.length = 32
  lc : c.length = 32
  l4 : H32 [d4, d5, d6, d7, d8]
  l9 : d9.length = 32
  b1 : Tryz.prog.built 31 [(0, .int .u8 1)] = some (hv a)
  b2 : Tryz.prog.built 31 [(0, .int .u8 2)] = some (hv b)
  b3 : Tryz.prog.built 31 [(0, .int .u8 3)] = some (hv c)
  b4 : Tryz.prog.built 31 [(0, .int .u8 4)] = some (hv d4)
  b5 : Tryz.prog.built 31 [(0, .int .u8 5)] = some (hv d5)
  b6 : Tryz.prog.built 31 [(0, .int .u8 6)] = some (hv d6)
  b7 : Tryz.prog.built 31 [(0, .int .u8 7)] = some (hv d7)
  b8 : Tryz.prog.built 31 [(0, .int .u8 8)] = some (hv d8)
  b9 : Tryz.prog.built 31 [(0, .int .u8 9)] = some (hv d9)
  fe : chk [] 0 [] [] = some (1, none)
  ff : chk [] 2 [(a, [d4, d5, d6, d7, d8])] [] = some (8, some a)
  fh : chk [] 2 [(a, [b, b])] [] = some (1, some a)
  fi : chk [] 2 [(b, [a]), (a, []), (b, [a])] [] = none
  gi : adds [] [(b, [a]), (a, []), (b, [a])] = [(a, []), (b, [a])]
  fj : chk [(a, []), (b, [a])] 2 [(b, [])] [] = some (9, some b)
  fk : chk [(a, []), (b, [a])] 1 [] [a, c] = some (11, some c)
  fl : chk [(a, []), (b, [a])] 2 [(c, [d9]), (d9, [c])] [] = some (12, some c)
  fm : rm1 [a] [(a, []), (b, [a])] = some (10, some b)
  fn : rm1 [b, c] [(a, []), (b, [a])] = none
  okI : COk [(b, [a]), (a, []), (b, [a])]
  okL : COk [(c, [d9]), (d9, [c])]
  gn : rmv [b, c] [(a, []), (b, [a])] = [(a, [])]
  fa : (ancs [(a, []), (b, [a])] [b]).length = 2
  fd : (descs [(a, []), (b, [a])] [a]).length = 2
  fp : aget b [(a, []), (b, [a])] = some [a]
theorem no_up {f : Key → List Key} {a b : Key} (h : f a = []) (hne : a ≠ b) : ¬ Up f a b := fun k => by
  cases k with
  | refl => exact hne rfl
  | step h1 _ => rw [h] at h1; cases h1
/-- Where the known sentence stands: the hashes of the caller's own, the graph, the errors. -/
structure Ks (w W : World) (H : List (Nat × Key)) (g bm : Nat) (X : Lx) (L : List (Value × Rf)) : Prop where
  bel : Below w.heap.size w W
  own : ∀ p ∈ H, W.heap[p.1]? = some (.cells (hv p.2) 31 (0, 0)) ∧ p.2.length = 32
  ga : GA W g bm X
  lo : w.heap.size ≤ bm
  err : ∀ p ∈ L, ErrW W p.1 p.2
theorem ErrW.mild {w w' : World} {v : Value} : ∀ {r : Rf}, ErrW w v r → Mild w w' → ErrW w' v r
  | none, h, _ => h
  | some (_, none), h, _ => h
  | some (_, some _), h, b => by
    obtain ⟨h1, p, h2, h3⟩ := h
    exact ⟨h1, p, h2, b.cells h3.1, h3.2⟩
theorem Ks.kb {w W W' : World} {H : List (Nat × Key)} {g bm : Nat} {X : Lx} {L : List (Value × Rf)} (h : Ks w W H g bm X L) (k : Below W.heap.size W W') : Ks w W' H g bm X L :=
  ⟨h.bel.trans (k.mono h.bel.size), fun p hp => ⟨(mild_below k).cells (h.own p hp).1, (h.own p hp).2⟩, h.ga.kb k, h.lo, fun p hp => (h.err p hp).mild (mild_below k)⟩
theorem Ks.turn {w W W' : World} {H : List (Nat × Key)} {g bm : Nat} {X X' : Lx} {L : List (Value × Rf)} (h : Ks w W H g bm X L) (ho : Only (fun j => j = bm) W W') (hg : GA W' g bm X') : Ks w W' H g bm X' L :=
  have m := mild_map h.ga.at_.mp ho
  ⟨h.bel.trans (ho.below h.bel.size fun k hk => by rw [hk]; exact h.lo), fun p hp => ⟨m.cells (h.own p hp).1, (h.own p hp).2⟩, hg, h.lo, fun p hp => (h.err p hp).mild m⟩
theorem Ks.add {w W : World} {H : List (Nat × Key)} {g bm : Nat} {X : Lx} {L : List (Value × Rf)} (h : Ks w W H g bm X L) {x : Value} {r : Rf} (e : ErrW W x r) : Ks w W H g bm X ((x, r) :: L) :=
  ⟨h.bel, h.own, h.ga, h.lo, fun p hp => by exact (List.mem_cons.1 hp).elim (fun q => by rw [q]; exact e) (h.err p)⟩
/-- The same, with where the new rows lie. -/
theorem Ks.addedF {w W W' : World} {H : List (Nat × Key)} {g bm : Nat} {X : Lx} {L : List (Value × Rf)} {cs : List Cm} {e : Ending} (h : Ks w W H g bm X L) (p : AddPost W g bm X cs e W') :
    ∃ x X', e = .returned x ∧ Ks w W' H g bm X' ((x, chk (gr X) 2 cs []) :: L) ∧ ((chk (gr X) 2 cs []).isSome = true → X' = X) ∧ (chk (gr X) 2 cs [] = none → gr X' = adds (gr X) cs) ∧ Only (fun j => j = bm) W W' ∧ FarX W.heap.size X X' := by
  obtain ⟨x, rfl, ex, o, h1⟩ := p
  rcases h1 with ⟨h1, b⟩ | ⟨X', h1, g', hX, hF⟩
  · exact ⟨x, X, rfl, (h.kb b).add ex, fun _ => rfl, fun h2 => absurd h1 (by rw [h2]; simp), o, FarX.refl _ _⟩
  · exact ⟨x, X', rfl, (h.turn o g').add ex, fun h2 => absurd h2 (by rw [h1]; simp), fun _ => hX, o, hF⟩
theorem h32_two {a b : Key} (ha : a.length = 32) (hb : b.length = 32) : H32 [a, b] := fun x hx => by
  simp only [List.mem_cons, List.not_mem_nil, or_false] at hx; rcases hx with rfl | rfl <;> assumption
theorem al_size (W : World) (o : Obj) : (W.alloc o).heap.size = W.heap.size + 1 := by simp
theorem Wf.parm {X : Lx} (h : Wf (gr X)) (n : Nat) (hn : 4 ≤ n) : ∀ x ∈ X, x.2.2.length ≤ n := fun x hx => Nat.le_trans (h.par _ (List.mem_map.2 ⟨x, hx, rfl⟩)).1 hn
theorem Wf.parn {X : Lx} (h : Wf (gr X)) : ∀ x ∈ X, x.2.2.Nodup ∧ x.2.2.length ≤ 1000 := fun x hx => ⟨(h.par _ (List.mem_map.2 ⟨x, hx, rfl⟩)).2, Nat.le_trans (h.par _ (List.mem_map.2 ⟨x, hx, rfl⟩)).1 (by decide)⟩
theorem Wf.xlen {X : Lx} (h : Wf (gr X)) : X.length ≤ 1000 := by have := h.few; rwa [gr_len] at this
/-- A commit beside a slice of its parents, in memory. -/
def Lit (W : World) (c : Key × Value) (d : Cm) : Prop := c.1 = d.1 ∧ HSeen W c.2 d.2
theorem Lit.kb {W W' : World} {c : Key × Value} {d : Cm} (h : Lit W c d) (k : Below W.heap.size W W') : Lit W' c d := ⟨h.1, h.2.mild (mild_below k)⟩
inductive Lits (W : World) : Cv → List Cm → Prop
  | nil : Lits W [] []
  | cons {c d C D} : Lit W c d → Lits W C D → Lits W (c :: C) (d :: D)
theorem Lits.get {W : World} {C : Cv} {D : List Cm} (h : Lits W C D) : C.length = D.length ∧ ∀ (i : Nat) (c : Key × Value) (d : Cm), C[i]? = some c → D[i]? = some d → Lit W c d := by
  induction h with
  | nil => exact ⟨rfl, fun i c d h => by simp at h⟩
  | cons h1 _ ih =>
    refine ⟨by simp [ih.1], fun i c d h2 h3 => ?_⟩
    cases i with
    | zero => simp only [List.getElem?_cons_zero, Option.some.injEq] at h2 h3; subst h2 h3; exact h1
    | succ i => exact ih.2 i c d (by simpa using h2) (by simpa using h3)
theorem Lits.made {W : World} {C : Cv} {D : List Cm} (h : Lits W C D) (h32 : ∀ c ∈ C, c.1.length = 32) (n : Nat) (hn : n = D.length) (B : Nat) (hB : W.heap.size = B) :
    CSeen (W.alloc (.cells (cf C).toArray 34)) (.slice (some ⟨B, 0, none⟩) n n) D := by
  subst hB
  exact cseen_new (heap_alloc_last W _) h32 h.get.1 (fun i c d hc hd => (h.get.2 i c d hc hd).kb (below_al11 W _)) n hn
end Go.Proofs.YtnpeahbbcolfmaaGreatDoor
namespace Go.Proofs.YtnpeahbbcolfmaaGreatDoor
open Go.RowKit
attribute [local go_sem ↓] hld_open heq_open hne_open
theorem own_shape {w : World} {B : Nat} {v : Value} {E : List (List UInt8)} (h : HOwn w B v E) : ∃ p cap, v = .slice p E.length cap := by
  rcases h.2 with ⟨rfl, h0⟩ | ⟨g, cap, cur, rfl, _⟩
  · exact ⟨none, 0, by rw [h0]⟩
  · exact ⟨_, _, rfl⟩
/-- The slice v holds the numbers l. -/
def ISeen (w : World) (v : Value) (l : List Int) : Prop :=
  (v = .slice none 0 0 ∧ l = []) ∨ ∃ a cap, v = .slice (some a) l.length cap ∧ l.length ≤ cap ∧ ∀ j x, l[j]? = some x → w.cell? (a.add j) = some (.int .i64 x)
def hhs (l : List Int) : List (List UInt8) := l.map hh
end Go.Proofs.YtnpeahbbcolfmaaGreatDoor
namespace Go.Proofs.YtnpeahbbcolfmaaGreatDoor
open Go.RowKit
/-- A slice of numbers of one's own. -/
abbrev IOwns (w : World) (B : Nat) (v : Value) (l : List Int) : Prop := w.ownsRow B 3 1 v l.length (l.map (Value.int .i64))
theorem IOwns.seen {w : World} {B : Nat} {v : Value} {l : List Int} (h : IOwns w B v l) : ISeen w v l := by
  rcases h.2 with ⟨rfl, h0⟩ | ⟨g, cap, cur, rfl, _, hg, hn, _, _, hc⟩
  · exact .inl ⟨rfl, List.eq_nil_of_length_eq_zero h0⟩
  · refine .inr ⟨_, _, rfl, by omega, fun j x hj => ?_⟩
    have hadd : (⟨g, 0, none⟩ : Addr).add j = ⟨g, j, none⟩ := by unfold Addr.add; split <;> simp_all
    have hlt := (List.getElem?_eq_some_iff.1 hj).1
    rw [hadd, cell_of_row w g j _ _ _ hg]
    have h2 : (cur.toList.take (l.length * 1))[j]? = some (.int .i64 x) := by rw [hc, List.getElem?_map, hj]; rfl
    rw [List.getElem?_take, if_pos (by omega)] at h2
    simpa using h2
theorem ISeen.kb' {w w' : World} {v : Value} {l : List Int} (h : ISeen w v l) (hb : Below w.heap.size w w') : ISeen w' v l := by
  rcases h with h | ⟨a, cap, rfl, hc, hu⟩
  · exact .inl h
  · exact .inr ⟨a, cap, rfl, hc, fun j x hj => by rw [World.cell?_of_block (hb.block _ (World.block_lt_of_cell? w _ (hu j x hj)))]; exact hu j x hj⟩
theorem own_from {w : World} {B : Nat} {e : TypeId} {s : Nat} {v : Value} {n : Nat} {xs : List Value} (h : w.ownsRow B e s v n xs) : ∀ k, v.ownBlock = some k → B ≤ k := fun k hk => by
  rcases h.2 with ⟨rfl, _⟩ | ⟨g, cap, cur, rfl, hb, _⟩
  · cases hk
  · injection hk with hk; subst hk; exact hb
section
variable {ops : Array Oper} {rest : List Oper} {a : Act} {Q : Exit → Act → World → Prop} {o : Oper} {w w0 : World}
end
end Go.Proofs.YtnpeahbbcolfmaaGreatDoor
namespace Go.Proofs.YtnpeahbbcolfmaaGreatDoor
open Go.RowKit
open Go.Maps
/-- A commit that is being put together. -/
structure CI (W : World) (B cb : Nat) (h : Key) (u : Value) (ps : List Key) : Prop where
  cell : W.heap[cb]? = some (.cells (cmv h u) 34 (0, 0))
  own : HOwn W B u ps
  lo : B ≤ cb
  p32 : H32 ps
  hh : h.length = 32
theorem own_type {W : World} {B : Nat} {e : TypeId} {s : Nat} {v : Value} {n : Nat} {xs : List Value} (h : W.ownsRow B e s v n xs) {j : Nat} (hj : v.ownBlock = some j) : ∃ cs, W.heap[j]? = some (.cells cs e (0, 0)) ∧ B ≤ j := by
  rcases h.2 with ⟨rfl, _⟩ | ⟨g, cap, cur, rfl, hb, hg, _⟩
  · cases hj
  · injection hj with hj; subst hj; exact ⟨cur, hg, hb⟩
theorem own_apart {W : World} {B : Nat} {e t : TypeId} {s : Nat} {v : Value} {n : Nat} {xs : List Value} {b : Nat} {cs : Array Value} {f : Nat × Nat} (h : W.ownsRow B e s v n xs) (hb : W.heap[b]? = some (.cells cs t f)) (hne : t ≠ e) : v.ownBlock ≠ some b := fun hj => by
  obtain ⟨cs', h1, _⟩ := own_type h hj
  rw [h1] at hb
  injection hb with hb
  injection hb with _ hb _
  exact hne hb.symm
theorem own_keep {w w' : World} {B : Nat} {e : TypeId} {s : Nat} {v : Value} {n : Nat} {xs : List Value} {S : Nat → Prop} (h : w.ownsRow B e s v n xs) (ho : Only S w w') (hs : ∀ j, v.ownBlock = some j → ¬ S j) : w'.ownsRow B e s v n xs := by
  refine ⟨h.1, ?_⟩
  rcases h.2 with h1 | ⟨g, cap, cur, rfl, hb, hg, h3⟩
  · exact .inl h1
  · exact .inr ⟨g, cap, cur, rfl, hb, (ho.block g (Array.getElem?_eq_some_iff.1 hg).1 (hs g rfl)).trans hg, h3⟩
theorem own_below {w w' : World} {B : Nat} {e : TypeId} {s : Nat} {v : Value} {n : Nat} {xs : List Value} (h : w.ownsRow B e s v n xs) (k : Below w.heap.size w w') : w'.ownsRow B e s v n xs := own_keep (S := fun _ => False) h (Only.of_below k) (fun _ _ h => h)
theorem CI.kb {W W' : World} {B cb : Nat} {h : Key} {u : Value} {ps : List Key} (H : CI W B cb h u ps) (k : Below W.heap.size W W') : CI W' B cb h u ps :=
  ⟨(mild_below k).cells H.cell, own_below H.own k, H.lo, H.p32, H.hh⟩
theorem CI.par {W : World} {B cb : Nat} {h : Key} {u : Value} {ps : List Key} (H : CI W B cb h u ps) : W.cell? ⟨cb, 32, none⟩ = some u := cm_cell H.hh H.cell
theorem cmv_set {h : Key} (hh : h.length = 32) (u v : Value) : (cmv h u).setIfInBounds 32 v = cmv h v := by
  unfold cmv
  apply Array.ext_getElem?
  intro i
  have hs : (hv h).size = 32 := by rw [hv_size, hh]
  rw [Array.getElem?_setIfInBounds, Array.getElem?_push, Array.getElem?_push, hs, Array.size_push, hs]
  by_cases h1 : i = 32
  · subst h1; simp
  · simp [h1, show ¬ 32 = i from fun e => h1 e.symm]
/-- Its parents are set anew. -/
theorem CI.set {W : World} {B cb : Nat} {h : Key} {u v : Value} {ps qs : List Key} (H : CI W B cb h u ps) (o : HOwn W B v qs) (h32 : H32 qs) : CI (W.setCell ⟨cb, 32, none⟩ v) B cb h v qs := by
  refine ⟨?_, ?_, H.lo, h32, H.hh⟩
  · rw [heap_setCell_same W cb 32 _ _ _ H.cell, cmv_set H.hh]
  · exact own_keep (S := fun j => j = cb) o ((Only.refl (fun j => j = cb) W).setCell (p := ⟨cb, 32, none⟩) rfl _) (fun j hj e => own_apart o H.cell (by decide) (by rw [hj, e]))
theorem CI.mid {W W1 : World} {B cb : Nat} {h : Key} {u : Value} {ps : List Key} (H : CI W B cb h u ps) (oth : Only (fun j => u.ownBlock = some j) W W1) : W1.heap[cb]? = some (.cells (cmv h u) 34 (0, 0)) :=
  (oth.block cb (Array.getElem?_eq_some_iff.1 H.cell).1 (fun e => own_apart H.own H.cell (by decide) e)).trans H.cell
/-- A parent more. -/
theorem CI.push {W W1 : World} {B cb : Nat} {h : Key} {u v : Value} {ps : List Key} {x : Key} (H : CI W B cb h u ps) (o : HOwn W1 B v (ps ++ [x])) (oth : Only (fun j => u.ownBlock = some j) W W1) (hx : x.length = 32) :
    CI (W1.setCell ⟨cb, 32, none⟩ v) B cb h v (ps ++ [x]) ∧ Only (fun j => j = cb ∨ u.ownBlock = some j) W (W1.setCell ⟨cb, 32, none⟩ v) := by
  have h1 := H.mid oth
  refine ⟨⟨?_, ?_, H.lo, H.p32.app (H32.one hx), H.hh⟩, (oth.mono (T := fun j => j = cb ∨ u.ownBlock = some j) fun j _ hj => .inr hj).setCell (p := ⟨cb, 32, none⟩) (.inl rfl) _⟩
  · rw [heap_setCell_same W1 cb 32 _ _ _ h1, cmv_set H.hh]
  · exact own_keep (S := fun j => j = cb) o ((Only.refl (fun j => j = cb) W1).setCell (p := ⟨cb, 32, none⟩) rfl _) (fun j hj e => own_apart o h1 (by decide) (by rw [hj, e]))
/-- What lies beside: all that was there at W0; a block of another type; numbers. -/
structure YB (W W0 : World) (yb : Nat) (yc : Array Value) (yt : TypeId) (B8 : Nat) (v8 : Value) (l8 : List Int) : Prop where
  bel : Below W0.heap.size W0 W
  y : W.heap[yb]? = some (.cells yc yt (0, 0))
  yt : yt ≠ 31 ∧ yt ≠ 34
  p : IOwns W B8 v8 l8
theorem YB.kb {W W' W0 : World} {yb : Nat} {yc : Array Value} {yt : TypeId} {B8 : Nat} {v8 : Value} {l8 : List Int} (H : YB W W0 yb yc yt B8 v8 l8) (k : Below W.heap.size W W') : YB W' W0 yb yc yt B8 v8 l8 :=
  ⟨H.bel.trans (k.mono H.bel.size), (mild_below k).cells H.y, H.yt, own_below H.p k⟩
theorem YB.far {W W' W0 : World} {yb : Nat} {yc : Array Value} {yt : TypeId} {B8 : Nat} {v8 : Value} {l8 : List Int} {cb : Nat} {h : Key} {u : Value} {ps : List Key} (H : YB W W0 yb yc yt B8 v8 l8) (C : CI W W0.heap.size cb h u ps) (o : Only (fun j => j = cb ∨ u.ownBlock = some j) W W') : YB W' W0 yb yc yt B8 v8 l8 := by
  refine ⟨H.bel.trans (o.below H.bel.size (fun k hk => ?_)), ?_, H.yt, own_keep H.p o (fun j hj hs => ?_)⟩
  · rcases hk with rfl | hk
    · exact C.lo
    · exact (own_type C.own hk).choose_spec.2
  · refine (o.block yb (Array.getElem?_eq_some_iff.1 H.y).1 (fun e => ?_)).trans H.y
    rcases e with e | e
    · have := H.y; rw [e, C.cell] at this; injection this with this; injection this with _ this _; exact H.yt.2 this.symm
    · exact own_apart C.own H.y H.yt.1 e
  · rcases hs with e | e
    · exact own_apart H.p C.cell (by decide) (by rw [hj, e])
    · obtain ⟨cs, h1, _⟩ := own_type H.p hj
      exact own_apart C.own h1 (by decide) e
section
variable {ops : Array Oper} {a : Act} {Q : Exit → Act → World → Prop} {o : Oper} {w : World} {K : Act → World → Prop} {X : Prop}
theorem step_sl1 {dst : Option Tmp} {T : TypeId} {pos : String} {after : Array Edge} {gd : Option (Nat × Bool)} {x : Operand} (h : Key) (hh : h.length = 32) (hx : a.eval x = .agg (hv h)) (hw : Region.wanted ⟨dst, .buildSlice 32 1 #[(0, x)], T, pos, after, gd⟩ (yielded ops a.tmps) = true)
    (hK : K (a.put dst (.slice (some ⟨w.heap.size, 0, none⟩) 1 1)) (w.alloc (.cells (hv h) 31))) :
    if Region.wanted ⟨dst, .buildSlice 32 1 #[(0, x)], T, pos, after, gd⟩ (yielded ops a.tmps) = true then Oper.wp Tryz.prog ⟨dst, .buildSlice 32 1 #[(0, x)], T, pos, after, gd⟩ a w K Q else X := by
  rw [if_pos hw]
  unfold Oper.wp execOp
  simp only [Sem.run_bind, Sem.run_pure, Result.andThen_ok, List.map_toArray, List.map_cons, List.map_nil, hx, run_build_hash w h hh]
  exact hK
/-- append of one hash, in a region that draws. -/
theorem step_pushh (hgd : o.guard = none) (s x : Operand) (ho : o.op = .call { callee := .builtin .append, args := #[s, x], argTypes := #[32, 32] })
    (B : Nat) (v : Value) (l : List Key) (b : Nat) (k : Key) (hk : k.length = 32) (hs : a.eval s = v) (hown : HOwn w B v l) (hx : a.eval x = .slice (some ⟨b, 0, none⟩) 1 1) (hu : w.heap[b]? = some (.cells (hv k) 31 (0, 0))) (hl : l.length + 1 ≤ 1000000) (hB : B ≤ w.heap.size)
    (m : Nat) (hm : m = l.length + 1)
    (h : ∀ (p : Option Addr) (c : Nat) (w' : World), HOwn w' B (.slice p m c) (l ++ [k]) → Only (fun j => v.ownBlock = some j) w w' → (∀ j, (Value.slice p m c).ownBlock = some j → v.ownBlock = some j ∨ w.heap.size ≤ j) → K (a.put o.dst (.slice p m c)) w') :
    if Region.wanted o (yielded ops a.tmps) = true then Oper.wp Tryz.prog o a w K Q else X := by
  have hw : Region.wanted o (yielded ops a.tmps) = true := by simp [Region.wanted, hgd]
  rw [if_pos hw]
  obtain ⟨v', w', hr, h1, h2, h3⟩ := run_push_loc w o.type B v l b k hk hown (by have := range_row hu; rwa [hv_list] at this) (by omega) hB
  obtain ⟨p, c, rfl⟩ := own_shape h1
  rw [List.length_append, List.length_singleton, ← hm] at h1 h3 hr
  unfold Oper.wp execOp
  simp only [ho, resolve, invoke, builtin, Sem.run_bind, Sem.run_pure, Result.andThen_ok, List.map_toArray, List.map_cons, List.map_nil, hs, hx, hr]
  exact h p c w' h1 h2 h3
end
end Go.Proofs.YtnpeahbbcolfmaaGreatDoor
namespace Go.Proofs.YtnpeahbbcolfmaaGreatDoor
open Go.RowKit
open Go.Maps
/-- The request that is being put together. -/
structure RI (W : World) (B rb : Nat) (vc vh : Value) (g : Int) (C : Cv) (cs : List Cm) (hs : List Key) : Prop where
  cell : W.heap[rb]? = some (.cells #[vc, vh, .int .i64 g] 37 (0, 0))
  lo : B ≤ rb
  row : W.ownsRow B 34 33 vc C.length (cf C)
  len : C.length = cs.length
  lit : ∀ (i : Nat) (c : Key × Value) (d : Cm), C[i]? = some c → cs[i]? = some d → c.1 = d.1 ∧ HOwn W B c.2 d.2 ∧ H32 d.2 ∧ d.1.length = 32 ∧ d.2.length ≤ 10
  sep : ∀ c ∈ C, ∀ j, c.2.ownBlock = some j → vh.ownBlock ≠ some j
  heads : HOwn W B vh hs
  h32 : H32 hs
section
variable {W W' W1 : World} {B rb : Nat} {vc vh : Value} {g : Int} {C : Cv} {cs : List Cm} {hs : List Key}
theorem RI.pos (H : RI W B rb vc vh g C cs hs) {c : Key × Value} (hc : c ∈ C) : ∃ d, d ∈ cs ∧ c.1 = d.1 ∧ HOwn W B c.2 d.2 ∧ H32 d.2 ∧ d.1.length = 32 ∧ d.2.length ≤ 10 := by
  obtain ⟨i, hi, rfl⟩ := List.mem_iff_getElem.1 hc
  have h1 : i < cs.length := by rw [← H.len]; exact hi
  exact ⟨cs[i], List.getElem_mem _, H.lit i _ _ (List.getElem?_eq_getElem hi) (List.getElem?_eq_getElem h1)⟩
theorem RI.keep (H : RI W B rb vc vh g C cs hs) {S : Nat → Prop} (ho : Only S W W') (h1 : ¬ S rb) (h2 : ∀ j, vc.ownBlock = some j → ¬ S j) (h3 : ∀ j, vh.ownBlock = some j → ¬ S j) (h4 : ∀ c ∈ C, ∀ j, c.2.ownBlock = some j → ¬ S j) : RI W' B rb vc vh g C cs hs :=
  { cell := (ho.block rb (Array.getElem?_eq_some_iff.1 H.cell).1 h1).trans H.cell, lo := H.lo, row := own_keep H.row ho h2, len := H.len
    lit := fun i c d hc hd => by
      obtain ⟨a1, a2, a3⟩ := H.lit i c d hc hd
      exact ⟨a1, own_keep a2 ho (h4 c (List.mem_of_getElem? hc)), a3⟩
    sep := H.sep, heads := own_keep H.heads ho h3, h32 := H.h32 }
theorem RI.kb (H : RI W B rb vc vh g C cs hs) (k : Below W.heap.size W W') : RI W' B rb vc vh g C cs hs := H.keep (S := fun _ => False) (Only.of_below k) (fun h => h) (fun _ _ h => h) (fun _ _ h => h) (fun _ _ _ _ h => h)
theorem RI.c0 (H : RI W B rb vc vh g C cs hs) : W.cell? ⟨rb, 0, none⟩ = some vc ∧ W.cell? ⟨rb, 1, none⟩ = some vh ∧ W.cell? ⟨rb, 2, none⟩ = some (.int .i64 g) := by
  refine ⟨?_, ?_, ?_⟩ <;> rw [cell_of_row W rb _ _ _ _ H.cell] <;> rfl
theorem RI.cap (H : RI W B rb vc vh g C cs hs) : ∀ c ∈ C, ∀ j, c.2.ownBlock = some j → j ≠ rb := fun c hc j hj e => by
  obtain ⟨d, _, _, o, _⟩ := H.pos hc
  exact own_apart o H.cell (by decide) (by rw [hj, e])
theorem RI.ne (H : RI W B rb vc vh g C cs hs) : vc.ownBlock ≠ some rb ∧ vh.ownBlock ≠ some rb := ⟨own_apart H.row H.cell (by decide), own_apart H.heads H.cell (by decide)⟩
/-- The group is set. -/
theorem RI.grp (H : RI W B rb vc vh g C cs hs) (g' : Int) : RI (W.setCell ⟨rb, 2, none⟩ (.int .i64 g')) B rb vc vh g' C cs hs ∧ Only (fun j => j = rb) W (W.setCell ⟨rb, 2, none⟩ (.int .i64 g')) := by
  have ho : Only (fun j => j = rb) W (W.setCell ⟨rb, 2, none⟩ (.int .i64 g')) := (Only.refl (fun j => j = rb) W).setCell (p := ⟨rb, 2, none⟩) rfl _
  refine ⟨{ cell := ?_, lo := H.lo, row := own_keep H.row ho fun j hj e => H.ne.1 (by rw [hj, e]), len := H.len, lit := fun i c d hc hd => ?_, sep := H.sep, heads := own_keep H.heads ho fun j hj e => H.ne.2 (by rw [hj, e]), h32 := H.h32 }, ho⟩
  · rw [heap_setCell_same W rb 2 _ _ _ H.cell]; rfl
  · obtain ⟨a1, a2, a3⟩ := H.lit i c d hc hd
    exact ⟨a1, own_keep a2 ho fun j hj e => H.cap c (List.mem_of_getElem? hc) j hj e, a3⟩
/-- What is handed back. -/
theorem RI.seen (H : RI W B rb vc vh g C cs hs) : CSeen W vc cs ∧ HSeen W vh hs ∧ COk cs ∧ H32 hs ∧ ∀ c ∈ cs, c.2.length ≤ 10 := by
  have hpos : ∀ d ∈ cs, d.1.length = 32 ∧ H32 d.2 ∧ d.2.length ≤ 10 := fun d hd => by
    obtain ⟨i, hi, rfl⟩ := List.mem_iff_getElem.1 hd
    have h1 : i < C.length := by rw [H.len]; exact hi
    obtain ⟨_, _, a3, a4, a5⟩ := H.lit i _ _ (List.getElem?_eq_getElem h1) (List.getElem?_eq_getElem hi)
    exact ⟨a4, a3, a5⟩
  have h32 : ∀ c ∈ C, c.1.length = 32 := fun c hc => by
    obtain ⟨d, _, e, _, _, h, _⟩ := H.pos hc
    rw [e]; exact h
  refine ⟨?_, HSeen.own H.heads, fun d hd => ⟨(hpos d hd).1, (hpos d hd).2.1⟩, H.h32, fun d hd => (hpos d hd).2.2⟩
  rcases H.row.2 with ⟨rfl, h0⟩ | ⟨b, cap, cur, rfl, _, hb, _, _, _, hcur⟩
  · refine ⟨none, 0, by rw [← H.len, h0], fun i d hd => ?_⟩
    have := (List.getElem?_eq_some_iff.1 hd).1
    rw [← H.len, h0] at this
    omega
  · refine ⟨some ⟨b, 0, none⟩, cap, by rw [H.len], fun i d hd => ?_⟩
    have hi := (List.getElem?_eq_some_iff.1 hd).1
    have hci : C[i]? = some (C[i]'(by rw [H.len]; exact hi)) := List.getElem?_eq_getElem _
    obtain ⟨a1, a2, a3, a4, a5⟩ := H.lit i _ d hci hd
    refine ⟨b, 0, (C[i]'(by rw [H.len]; exact hi)).2, rfl, fun j u hj => ?_, HSeen.own a2⟩
    have hj33 : j < 33 := by
      have := (List.getElem?_eq_some_iff.1 hj).1
      rw [List.length_append, usn_length, a4] at this
      simpa using this
    have h5 := cf_at h32 hci hj33
    rw [a1, hj, ← hcur, List.getElem?_take] at h5
    split at h5
    · rw [cell_of_row W b _ _ _ _ hb, Nat.zero_add]
      simpa using h5
    · cases h5
/-- It stays as what lies below turns. -/
theorem RI.far (H : RI W B rb vc vh g C cs hs) {S : Nat → Prop} (hS : ∀ j, S j → j < B) (ho : Only S W W') : CSeen W' vc cs ∧ HSeen W' vh hs := by
  have h := H.keep ho (fun h => by have := hS _ h; have := H.lo; omega) (fun j hj h => by have := hS _ h; have := own_from H.row j hj; omega) (fun j hj h => by have := hS _ h; have := own_from H.heads j hj; omega) (fun c hc j hj h => by
    obtain ⟨d, _, _, o, _⟩ := H.pos hc
    have := hS _ h; have := own_from o j hj; omega)
  exact ⟨h.seen.1, h.seen.2.1⟩
end
end Go.Proofs.YtnpeahbbcolfmaaGreatDoor
namespace Go.Proofs.YtnpeahbbcolfmaaGreatDoor
open Go.RowKit
open Go.Maps
/-- A raw commit: its number, how, its parents. -/
structure Rw where
  n : Int
  how : Int
  pv : Value
  ps : List Int
/-- Raw commits that came in. -/
def RwSeen (w : World) (v : Value) (R : List Rw) : Prop :=
  ∃ p cap, v = .slice p R.length cap ∧ ∀ (i : Nat) (x : Rw), R[i]? = some x → ∃ b o, p = some ⟨b, o, none⟩ ∧ w.rangeAt b (o + i * 3) [.int .i64 x.n, .int .i64 x.how, x.pv] ∧ ISeen w x.pv x.ps
theorem rng_kb {w w' : World} {b o : Nat} {l : List Value} (h : w.rangeAt b o l) (k : Below w.heap.size w w') : w'.rangeAt b o l := fun j u hj => by
  have h1 := h j u hj
  rw [World.cell?_of_block (k.block _ (World.block_lt_of_cell? w _ h1))]
  exact h1
theorem RwSeen.kb {w w' : World} {v : Value} {R : List Rw} (h : RwSeen w v R) (k : Below w.heap.size w w') : RwSeen w' v R := by
  obtain ⟨p, cap, rfl, hx⟩ := h
  refine ⟨p, cap, rfl, fun i x hi => ?_⟩
  obtain ⟨b, o, h1, h2, h3⟩ := hx i x hi
  exact ⟨b, o, h1, rng_kb h2 k, h3.kb' k⟩
/-- The raw request, and the result's cell, beside it. -/
structure XS (w W : World) (B bx rz rb : Nat) (vL vH : Value) (grp how : Int) : Prop where
  bel : Below B w W
  hB : B = w.heap.size
  xb : W.heap[bx]? = some (.cells #[vL, vH, .int .i64 grp, .int .i64 how] 64 (0, 0))
  zero : W.heap[rz]? = some (.cells #[.slice none 0 0, .slice none 0 0, .int .i64 0] 37 (0, 0))
  ne : rz ≠ rb
section
variable {w W W' : World} {B bx rz rb : Nat} {vL vH : Value} {grp how : Int}
theorem XS.kb (H : XS w W B bx rz rb vL vH grp how) (k : Below W.heap.size W W') : XS w W' B bx rz rb vL vH grp how :=
  ⟨H.bel.trans (k.mono (H.hB ▸ H.bel.size)), H.hB, (mild_below k).cells H.xb, (mild_below k).cells H.zero, H.ne⟩
theorem XS.c (H : XS w W B bx rz rb vL vH grp how) : W.cell? ⟨bx, 0, none⟩ = some vL ∧ W.cell? ⟨bx, 1, none⟩ = some vH ∧ W.cell? ⟨bx, 2, none⟩ = some (.int .i64 grp) ∧ W.cell? ⟨bx, 3, none⟩ = some (.int .i64 how) := by
  refine ⟨?_, ?_, ?_, ?_⟩ <;> rw [cell_of_row W bx _ _ _ _ H.xb] <;> rfl
theorem XS.of (H : XS w W B bx rz rb vL vH grp how) : Below w.heap.size w W := H.hB ▸ H.bel
/-- A step that turns the request, or a slice of its own of hashes or commits. -/
theorem XS.far (H : XS w W B bx rz rb vL vH grp how) {v : Value} {e : TypeId} {s n : Nat} {xs : List Value} (ho : Only (fun j => j = rb ∨ v.ownBlock = some j) W W') (o : W.ownsRow B e s v n xs) (he : e ≠ 64 ∧ e ≠ 37) (hr : B ≤ rb) {rc : Array Value} (hrb : W.heap[rb]? = some (.cells rc 37 (0, 0))) : XS w W' B bx rz rb vL vH grp how := by
  refine ⟨H.bel.trans (ho.below (H.hB ▸ H.bel.size) fun k hk => ?_), H.hB, (ho.block bx (Array.getElem?_eq_some_iff.1 H.xb).1 fun e => ?_).trans H.xb, (ho.block rz (Array.getElem?_eq_some_iff.1 H.zero).1 fun e => ?_).trans H.zero, H.ne⟩
  · rcases hk with rfl | hk
    · exact hr
    · exact (own_type o hk).choose_spec.2
  · rcases e with e | e
    · have := H.xb; rw [e, hrb] at this; injection this with this; injection this with _ this _; exact absurd this (by decide)
    · exact own_apart o H.xb (fun h => he.1 h.symm) e
  · rcases e with e | e
    · exact H.ne e
    · exact own_apart o H.zero (fun h => he.2 h.symm) e
end
/-- The form of a slice of one's own. -/
def CForm (v : Value) (n : Nat) : Prop := v = .slice none 0 0 ∨ ∃ b cap, v = .slice (some ⟨b, 0, none⟩) n cap ∧ n ≤ cap
section
variable {ops : Array Oper} {rest : List Oper} {a : Act} {Q : Exit → Act → World → Prop} {o : Oper} {w0 w : World}
end
end Go.Proofs.YtnpeahbbcolfmaaGreatDoor
namespace Go.Proofs.YtnpeahbbcolfmaaGreatDoor
open Go.RowKit
open Go.Maps
/-- Numbers to be done: read, in blocks that came in or of numbers. -/
def Td (W : World) (B : Nat) (v : Value) (l : List Int) : Prop :=
  ∃ a cap, v = .slice a l.length cap ∧ l.length ≤ cap ∧ (a = none → cap = 0) ∧ ∀ j x, l[j]? = some x → ∃ a', a = some a' ∧ (a'.block < B ∨ ∃ cs, W.heap[a'.block]? = some (.cells cs 3 (0, 0))) ∧ W.cell? (a'.add j) = some (.int .i64 x)
theorem add_block (a : Addr) (j : Nat) : (a.add j).block = a.block := by unfold Addr.add; split <;> rfl
theorem add_one_add (a : Addr) (j : Nat) : (a.add 1).add j = a.add (j + 1) := by
  unfold Addr.add
  by_cases h : j = 0
  · subst h; simp
  · simp [h]; omega
theorem add_zero_add (a : Addr) : a.add 0 = a := by simp [Addr.add]
theorem Td.only {W W' : World} {B : Nat} {v : Value} {l : List Int} {S : Nat → Prop} (h : Td W B v l) (k : Only S W W') (hS : ∀ j, S j → B ≤ j ∧ ∀ cs, W.heap[j]? ≠ some (.cells cs 3 (0, 0))) : Td W' B v l := by
  obtain ⟨a, cap, h1, h2, h3, h4⟩ := h
  refine ⟨a, cap, h1, h2, h3, fun j x hj => ?_⟩
  obtain ⟨a', e1, e2, e3⟩ := h4 j x hj
  have hn : ¬ S a'.block := fun hs => by
    obtain ⟨g1, g2⟩ := hS _ hs
    rcases e2 with e2 | ⟨cs, e2⟩
    · omega
    · exact g2 cs e2
  have hb : W'.heap[a'.block]? = W.heap[a'.block]? := k.block _ (by have := World.block_lt_of_cell? W _ e3; rwa [add_block] at this) hn
  refine ⟨a', e1, ?_, ?_⟩
  · rcases e2 with e2 | ⟨cs, e2⟩
    · exact .inl e2
    · exact .inr ⟨cs, by rw [hb]; exact e2⟩
  · have hb2 : W'.heap[(a'.add j).block]? = W.heap[(a'.add j).block]? := by rw [add_block]; exact hb
    rw [World.cell?_of_block hb2]; exact e3
theorem Td.kb {W W' : World} {B : Nat} {v : Value} {l : List Int} (h : Td W B v l) (k : Below W.heap.size W W') : Td W' B v l := h.only (S := fun _ => False) (Only.of_below k) (fun _ h => h.elim)
theorem Td.seen {W : World} {B : Nat} {v : Value} {l : List Int} (h : Td W B v l) : ISeen W v l := by
  obtain ⟨a, cap, h1, h2, h3, h4⟩ := h
  cases a with
  | none =>
    have hc := h3 rfl
    subst hc
    have hl : l = [] := List.eq_nil_of_length_eq_zero (by omega)
    subst hl
    exact .inl ⟨h1, rfl⟩
  | some a =>
    refine .inr ⟨a, cap, h1, h2, fun j x hj => ?_⟩
    obtain ⟨a', e1, e2, e3⟩ := h4 j x hj
    injection e1 with e1
    rw [e1]; exact e3
theorem Td.own {W : World} {A B : Nat} {v : Value} {l : List Int} (h : IOwns W A v l) : Td W B v l := by
  have hs := IOwns.seen h
  rcases hs with ⟨rfl, rfl⟩ | ⟨a, cap, rfl, hc, hx⟩
  · exact ⟨none, 0, rfl, Nat.le_refl _, fun _ => rfl, fun j x hj => by simp at hj⟩
  · refine ⟨some a, cap, rfl, hc, (fun h => by cases h), fun j x hj => ⟨a, rfl, .inr ?_, hx j x hj⟩⟩
    rcases h.2 with ⟨e1, _⟩ | ⟨g, cap', cur, e1, _, hg, _⟩
    · cases e1
    · injection e1 with e1
      injection e1 with e1
      subst e1
      exact ⟨_, hg⟩
theorem ISeen.pre {w : World} {p : Option Addr} {n c m : Nat} {l : List Int} (h : ISeen w (.slice p n c) l) (hm : m ≤ n) : ISeen w (.slice p m c) (l.take m) := by
  rcases h with ⟨h1, h2⟩ | ⟨a, cap, h1, h2, h3⟩
  · injection h1 with e1 e2 e3
    subst e1 e2 e3 h2
    obtain rfl : m = 0 := by omega
    exact .inl ⟨rfl, rfl⟩
  · injection h1 with e1 e2 e3
    subst e1 e3 e2
    have hl : (l.take m).length = m := by rw [List.length_take]; omega
    refine .inr ⟨a, c, by rw [hl], by rw [hl]; omega, fun j x hj => h3 j x ?_⟩
    rw [List.getElem?_take] at hj
    split at hj
    · exact hj
    · cases hj
/-- Its first one is taken. -/
theorem Td.first {W : World} {B : Nat} {p : Option Addr} {n cap : Nat} {x : Int} {l : List Int} (h : Td W B (.slice p n cap) (x :: l)) : ∃ a, p = some a ∧ W.cell? a = some (.int .i64 x) ∧ n = l.length + 1 ∧ n ≤ cap := by
  obtain ⟨a', cap', h1, h2, h3, h4⟩ := h
  injection h1 with h1 h5 h6
  subst h6 h1
  obtain ⟨a, e1, e2, e3⟩ := h4 0 x rfl
  rw [add_zero_add] at e3
  exact ⟨a, e1, e3, by rw [h5]; rfl, by rw [h5]; exact h2⟩
theorem Td.rest {W : World} {B : Nat} {a : Addr} {n cap m : Nat} {x : Int} {l : List Int} (h : Td W B (.slice (some a) n cap) (x :: l)) (hm : m = l.length) : Td W B (.slice (if cap = 1 then some a else some (a.add 1)) m (cap - 1)) l := by
  obtain ⟨a', cap', h1, h2, h3, h4⟩ := h
  injection h1 with h1 h5 h6
  subst h6 hm
  rw [List.length_cons] at h2
  refine ⟨_, _, rfl, by omega, (fun h => by split at h <;> cases h), fun j y hj => ?_⟩
  have hj' := (List.getElem?_eq_some_iff.1 hj).1
  obtain ⟨a'', e1, e2, e3⟩ := h4 (j + 1) y (by simpa using hj)
  rw [← h1] at e1
  injection e1 with e1
  subst e1
  rw [if_neg (by omega)]
  exact ⟨_, rfl, by rw [add_block]; exact e2, by rw [add_one_add]; exact e3⟩
section
variable {ops : Array Oper} {rest : List Oper} {a : Act} {Q : Exit → Act → World → Prop} {o : Oper} {w : World} {K : Act → World → Prop} {X : Prop}
end
/-- Which numbers were seen. -/
def InB (W : World) (ib : Nat) (bs : List Bool) : Prop := W.heap[ib]? = some (.cells (bs.map Value.bool).toArray 119 (0, 0)) ∧ bs.length = 60
theorem InB.cell {W : World} {ib : Nat} {bs : List Bool} (h : InB W ib bs) {n : Nat} {b : Bool} (hb : bs[n]? = some b) : W.cell? ⟨ib, n, none⟩ = some (.bool b) := by
  rw [cell_of_row W ib n _ _ _ h.1]
  simp [hb]
theorem InB.set {W : World} {ib : Nat} {bs : List Bool} (h : InB W ib bs) {n : Nat} (hn : n < 60) : InB (W.setCell ⟨ib, n, none⟩ (.bool true)) ib (bs.set n true) ∧ Only (fun j => j = ib) W (W.setCell ⟨ib, n, none⟩ (.bool true)) := by
  refine ⟨⟨?_, by rw [List.length_set]; exact h.2⟩, (Only.refl (fun j => j = ib) W).setCell (p := ⟨ib, n, none⟩) rfl _⟩
  rw [heap_setCell_same W ib n _ _ _ h.1]
  congr 2
  apply Array.ext_getElem?
  intro i
  rw [Array.getElem?_setIfInBounds]
  simp only [List.getElem?_toArray, List.getElem?_map, List.getElem?_set, List.size_toArray, List.length_map]
  by_cases e : n = i
  · subst e
    by_cases h2 : n < bs.length
    · simp [h2]
    · have := h.2; omega
  · simp [e]
theorem InB.kb {W W' : World} {ib : Nat} {bs : List Bool} (h : InB W ib bs) (k : Below W.heap.size W W') : InB W' ib bs := ⟨(mild_below k).cells h.1, h.2⟩
section
variable {W W' w : World} {B rb bx rz ib : Nat} {vc vh vL vH : Value} {g grp how : Int} {C : Cv} {cs : List Cm} {hs : List Key} {bs : List Bool}
/-- What was seen stays as the request turns. -/
theorem InB.far (I : InB W ib bs) {v : Value} {e : TypeId} {s n : Nat} {xs : List Value} (ho : Only (fun j => j = rb ∨ v.ownBlock = some j) W W') (o : W.ownsRow B e s v n xs) (he : e ≠ 119) {rc : Array Value} (hrb : W.heap[rb]? = some (.cells rc 37 (0, 0))) : InB W' ib bs := by
  refine ⟨(ho.block ib (Array.getElem?_eq_some_iff.1 I.1).1 fun h => ?_).trans I.1, I.2⟩
  rcases h with h | h
  · have := I.1; rw [h, hrb] at this; injection this with this; injection this with _ this _; exact absurd this (by decide)
  · exact own_apart o I.1 (fun h => he h.symm) h
end
theorem RI.apart {W W' : World} {B rb : Nat} {vc vh : Value} {g : Int} {C : Cv} {cs : List Cm} {hs : List Key} (R : RI W B rb vc vh g C cs hs) (ho : Only (fun j => j = rb ∨ vc.ownBlock = some j) W W') :
    (∀ v l, Td W B v l → Td W' B v l) ∧ (∀ A v n xs, W.ownsRow A 3 1 v n xs → W'.ownsRow A 3 1 v n xs) ∧ ∀ ib bs, InB W ib bs → InB W' ib bs := by
  have ht : ∀ j, (j = rb ∨ vc.ownBlock = some j) → B ≤ j ∧ ∀ cs, W.heap[j]? ≠ some (.cells cs 3 (0, 0)) := fun j hj => by
    rcases hj with rfl | hj
    · exact ⟨R.lo, fun cs e => by rw [R.cell] at e; injection e with e; injection e with _ e _; exact absurd e (by decide)⟩
    · obtain ⟨cs', h1, h2⟩ := own_type R.row hj
      exact ⟨h2, fun cs e => by rw [h1] at e; injection e with e; injection e with _ e _; exact absurd e (by decide)⟩
  refine ⟨fun v l h => h.only ho ht, fun A v n xs h => own_keep h ho (fun j hj e => ?_), fun ib bs I => I.far ho R.row (by decide) R.cell⟩
  obtain ⟨cs', h1, _⟩ := own_type h hj
  exact (ht j e).2 cs' h1
theorem RI.form {W : World} {B rb : Nat} {vc vh : Value} {g : Int} {C : Cv} {cs : List Cm} {hs : List Key} (R : RI W B rb vc vh g C cs hs) : CForm vc cs.length := by
  rcases R.row.2 with ⟨h1, _⟩ | ⟨b, cap, cur, h1, _, _, h2, _⟩
  · exact .inl h1
  · exact .inr ⟨b, cap, by rw [h1, R.len], by rw [← R.len]; exact h2⟩
/-- What is handed back lies in the result's cell. -/
theorem XS.done {W w : World} {B rb bx rz : Nat} {vc vh vL vH : Value} {g grp how : Int} {C : Cv} {cs : List Cm} {hs : List Key} (X : XS w W B bx rz rb vL vH grp how) (R : RI W B rb vc vh g C cs hs) (hz : B ≤ rz) (p1 p2 p3 : Value) :
    ((((W.setCell ⟨rz, 0, none⟩ p1).setCell ⟨rz, 1, none⟩ p2).setCell ⟨rz, 2, none⟩ p3).heap[rz]? = some (.cells #[p1, p2, p3] 37 (0, 0))) ∧
    RI (((W.setCell ⟨rz, 0, none⟩ p1).setCell ⟨rz, 1, none⟩ p2).setCell ⟨rz, 2, none⟩ p3) B rb vc vh g C cs hs ∧ Below w.heap.size w (((W.setCell ⟨rz, 0, none⟩ p1).setCell ⟨rz, 1, none⟩ p2).setCell ⟨rz, 2, none⟩ p3) := by
  have h1 : (W.setCell ⟨rz, 0, none⟩ p1).heap[rz]? = some (.cells #[p1, .slice none 0 0, .int .i64 0] 37 (0, 0)) := by rw [heap_setCell_same W rz 0 _ _ _ X.zero]; rfl
  have h2 : ((W.setCell ⟨rz, 0, none⟩ p1).setCell ⟨rz, 1, none⟩ p2).heap[rz]? = some (.cells #[p1, p2, .int .i64 0] 37 (0, 0)) := by rw [heap_setCell_same _ rz 1 _ _ _ h1]; rfl
  have ho : Only (fun j => j = rz) W (((W.setCell ⟨rz, 0, none⟩ p1).setCell ⟨rz, 1, none⟩ p2).setCell ⟨rz, 2, none⟩ p3) :=
    (((Only.refl (fun j => j = rz) W).setCell (p := ⟨rz, 0, none⟩) rfl _).setCell (p := ⟨rz, 1, none⟩) rfl _).setCell (p := ⟨rz, 2, none⟩) rfl _
  refine ⟨by rw [heap_setCell_same _ rz 2 _ _ _ h2]; rfl, R.keep ho (fun e => X.ne e.symm) (fun j hj e => own_apart R.row X.zero (by decide) (by rw [hj, e])) (fun j hj e => own_apart R.heads X.zero (by decide) (by rw [hj, e])) (fun c hc j hj e => ?_), X.of.trans (ho.below X.of.size fun k hk => by rw [hk, ← X.hB]; exact hz)⟩
  obtain ⟨d, _, _, o, _⟩ := R.pos hc
  exact own_apart o X.zero (by decide) (by rw [hj, e])
end Go.Proofs.YtnpeahbbcolfmaaGreatDoor
namespace Go.Proofs.YtnpeahbbcolfmaaGreatDoor
open Go.RowKit Go.ChangeShapes Go.WideShapes Go.Deep
instance : Inhabited Rw := ⟨⟨0, 0, .slice none 0 0, []⟩⟩
/-- A raw request. -/
structure Rq where
  vL : Value
  L : List Rw
  vH : Value
  hs : List Int
  grp : Int
  how : Int
instance : Inhabited Rq := ⟨⟨.slice none 0 0, [], .slice none 0 0, [], 0, 0⟩⟩
def Rq.row (x : Rq) : List Value := [x.vL, x.vH, .int .i64 x.grp, .int .i64 x.how]
def Rq.In (w : World) (x : Rq) : Prop := RwSeen w x.vL x.L ∧ ISeen w x.vH x.hs
/-- The raw requests of the slice at p. -/
def RqSeen (w : World) (p : Option Addr) (E : List Rq) : Prop := ∀ (j : Nat) (x : Rq), E[j]? = some x → ∃ b o, p = some ⟨b, o, none⟩ ∧ w.rangeAt b (o + j * 4) x.row ∧ x.In w
end Go.Proofs.YtnpeahbbcolfmaaGreatDoor
namespace Go.Proofs.YtnpeahbbcolfmaaGreatDoor
open Go.RowKit Go.Extern.Stop Go.Stop Go.Extern
open Go.Maps
theorem RqSeen.get {w W : World} {p : Option Addr} {E : List Rq} (h : RqSeen w p E) (k : Below w.heap.size w W) {i : Nat} (hi : i < E.length) : ∃ (b o : Nat) (x : Rq), p = some ⟨b, o, none⟩ ∧ x.In W ∧ W.cell? ⟨b, o + i * 4, none⟩ = some x.vL ∧ W.cell? ⟨b, o + i * 4 + 1, none⟩ = some x.vH ∧ W.cell? ⟨b, o + i * 4 + 2, none⟩ = some (.int .i64 x.grp) ∧ W.cell? ⟨b, o + i * 4 + 3, none⟩ = some (.int .i64 x.how) := by
  obtain ⟨b, o, h1, h2, h3⟩ := h i _ (List.getElem?_eq_getElem hi)
  have h4 := rng_kb h2 k
  exact ⟨b, o, _, h1, ⟨h3.1.kb k, h3.2.kb' k⟩, by simpa using h4 0 _ rfl, h4 1 _ rfl, h4 2 _ rfl, h4 3 _ rfl⟩
theorem rng_pre {w : World} {b o : Nat} {xs ys : List Value} (h : w.rangeAt b o (xs ++ ys)) : w.rangeAt b o xs := fun j v hj => h j v (by rw [List.getElem?_append_left (List.getElem?_eq_some_iff.1 hj).1]; exact hj)
theorem Ks.bare {w W : World} {H : List (Nat × Key)} {g bm : Nat} {X : Lx} {L : List (Value × Rf)} (h : Ks w W H g bm X L) : Ks w W H g bm X [] := ⟨h.bel, h.own, h.ga, h.lo, fun p hp => by cases hp⟩
/-- A request's own variable, and its commits. -/
structure Rv (W : World) (rb : Nat) (pc : Option Addr) (m cc : Nat) (vh : Value) (gg : Int) (cs : List Cm) : Prop where
  cell : W.heap[rb]? = some (.cells #[.slice pc m cc, vh, .int .i64 gg] 37 (0, 0))
  seen : CSeen W (.slice pc m cc) cs
  ok : COk cs
  len : m = cs.length
  few : cs.length ≤ 100
  par : ∀ c ∈ cs, c.2.length ≤ 10
theorem Rv.mild {W W' : World} {rb : Nat} {pc : Option Addr} {m cc : Nat} {vh : Value} {gg : Int} {cs : List Cm} (h : Rv W rb pc m cc vh gg cs) (k : Mild W W') : Rv W' rb pc m cc vh gg cs := ⟨k.cells h.cell, h.seen.mild k, h.ok, h.len, h.few, h.par⟩
theorem Rv.kb {W W' : World} {rb : Nat} {pc : Option Addr} {m cc : Nat} {vh : Value} {gg : Int} {cs : List Cm} (h : Rv W rb pc m cc vh gg cs) (k : Below W.heap.size W W') : Rv W' rb pc m cc vh gg cs := h.mild (mild_below k)
theorem Rv.c {W : World} {rb : Nat} {pc : Option Addr} {m cc : Nat} {vh : Value} {gg : Int} {cs : List Cm} (h : Rv W rb pc m cc vh gg cs) : W.cell? ⟨rb, 0, none⟩ = some (.slice pc m cc) := by rw [cell_of_row W rb _ _ _ _ h.cell]; rfl
/-- A row of hashes of one's own, by its shape. -/
theorem own_sh {w : World} {B : Nat} {v : Value} {E : List Key} (h : HOwn w B v E) : ∃ p n cap, v = .slice p n cap ∧ n = E.length := by
  obtain ⟨p, cap, e⟩ := own_shape h
  exact ⟨p, _, cap, e, rfl⟩
theorem keys_h32 {X : Lx} (h : Wf (gr X)) : H32 ((gr X).map (·.1)) := fun x hx => by
  obtain ⟨c, hc, rfl⟩ := List.mem_map.1 hx
  exact (h.h32 c hc).1
end Go.Proofs.YtnpeahbbcolfmaaGreatDoor
namespace Go.Proofs.YtnpeahbbcolfmaaGreatDoor
open Go.RowKit
open Go.Maps
open Go.Deep (choose_lt)
abbrev cfT (T : Lx) : List Value := cf (kvs T)
theorem cfT_app (S T : Lx) : cfT (S ++ T) = cfT S ++ cfT T := by unfold cfT kvs amap; rw [List.map_append, cf_app]
def T32 (T : Lx) : Prop := ∀ x ∈ T, x.1.length = 32
theorem T32.kv {T : Lx} (h : T32 T) : ∀ c ∈ kvs T, c.1.length = 32 := fun c hc => by
  obtain ⟨x, hx, rfl⟩ := List.mem_map.1 hc
  exact h x hx
theorem cfT_len {T : Lx} (h : T32 T) : (cfT T).length = T.length * 33 := by rw [cfT, cf_length h.kv, kvs_len]
theorem T32.sub {S T : Lx} (h : T32 T) (hs : ∀ x ∈ S, x ∈ T) : T32 S := fun x hx => h x (hs x hx)
/-- The commits T lie at v. -/
structure TS (W : World) (v : Value) (T : Lx) : Prop where
  row : (v = .slice none 0 0 ∧ T = []) ∨ ∃ b o cap, v = .slice (some ⟨b, o, none⟩) T.length cap ∧ T.length ≤ cap ∧ ∀ j u, (cfT T)[j]? = some u → W.cell? ⟨b, o + j, none⟩ = some u
  h32 : T32 T
  lit : ∀ x ∈ T, HSeen W x.2.1 x.2.2
theorem TS.mild {W W' : World} {v : Value} {T : Lx} (h : TS W v T) (m : Mild W W') : TS W' v T := by
  refine ⟨?_, h.h32, fun x hx => (h.lit x hx).mild m⟩
  rcases h.row with h1 | ⟨b, o, cap, h1, h2, h3⟩
  · exact .inl h1
  · exact .inr ⟨b, o, cap, h1, h2, fun j u hj => m.cell (h3 j u hj)⟩
theorem TS.kb {W W' : World} {v : Value} {T : Lx} (h : TS W v T) (k : Below W.heap.size W W') : TS W' v T := h.mild (mild_below k)
theorem TS.shape {W : World} {v : Value} {T : Lx} (h : TS W v T) : ∃ p n cap, v = .slice p n cap ∧ n = T.length ∧ n ≤ cap := by
  rcases h.row with ⟨h1, h2⟩ | ⟨b, o, cap, h1, h2, _⟩
  · exact ⟨none, 0, 0, h1, by rw [h2]; rfl, Nat.le_refl _⟩
  · exact ⟨_, _, cap, h1, rfl, h2⟩
theorem cfT_at {T : Lx} (h : T32 T) {i j : Nat} {x : Key × (Value × List Key)} (hx : T[i]? = some x) (hj : j < 33) : (cfT T)[i * 33 + j]? = (us (nmb x.1) ++ [x.2.1])[j]? := by
  have h1 : (kvs T)[i]? = some (x.1, x.2.1) := by unfold kvs amap; rw [List.getElem?_map, hx]; rfl
  exact cf_at h.kv h1 hj
theorem row33 {h : Key} (hh : h.length = 32) (u : Value) : (us (nmb h) ++ [u]).length = 33 := by rw [List.length_append, usn_length, hh]; rfl
theorem TS.at {W : World} {v : Value} {T : Lx} (h : TS W v T) {i : Nat} {x : Key × (Value × List Key)} (hx : T[i]? = some x) : ∃ b o cap, v = .slice (some ⟨b, o, none⟩) T.length cap ∧ W.rangeAt b (o + i * 33) (us (nmb x.1) ++ [x.2.1]) := by
  rcases h.row with ⟨_, h2⟩ | ⟨b, o, cap, h1, _, h3⟩
  · subst h2; simp at hx
  · refine ⟨b, o, cap, h1, fun j u hj => ?_⟩
    have hj33 : j < 33 := by rw [← row33 (h.h32 x (List.mem_of_getElem? hx)) x.2.1]; exact (List.getElem?_eq_some_iff.1 hj).1
    rw [Nat.add_assoc]
    exact h3 _ u (by rw [cfT_at h.h32 hx hj33]; exact hj)
/-- The commits that were put together. -/
theorem TS.of {W : World} {v : Value} {cs : List Cm} (h : CSeen W v cs) (ok : COk cs) (f : CForm v cs.length) : ∃ T : Lx, gr T = cs ∧ TS W v T := by
  obtain ⟨p, cap, hv', hc⟩ := h
  rcases f with hn | ⟨b, cap', hb, hle⟩
  · rw [hv'] at hn
    injection hn with h1 h2 h3
    obtain rfl : cs = [] := List.eq_nil_of_length_eq_zero h2
    exact ⟨[], rfl, .inl ⟨by rw [hv', h1, h3]; rfl, rfl⟩, (fun _ h => by cases h), (fun _ h => by cases h)⟩
  · rw [hv'] at hb
    injection hb with h1 _ h3
    subst h1 h3
    obtain ⟨f, hf⟩ := choose_lt (n := cs.length) (α := Value) (p := fun i u => ∀ hi : i < cs.length, W.rangeAt b (i * 33) (us (nmb cs[i].1) ++ [u]) ∧ HSeen W u cs[i].2) (fun i hi => by
      obtain ⟨b', o, u, e, h4, h5⟩ := hc i _ (List.getElem?_eq_getElem hi)
      injection e with e
      injection e with e1 e2 _
      subst e1 e2
      rw [Nat.zero_add] at h4
      exact ⟨u, fun _ => ⟨h4, h5⟩⟩)
    obtain ⟨T, hT⟩ : ∃ T : Lx, T = cs.mapIdx fun i c => (c.1, (f i, c.2)) := ⟨_, rfl⟩
    have hlen : T.length = cs.length := by rw [hT, List.length_mapIdx]
    have hget : ∀ i (hi : i < cs.length), T[i]? = some (cs[i].1, (f i, cs[i].2)) := fun i hi => by
      rw [hT, List.getElem?_mapIdx, List.getElem?_eq_getElem hi]; rfl
    have hgr : gr T = cs := by
      apply List.ext_getElem?
      intro i
      unfold gr amap
      rw [List.getElem?_map]
      by_cases hi : i < cs.length
      · rw [hget i hi, List.getElem?_eq_getElem hi]; rfl
      · rw [List.getElem?_eq_none (by omega), List.getElem?_eq_none (by omega)]; rfl
    have hmem : ∀ x ∈ T, ∃ i, ∃ hi : i < cs.length, x = (cs[i].1, (f i, cs[i].2)) := fun x hx => by
      obtain ⟨i, hi, e⟩ := List.mem_iff_getElem.1 hx
      have hi' : i < cs.length := by rw [← hlen]; exact hi
      have h9 := hget i hi'
      rw [List.getElem?_eq_getElem hi, e] at h9
      exact ⟨i, hi', Option.some.inj h9⟩
    have h32 : T32 T := fun x hx => by
      obtain ⟨i, hi, rfl⟩ := hmem x hx
      exact (ok _ (List.getElem_mem hi)).1
    refine ⟨T, hgr, .inr ⟨b, 0, cap, by rw [hv', hlen], by rw [hlen]; exact hle, fun j u hj => ?_⟩, h32, fun x hx => ?_⟩
    · have hjl := (List.getElem?_eq_some_iff.1 hj).1
      rw [cfT_len h32, hlen] at hjl
      have hi : j / 33 < cs.length := by omega
      have e : j / 33 * 33 + j % 33 = j := by omega
      have h9 := cfT_at h32 (hget _ hi) (j := j % 33) (by omega)
      rw [e, hj] at h9
      have := (hf (j / 33) hi hi).1 (j % 33) u h9.symm
      rw [e] at this
      rw [Nat.zero_add]; exact this
    · obtain ⟨i, hi, rfl⟩ := hmem x hx
      exact (hf i hi hi).2
abbrev TOwn (W : World) (B : Nat) (v : Value) (T : Lx) : Prop := W.ownsRow B 34 33 v T.length (cfT T)
theorem TS.own {W : World} {B : Nat} {v : Value} {T : Lx} (h : TOwn W B v T) (h32 : T32 T) (hl : ∀ x ∈ T, HSeen W x.2.1 x.2.2) : TS W v T := by
  refine ⟨?_, h32, hl⟩
  rcases h.2 with ⟨h1, h2⟩ | ⟨g, cap, cur, rfl, _, hg, hn, _, _, hc⟩
  · exact .inl ⟨h1, List.eq_nil_of_length_eq_zero h2⟩
  · refine .inr ⟨g, 0, cap, rfl, hn, fun j u hj => ?_⟩
    rw [Nat.zero_add, cell_of_row W g j _ _ _ hg]
    have hjl := (List.getElem?_eq_some_iff.1 hj).1
    rw [cfT_len h32] at hjl
    rw [← hc, List.getElem?_take, if_pos hjl] at hj
    simpa using hj
theorem cfT_take {T : Lx} (h : T32 T) {k : Nat} (j : Nat) (hj : j < k * 33) : (cfT (T.take k))[j]? = (cfT T)[j]? := by
  by_cases hk : k ≤ T.length
  · have e : T.take k ++ T.drop k = T := List.take_append_drop k T
    have h1 : (cfT (T.take k)).length = k * 33 := by rw [cfT_len (h.sub fun x hx => List.mem_of_mem_take hx), List.length_take, Nat.min_eq_left hk]
    have h2 : cfT T = cfT (T.take k) ++ cfT (T.drop k) := by rw [← cfT_app, e]
    rw [h2, List.getElem?_append_left (by omega)]
  · rw [List.take_of_length_le (by omega)]
theorem cfT_drop {T : Lx} (h : T32 T) {k : Nat} (hk : k ≤ T.length) (j : Nat) : (cfT (T.drop k))[j]? = (cfT T)[k * 33 + j]? := by
  have e : T.take k ++ T.drop k = T := List.take_append_drop k T
  have h1 : (cfT (T.take k)).length = k * 33 := by rw [cfT_len (h.sub fun x hx => List.mem_of_mem_take hx), List.length_take, Nat.min_eq_left hk]
  have h2 : cfT T = cfT (T.take k) ++ cfT (T.drop k) := by rw [← cfT_app, e]
  rw [h2, List.getElem?_append_right (by omega), h1, Nat.add_sub_cancel_left]
theorem TS.take {W : World} {p : Option Addr} {n cap : Nat} {T : Lx} (h : TS W (.slice p n cap) T) {k : Nat} (hk : k ≤ T.length) : TS W (.slice p k cap) (T.take k) := by
  have hm : ∀ x ∈ T.take k, x ∈ T := fun x hx => List.mem_of_mem_take hx
  have hl : (T.take k).length = k := by rw [List.length_take, Nat.min_eq_left hk]
  refine ⟨?_, h.h32.sub hm, fun x hx => h.lit x (hm x hx)⟩
  rcases h.row with ⟨h1, h2⟩ | ⟨b, o, cap', h1, h2, h3⟩
  · injection h1 with e1 e2 e3
    subst e1 e3 h2
    have : k = 0 := by simpa using hk
    subst this
    exact .inl ⟨rfl, rfl⟩
  · injection h1 with e1 e2 e3
    subst e1 e3
    refine .inr ⟨b, o, cap, by rw [hl], by omega, fun j u hj => h3 j u ?_⟩
    have hjl := (List.getElem?_eq_some_iff.1 hj).1
    rw [cfT_len (h.h32.sub hm), hl] at hjl
    rw [← cfT_take h.h32 j hjl]; exact hj
theorem TS.drop {W : World} {b o : Nat} {n cap : Nat} {T : Lx} (h : TS W (.slice (some ⟨b, o, none⟩) n cap) T) {k m : Nat} (hk : k ≤ T.length) (hm' : m = T.length - k) : TS W (.slice (if cap = k then some ⟨b, o, none⟩ else some ⟨b, o + k * 33, none⟩) m (cap - k)) (T.drop k) := by
  have hm : ∀ x ∈ T.drop k, x ∈ T := fun x hx => List.mem_of_mem_drop hx
  have hl : (T.drop k).length = m := by rw [List.length_drop, hm']
  refine ⟨?_, h.h32.sub hm, fun x hx => h.lit x (hm x hx)⟩
  rcases h.row with ⟨h1, _⟩ | ⟨b', o', cap', h1, h2, h3⟩
  · cases h1
  · injection h1 with e1 e2 e3
    injection e1 with e1
    injection e1 with e4 e5 _
    subst e4 e5 e3
    by_cases hc : cap = k
    · rw [if_pos hc]
      refine .inr ⟨b, o, cap - k, by rw [hl], by omega, fun j u hj => ?_⟩
      have hjl := (List.getElem?_eq_some_iff.1 hj).1
      rw [cfT_len (h.h32.sub hm), hl] at hjl
      omega
    · rw [if_neg hc]
      refine .inr ⟨b, o + k * 33, cap - k, by rw [hl], by omega, fun j u hj => ?_⟩
      rw [cfT_drop h.h32 hk] at hj
      rw [Nat.add_assoc]
      exact h3 _ u hj
section
variable {ops : Array Oper} {rest : List Oper} {a : Act} {Q : Exit → Act → World → Prop} {o : Oper} {w : World} {K : Act → World → Prop} {X : Prop}
end
theorem TS.one {W : World} {b : Nat} {x : Key × (Value × List Key)} (hb : W.heap[b]? = some (.cells (cf [(x.1, x.2.1)]).toArray 34 (0, 0))) (hx : x.1.length = 32) (hl : HSeen W x.2.1 x.2.2) : TS W (.slice (some ⟨b, 0, none⟩) 1 1) [x] :=
  ⟨.inr ⟨b, 0, 1, rfl, Nat.le_refl _, fun j u hj => by rw [Nat.zero_add, cell_of_row W b j _ _ _ hb, List.getElem?_toArray]; exact hj⟩, fun y hy => by rw [List.mem_singleton.1 hy]; exact hx, fun y hy => by rw [List.mem_singleton.1 hy]; exact hl⟩
end Go.Proofs.YtnpeahbbcolfmaaGreatDoor
namespace Go.Proofs.YtnpeahbbcolfmaaGreatDoor
open Go.RowKit
open Go.Maps
/-- The reference's graph in memory. -/
structure RG (W : World) (rg : Nat) (p : Option Addr) (n cap : Nat) (T : Lx) : Prop where
  cell : W.heap[rg]? = some (.cells #[.slice p n cap] 57 (0, 0))
  ts : TS W (.slice p n cap) T
  len : n = T.length
  asc : AAsc T
  few : T.length ≤ 100000
  p32 : ∀ x ∈ T, H32 x.2.2 ∧ x.2.2.length ≤ 1000000
theorem RG.mild {W W' : World} {rg : Nat} {p : Option Addr} {n cap : Nat} {T : Lx} (h : RG W rg p n cap T) (m : Mild W W') : RG W' rg p n cap T := ⟨m.cells h.cell, h.ts.mild m, h.len, h.asc, h.few, h.p32⟩
theorem RG.kb {W W' : World} {rg : Nat} {p : Option Addr} {n cap : Nat} {T : Lx} (h : RG W rg p n cap T) (k : Below W.heap.size W W') : RG W' rg p n cap T := h.mild (mild_below k)
theorem RG.c {W : World} {rg : Nat} {p : Option Addr} {n cap : Nat} {T : Lx} (h : RG W rg p n cap T) : W.cell? ⟨rg, 0, none⟩ = some (.slice p n cap) := by rw [cell_of_row W rg _ _ _ _ h.cell]; rfl
/-- Commit number k. -/
def AtK (T : Lx) (k : Nat) (h : Key) : Prop := ∃ x, T[k]? = some x ∧ x.1 = h
theorem asc_less {T : Lx} (ha : AAsc T) {i j : Nat} (hj : j < T.length) (hij : i < j) : Op.bytesLess (T[i]'(by omega)).1 T[j].1 = true := by
  have := List.pairwise_iff_getElem.1 ha i j (by omega) hj hij
  rw [bl_bb]; exact this
theorem ms2 {lo m hi : Nat} (h : lo ≤ m ∧ m < hi) : m - lo < hi - lo := by omega
end Go.Proofs.YtnpeahbbcolfmaaGreatDoor
namespace Go.Proofs.YtnpeahbbcolfmaaGreatDoor
open Go.RowKit
open Go.Maps
theorem atk_get {T : Lx} (ha : AAsc T) {k : Nat} {h : Key} (h1 : AtK T k h) : ∃ x, T[k]? = some x ∧ x.1 = h ∧ aget h T = some x.2 := by
  obtain ⟨x, hx, rfl⟩ := h1
  exact ⟨x, hx, rfl, aget_of_mem ha (List.mem_of_getElem? hx)⟩
end Go.Proofs.YtnpeahbbcolfmaaGreatDoor
namespace Go.Proofs.YtnpeahbbcolfmaaGreatDoor
open Go.RowKit
open Go.Maps
section
variable {ops : Array Oper} {rest : List Oper} {a : Act} {Q : Exit → Act → World → Prop} {o : Oper} {w : World} {K : Act → World → Prop} {X : Prop}
end
end Go.Proofs.YtnpeahbbcolfmaaGreatDoor
namespace Go.Proofs.YtnpeahbbcolfmaaGreatDoor
open Go.RowKit
open Go.Maps
end Go.Proofs.YtnpeahbbcolfmaaGreatDoor
namespace Go.Proofs.YtnpeahbbcolfmaaGreatDoor
open Go.RowKit
open Go.Maps
section
variable {ops : Array Oper} {a : Act} {Q : Exit → Act → World → Prop} {o : Oper} {w : World} {K : Act → World → Prop} {X : Prop}
end
section
variable {ops : Array Oper} {rest : List Oper} {a : Act} {Q : Exit → Act → World → Prop} {o : Oper} {w : World}
end
end Go.Proofs.YtnpeahbbcolfmaaGreatDoor
namespace Go.Proofs.YtnpeahbbcolfmaaGreatDoor
open Go.RowKit
open Go.Maps
theorem HSeen.take {w : World} {p : Option Addr} {n c : Nat} {E : List Key} (h : HSeen w (.slice p n c) E) {k : Nat} (hk : k ≤ E.length) (h0 : 0 < E.length) : HSeen w (.slice p k c) (E.take k) := by
  rcases h with ⟨_, h2⟩ | ⟨a, cap, h1, h2, h3⟩
  · rw [h2] at h0; simp at h0
  · injection h1 with e1 e2 e3
    subst e1 e3
    refine .inr ⟨a, c, by rw [List.length_take]; congr 1; omega, by rw [List.length_take]; omega, fun j u hj => h3 j u ?_⟩
    have e : fl E = fl (E.take k) ++ fl (E.drop k) := by rw [← fl_app, List.take_append_drop]
    rw [e, List.getElem?_append_left (List.getElem?_eq_some_iff.1 hj).1]
    exact hj
end Go.Proofs.YtnpeahbbcolfmaaGreatDoor
namespace Go.Proofs.YtnpeahbbcolfmaaGreatDoor
open Go.RowKit
open Go.Maps
/-- What the reference's Check has of the commits: M is the graph with the first i of them. -/
structure Ck (G : Gr) (cs : List Cm) (i : Nat) (M : Gr) : Prop where
  jn : Jn G (addA G [] (cs.take i)) M
  eq : ck3 G [] cs = ck3 G (addA G [] (cs.take i)) (cs.drop i)
theorem Ck.start {G : Gr} (h : AAsc G) (cs : List Cm) : Ck G cs 0 G := ⟨by simpa [addA] using Jn.nil h, by simp [addA]⟩
theorem addA_snoc (G : Gr) (c : Cm) : ∀ (cs : List Cm) (A : Gr), addA G A (cs ++ [c]) = addA G (addA G A cs) [c]
  | [], _ => rfl
  | d :: cs, A => by
    rw [List.cons_append, addA, addA]
    exact addA_snoc G c cs _
theorem Ck.get {G : Gr} {cs : List Cm} {i : Nat} {M : Gr} (h : Ck G cs i M) (x : Key) : aget x M = (aget x G).or (aget x (addA G [] (cs.take i))) := h.jn.get x
theorem Ck.next {G : Gr} {cs : List Cm} {i : Nat} {M M' : Gr} {c : Cm} (h : Ck G cs i M) (hd : cs.drop i = c :: cs.drop (i + 1)) (ht : cs.take (i + 1) = cs.take i ++ [c]) (hg : (aget c.1 M).isSome = true → (aget c.1 M).getD [] = c.2) (hM : M' = if (aget c.1 M).isSome then M else aput c.1 c.2 M) : Ck G cs (i + 1) M' := by
  have e : M' = adds M [c] := by rw [hM]; rfl
  constructor
  · rw [ht, addA_snoc, e]
    exact Jn.adds h.jn
  · rw [h.eq, hd, ht, addA_snoc, ck3, addA, ← h.get]
    cases hq : aget c.1 M with
    | none => simp [addA]
    | some ps =>
      rw [hq] at hg
      have hg' : ps = c.2 := hg rfl
      simp only
      rw [if_pos hg']
      simp [addA]
theorem Ck.done {G : Gr} {cs : List Cm} {M : Gr} (h : Ck G cs cs.length M) : ck3 G [] cs = none ∧ Jn G (addA G [] cs) M := by
  have h1 := h.eq
  have h2 := h.jn
  rw [List.take_length] at h1 h2
  rw [List.drop_length, ck3] at h1
  exact ⟨h1, h2⟩
end Go.Proofs.YtnpeahbbcolfmaaGreatDoor
namespace Go.Proofs.YtnpeahbbcolfmaaGreatDoor
open Go.RowKit
open Go.Maps
theorem own_lt {w : World} {B : Nat} {e : TypeId} {s : Nat} {v : Value} {n : Nat} {xs : List Value} (h : w.ownsRow B e s v n xs) : ∀ j, v.ownBlock = some j → j < w.heap.size := fun j hj => by
  obtain ⟨cs, h1, _⟩ := own_type h hj
  exact (Array.getElem?_eq_some_iff.1 h1).1
/-- The commits that are seen, and those that are still to be looked at: two rows of one's own, the second one behind the first. -/
structure SnTd (W : World) (B : Nat) (vs vt : Value) (S D : List Key) : Prop where
  sn : HOwn W B vs S
  td : HOwn W B vt D
  ap : ∀ j, vs.ownBlock = some j → vt.ownBlock ≠ some j
theorem SnTd.kb {W W' : World} {B : Nat} {vs vt : Value} {S D : List Key} (h : SnTd W B vs vt S D) (k : Below W.heap.size W W') : SnTd W' B vs vt S D := ⟨own_below h.sn k, own_below h.td k, h.ap⟩
section
variable {ops : Array Oper} {rest : List Oper} {a : Act} {Q : Exit → Act → World → Prop} {o : Oper} {w : World}
end
end Go.Proofs.YtnpeahbbcolfmaaGreatDoor
namespace Go.Proofs.YtnpeahbbcolfmaaGreatDoor
open Go.RowKit
open Go.Maps
theorem meas_nw {k n : Nat} (h : k < n) : n - (intOf (.int .i64 ((k + 1 : Nat) : Int))).toNat < n - (intOf (.int .i64 (k : Int))).toNat := by
  simp only [intOf, Int.toNat_natCast]; omega
theorem meas_nv {k n : Nat} (h : k < n) (e : wrap64 ((k : Int) + 1) = ((k + 1 : Nat) : Int)) : n - (intOf (.int .i64 (wrap64 ((k : Int) + 1)))).toNat < n - (intOf (.int .i64 (k : Int))).toNat := by
  rw [e]; exact meas_nw h
end Go.Proofs.YtnpeahbbcolfmaaGreatDoor
namespace Go.Proofs.YtnpeahbbcolfmaaGreatDoor
open Go.RowKit
open Go.Maps
/-- A row of marks. -/
def BAt (W : World) (a : Nat) (L : List Bool) : Prop := W.heap[a]? = some (.cells (L.map Value.bool).toArray 4 (0, 0))
theorem BAt.at {W : World} {a : Nat} {L : List Bool} (h : BAt W a L) {i : Nat} (hi : i < L.length) : W.cell? ⟨a, i, none⟩ = some (.bool L[i]) := by
  rw [cell_of_row W a i _ _ _ h]
  simp [hi]
theorem BAt.mild {W W' : World} {a : Nat} {L : List Bool} (h : BAt W a L) (m : Mild W W') : BAt W' a L := m.cells h
/-- Those that are marked. -/
def selk (K : List Key) (L : List Bool) : List Key := ((K.zip L).filter (·.2)).map (·.1)
end Go.Proofs.YtnpeahbbcolfmaaGreatDoor
namespace Go.Proofs.YtnpeahbbcolfmaaGreatDoor
open Go.RowKit
open Go.Maps
open Classical in
theorem selk_filter (P : Key → Prop) : ∀ (K : List Key) (L : List Bool), K.length = L.length → (∀ k (h1 : k < K.length) (h2 : k < L.length), L[k] = true ↔ P K[k]) → selk K L = K.filter fun x => decide (P x)
  | [], _, _, _ => rfl
  | x :: K, [], h, _ => by simp at h
  | x :: K, b :: L, h, hp => by
    have ih := selk_filter P K L (by simpa using h) (fun k h1 h2 => hp (k + 1) (by simpa using h1) (by simpa using h2))
    have h0 := hp 0 (by simp) (by simp)
    simp only [List.getElem_cons_zero] at h0
    have e : selk (x :: K) (b :: L) = (if b then [x] else []) ++ selk K L := by
      unfold selk
      rw [List.zip_cons_cons, List.filter_cons]
      cases b <;> rfl
    rw [e, ih]
    cases b with
    | true => rw [List.filter_cons_of_pos (by simp; exact h0.1 rfl)]; rfl
    | false => rw [List.filter_cons_of_neg (by simp; exact fun h => by have := h0.2 h; cases this)]; rfl
/-- Number k is marked, or still to be done. -/
def On (L : List Bool) (S : List Nat) (k : Nat) : Prop := k ∈ S ∨ L[k]? = some true
/-- What holds while the ancestors are marked. -/
structure AI (T : Lx) (E : List Key) (L : List Bool) (S : List Nat) : Prop where
  len : L.length = T.length
  lt : ∀ k ∈ S, k < T.length
  snd : ∀ (k : Nat) (x : Key × (Value × List Key)), T[k]? = some x → On L S k → Anc (gr T) E x.1
  all : ∀ h ∈ E, (aget h (gr T)).isSome = true → ∃ k, AtK T k h ∧ On L S k
  clo : ∀ (k : Nat) (x : Key × (Value × List Key)), T[k]? = some x → L[k]? = some true → ∀ p ∈ x.2.2, ∃ j, AtK T j p ∧ On L S j
theorem at_adj {T : Lx} (ha : AAsc T) {k : Nat} {x : Key × (Value × List Key)} (hx : T[k]? = some x) : adj (gr T) x.1 = x.2.2 := by
  obtain ⟨y, hy, _, e⟩ := atk_get ha ⟨x, hx, rfl⟩
  rw [hx] at hy
  injection hy with hy
  unfold adj
  rw [gr_get, e, ← hy]; rfl
theorem AI.anc {T : Lx} {E : List Key} {L : List Bool} (h : AI T E L []) (ha : AAsc T) {a x : Key} (hu : Up (adj (gr T)) a x) : (∃ k, AtK T k a ∧ L[k]? = some true) → ∃ k, AtK T k x ∧ L[k]? = some true := by
  induction hu with
  | refl => exact id
  | step h1 _ ih =>
    rintro ⟨k, ⟨y, hy, rfl⟩, hk⟩
    rw [at_adj ha hy] at h1
    obtain ⟨j, hj, hon⟩ := h.clo k y hy hk _ h1
    exact ih ⟨j, hj, hon.elim (fun h => by simp at h) id⟩
theorem atk_one {T : Lx} (ha : AAsc T) {j k : Nat} {h : Key} (h1 : AtK T j h) (h2 : AtK T k h) : j = k := by
  obtain ⟨x, hx, rfl⟩ := h1
  obtain ⟨y, hy, e⟩ := h2
  obtain ⟨hj, rfl⟩ := List.getElem?_eq_some_iff.1 hx
  obtain ⟨hk, rfl⟩ := List.getElem?_eq_some_iff.1 hy
  rcases Nat.lt_trichotomy j k with hl | hl | hl
  · have := asc_less ha hk hl
    rw [e, less_irrefl] at this; cases this
  · exact hl
  · have := asc_less ha hj hl
    rw [e, less_irrefl] at this; cases this
/-- All is marked that should be. -/
theorem AI.done {T : Lx} {E : List Key} {L : List Bool} (h : AI T E L []) (ha : AAsc T) : selk (T.map (·.1)) L = ancs (gr T) E := by
  have e : (gr T).map (·.1) = T.map (·.1) := by simp [gr, amap]
  unfold ancs
  rw [e]
  refine selk_filter (Anc (gr T) E) _ _ (by rw [List.length_map, h.len]) fun k h1 h2 => ?_
  have hk : k < T.length := by simpa using h1
  rw [List.getElem_map]
  have hx : T[k]? = some T[k] := List.getElem?_eq_getElem hk
  constructor
  · intro hb
    exact h.snd k _ hx (.inr (by rw [List.getElem?_eq_getElem h2, hb]))
  · rintro ⟨a, hE, hs, hu⟩
    obtain ⟨j, hj, hon⟩ := h.all a hE hs
    obtain ⟨i, hi, him⟩ := h.anc ha hu ⟨j, hj, hon.elim (fun h => by simp at h) id⟩
    have := atk_one ha hi ⟨_, hx, rfl⟩
    subst this
    rw [List.getElem?_eq_getElem h2] at him
    injection him
/-- One that is marked already is passed over. -/
theorem AI.pop {T : Lx} {E : List Key} {L : List Bool} {S : List Nat} {k : Nat} (h : AI T E L (S ++ [k])) (hk : L[k]? = some true) : AI T E L S := by
  have on : ∀ j, On L (S ++ [k]) j → On L S j := fun j hj => by
    rcases hj with hj | hj
    · rcases List.mem_append.1 hj with hj | hj
      · exact .inl hj
      · rw [List.mem_singleton.1 hj]; exact .inr hk
    · exact .inr hj
  exact ⟨h.len, fun j hj => h.lt j (by simp [hj]), fun j x hx hj => h.snd j x hx (hj.elim (fun h => .inl (by simp [h])) .inr), fun a hE hs => by obtain ⟨j, h1, h2⟩ := h.all a hE hs; exact ⟨j, h1, on j h2⟩, fun j x hx hj p hp => by obtain ⟨i, h1, h2⟩ := h.clo j x hx hj p hp; exact ⟨i, h1, on i h2⟩⟩
end Go.Proofs.YtnpeahbbcolfmaaGreatDoor
namespace Go.Proofs.YtnpeahbbcolfmaaGreatDoor
open Go.RowKit
open Go.Maps
/-- A mark is set. -/
theorem BAt.set {W : World} {a : Nat} {L : List Bool} (h : BAt W a L) (k : Nat) (b : Bool) : BAt (W.setCell ⟨a, k, none⟩ (.bool b)) a (L.set k b) := by
  unfold BAt at *
  unfold World.setCell
  simp only [Array.getElem?_modify, if_true, h, Option.map_some]
  simp
theorem BAt.only {W W' : World} {S : Nat → Prop} {a : Nat} {L : List Bool} (h : BAt W a L) (ho : Only S W W') (hs : ¬ S a) : BAt W' a L := (ho.block a (Array.getElem?_eq_some_iff.1 h).1 hs).trans h
/-- The marks, read out of the memory. -/
def marks (W : World) (a : Nat) : List Bool := match W.heap[a]? with
  | some (.cells cs _ _) => cs.toList.map fun v => match v with | .bool b => b | _ => false
  | _ => []
/-- What is left to be done: for each that is not marked, one more than its parents. -/
def left : Lx → List Bool → Nat
  | [], _ => 0
  | _ :: _, [] => 0
  | x :: T, b :: L => (if b then 0 else x.2.2.length + 1) + left T L
/-- A stack of numbers. -/
abbrev NStk (W : World) (B : Nat) (v : Value) (S : List Nat) : Prop := IOwns W B v (S.map fun k : Nat => (k : Int))
section
variable {ops : Array Oper} {rest : List Oper} {a : Act} {Q : Exit → Act → World → Prop} {o : Oper} {w : World}
end
theorem NStk.pop {W : World} {B : Nat} {p : Option Addr} {n c : Nat} {S : List Nat} {k : Nat} (h : NStk W B (.slice p (n + 1) c) (S ++ [k])) : NStk W B (.slice p n c) S := by
  unfold NStk IOwns at *
  rw [List.length_map, List.length_append, List.length_singleton] at h
  rw [List.length_map]
  refine ⟨by simp, ?_⟩
  rcases h.2 with ⟨h1, _⟩ | ⟨g, cap, cur, h1, h2, h3, h4, h5, h6, h7⟩
  · simp at h1
  · simp only [Value.slice.injEq] at h1
    obtain ⟨e1, e2, e3⟩ := h1
    have en : n = S.length := by omega
    subst e1 e3
    refine .inr ⟨g, c, cur, by rw [en], h2, h3, by omega, h5, h6, ?_⟩
    have e : cur.toList.take (S.length * 1) = (cur.toList.take ((S.length + 1) * 1)).take S.length := by rw [List.take_take]; congr 1; omega
    rw [e, h7, List.map_append, List.map_append, List.take_left' (by simp)]
end Go.Proofs.YtnpeahbbcolfmaaGreatDoor
namespace Go.Proofs.YtnpeahbbcolfmaaGreatDoor
open Go.RowKit
open Go.Maps
theorem AI.start (T : Lx) (n : Nat) (hn : n = T.length) : AI T [] (List.replicate n false) [] :=
  ⟨by rw [List.length_replicate, hn], fun k hk => by simp at hk, fun k x _ h => by
    rcases h with h | h
    · simp at h
    · rw [List.getElem?_replicate] at h
      split at h <;> simp at h, fun a h => by simp at h, fun k x _ h => by
      rw [List.getElem?_replicate] at h
      split at h <;> simp at h⟩
theorem NStk.top {W : World} {B : Nat} {p : Option Addr} {n c : Nat} {S : List Nat} {k : Nat} (h : NStk W B (.slice p (n + 1) c) (S ++ [k])) : ∃ g, p = some ⟨g, 0, none⟩ ∧ W.cell? ⟨g, n, none⟩ = some (.int .i64 k) ∧ n + 1 ≤ c ∧ n = S.length := by
  unfold NStk IOwns at h
  rw [List.length_map, List.length_append, List.length_singleton] at h
  rcases h.2 with ⟨h1, _⟩ | ⟨g, cap, cur, h1, h2, h3, h4, h5, h6, h7⟩
  · simp at h1
  · simp only [Value.slice.injEq] at h1
    obtain ⟨e1, e2, e3⟩ := h1
    have en : n = S.length := by omega
    refine ⟨g, e1, ?_, by omega, en⟩
    rw [cell_of_row W g n _ _ _ h3]
    have h8 : (cur.toList.take ((S.length + 1) * 1))[n]? = some (.int .i64 k) := by
      rw [h7, List.map_append, List.map_append, List.getElem?_append_right (by simp [en]), List.length_map, List.length_map, en, Nat.sub_self]; rfl
    rw [List.getElem?_take, if_pos (by omega)] at h8
    simpa using h8
end Go.Proofs.YtnpeahbbcolfmaaGreatDoor
namespace Go.Proofs.YtnpeahbbcolfmaaGreatDoor
open Go.RowKit
open Go.Maps
/-- How many are not marked. -/
def unm : List Bool → Nat
  | [] => 0
  | b :: L => (if b then 0 else 1) + unm L
/-- What holds while the descendants are marked. -/
structure DI (T : Lx) (E : List Key) (L : List Bool) : Prop where
  len : L.length = T.length
  snd : ∀ (k : Nat) (x : Key × (Value × List Key)), T[k]? = some x → L[k]? = some true → Dsc (gr T) E x.1
  all : ∀ (k : Nat) (x : Key × (Value × List Key)), T[k]? = some x → x.1 ∈ E → L[k]? = some true
theorem DI.start {T : Lx} {E : List Key} {L : List Bool} (ha : AAsc T) (hl : L.length = T.length) (h : ∀ (k : Nat) (x : Key × (Value × List Key)), T[k]? = some x → L[k]? = some (decide (x.1 ∈ E))) : DI T E L := by
  refine ⟨hl, fun k x hx hk => ?_, fun k x hx hE => by rw [h k x hx, decide_eq_true hE]⟩
  rw [h k x hx] at hk
  injection hk with hk
  obtain ⟨y, _, _, e⟩ := atk_get ha ⟨x, hx, rfl⟩
  exact ⟨x.1, of_decide_eq_true hk, by rw [gr_get, e]; rfl, .refl _⟩
/-- Of the first i, none that is not marked has a parent that is. -/
def Clsd (T : Lx) (L : List Bool) (i : Nat) : Prop := ∀ (k : Nat) (x : Key × (Value × List Key)), k < i → T[k]? = some x → L[k]? = some false → ∀ p ∈ x.2.2, ∀ j, AtK T j p → L[j]? ≠ some true
theorem atk_of {T : Lx} {h : Key} (hs : (aget h (gr T)).isSome = true) : ∃ j, AtK T j h := by
  rw [gr_get] at hs
  cases hg : aget h T with
  | none => rw [hg] at hs; cases hs
  | some v =>
    obtain ⟨j, hj, e⟩ := List.mem_iff_getElem.1 (aget_mem hg)
    exact ⟨j, _, List.getElem?_eq_getElem hj, by rw [e]⟩
theorem DI.up {T : Lx} {E : List Key} {L : List Bool} (h : DI T E L) (ha : AAsc T) (hc : Clsd T L T.length) {x a : Key} (hu : Up (adj (gr T)) x a) : a ∈ E → (aget a (gr T)).isSome = true → ∀ k, AtK T k x → L[k]? = some true := by
  induction hu with
  | refl => rintro hE _ k ⟨y, hy, rfl⟩; exact h.all k y hy hE
  | step h1 hk ih =>
    rintro hE hs k ⟨y, hy, rfl⟩
    rw [at_adj ha hy] at h1
    obtain ⟨j, hj⟩ := atk_of (dsc_has ⟨_, hE, hs, hk⟩)
    have hm := ih hE hs j hj
    have hkl : k < L.length := by rw [h.len]; exact (List.getElem?_eq_some_iff.1 hy).1
    cases hb : L[k] with
    | true => rw [List.getElem?_eq_getElem hkl, hb]
    | false => exact absurd hm (hc k y (List.getElem?_eq_some_iff.1 hy).1 hy (by rw [List.getElem?_eq_getElem hkl, hb]) _ h1 j hj)
theorem DI.done {T : Lx} {E : List Key} {L : List Bool} (h : DI T E L) (ha : AAsc T) (hc : Clsd T L T.length) : selk (T.map (·.1)) L = descs (gr T) E := by
  have e : (gr T).map (·.1) = T.map (·.1) := by simp [gr, amap]
  unfold descs
  rw [e]
  refine selk_filter (Dsc (gr T) E) _ _ (by rw [List.length_map, h.len]) fun k h1 h2 => ?_
  have hk : k < T.length := by simpa using h1
  rw [List.getElem_map]
  have hx : T[k]? = some T[k] := List.getElem?_eq_getElem hk
  constructor
  · intro hb
    exact h.snd k _ hx (by rw [List.getElem?_eq_getElem h2, hb])
  · rintro ⟨a, hE, hs, hu⟩
    have := h.up ha hc hu hE hs k ⟨_, hx, rfl⟩
    rw [List.getElem?_eq_getElem h2] at this
    injection this
theorem Clsd.zero (T : Lx) (L : List Bool) : Clsd T L 0 := fun _ _ h => by omega
/-- What holds in the middle of a round over the commits: again tells whether a mark was set. -/
structure DM (T : Lx) (E : List Key) (L : List Bool) (b : Bool) (u i : Nat) : Prop where
  di : DI T E L
  le : unm L ≤ u
  lt : b = true → unm L < u
  cl : b = false → Clsd T L i
theorem DM.start {T : Lx} {E : List Key} {L : List Bool} (h : DI T E L) : DM T E L false (unm L) 0 := ⟨h, Nat.le_refl _, (fun h => by cases h), (fun _ => Clsd.zero T L)⟩
/-- The first j parents of commit i. -/
structure DJ (T : Lx) (E : List Key) (L : List Bool) (b : Bool) (u i j : Nat) (ps : List Key) : Prop where
  m : DM T E L b u i
  no : b = false → L[i]? = some false → ∀ p ∈ ps.take j, ∀ k, AtK T k p → L[k]? ≠ some true
theorem DJ.start {T : Lx} {E : List Key} {L : List Bool} {b : Bool} {u i : Nat} {ps : List Key} (h : DM T E L b u i) : DJ T E L b u i 0 ps := ⟨h, fun _ _ p hp => by simp at hp⟩
theorem DJ.next {T : Lx} {E : List Key} {L : List Bool} {b : Bool} {u i j : Nat} {ps : List Key} {y : Key} {k : Nat} (h : DJ T E L b u i j ps) (ha : AAsc T) (ht : ps.take (j + 1) = ps.take j ++ [y]) (hk : AtK T k y) (hm : L[k]? = some false) : DJ T E L b u i (j + 1) ps := by
  refine ⟨h.m, fun hb hi p hp k' hk' => ?_⟩
  rw [ht] at hp
  rcases List.mem_append.1 hp with hp | hp
  · exact h.no hb hi p hp k' hk'
  · rw [List.mem_singleton.1 hp] at hk'
    rw [atk_one ha hk' hk, hm]
    simp
theorem DJ.done {T : Lx} {E : List Key} {L : List Bool} {b : Bool} {u i j : Nat} {x : Key × (Value × List Key)} (h : DJ T E L b u i j x.2.2) (hx : T[i]? = some x) (hd : L[i]? = some true ∨ x.2.2.length ≤ j) : DM T E L b u (i + 1) := by
  refine ⟨h.m.di, h.m.le, h.m.lt, fun hb k z hk hz hf p hp j' hj' => ?_⟩
  by_cases e : k = i
  · subst e
    rw [hx] at hz
    injection hz with hz
    subst hz
    rcases hd with hd | hd
    · rw [hf] at hd; cases hd
    · exact h.no hb hf p (by rw [List.take_of_length_le hd]; exact hp) j' hj'
  · exact h.m.cl hb k z (by omega) hz hf p hp j' hj'
end Go.Proofs.YtnpeahbbcolfmaaGreatDoor
namespace Go.Proofs.YtnpeahbbcolfmaaGreatDoor
open Go.RowKit
open Go.Maps
end Go.Proofs.YtnpeahbbcolfmaaGreatDoor
namespace Go.Proofs.YtnpeahbbcolfmaaGreatDoor
open Go.RowKit Go.Extern.Stop Go.Stop Go.Extern
open Go.Maps
theorem ancs_self {G : Gr} (W : Wf G) (x : Key) : x ∈ ancs G [x] ↔ (aget x G).isSome = true := by
  rw [ancs_mem W.clo]
  constructor
  · rintro ⟨a, ha, h1, _⟩
    rw [List.mem_singleton.1 ha] at h1
    exact h1
  · exact fun h => ⟨x, List.mem_singleton.2 rfl, h, .refl _⟩
theorem descs_sub (G : Gr) (E : List Key) : ∀ x ∈ descs G E, x ∈ G.map (·.1) := fun _ hx => (List.mem_filter.1 hx).1
theorem sub_h32 {X : Lx} (W : Wf (gr X)) {L : List Key} (h : ∀ x ∈ L, x ∈ (gr X).map (·.1)) : H32 L := fun x hx => keys_h32 W x (h x hx)
/-- A list of hashes of one's own, of those of a graph. -/
structure Ls (W : World) (B : Nat) (p : Option Addr) (n c : Nat) (X : Lx) (L : List Key) : Prop where
  own : HOwn W B (.slice p n c) L
  len : n = L.length
  h32 : H32 L
  few : L.length ≤ 1000
theorem Ls.kb {W W' : World} {B : Nat} {p : Option Addr} {n c : Nat} {X : Lx} {L : List Key} (h : Ls W B p n c X L) (k : Below W.heap.size W W') : Ls W' B p n c X L := ⟨own_below h.own k, h.len, h.h32, h.few⟩
end Go.Proofs.YtnpeahbbcolfmaaGreatDoor
namespace Go.Proofs.YtnpeahbbcolfmaaGreatDoor
open Go.RowKit Go.Extern.Stop Go.Stop Go.Extern
open Go.Maps
end Go.Proofs.YtnpeahbbcolfmaaGreatDoor
namespace Go.Proofs.YtnpeahbbcolfmaaGreatDoor
open Go.RowKit
open Go.Maps
/-- The program's graph and the reference's, alike. -/
structure Kq (w W : World) (g bm rg : Nat) (X : Lx) (p : Option Addr) (n cap : Nat) (T : Lx) : Prop where
  k : Ks w W [] g bm X []
  r : RG W rg p n cap T
  eq : gr X = gr T
  wf : Wf (gr X)
  lo : w.heap.size ≤ rg
theorem Kq.kb {w W W' : World} {g bm rg : Nat} {X : Lx} {p : Option Addr} {n cap : Nat} {T : Lx} (h : Kq w W g bm rg X p n cap T) (b : Below W.heap.size W W') : Kq w W' g bm rg X p n cap T := ⟨h.k.kb b, h.r.kb b, h.eq, h.wf, h.lo⟩
/-- A refusal's hash is one of 32 bytes. -/
def R32 (r : Rf) : Prop := (whoH r).length = 32
theorem R32.or {r s : Rf} (h1 : R32 r) (h2 : R32 s) : R32 (r.or s) := by
  cases r with
  | none => exact h2
  | some x => exact h1
end Go.Proofs.YtnpeahbbcolfmaaGreatDoor
