/- place and Put of a tree of digits. Condition: the number is at most a million. -/
import Derived.Test.YtbpccbhlggcmfaaDoorRadI
namespace Go.Proofs.YtbpccbhlggcmfaaDoor
open Go.RowKit
attribute [local go_sem ↓] hld_open heq_open hne_open

/-- Behind a put. -/
def PPost (w : World) (tb : Nat) (T : Nd) (ρ : Nat → Nat) (x : Nat) (h : List UInt8) (m : Int) (W : World) : Prop :=
  ∃ (T' : Nd) (σ : Nat → Nat), TT W tb T' σ ∧ PutS [] h m ρ σ T T' ∧ (∀ k, T'.Bl k → T.Bl k ∨ k = x ∨ w.heap.size ≤ k) ∧ Only (fun k => k = tb ∨ T.Bl k) w W
section
variable {w : World} {tb : Nat} {T : Nd} {ρ : Nat → Nat} {x : Nat} {h : List UInt8} {m : Int} {wr : World} {sb so : Nat} {p : List UInt8} {u : Nd} {σ : Nat → Nat} {row : List Value} {ty : TypeId}
theorem PI.cell (H : PI w tb T ρ x h m wr sb so p u σ row ty) : wr.cell? ⟨sb, so, none⟩ = some (ptr u) := by
  rw [cell_of_row wr sb so _ _ _ H.slot, List.getElem?_toArray]; exact H.slv
theorem PI.ne_top (H : PI w tb T ρ x h m wr sb so p u σ row ty) : (⟨tb, 1, none⟩ : Addr) ≠ ⟨sb, so, none⟩ := fun e => by
  obtain ⟨tv, htv⟩ := H.top
  have h1 := H.cell
  rw [← e, cell_of_row wr tb 1 _ _ _ htv] at h1
  simp [ptr] at h1
/-- The slot's store. -/
theorem PI.last (H : PI w tb T ρ x h m wr sb so p u σ row ty) (hh : h.length = 32) (hP : PutS p h m σ σ u (.leaf x h m)) : PFin w tb T ρ x h m (wr.setCell ⟨sb, so, none⟩ (.pointer (some ⟨x, 0, none⟩))) σ := by
  have hsl : (wr.setCell ⟨sb, so, none⟩ (.pointer (some ⟨x, 0, none⟩))).heap[sb]? = some (.cells (row.set so (ptr (.leaf x h m))).toArray ty (0, 0)) := cells_set H.slot _
  refine H.wand _ σ (.leaf x h m) hsl ⟨?_, hh⟩ hP trivial (fun k hk => .inr (.inl hk)) (fun _ _ _ _ => rfl) (((Only.refl _ wr).setCell (p := ⟨sb, so, none⟩) (.inr rfl) _))
  rw [Below.heap_setCell _ _ _ _ H.xsb, H.sx]
  exact H.single
theorem PI.endLeaf {b' : Nat} {m' : Int} (H : PI w tb T ρ x h m wr sb so p (.leaf b' h m') σ row ty) (hh : h.length = 32) (hm : 0 ≤ m ∧ m ≤ 1000000) : PPost w tb T ρ x h m (wr.setCell ⟨sb, so, none⟩ (.pointer (some ⟨x, 0, none⟩))) := by
  obtain ⟨T', h1, h2, h3, h4, h5, h6, h7⟩ := H.last hh (puts_leaf hh H.pre H.sx hm)
  have hlk : T.lk 0 h = some m' := by rw [← H.lk]; exact if_pos rfl
  have hc := h5.cnt
  rw [show ([] : List UInt8).length = 0 from rfl, hlk] at hc
  exact ⟨T', σ, ⟨by rw [hc]; exact h1, h2, h5.wf, h3, h4⟩, h5, h6, h7⟩
theorem PI.endNone (H : PI w tb T ρ x h m wr sb so p .none σ row ty) (hh : h.length = 32) (hm : 0 ≤ m ∧ m ≤ 1000000) :
    PPost w tb T ρ x h m ((wr.setCell ⟨tb, 1, none⟩ (.int .i64 ((T.ents.length : Int) + 1))).setCell ⟨sb, so, none⟩ (.pointer (some ⟨x, 0, none⟩))) := by
  obtain ⟨T', h1, h2, h3, h4, h5, h6, h7⟩ := H.last hh (puts_none hh H.pre H.sx hm)
  have hlk : T.lk 0 h = none := by rw [← H.lk]; rfl
  have hc := h5.cnt
  rw [show ([] : List UInt8).length = 0 from rfl, hlk, if_pos rfl] at hc
  obtain ⟨tv, htv⟩ := H.top
  have blk : ∀ k, k ≠ tb → ((wr.setCell ⟨tb, 1, none⟩ (.int .i64 ((T.ents.length : Int) + 1))).setCell ⟨sb, so, none⟩ (.pointer (some ⟨x, 0, none⟩))).heap[k]? = (wr.setCell ⟨sb, so, none⟩ (.pointer (some ⟨x, 0, none⟩))).heap[k]? := fun k e => by
    by_cases e2 : k = sb
    · subst e2
      rw [cells_set H.slot, cells_set (row := row) (t := ty)]
      rw [Below.heap_setCell _ _ _ _ e]; exact H.slot
    · rw [Below.heap_setCell _ _ _ _ e2, Below.heap_setCell _ _ _ _ e, Below.heap_setCell _ _ _ _ e2]
  have htop : ((wr.setCell ⟨tb, 1, none⟩ (.int .i64 ((T.ents.length : Int) + 1))).setCell ⟨sb, so, none⟩ (.pointer (some ⟨x, 0, none⟩))).heap[tb]? = some (.cells #[ptr T', .int .i64 T'.ents.length] 43 (0, 0)) := by
    have hcc : ((T'.ents.length : Nat) : Int) = (T.ents.length : Int) + 1 := by rw [hc]; omega
    rw [hcc]
    have s1 : (wr.setCell ⟨tb, 1, none⟩ (.int .i64 ((T.ents.length : Int) + 1))).heap[tb]? = some (.cells [tv, .int .i64 ((T.ents.length : Int) + 1)].toArray 43 (0, 0)) := cells_set (row := [tv, .int .i64 T.ents.length]) htv _
    by_cases e : sb = tb
    · subst e
      have q1 := H.slot
      rw [htv] at q1
      have q2 : #[tv, .int .i64 T.ents.length] = row.toArray := by injection q1 with q1; injection q1
      have q3 : row = [tv, .int .i64 T.ents.length] := (congrArg Array.toList q2).symm
      have q4 := H.slv
      rw [q3] at q4
      have hso : so = 0 := by
        match so, q4 with
        | 0, _ => rfl
        | 1, q4 => simp [ptr] at q4
        | n + 2, q4 => simp at q4
      subst hso
      have q5 := cells_set (row := [tv, .int .i64 T.ents.length]) (j := 0) htv (.pointer (some ⟨x, 0, none⟩))
      rw [h1] at q5
      have q6 : #[ptr T', .int .i64 T.ents.length] = ([tv, .int .i64 T.ents.length].set 0 (.pointer (some ⟨x, 0, none⟩))).toArray := by injection q5 with q5; injection q5
      have q7 : ptr T' = .pointer (some ⟨x, 0, none⟩) := by
        have := congrArg (fun a : Array Value => a[0]?) q6
        simpa using this
      rw [cells_set s1, q7]; rfl
    · rw [Below.heap_setCell _ _ _ _ (Ne.symm e)] at h1 ⊢
      rw [htv] at h1
      have q6 : #[tv, .int .i64 T.ents.length] = #[ptr T', .int .i64 T.ents.length] := by injection h1 with h1; injection h1
      have q7 : tv = ptr T' := by
        have := congrArg (fun a : Array Value => a[0]?) q6
        simpa using this
      rw [s1, q7]
  refine ⟨T', σ, ⟨htop, h2.agree (fun k hk => blk k (fun e => h4 (e ▸ hk))) (fun _ _ => rfl), h5.wf, h3, h4⟩, h5, h6, ?_⟩
  have o1 : Only (fun k => k = tb ∨ T.Bl k) w (wr.setCell ⟨tb, 1, none⟩ (.int .i64 ((T.ents.length : Int) + 1))) := H.only.setCell (p := ⟨tb, 1, none⟩) (.inl rfl) _
  by_cases e : sb < w.heap.size
  · refine o1.setCell (p := ⟨sb, so, none⟩) ?_ _
    rcases H.sbl with e2 | e2 | e2
    · exact .inl e2
    · exact .inr e2
    · omega
  · exact o1.trans (T := fun k => k = sb) (Only.setCell (S := fun k => k = sb) (Only.refl (fun k => k = sb) _) (p := ⟨sb, so, none⟩) rfl _) (fun _ e => e) (fun k hk e2 => absurd hk (by omega))
/-- A fork at hand, whether it was there or is made of a hash. -/
structure FK (wr w2 : World) (p h : List UInt8) (σ : Nat → Nat) (u : Nd) (b g r : Nat) (ws : Fin 16 → Nd) : Prop where
  bel : Below wr.heap.size wr w2
  fk : w2.heap[b]? = some (.cells (nv r hz 0 (some g)) 56 (0, 0))
  gg : w2.heap[g]? = some (.cells (pvs ws) 90 (0, 0))
  ta : ∀ j, TA w2 σ (ws j)
  mid : Mid p h σ u ws
  sep : (Nd.fork b g ws).Sep
  bl : ∀ k, (Nd.fork b g ws).Bl k → u.Bl k ∨ wr.heap.size ≤ k
theorem PI.isFork {b g : Nat} {ws : Fin 16 → Nd} (H : PI w tb T ρ x h m wr sb so p (.fork b g ws) σ row ty) : FK wr wr p h σ (.fork b g ws) b g (σ b) ws :=
  ⟨Below.refl _ _, H.ta.1, H.ta.2.1, H.ta.2.2, mid_fork H.wf, H.sep, fun _ hk => .inl hk⟩
theorem lone_bl {t : Nd} {d i : Fin 16} {k : Nat} (h : (lone t d i).Bl k) : i = d ∧ t.Bl k := by
  by_cases e : i = d
  · subst e; rw [lone, upw_same] at h; exact ⟨rfl, h⟩
  · rw [lone, upw_other _ _ e] at h; exact h.elim
theorem PI.madeFork {b' b g : Nat} {h' : List UInt8} {m' : Int} {w2 : World} {k : Nat} (H : PI w tb T ρ x h m wr sb so p (.leaf b' h' m') σ row ty) (hh : h.length = 32) (hne : h' ≠ h) (hk : k = p.length)
    (h1 : w2.heap[b]? = some (.cells (nv 0 hz 0 (some g)) 56 (0, 0))) (h2 : w2.heap[g]? = some (.cells (pvs (lone (.leaf b' h' m') (dig h' k))) 90 (0, 0))) (h3 : wr.heap.size ≤ b) (h4 : wr.heap.size ≤ g) (h5 : b ≠ g) (h6 : Below wr.heap.size wr w2) :
    FK wr w2 p h σ (.leaf b' h' m') b g 0 (lone (.leaf b' h' m') (dig h' k)) := by
  subst hk
  have hb' : b' < wr.heap.size := H.ta.lt b' rfl
  refine ⟨h6, h1, h2, fun j => ?_, mid_leaf H.wf hh H.pre hne, ⟨h5, fun j => ⟨fun e => ?_, fun e => ?_, ?_⟩, fun i j k hij hi hj => hij ((lone_bl hi).1.trans (lone_bl hj).1.symm)⟩, fun k hk => ?_⟩
  · by_cases e : j = dig h' p.length
    · subst e; rw [lone, upw_same]; exact H.ta.kb h6
    · rw [lone, upw_other _ _ e]; trivial
  · have : b = b' := (lone_bl e).2
    omega
  · have : g = b' := (lone_bl e).2
    omega
  · by_cases e : j = dig h' p.length
    · subst e; rw [lone, upw_same]; trivial
    · rw [lone, upw_other _ _ e]; trivial
  · rcases hk with rfl | rfl | ⟨j, hk⟩
    · exact .inr h3
    · exact .inr h4
    · exact .inl (lone_bl hk).2
theorem FK.nsb {w2 : World} {b g r : Nat} {ws : Fin 16 → Nd} (F : FK wr w2 p h σ u b g r ws) (H : PI w tb T ρ x h m wr sb so p u σ row ty) : sb ≠ b ∧ x ≠ b := by
  refine ⟨fun e => ?_, fun e => ?_⟩
  · rcases F.bl b (.inl rfl) with e2 | e2
    · exact H.nsb (e ▸ e2)
    · have := (Array.getElem?_eq_some_iff.1 H.slot).1; omega
  · rcases F.bl b (.inl rfl) with e2 | e2
    · exact H.nx (e ▸ e2)
    · have := (Array.getElem?_eq_some_iff.1 H.single).1; omega
end
set_option maxRecDepth 20000 in
set_option maxHeartbeats 4000000 in
theorem place_to (w : World) (tb : Nat) (T : Nd) (ρ : Nat → Nat) (x : Nat) (h : List UInt8) (m : Int) (hh : h.length = 32) (hm : 0 ≤ m ∧ m ≤ 1000000) (ht : TT w tb T ρ) (hx : w.heap[x]? = some (.cells (nv 0 h m none) 56 (0, 0))) (hnx : ¬ T.Bl x) (hρ : ρ x = 0) (hbig : T.ents.length ≤ 1000000) :
    Calls Tryd.prog 15 #[.pointer (some ⟨tb, 0, none⟩), .pointer (some ⟨x, 0, none⟩)] w fun e w' => e = .returned (.tuple #[]) ∧ PPost w tb T ρ x h m w' := by
  have H0 := Lib.hid (PI.start (h := h) (m := m) ht hx hnx hρ)
  have HH := Lib.hid hh
  have HM := Lib.hid hm
  clear ht hx hnx hρ hh hm
  go_enter Tryd.func15, Tryd.ntmps15
  go_wp2
  go_loopw [4, 5] (fun v i wr => ∃ (k sb so : Nat) (p : List UInt8) (u : Nd) (σ : Nat → Nat) (row : List Value) (ty : TypeId), Hid (k = p.length) ∧ k ≤ 64 ∧ i = .int .i64 k ∧ v = .pointer (some ⟨sb, so, none⟩) ∧ Hid (PI w tb T ρ x h m wr sb so p u σ row ty)) (fun _ i _ => 64 - (intOf i).toNat)
  case atStart => exact ⟨0, tb, 0, [], T, ρ, _, _, Lib.hid rfl, by omega, rfl, rfl, H0⟩
  case round =>
    obtain ⟨k, sb, so, p, u, σ, row, ty, HKP, hk, rfl, rfl, HP⟩ := hrel
    cases u with
    | none =>
      have cs : wr.cell? ⟨sb, so, none⟩ = some (.pointer none) := HP.out.cell
      go_wp2_with fail
      go_quiet (fail)
      have HPq := Lib.hid (HP.out.kb (below_drn (m := nq) (Below.refl wr.heap.size wr)))
      clear cs HP
      generalize wr.drewN nq = W at *
      have cs : W.cell? ⟨sb, so, none⟩ = some (.pointer none) := HPq.out.cell
      obtain ⟨tv, htv⟩ := HPq.out.top
      have ct : W.cell? ⟨tb, 1, none⟩ = some (.int .i64 T.ents.length) := by rw [cell_of_row W tb 1 _ _ _ htv]; rfl
      have ft : W.frozen? ⟨tb, 1, none⟩ = false := by simp [World.frozen?, htv]
      have fs : W.frozen? ⟨sb, so, none⟩ = false := by simp [World.frozen?, HPq.out.slot]
      have cs2 : (W.setCell ⟨tb, 1, none⟩ (.int .i64 ((T.ents.length : Int) + 1))).cell? ⟨sb, so, none⟩ = some (.pointer none) := (World.cell?_setCell_other W _ _ _ HPq.out.ne_top).trans cs
      have HE := Lib.hid (HPq.out.endNone HH.out HM.out)
      have hw : wrap64 ((T.ents.length : Int) + 1) = (T.ents.length : Int) + 1 := IntWalk.wrap64_in _ (by omega)
      clear htv
      generalize (T.ents.length : Int) = n at *
      go_wp2_with fail
      go_end0
      exact ⟨rfl, HE.out⟩
    | leaf b' h' m' =>
      have cs : wr.cell? ⟨sb, so, none⟩ = some (.pointer (some ⟨b', 0, none⟩)) := HP.out.cell
      have hl32 := HP.out.ta.2
      have hlb := HP.out.ta.1
      have HHO := Lib.hid (holds_leaf wr.drew b' (σ b') h' h m' hl32 HH.out hlb)
      by_cases hsame : h' = h
      case' pos =>
        rw [decide_eq_true hsame] at HHO
      case' neg =>
        rw [decide_eq_false hsame] at HHO
      case pos =>
        obtain rfl : h = h' := hsame.symm
        clear hl32 hlb
        go_wp2_with fail
        try simp only [List.append]
        refine wp_region_noPanic ?_
        refine wp_region_held_drew (S := (fun W => W.cell? ⟨sb, so, none⟩ = some (.pointer (some ⟨b', 0, none⟩)) ∧ (hld ⟨x, 1, none⟩).run Tryd.prog W = .ok (.agg (hv h)) W)) (by kernel_rfl) ⟨cs, nd_load (W := wr.drew) HH.out HP.out.single⟩ (fun hHeld => ?_)
        refine wpAnyH_take (i := 0) (v := ?_) (by simp only [List.getElem?_toArray, List.getElem?_cons_zero]; rfl) (by kernel_rfl) (by kernel_rfl) (by kernel_rfl) (fun _ _ _ h => h) (Or.inl ⟨by rfl, ?_⟩) (by assumption) ?_
        rotate_left
        · intro w hSw
          try dsimp only at hSw
          go_simp
          try with_reducible rfl
        try simp only [Act.put, List.setIfInBounds_toArray, List.set_cons_zero, List.set_cons_succ]
        refine wpAnyH_take (i := 1) (v := ?_) (by simp only [List.getElem?_toArray, List.getElem?_cons_succ, List.getElem?_cons_zero]; rfl) (by kernel_rfl) (by kernel_rfl) (by kernel_rfl) (fun _ _ _ h => h) (Or.inl ⟨by rfl, ?_⟩) (by assumption) ?_
        rotate_left
        · intro w hSw
          try dsimp only at hSw
          go_simp
          try with_reducible rfl
        try simp only [Act.put, List.setIfInBounds_toArray, List.set_cons_zero, List.set_cons_succ]
        refine wpAnyH_take (i := 2) (v := ?_) (by simp only [List.getElem?_toArray, List.getElem?_cons_succ, List.getElem?_cons_zero]; rfl) (by kernel_rfl) (by kernel_rfl) (by kernel_rfl) (fun _ _ _ h => h) (Or.inl ⟨by rfl, ?_⟩) (by assumption) ?_
        rotate_left
        · intro w hSw
          try dsimp only at hSw
          go_simp
          try with_reducible rfl
        try simp only [Act.put, List.setIfInBounds_toArray, List.set_cons_zero, List.set_cons_succ]
        refine wpAnyH_take (i := 3) (v := ?_) (by simp only [List.getElem?_toArray, List.getElem?_cons_succ, List.getElem?_cons_zero]; rfl) (by kernel_rfl) (by kernel_rfl) (by kernel_rfl) (fun _ _ _ h => h) (Or.inl ⟨by rfl, ?_⟩) (by assumption) ?_
        rotate_left
        · intro w hSw
          try dsimp only at hSw
          go_simp
          try with_reducible rfl
        try simp only [Act.put, List.setIfInBounds_toArray, List.set_cons_zero, List.set_cons_succ]
        refine wpAnyH_take (i := 4) (v := ?_) (by simp only [List.getElem?_toArray, List.getElem?_cons_succ, List.getElem?_cons_zero]; rfl) (by kernel_rfl) (by kernel_rfl) (by kernel_rfl) (fun _ _ _ h => h) (Or.inl ⟨by rfl, ?_⟩) (by assumption) ?_
        rotate_left
        · intro w hSw
          try dsimp only at hSw
          go_simp
          try with_reducible rfl
        try simp only [Act.put, List.setIfInBounds_toArray, List.set_cons_zero, List.set_cons_succ]
        refine wpAnyH_take (i := 5) (v := ?_) (by simp only [List.getElem?_toArray, List.getElem?_cons_succ, List.getElem?_cons_zero]; rfl) (by kernel_rfl) (by kernel_rfl) (by kernel_rfl) (fun _ _ _ h => h) (Or.inl ⟨by rfl, ?_⟩) (by assumption) ?_
        rotate_left
        · intro w hSw
          try dsimp only at hSw
          go_simp
          try with_reducible rfl
        try simp only [Act.put, List.setIfInBounds_toArray, List.set_cons_zero, List.set_cons_succ]
        refine wpAnyH_take (i := 6) (v := ?_) (by simp only [List.getElem?_toArray, List.getElem?_cons_succ, List.getElem?_cons_zero]; rfl) (by kernel_rfl) (by kernel_rfl) (by kernel_rfl) (fun _ _ _ h => h) (Or.inl ⟨by rfl, ?_⟩) (by assumption) ?_
        rotate_left
        · intro w hSw
          try dsimp only at hSw
          go_simp
          try with_reducible rfl
        try simp only [Act.put, List.setIfInBounds_toArray, List.set_cons_zero, List.set_cons_succ]
        refine wpAnyH_take (i := 7) (v := ?_) (by simp only [List.getElem?_toArray, List.getElem?_cons_succ, List.getElem?_cons_zero]; rfl) (by kernel_rfl) (by kernel_rfl) (by kernel_rfl) (fun _ _ _ h => h) (Or.inl ⟨by rfl, ?_⟩) (by assumption) ?_
        rotate_left
        · intro w hSw
          try dsimp only at hSw
          go_simp
          try with_reducible rfl
        try simp only [Act.put, List.setIfInBounds_toArray, List.set_cons_zero, List.set_cons_succ]
        refine wpAnyH_take (i := 8) (v := ?_) (by simp only [List.getElem?_toArray, List.getElem?_cons_succ, List.getElem?_cons_zero]; rfl) (by kernel_rfl) (by kernel_rfl) (by kernel_rfl) (fun _ _ _ h => h) (Or.inl ⟨by rfl, ?_⟩) (by assumption) ?_
        rotate_left
        · intro w hSw
          try dsimp only at hSw
          go_simp
          try with_reducible rfl
        try simp only [Act.put, List.setIfInBounds_toArray, List.set_cons_zero, List.set_cons_succ]
        refine wpAnyH_take (i := 9) (v := ?_) (by simp only [List.getElem?_toArray, List.getElem?_cons_succ, List.getElem?_cons_zero]; rfl) (by kernel_rfl) (by kernel_rfl) (by kernel_rfl) (fun _ _ _ h => h) (Or.inl ⟨by rfl, ?_⟩) (by assumption) ?_
        rotate_left
        · intro w hSw
          try dsimp only at hSw
          go_simp
          try with_reducible rfl
        try simp only [Act.put, List.setIfInBounds_toArray, List.set_cons_zero, List.set_cons_succ]
        refine wpAnyH_take (i := 10) (v := ?_) (by simp only [List.getElem?_toArray, List.getElem?_cons_succ, List.getElem?_cons_zero]; rfl) (by kernel_rfl) (by kernel_rfl) (by kernel_rfl) (fun _ _ _ h => h) (Or.inl ⟨by rfl, ?_⟩) (by assumption) ?_
        rotate_left
        · intro w hSw
          try dsimp only at hSw
          go_simp
          try with_reducible rfl
        try simp only [Act.put, List.setIfInBounds_toArray, List.set_cons_zero, List.set_cons_succ]
        refine wpAnyH_take (i := 11) (v := ?_) (by simp only [List.getElem?_toArray, List.getElem?_cons_succ, List.getElem?_cons_zero]; rfl) (by kernel_rfl) (by kernel_rfl) (by kernel_rfl) (fun _ _ _ h => h) (Or.inl ⟨by rfl, ?_⟩) (by assumption) ?_
        rotate_left
        · intro w hSw
          try dsimp only at hSw
          go_simp
          try with_reducible rfl
        try simp only [Act.put, List.setIfInBounds_toArray, List.set_cons_zero, List.set_cons_succ]
        refine wpAnyH_ready (rs := [12]) (by kernel_rfl) (by simp) ?_
        refine AllReadyH.cons (by simp only [List.getElem?_toArray, List.getElem?_cons_succ, List.getElem?_cons_zero]; rfl) (fun K hK => ?_) AllReadyH.nil
        go_simp
        refine HHO.out.mono ?_
        rintro e w1 ⟨rfl, b1⟩
        have HP1 := Lib.hid (HP.out.kb (below_drn0 (m := 1) b1))
        have cs1 := HP1.out.cell
        rw [ptr_pad, pad_leaf] at cs1
        have t2 := nd_load (W := w1) HH.out HP1.out.single
        clear b1
        go_wp2_with fail
        refine hK.out _ _ ⟨cs1, t2⟩ (fun hHeld => ?_)
        clear hK K
        try simp only [Act.put, List.setIfInBounds_toArray, List.set_cons_zero, List.set_cons_succ]
        refine wpAnyH_take (i := 13) (v := ?_) (by simp only [List.getElem?_toArray, List.getElem?_cons_succ, List.getElem?_cons_zero]; rfl) (by kernel_rfl) (by kernel_rfl) (by kernel_rfl) (fun _ _ _ h => h) (Or.inl ⟨by rfl, ?_⟩) (by assumption) ?_
        rotate_left
        · intro w hSw
          try dsimp only at hSw
          go_simp
          try with_reducible rfl
        try simp only [Act.put, List.setIfInBounds_toArray, List.set_cons_zero, List.set_cons_succ]
        refine wpAnyH_take (i := 14) (v := ?_) (by simp only [List.getElem?_toArray, List.getElem?_cons_succ, List.getElem?_cons_zero]; rfl) (by kernel_rfl) (by kernel_rfl) (by kernel_rfl) (fun _ _ _ h => h) (Or.inl ⟨by rfl, ?_⟩) (by assumption) ?_
        rotate_left
        · intro w hSw
          try dsimp only at hSw
          go_simp
          try with_reducible rfl
        try simp only [Act.put, List.setIfInBounds_toArray, List.set_cons_zero, List.set_cons_succ]
        refine wpAnyH_done (by kernel_rfl) ?_ _
        refine NoPanic.normal ?_
        have fs1 : w1.frozen? ⟨sb, so, none⟩ = false := by simp [World.frozen?, HP1.out.slot]
        have HE := Lib.hid (HP1.out.endLeaf HH.out HM.out)
        clear cs t2
        go_wp2_with fail
        go_end0
        exact ⟨rfl, HE.out⟩
      case neg =>
        have HLB := Lib.hid hlb
        have HNE := Lib.hid hsame
        clear hl32 hlb hsame
        go_wp2_with fail
        try simp only [List.append]
        refine wp_region_noPanic ?_
        refine wp_region_held_drew (S := (fun W => W.cell? ⟨sb, so, none⟩ = some (.pointer (some ⟨b', 0, none⟩)) ∧ (hld ⟨x, 1, none⟩).run Tryd.prog W = .ok (.agg (hv h)) W)) (by kernel_rfl) ⟨cs, nd_load (W := wr.drew) HH.out HP.out.single⟩ (fun hHeld => ?_)
        refine wpAnyH_take (i := 0) (v := ?_) (by simp only [List.getElem?_toArray, List.getElem?_cons_zero]; rfl) (by kernel_rfl) (by kernel_rfl) (by kernel_rfl) (fun _ _ _ h => h) (Or.inl ⟨by rfl, ?_⟩) (by assumption) ?_
        rotate_left
        · intro w hSw
          try dsimp only at hSw
          go_simp
          try with_reducible rfl
        try simp only [Act.put, List.setIfInBounds_toArray, List.set_cons_zero, List.set_cons_succ]
        refine wpAnyH_take (i := 1) (v := ?_) (by simp only [List.getElem?_toArray, List.getElem?_cons_succ, List.getElem?_cons_zero]; rfl) (by kernel_rfl) (by kernel_rfl) (by kernel_rfl) (fun _ _ _ h => h) (Or.inl ⟨by rfl, ?_⟩) (by assumption) ?_
        rotate_left
        · intro w hSw
          try dsimp only at hSw
          go_simp
          try with_reducible rfl
        try simp only [Act.put, List.setIfInBounds_toArray, List.set_cons_zero, List.set_cons_succ]
        refine wpAnyH_take (i := 2) (v := ?_) (by simp only [List.getElem?_toArray, List.getElem?_cons_succ, List.getElem?_cons_zero]; rfl) (by kernel_rfl) (by kernel_rfl) (by kernel_rfl) (fun _ _ _ h => h) (Or.inl ⟨by rfl, ?_⟩) (by assumption) ?_
        rotate_left
        · intro w hSw
          try dsimp only at hSw
          go_simp
          try with_reducible rfl
        try simp only [Act.put, List.setIfInBounds_toArray, List.set_cons_zero, List.set_cons_succ]
        refine wpAnyH_take (i := 3) (v := ?_) (by simp only [List.getElem?_toArray, List.getElem?_cons_succ, List.getElem?_cons_zero]; rfl) (by kernel_rfl) (by kernel_rfl) (by kernel_rfl) (fun _ _ _ h => h) (Or.inl ⟨by rfl, ?_⟩) (by assumption) ?_
        rotate_left
        · intro w hSw
          try dsimp only at hSw
          go_simp
          try with_reducible rfl
        try simp only [Act.put, List.setIfInBounds_toArray, List.set_cons_zero, List.set_cons_succ]
        refine wpAnyH_take (i := 4) (v := ?_) (by simp only [List.getElem?_toArray, List.getElem?_cons_succ, List.getElem?_cons_zero]; rfl) (by kernel_rfl) (by kernel_rfl) (by kernel_rfl) (fun _ _ _ h => h) (Or.inl ⟨by rfl, ?_⟩) (by assumption) ?_
        rotate_left
        · intro w hSw
          try dsimp only at hSw
          go_simp
          try with_reducible rfl
        try simp only [Act.put, List.setIfInBounds_toArray, List.set_cons_zero, List.set_cons_succ]
        refine wpAnyH_take (i := 5) (v := ?_) (by simp only [List.getElem?_toArray, List.getElem?_cons_succ, List.getElem?_cons_zero]; rfl) (by kernel_rfl) (by kernel_rfl) (by kernel_rfl) (fun _ _ _ h => h) (Or.inl ⟨by rfl, ?_⟩) (by assumption) ?_
        rotate_left
        · intro w hSw
          try dsimp only at hSw
          go_simp
          try with_reducible rfl
        try simp only [Act.put, List.setIfInBounds_toArray, List.set_cons_zero, List.set_cons_succ]
        refine wpAnyH_take (i := 6) (v := ?_) (by simp only [List.getElem?_toArray, List.getElem?_cons_succ, List.getElem?_cons_zero]; rfl) (by kernel_rfl) (by kernel_rfl) (by kernel_rfl) (fun _ _ _ h => h) (Or.inl ⟨by rfl, ?_⟩) (by assumption) ?_
        rotate_left
        · intro w hSw
          try dsimp only at hSw
          go_simp
          try with_reducible rfl
        try simp only [Act.put, List.setIfInBounds_toArray, List.set_cons_zero, List.set_cons_succ]
        refine wpAnyH_take (i := 7) (v := ?_) (by simp only [List.getElem?_toArray, List.getElem?_cons_succ, List.getElem?_cons_zero]; rfl) (by kernel_rfl) (by kernel_rfl) (by kernel_rfl) (fun _ _ _ h => h) (Or.inl ⟨by rfl, ?_⟩) (by assumption) ?_
        rotate_left
        · intro w hSw
          try dsimp only at hSw
          go_simp
          try with_reducible rfl
        try simp only [Act.put, List.setIfInBounds_toArray, List.set_cons_zero, List.set_cons_succ]
        refine wpAnyH_take (i := 8) (v := ?_) (by simp only [List.getElem?_toArray, List.getElem?_cons_succ, List.getElem?_cons_zero]; rfl) (by kernel_rfl) (by kernel_rfl) (by kernel_rfl) (fun _ _ _ h => h) (Or.inl ⟨by rfl, ?_⟩) (by assumption) ?_
        rotate_left
        · intro w hSw
          try dsimp only at hSw
          go_simp
          try with_reducible rfl
        try simp only [Act.put, List.setIfInBounds_toArray, List.set_cons_zero, List.set_cons_succ]
        refine wpAnyH_take (i := 9) (v := ?_) (by simp only [List.getElem?_toArray, List.getElem?_cons_succ, List.getElem?_cons_zero]; rfl) (by kernel_rfl) (by kernel_rfl) (by kernel_rfl) (fun _ _ _ h => h) (Or.inl ⟨by rfl, ?_⟩) (by assumption) ?_
        rotate_left
        · intro w hSw
          try dsimp only at hSw
          go_simp
          try with_reducible rfl
        try simp only [Act.put, List.setIfInBounds_toArray, List.set_cons_zero, List.set_cons_succ]
        refine wpAnyH_take (i := 10) (v := ?_) (by simp only [List.getElem?_toArray, List.getElem?_cons_succ, List.getElem?_cons_zero]; rfl) (by kernel_rfl) (by kernel_rfl) (by kernel_rfl) (fun _ _ _ h => h) (Or.inl ⟨by rfl, ?_⟩) (by assumption) ?_
        rotate_left
        · intro w hSw
          try dsimp only at hSw
          go_simp
          try with_reducible rfl
        try simp only [Act.put, List.setIfInBounds_toArray, List.set_cons_zero, List.set_cons_succ]
        refine wpAnyH_take (i := 11) (v := ?_) (by simp only [List.getElem?_toArray, List.getElem?_cons_succ, List.getElem?_cons_zero]; rfl) (by kernel_rfl) (by kernel_rfl) (by kernel_rfl) (fun _ _ _ h => h) (Or.inl ⟨by rfl, ?_⟩) (by assumption) ?_
        rotate_left
        · intro w hSw
          try dsimp only at hSw
          go_simp
          try with_reducible rfl
        try simp only [Act.put, List.setIfInBounds_toArray, List.set_cons_zero, List.set_cons_succ]
        refine wpAnyH_ready (rs := [12]) (by kernel_rfl) (by simp) ?_
        refine AllReadyH.cons (by simp only [List.getElem?_toArray, List.getElem?_cons_succ, List.getElem?_cons_zero]; rfl) (fun K hK => ?_) AllReadyH.nil
        go_simp
        refine HHO.out.mono ?_
        rintro e w1 ⟨rfl, b1⟩
        have HP1 := Lib.hid (HP.out.kb (below_drn0 (m := 1) b1))
        have cs1 := HP1.out.cell
        rw [ptr_pad, pad_leaf] at cs1
        have t2 := nd_load (W := w1) HH.out HP1.out.single
        clear b1
        go_wp2_with fail
        refine hK.out _ _ ⟨cs1, t2⟩ (fun hHeld => ?_)
        clear hK K
        try simp only [Act.put, List.setIfInBounds_toArray, List.set_cons_zero, List.set_cons_succ]
        refine wpAnyH_take (i := 13) (v := ?_) (by simp only [List.getElem?_toArray, List.getElem?_cons_succ, List.getElem?_cons_zero]; rfl) (by kernel_rfl) (by kernel_rfl) (by kernel_rfl) (fun _ _ _ h => h) (Or.inl ⟨by rfl, ?_⟩) (by assumption) ?_
        rotate_left
        · intro w hSw
          try dsimp only at hSw
          go_simp
          try with_reducible rfl
        try simp only [Act.put, List.setIfInBounds_toArray, List.set_cons_zero, List.set_cons_succ]
        refine wpAnyH_take (i := 14) (v := ?_) (by simp only [List.getElem?_toArray, List.getElem?_cons_succ, List.getElem?_cons_zero]; rfl) (by kernel_rfl) (by kernel_rfl) (by kernel_rfl) (fun _ _ _ h => h) (Or.inl ⟨by rfl, ?_⟩) (by assumption) ?_
        rotate_left
        · intro w hSw
          try dsimp only at hSw
          go_simp
          try with_reducible rfl
        try simp only [Act.put, List.setIfInBounds_toArray, List.set_cons_zero, List.set_cons_succ]
        refine wpAnyH_done (by kernel_rfl) ?_ _
        refine NoPanic.normal ?_
        have hlt := (mid_leaf (ρ := σ) HP1.out.wf HH.out HP1.out.pre HNE.out).len
        have HFL := Lib.hid (forked_leaf w1 b' (σ b') k h' m' HP1.out.ta.2 (by have := HKP.out; omega) HP1.out.ta.1)
        clear cs t2 hlt
        go_wp2_with fail
        refine HFL.out.mono ?_
        rintro e w2 ⟨b2, g2, rfl, k1, k2, k3, k4, k5, k6⟩
        have FKS0 := Lib.hid (HP1.out.madeFork HH.out HNE.out HKP.out k1 k2 k3 k4 k5 k6)
        clear k1 k2 k3 k4 k5 k6
        obtain ⟨ws2, hws2⟩ : ∃ ws2, ws2 = lone (.leaf b' h' m') (dig h' k) := ⟨_, rfl⟩
        rw [← hws2] at FKS0
        obtain ⟨r2, hr2⟩ : ∃ r2 : Nat, r2 = 0 := ⟨_, rfl⟩
        have FKS : Hid (FK w1 w2 p h σ (.leaf b' h' m') b2 g2 0 ws2) := FKS0
        clear hws2 hr2 FKS0
        obtain ⟨hns, hnx⟩ := FKS.out.nsb HP1.out
        have a0 := nd_0 (W := w2) FKS.out.fk
        have f0 : w2.frozen? ⟨b2, 0, none⟩ = false := by simp [World.frozen?, FKS.out.fk]
        have hps := (HP1.out.kb FKS.out.bel)
        have a1 : (w2.setCell ⟨b2, 0, none⟩ (.int .i64 0)).cell? ⟨sb, so, none⟩ = some (.pointer (some ⟨b', 0, none⟩)) := (World.cell?_setCell_far w2 ⟨b2, 0, none⟩ ⟨sb, so, none⟩ _ (fun e => hns e.symm)).trans hps.cell
        have a2 : w2.cell? ⟨sb, so, none⟩ = some (.pointer (some ⟨b', 0, none⟩)) := hps.cell
        have f1 : w2.frozen? ⟨sb, so, none⟩ = false := by simp [World.frozen?, hps.slot]
        obtain ⟨w4, h4⟩ : ∃ w4, w4 = (w2.setCell ⟨b2, 0, none⟩ (.int .i64 0)).setCell ⟨sb, so, none⟩ (.pointer (some ⟨b2, 0, none⟩)) := ⟨_, rfl⟩
        have H4 := Lib.hid h4
        have hfk4 : w4.heap[b2]? = some (.cells (nv 0 hz 0 (some g2)) 56 (0, 0)) := by
          rw [h4, Below.heap_setCell _ _ _ _ (fun e => hns e.symm), cells_set FKS.out.fk]; rfl
        have hx4 : w4.heap[x]? = some (.cells (nv 0 h m none) 56 (0, 0)) := by
          rw [h4, Below.heap_setCell _ _ _ _ HP1.out.xsb, Below.heap_setCell _ _ _ _ hnx]
          exact hps.single
        have HX4 := Lib.hid hx4
        have HFK4 := Lib.hid hfk4
        have HDG := Lib.hid (digit_to w4.drew h k HH.out (by have := FKS.out.mid.len; have := HKP.out; omega))
        clear h4 hfk4 hx4 hps hns hnx
        go_wp2_with fail
        rw [← H4.out]
        clear a0 f0 a1 f1 a2
        obtain ⟨i, hi⟩ : ∃ i, i = dig h k := ⟨_, rfl⟩
        rw [← hi] at HDG
        have HI := Lib.hid hi
        clear hi
        have hi16 : ((i.val : Nat) : Int) < 16 := by have := i.isLt; omega
        have c34 := nd_34 (W := w4) hz_len HFK4.out
        have l4 := nd_load (W := w4.drew) HH.out HX4.out
        simp only [gptr] at c34
        try simp only [List.append]
        refine wp_region_noPanic ?_
        refine wp_region_held_drew (S := (fun W => W.cell? ⟨b2, 34, none⟩ = some (.pointer (some ⟨g2, 0, none⟩)) ∧ (hld ⟨x, 1, none⟩).run Tryd.prog W = .ok (.agg (hv h)) W)) (by kernel_rfl) ⟨c34, l4⟩ (fun hHeld => ?_)
        refine wpAnyH_take (i := 0) (v := ?_) (by simp only [List.getElem?_toArray, List.getElem?_cons_zero]; rfl) (by kernel_rfl) (by kernel_rfl) (by kernel_rfl) (fun _ _ _ h => h) (Or.inl ⟨by rfl, ?_⟩) (by assumption) ?_
        rotate_left
        · intro w hSw
          try dsimp only at hSw
          go_simp
          try with_reducible rfl
        try simp only [Act.put, List.setIfInBounds_toArray, List.set_cons_zero, List.set_cons_succ]
        refine wpAnyH_take (i := 1) (v := ?_) (by simp only [List.getElem?_toArray, List.getElem?_cons_succ, List.getElem?_cons_zero]; rfl) (by kernel_rfl) (by kernel_rfl) (by kernel_rfl) (fun _ _ _ h => h) (Or.inl ⟨by rfl, ?_⟩) (by assumption) ?_
        rotate_left
        · intro w hSw
          try dsimp only at hSw
          go_simp
          try with_reducible rfl
        try simp only [Act.put, List.setIfInBounds_toArray, List.set_cons_zero, List.set_cons_succ]
        refine wpAnyH_take (i := 2) (v := ?_) (by simp only [List.getElem?_toArray, List.getElem?_cons_succ, List.getElem?_cons_zero]; rfl) (by kernel_rfl) (by kernel_rfl) (by kernel_rfl) (fun _ _ _ h => h) (Or.inl ⟨by rfl, ?_⟩) (by assumption) ?_
        rotate_left
        · intro w hSw
          try dsimp only at hSw
          go_simp
          try with_reducible rfl
        try simp only [Act.put, List.setIfInBounds_toArray, List.set_cons_zero, List.set_cons_succ]
        refine wpAnyH_take (i := 3) (v := ?_) (by simp only [List.getElem?_toArray, List.getElem?_cons_succ, List.getElem?_cons_zero]; rfl) (by kernel_rfl) (by kernel_rfl) (by kernel_rfl) (fun _ _ _ h => h) (Or.inl ⟨by rfl, ?_⟩) (by assumption) ?_
        rotate_left
        · intro w hSw
          try dsimp only at hSw
          go_simp
          try with_reducible rfl
        try simp only [Act.put, List.setIfInBounds_toArray, List.set_cons_zero, List.set_cons_succ]
        refine wpAnyH_take (i := 4) (v := ?_) (by simp only [List.getElem?_toArray, List.getElem?_cons_succ, List.getElem?_cons_zero]; rfl) (by kernel_rfl) (by kernel_rfl) (by kernel_rfl) (fun _ _ _ h => h) (Or.inl ⟨by rfl, ?_⟩) (by assumption) ?_
        rotate_left
        · intro w hSw
          try dsimp only at hSw
          go_simp
          try with_reducible rfl
        try simp only [Act.put, List.setIfInBounds_toArray, List.set_cons_zero, List.set_cons_succ]
        refine wpAnyH_take (i := 5) (v := ?_) (by simp only [List.getElem?_toArray, List.getElem?_cons_succ, List.getElem?_cons_zero]; rfl) (by kernel_rfl) (by kernel_rfl) (by kernel_rfl) (fun _ _ _ h => h) (Or.inl ⟨by rfl, ?_⟩) (by assumption) ?_
        rotate_left
        · intro w hSw
          try dsimp only at hSw
          go_simp
          try with_reducible rfl
        try simp only [Act.put, List.setIfInBounds_toArray, List.set_cons_zero, List.set_cons_succ]
        refine wpAnyH_take (i := 6) (v := ?_) (by simp only [List.getElem?_toArray, List.getElem?_cons_succ, List.getElem?_cons_zero]; rfl) (by kernel_rfl) (by kernel_rfl) (by kernel_rfl) (fun _ _ _ h => h) (Or.inl ⟨by rfl, ?_⟩) (by assumption) ?_
        rotate_left
        · intro w hSw
          try dsimp only at hSw
          go_simp
          try with_reducible rfl
        try simp only [Act.put, List.setIfInBounds_toArray, List.set_cons_zero, List.set_cons_succ]
        refine wpAnyH_take (i := 7) (v := ?_) (by simp only [List.getElem?_toArray, List.getElem?_cons_succ, List.getElem?_cons_zero]; rfl) (by kernel_rfl) (by kernel_rfl) (by kernel_rfl) (fun _ _ _ h => h) (Or.inl ⟨by rfl, ?_⟩) (by assumption) ?_
        rotate_left
        · intro w hSw
          try dsimp only at hSw
          go_simp
          try with_reducible rfl
        try simp only [Act.put, List.setIfInBounds_toArray, List.set_cons_zero, List.set_cons_succ]
        refine wpAnyH_take (i := 8) (v := ?_) (by simp only [List.getElem?_toArray, List.getElem?_cons_succ, List.getElem?_cons_zero]; rfl) (by kernel_rfl) (by kernel_rfl) (by kernel_rfl) (fun _ _ _ h => h) (Or.inl ⟨by rfl, ?_⟩) (by assumption) ?_
        rotate_left
        · intro w hSw
          try dsimp only at hSw
          go_simp
          try with_reducible rfl
        try simp only [Act.put, List.setIfInBounds_toArray, List.set_cons_zero, List.set_cons_succ]
        refine wpAnyH_take (i := 10) (v := ?_) (by simp only [List.getElem?_toArray, List.getElem?_cons_succ, List.getElem?_cons_zero]; rfl) (by kernel_rfl) (by kernel_rfl) (by kernel_rfl) (fun _ _ _ h => h) (Or.inl ⟨by rfl, ?_⟩) (by assumption) ?_
        rotate_left
        · intro w hSw
          try dsimp only at hSw
          go_simp
          try with_reducible rfl
        try simp only [Act.put, List.setIfInBounds_toArray, List.set_cons_zero, List.set_cons_succ]
        refine wpAnyH_ready (rs := [9]) (by kernel_rfl) (by simp) ?_
        refine AllReadyH.cons (by simp only [List.getElem?_toArray, List.getElem?_cons_succ, List.getElem?_cons_zero]; rfl) (fun K hK => ?_) AllReadyH.nil
        go_simp
        refine HDG.out.mono ?_
        rintro e w5 ⟨rfl, b5⟩
        have B5 : Hid (Below w4.heap.size w4 w5) := Lib.hid (below_drn0 (m := 1) b5)
        have r1 := nd_34 (W := w5) hz_len ((b5.block b2 (Array.getElem?_eq_some_iff.1 HFK4.out).1).trans HFK4.out)
        have r2 := nd_load (W := w5) HH.out ((b5.block x (Array.getElem?_eq_some_iff.1 HX4.out).1).trans HX4.out)
        simp only [gptr] at r1
        clear b5
        go_wp2_with fail
        refine hK.out _ _ ⟨r1, r2⟩ (fun hHeld => ?_)
        clear hK K
        try simp only [Act.put, List.setIfInBounds_toArray, List.set_cons_zero, List.set_cons_succ]
        refine wpAnyH_take (i := 11) (v := ?_) (by simp only [List.getElem?_toArray, List.getElem?_cons_succ, List.getElem?_cons_zero]; rfl) (by kernel_rfl) (by kernel_rfl) (by kernel_rfl) (fun _ _ _ h => h) (Or.inl ⟨by rfl, ?_⟩) (by assumption) ?_
        rotate_left
        · intro w hSw
          try dsimp only at hSw
          go_simp
          try with_reducible rfl
        try simp only [Act.put, List.setIfInBounds_toArray, List.set_cons_zero, List.set_cons_succ]
        refine wpAnyH_take (i := 12) (v := ?_) (by simp only [List.getElem?_toArray, List.getElem?_cons_succ, List.getElem?_cons_zero]; rfl) (by kernel_rfl) (by kernel_rfl) (by kernel_rfl) (fun _ _ _ h => h) (Or.inl ⟨by rfl, ?_⟩) (by assumption) ?_
        rotate_left
        · intro w hSw
          try dsimp only at hSw
          go_simp
          try with_reducible rfl
        try simp only [Act.put, List.setIfInBounds_toArray, List.set_cons_zero, List.set_cons_succ]
        refine wpAnyH_done (by kernel_rfl) ?_ _
        refine NoPanic.normal ?_
        go_wp2_with fail
        go_round
        case rel => exact ⟨k + 1, g2, i.val, p ++ [dg i], ws2 i, upn σ b2 0, _, _, Lib.hid (by rw [HKP.out]; simp), by have := FKS.out.mid.len; have := HKP.out; omega, by go_num, rfl, Lib.hid (HP1.out.step HH.out FKS.out.bel FKS.out.fk FKS.out.gg FKS.out.ta FKS.out.mid FKS.out.sep FKS.out.bl (by rw [HI.out, HKP.out]) H4.out B5.out)⟩
        case measure => have := FKS.out.mid.len; have := HKP.out; simp [intOf]; omega
    | fork b g ws =>
      have cs : wr.cell? ⟨sb, so, none⟩ = some (.pointer (some ⟨b, 0, none⟩)) := HP.out.cell
      have HHO := Lib.hid (holds_fork wr.drew b (σ b) g hz h 0 hz_len HP.out.ta.1)
      go_wp2_with fail
      try simp only [List.append]
      refine wp_region_noPanic ?_
      refine wp_region_held_drew (S := (fun W => W.cell? ⟨sb, so, none⟩ = some (.pointer (some ⟨b, 0, none⟩)) ∧ (hld ⟨x, 1, none⟩).run Tryd.prog W = .ok (.agg (hv h)) W)) (by kernel_rfl) ⟨cs, nd_load (W := wr.drew) HH.out HP.out.single⟩ (fun hHeld => ?_)
      refine wpAnyH_take (i := 0) (v := ?_) (by simp only [List.getElem?_toArray, List.getElem?_cons_zero]; rfl) (by kernel_rfl) (by kernel_rfl) (by kernel_rfl) (fun _ _ _ h => h) (Or.inl ⟨by rfl, ?_⟩) (by assumption) ?_
      rotate_left
      · intro w hSw
        try dsimp only at hSw
        go_simp
        try with_reducible rfl
      try simp only [Act.put, List.setIfInBounds_toArray, List.set_cons_zero, List.set_cons_succ]
      refine wpAnyH_take (i := 1) (v := ?_) (by simp only [List.getElem?_toArray, List.getElem?_cons_succ, List.getElem?_cons_zero]; rfl) (by kernel_rfl) (by kernel_rfl) (by kernel_rfl) (fun _ _ _ h => h) (Or.inl ⟨by rfl, ?_⟩) (by assumption) ?_
      rotate_left
      · intro w hSw
        try dsimp only at hSw
        go_simp
        try with_reducible rfl
      try simp only [Act.put, List.setIfInBounds_toArray, List.set_cons_zero, List.set_cons_succ]
      refine wpAnyH_take (i := 2) (v := ?_) (by simp only [List.getElem?_toArray, List.getElem?_cons_succ, List.getElem?_cons_zero]; rfl) (by kernel_rfl) (by kernel_rfl) (by kernel_rfl) (fun _ _ _ h => h) (Or.inl ⟨by rfl, ?_⟩) (by assumption) ?_
      rotate_left
      · intro w hSw
        try dsimp only at hSw
        go_simp
        try with_reducible rfl
      try simp only [Act.put, List.setIfInBounds_toArray, List.set_cons_zero, List.set_cons_succ]
      refine wpAnyH_take (i := 3) (v := ?_) (by simp only [List.getElem?_toArray, List.getElem?_cons_succ, List.getElem?_cons_zero]; rfl) (by kernel_rfl) (by kernel_rfl) (by kernel_rfl) (fun _ _ _ h => h) (Or.inl ⟨by rfl, ?_⟩) (by assumption) ?_
      rotate_left
      · intro w hSw
        try dsimp only at hSw
        go_simp
        try with_reducible rfl
      try simp only [Act.put, List.setIfInBounds_toArray, List.set_cons_zero, List.set_cons_succ]
      refine wpAnyH_take (i := 4) (v := ?_) (by simp only [List.getElem?_toArray, List.getElem?_cons_succ, List.getElem?_cons_zero]; rfl) (by kernel_rfl) (by kernel_rfl) (by kernel_rfl) (fun _ _ _ h => h) (Or.inl ⟨by rfl, ?_⟩) (by assumption) ?_
      rotate_left
      · intro w hSw
        try dsimp only at hSw
        go_simp
        try with_reducible rfl
      try simp only [Act.put, List.setIfInBounds_toArray, List.set_cons_zero, List.set_cons_succ]
      refine wpAnyH_take (i := 5) (v := ?_) (by simp only [List.getElem?_toArray, List.getElem?_cons_succ, List.getElem?_cons_zero]; rfl) (by kernel_rfl) (by kernel_rfl) (by kernel_rfl) (fun _ _ _ h => h) (Or.inl ⟨by rfl, ?_⟩) (by assumption) ?_
      rotate_left
      · intro w hSw
        try dsimp only at hSw
        go_simp
        try with_reducible rfl
      try simp only [Act.put, List.setIfInBounds_toArray, List.set_cons_zero, List.set_cons_succ]
      refine wpAnyH_take (i := 6) (v := ?_) (by simp only [List.getElem?_toArray, List.getElem?_cons_succ, List.getElem?_cons_zero]; rfl) (by kernel_rfl) (by kernel_rfl) (by kernel_rfl) (fun _ _ _ h => h) (Or.inl ⟨by rfl, ?_⟩) (by assumption) ?_
      rotate_left
      · intro w hSw
        try dsimp only at hSw
        go_simp
        try with_reducible rfl
      try simp only [Act.put, List.setIfInBounds_toArray, List.set_cons_zero, List.set_cons_succ]
      refine wpAnyH_take (i := 7) (v := ?_) (by simp only [List.getElem?_toArray, List.getElem?_cons_succ, List.getElem?_cons_zero]; rfl) (by kernel_rfl) (by kernel_rfl) (by kernel_rfl) (fun _ _ _ h => h) (Or.inl ⟨by rfl, ?_⟩) (by assumption) ?_
      rotate_left
      · intro w hSw
        try dsimp only at hSw
        go_simp
        try with_reducible rfl
      try simp only [Act.put, List.setIfInBounds_toArray, List.set_cons_zero, List.set_cons_succ]
      refine wpAnyH_take (i := 8) (v := ?_) (by simp only [List.getElem?_toArray, List.getElem?_cons_succ, List.getElem?_cons_zero]; rfl) (by kernel_rfl) (by kernel_rfl) (by kernel_rfl) (fun _ _ _ h => h) (Or.inl ⟨by rfl, ?_⟩) (by assumption) ?_
      rotate_left
      · intro w hSw
        try dsimp only at hSw
        go_simp
        try with_reducible rfl
      try simp only [Act.put, List.setIfInBounds_toArray, List.set_cons_zero, List.set_cons_succ]
      refine wpAnyH_take (i := 9) (v := ?_) (by simp only [List.getElem?_toArray, List.getElem?_cons_succ, List.getElem?_cons_zero]; rfl) (by kernel_rfl) (by kernel_rfl) (by kernel_rfl) (fun _ _ _ h => h) (Or.inl ⟨by rfl, ?_⟩) (by assumption) ?_
      rotate_left
      · intro w hSw
        try dsimp only at hSw
        go_simp
        try with_reducible rfl
      try simp only [Act.put, List.setIfInBounds_toArray, List.set_cons_zero, List.set_cons_succ]
      refine wpAnyH_take (i := 10) (v := ?_) (by simp only [List.getElem?_toArray, List.getElem?_cons_succ, List.getElem?_cons_zero]; rfl) (by kernel_rfl) (by kernel_rfl) (by kernel_rfl) (fun _ _ _ h => h) (Or.inl ⟨by rfl, ?_⟩) (by assumption) ?_
      rotate_left
      · intro w hSw
        try dsimp only at hSw
        go_simp
        try with_reducible rfl
      try simp only [Act.put, List.setIfInBounds_toArray, List.set_cons_zero, List.set_cons_succ]
      refine wpAnyH_take (i := 11) (v := ?_) (by simp only [List.getElem?_toArray, List.getElem?_cons_succ, List.getElem?_cons_zero]; rfl) (by kernel_rfl) (by kernel_rfl) (by kernel_rfl) (fun _ _ _ h => h) (Or.inl ⟨by rfl, ?_⟩) (by assumption) ?_
      rotate_left
      · intro w hSw
        try dsimp only at hSw
        go_simp
        try with_reducible rfl
      try simp only [Act.put, List.setIfInBounds_toArray, List.set_cons_zero, List.set_cons_succ]
      refine wpAnyH_ready (rs := [12]) (by kernel_rfl) (by simp) ?_
      refine AllReadyH.cons (by simp only [List.getElem?_toArray, List.getElem?_cons_succ, List.getElem?_cons_zero]; rfl) (fun K hK => ?_) AllReadyH.nil
      go_simp
      refine HHO.out.mono ?_
      rintro e w1 ⟨rfl, b1⟩
      have HP1 := Lib.hid (HP.out.kb (below_drn0 (m := 1) b1))
      have cs1 := HP1.out.cell
      rw [ptr_pad, pad_fork] at cs1
      have t2 := nd_load (W := w1) HH.out HP1.out.single
      clear b1
      go_wp2_with fail
      refine hK.out _ _ ⟨cs1, t2⟩ (fun hHeld => ?_)
      clear hK K
      try simp only [Act.put, List.setIfInBounds_toArray, List.set_cons_zero, List.set_cons_succ]
      refine wpAnyH_take (i := 13) (v := ?_) (by simp only [List.getElem?_toArray, List.getElem?_cons_succ, List.getElem?_cons_zero]; rfl) (by kernel_rfl) (by kernel_rfl) (by kernel_rfl) (fun _ _ _ h => h) (Or.inl ⟨by rfl, ?_⟩) (by assumption) ?_
      rotate_left
      · intro w hSw
        try dsimp only at hSw
        go_simp
        try with_reducible rfl
      try simp only [Act.put, List.setIfInBounds_toArray, List.set_cons_zero, List.set_cons_succ]
      refine wpAnyH_take (i := 14) (v := ?_) (by simp only [List.getElem?_toArray, List.getElem?_cons_succ, List.getElem?_cons_zero]; rfl) (by kernel_rfl) (by kernel_rfl) (by kernel_rfl) (fun _ _ _ h => h) (Or.inl ⟨by rfl, ?_⟩) (by assumption) ?_
      rotate_left
      · intro w hSw
        try dsimp only at hSw
        go_simp
        try with_reducible rfl
      try simp only [Act.put, List.setIfInBounds_toArray, List.set_cons_zero, List.set_cons_succ]
      refine wpAnyH_done (by kernel_rfl) ?_ _
      refine NoPanic.normal ?_
      have HFL := Lib.hid (forked_fork w1 b (σ b) g k HP1.out.ta.1)
      clear cs t2
      go_wp2_with fail
      refine HFL.out.mono ?_
      rintro e w2 ⟨rfl, rfl⟩
      have FKS := Lib.hid HP1.out.isFork
      obtain ⟨hns, hnx⟩ := FKS.out.nsb HP1.out
      have a0 := nd_0 (W := w1) FKS.out.fk
      have f0 : w1.frozen? ⟨b, 0, none⟩ = false := by simp [World.frozen?, FKS.out.fk]
      have hps := (HP1.out.kb FKS.out.bel)
      have a1 : (w1.setCell ⟨b, 0, none⟩ (.int .i64 0)).cell? ⟨sb, so, none⟩ = some (.pointer (some ⟨b, 0, none⟩)) := (World.cell?_setCell_far w1 ⟨b, 0, none⟩ ⟨sb, so, none⟩ _ (fun e => hns e.symm)).trans hps.cell
      have a2 : w1.cell? ⟨sb, so, none⟩ = some (.pointer (some ⟨b, 0, none⟩)) := hps.cell
      have f1 : w1.frozen? ⟨sb, so, none⟩ = false := by simp [World.frozen?, hps.slot]
      obtain ⟨w4, h4⟩ : ∃ w4, w4 = (w1.setCell ⟨b, 0, none⟩ (.int .i64 0)).setCell ⟨sb, so, none⟩ (.pointer (some ⟨b, 0, none⟩)) := ⟨_, rfl⟩
      have H4 := Lib.hid h4
      have hfk4 : w4.heap[b]? = some (.cells (nv 0 hz 0 (some g)) 56 (0, 0)) := by
        rw [h4, Below.heap_setCell _ _ _ _ (fun e => hns e.symm), cells_set FKS.out.fk]; rfl
      have hx4 : w4.heap[x]? = some (.cells (nv 0 h m none) 56 (0, 0)) := by
        rw [h4, Below.heap_setCell _ _ _ _ HP1.out.xsb, Below.heap_setCell _ _ _ _ hnx]
        exact hps.single
      have HX4 := Lib.hid hx4
      have HFK4 := Lib.hid hfk4
      have HDG := Lib.hid (digit_to w4.drew h k HH.out (by have := FKS.out.mid.len; have := HKP.out; omega))
      clear h4 hfk4 hx4 hps hns hnx
      go_wp2_with fail
      rw [← H4.out]
      clear a0 f0 a1 f1 a2
      obtain ⟨i, hi⟩ : ∃ i, i = dig h k := ⟨_, rfl⟩
      rw [← hi] at HDG
      have HI := Lib.hid hi
      clear hi
      have hi16 : ((i.val : Nat) : Int) < 16 := by have := i.isLt; omega
      have c34 := nd_34 (W := w4) hz_len HFK4.out
      have l4 := nd_load (W := w4.drew) HH.out HX4.out
      simp only [gptr] at c34
      try simp only [List.append]
      refine wp_region_noPanic ?_
      refine wp_region_held_drew (S := (fun W => W.cell? ⟨b, 34, none⟩ = some (.pointer (some ⟨g, 0, none⟩)) ∧ (hld ⟨x, 1, none⟩).run Tryd.prog W = .ok (.agg (hv h)) W)) (by kernel_rfl) ⟨c34, l4⟩ (fun hHeld => ?_)
      refine wpAnyH_take (i := 0) (v := ?_) (by simp only [List.getElem?_toArray, List.getElem?_cons_zero]; rfl) (by kernel_rfl) (by kernel_rfl) (by kernel_rfl) (fun _ _ _ h => h) (Or.inl ⟨by rfl, ?_⟩) (by assumption) ?_
      rotate_left
      · intro w hSw
        try dsimp only at hSw
        go_simp
        try with_reducible rfl
      try simp only [Act.put, List.setIfInBounds_toArray, List.set_cons_zero, List.set_cons_succ]
      refine wpAnyH_take (i := 1) (v := ?_) (by simp only [List.getElem?_toArray, List.getElem?_cons_succ, List.getElem?_cons_zero]; rfl) (by kernel_rfl) (by kernel_rfl) (by kernel_rfl) (fun _ _ _ h => h) (Or.inl ⟨by rfl, ?_⟩) (by assumption) ?_
      rotate_left
      · intro w hSw
        try dsimp only at hSw
        go_simp
        try with_reducible rfl
      try simp only [Act.put, List.setIfInBounds_toArray, List.set_cons_zero, List.set_cons_succ]
      refine wpAnyH_take (i := 2) (v := ?_) (by simp only [List.getElem?_toArray, List.getElem?_cons_succ, List.getElem?_cons_zero]; rfl) (by kernel_rfl) (by kernel_rfl) (by kernel_rfl) (fun _ _ _ h => h) (Or.inl ⟨by rfl, ?_⟩) (by assumption) ?_
      rotate_left
      · intro w hSw
        try dsimp only at hSw
        go_simp
        try with_reducible rfl
      try simp only [Act.put, List.setIfInBounds_toArray, List.set_cons_zero, List.set_cons_succ]
      refine wpAnyH_take (i := 3) (v := ?_) (by simp only [List.getElem?_toArray, List.getElem?_cons_succ, List.getElem?_cons_zero]; rfl) (by kernel_rfl) (by kernel_rfl) (by kernel_rfl) (fun _ _ _ h => h) (Or.inl ⟨by rfl, ?_⟩) (by assumption) ?_
      rotate_left
      · intro w hSw
        try dsimp only at hSw
        go_simp
        try with_reducible rfl
      try simp only [Act.put, List.setIfInBounds_toArray, List.set_cons_zero, List.set_cons_succ]
      refine wpAnyH_take (i := 4) (v := ?_) (by simp only [List.getElem?_toArray, List.getElem?_cons_succ, List.getElem?_cons_zero]; rfl) (by kernel_rfl) (by kernel_rfl) (by kernel_rfl) (fun _ _ _ h => h) (Or.inl ⟨by rfl, ?_⟩) (by assumption) ?_
      rotate_left
      · intro w hSw
        try dsimp only at hSw
        go_simp
        try with_reducible rfl
      try simp only [Act.put, List.setIfInBounds_toArray, List.set_cons_zero, List.set_cons_succ]
      refine wpAnyH_take (i := 5) (v := ?_) (by simp only [List.getElem?_toArray, List.getElem?_cons_succ, List.getElem?_cons_zero]; rfl) (by kernel_rfl) (by kernel_rfl) (by kernel_rfl) (fun _ _ _ h => h) (Or.inl ⟨by rfl, ?_⟩) (by assumption) ?_
      rotate_left
      · intro w hSw
        try dsimp only at hSw
        go_simp
        try with_reducible rfl
      try simp only [Act.put, List.setIfInBounds_toArray, List.set_cons_zero, List.set_cons_succ]
      refine wpAnyH_take (i := 6) (v := ?_) (by simp only [List.getElem?_toArray, List.getElem?_cons_succ, List.getElem?_cons_zero]; rfl) (by kernel_rfl) (by kernel_rfl) (by kernel_rfl) (fun _ _ _ h => h) (Or.inl ⟨by rfl, ?_⟩) (by assumption) ?_
      rotate_left
      · intro w hSw
        try dsimp only at hSw
        go_simp
        try with_reducible rfl
      try simp only [Act.put, List.setIfInBounds_toArray, List.set_cons_zero, List.set_cons_succ]
      refine wpAnyH_take (i := 7) (v := ?_) (by simp only [List.getElem?_toArray, List.getElem?_cons_succ, List.getElem?_cons_zero]; rfl) (by kernel_rfl) (by kernel_rfl) (by kernel_rfl) (fun _ _ _ h => h) (Or.inl ⟨by rfl, ?_⟩) (by assumption) ?_
      rotate_left
      · intro w hSw
        try dsimp only at hSw
        go_simp
        try with_reducible rfl
      try simp only [Act.put, List.setIfInBounds_toArray, List.set_cons_zero, List.set_cons_succ]
      refine wpAnyH_take (i := 8) (v := ?_) (by simp only [List.getElem?_toArray, List.getElem?_cons_succ, List.getElem?_cons_zero]; rfl) (by kernel_rfl) (by kernel_rfl) (by kernel_rfl) (fun _ _ _ h => h) (Or.inl ⟨by rfl, ?_⟩) (by assumption) ?_
      rotate_left
      · intro w hSw
        try dsimp only at hSw
        go_simp
        try with_reducible rfl
      try simp only [Act.put, List.setIfInBounds_toArray, List.set_cons_zero, List.set_cons_succ]
      refine wpAnyH_take (i := 10) (v := ?_) (by simp only [List.getElem?_toArray, List.getElem?_cons_succ, List.getElem?_cons_zero]; rfl) (by kernel_rfl) (by kernel_rfl) (by kernel_rfl) (fun _ _ _ h => h) (Or.inl ⟨by rfl, ?_⟩) (by assumption) ?_
      rotate_left
      · intro w hSw
        try dsimp only at hSw
        go_simp
        try with_reducible rfl
      try simp only [Act.put, List.setIfInBounds_toArray, List.set_cons_zero, List.set_cons_succ]
      refine wpAnyH_ready (rs := [9]) (by kernel_rfl) (by simp) ?_
      refine AllReadyH.cons (by simp only [List.getElem?_toArray, List.getElem?_cons_succ, List.getElem?_cons_zero]; rfl) (fun K hK => ?_) AllReadyH.nil
      go_simp
      refine HDG.out.mono ?_
      rintro e w5 ⟨rfl, b5⟩
      have B5 : Hid (Below w4.heap.size w4 w5) := Lib.hid (below_drn0 (m := 1) b5)
      have r1 := nd_34 (W := w5) hz_len ((b5.block b (Array.getElem?_eq_some_iff.1 HFK4.out).1).trans HFK4.out)
      have r2 := nd_load (W := w5) HH.out ((b5.block x (Array.getElem?_eq_some_iff.1 HX4.out).1).trans HX4.out)
      simp only [gptr] at r1
      clear b5
      go_wp2_with fail
      refine hK.out _ _ ⟨r1, r2⟩ (fun hHeld => ?_)
      clear hK K
      try simp only [Act.put, List.setIfInBounds_toArray, List.set_cons_zero, List.set_cons_succ]
      refine wpAnyH_take (i := 11) (v := ?_) (by simp only [List.getElem?_toArray, List.getElem?_cons_succ, List.getElem?_cons_zero]; rfl) (by kernel_rfl) (by kernel_rfl) (by kernel_rfl) (fun _ _ _ h => h) (Or.inl ⟨by rfl, ?_⟩) (by assumption) ?_
      rotate_left
      · intro w hSw
        try dsimp only at hSw
        go_simp
        try with_reducible rfl
      try simp only [Act.put, List.setIfInBounds_toArray, List.set_cons_zero, List.set_cons_succ]
      refine wpAnyH_take (i := 12) (v := ?_) (by simp only [List.getElem?_toArray, List.getElem?_cons_succ, List.getElem?_cons_zero]; rfl) (by kernel_rfl) (by kernel_rfl) (by kernel_rfl) (fun _ _ _ h => h) (Or.inl ⟨by rfl, ?_⟩) (by assumption) ?_
      rotate_left
      · intro w hSw
        try dsimp only at hSw
        go_simp
        try with_reducible rfl
      try simp only [Act.put, List.setIfInBounds_toArray, List.set_cons_zero, List.set_cons_succ]
      refine wpAnyH_done (by kernel_rfl) ?_ _
      refine NoPanic.normal ?_
      go_wp2_with fail
      go_round
      case rel => exact ⟨k + 1, g, i.val, p ++ [dg i], ws i, upn σ b 0, _, _, Lib.hid (by rw [HKP.out]; simp), by have := FKS.out.mid.len; have := HKP.out; omega, by go_num, rfl, Lib.hid (HP1.out.step HH.out FKS.out.bel FKS.out.fk FKS.out.gg FKS.out.ta FKS.out.mid FKS.out.sep FKS.out.bl (by rw [HI.out, HKP.out]) H4.out B5.out)⟩
      case measure => have := FKS.out.mid.len; have := HKP.out; simp [intOf]; omega
end Go.Proofs.YtbpccbhlggcmfaaDoor
