/- The children of all commits; Descendants. Conditions: hashes of 32 bytes; no more than 1000 commits, whose parents are there, none of them twice; no more than a million hashes asked. -/
import Derived.Test.YthfkmfepeafgjaaGreatDoorGphA
namespace Go.Proofs.YthfkmfepeafgjaaGreatDoor
open Go.RowKit
open Go.Maps
attribute [local go_sem ↓] hld_open

/-- append, and where the new slice lies. -/
theorem run_push_loc (w : World) (ty : TypeId) (B : Nat) (v : Value) (l : List Key) (b : Nat) (k : Key) (hk : k.length = 32) (hown : HOwn w B v l) (hu : w.rangeAt b 0 (us (nmb k))) (hs : l.length + 1 ≤ 4398046511104) (hB : B ≤ w.heap.size) :
    ∃ v' w', (Builtin.append_ #[31, 31] ty #[v, .slice (some ⟨b, 0, none⟩) 1 1]).run Tryz.prog w = .ok v' w' ∧ HOwn w' B v' (l ++ [k]) ∧ Only (fun j => v.ownBlock = some j) w w' ∧ (∀ j, v'.ownBlock = some j → v.ownBlock = some j ∨ w.heap.size ≤ j) := by
  obtain ⟨i0, hi0, hz0, hz1, hz2⟩ := info_parts hzinfo
  have hf : l.length + 1 ≤ maxLen ∧ (l.length + 1) * 32 ≤ 140737488355328 := by unfold maxLen; omega
  have hcell : ∀ j u, (us (nmb k))[j]? = some u → w.cell? ((⟨b, 0, none⟩ : Addr).add j) = some u := fun j u hj => by
    rw [Addr.add_lit]
    exact hu j u hj
  have h1 := fl_one' [k]
  rw [fl_one] at h1
  obtain ⟨v', w', hr, h2, h3, h4, h5⟩ := run_append_own_at (P := Tryz.prog) (w := w) B 31 ty 40 i0 _ 32 32 Tryz.underlying31 hi0 hz0 hz1 hz2 rfl (by decide) v l.length (fl l) hown ⟨b, 0, none⟩ 1 1 (us (nmb k)) (by rw [usn_length, hk]) hcell h1 hf.1 hf.2 hB
  refine ⟨v', w', hr, ?_, (Only.refl _ w).grown h3 (fun k _ e => e), fun j hj => ?_⟩
  · unfold HOwn
    rw [List.length_append, fl_app, fl_one]
    exact h2
  · rcases h5 with h5 | h5
    · rw [h5] at hj; exact .inl hj
    · rw [h5] at hj
      injection hj with hj
      exact .inr (by omega)
section
variable {ops : Array Oper} {rest : List Oper} {a : Act} {Q : Exit → Act → World → Prop} {o : Oper} {w : World}
theorem push_loc (hgd : o.guard = none) (s x : Operand) (ho : o.op = .call { callee := .builtin .append, args := #[s, x], argTypes := #[31, 31] })
    (B : Nat) (v : Value) (l : List Key) (b : Nat) (k : Key) (hk : k.length = 32) (hs : a.eval s = v) (hown : HOwn w B v l) (hx : a.eval x = .slice (some ⟨b, 0, none⟩) 1 1) (hu : w.rangeAt b 0 (us (nmb k))) (hl : l.length + 1 ≤ 4398046511104) (hB : B ≤ w.heap.size)
    (h : ∀ v' w', HOwn w' B v' (l ++ [k]) → Only (fun j => v.ownBlock = some j) w w' → (∀ j, v'.ownBlock = some j → v.ownBlock = some j ∨ w.heap.size ≤ j) → wpList Tryz.prog ops Q rest (a.put o.dst v') w') :
    wpList Tryz.prog ops Q (o :: rest) a w := by
  refine wpList_plain hgd fun K hK => ?_
  obtain ⟨v', w', hr, h1, h2, h3⟩ := run_push_loc w o.type B v l b k hk hown hu hl hB
  unfold Oper.wp execOp
  simp only [ho, resolve, invoke, builtin, Sem.run_bind, Sem.run_pure, Result.andThen_ok, List.map_toArray, List.map_cons, List.map_nil, hs, hx, hr]
  exact hK _ _ (h v' w' h1 h2 h3)
theorem build_one {dst : Option Tmp} {T : TypeId} {pos : String} {after : Array Edge} {x : Operand} (h : Key) (hh : h.length = 32) (hx : a.eval x = .agg (hv h))
    (hK : wpList Tryz.prog ops Q rest (a.put dst (.slice (some ⟨w.heap.size, 0, none⟩) 1 1)) (w.alloc (.cells (hv h) 40))) : wpList Tryz.prog ops Q (⟨dst, .buildSlice 31 1 #[(0, x)], T, pos, after, none⟩ :: rest) a w := by
  refine wpList_plain rfl fun K hK' => ?_
  unfold Oper.wp execOp
  simp only [Sem.run_bind, Sem.run_pure, Result.andThen_ok, List.map_toArray, List.map_cons, List.map_nil, hx, run_build_hash w h hh]
  exact hK' _ _ hK
end
/-- The children that have been told: P p h: h stands under p. -/
structure ChI (W : World) (b n₀ : Nat) (G : Gr) (P : Key → Key → Prop) (C : Lx) : Prop where
  mp : MpH W b (kvs C)
  own : ∀ x ∈ C, HOwn W n₀ x.2.1 x.2.2 ∧ H32 x.2.2
  sep : ∀ x ∈ C, ∀ y ∈ C, x.1 ≠ y.1 → ∀ j, x.2.1.ownBlock = some j → y.2.1.ownBlock ≠ some j
  nod : ∀ x ∈ C, x.2.2.Nodup
  mem : ∀ p h, h ∈ adj (gr C) p ↔ P p h
  dom : ∀ x ∈ C, (aget x.1 G).isSome = true
theorem ChI.iff {W : World} {b n₀ : Nat} {G : Gr} {P Q : Key → Key → Prop} {C : Lx} (h : ChI W b n₀ G P C) (hq : ∀ p x, P p x ↔ Q p x) : ChI W b n₀ G Q C := { h with mem := fun p x => (h.mem p x).trans (hq p x) }
theorem ChI.keep {W W' : World} {b n₀ : Nat} {G : Gr} {P : Key → Key → Prop} {C : Lx} {S : Nat → Prop} (h : ChI W b n₀ G P C) (ho : Only S W W') (hb : ¬ S b) (hs : ∀ x ∈ C, ∀ j, x.2.1.ownBlock = some j → ¬ S j) : ChI W' b n₀ G P C :=
  { h with mp := h.mp.kept ho hb, own := fun x hx => ⟨(h.own x hx).1.step ho (hs x hx), (h.own x hx).2⟩ }
theorem ChI.kb {W W' : World} {b n₀ : Nat} {G : Gr} {P : Key → Key → Prop} {C : Lx} (h : ChI W b n₀ G P C) (k : Below W.heap.size W W') : ChI W' b n₀ G P C := h.keep (S := fun _ => False) (Only.of_below k) (fun h => h) (fun _ _ _ _ h => h)
theorem kvs_asc_gr {C : Lx} (h : AAsc (kvs C)) : AAsc C := List.pairwise_map.1 h
theorem ChI.len {W : World} {b n₀ : Nat} {G : Gr} {P : Key → Key → Prop} {C : Lx} (h : ChI W b n₀ G P C) : C.length ≤ G.length := by
  have hn := h.mp.asc.nodup
  rw [kvs_keys] at hn
  have := nodup_le (U := G.map (·.1)) hn fun x hx => by
    obtain ⟨y, hy, rfl⟩ := List.mem_map.1 hx
    exact mem_keys.2 (h.dom y hy)
  rw [List.length_map, List.length_map] at this
  exact this

theorem mem_aput {α : Type} {M : List (Key × α)} {n : Key} {v : α} {x : Key × α} : x ∈ aput n v M ↔ x = (n, v) ∨ (x ∈ M ∧ x.1 ≠ n) := by
  unfold aput
  rw [ains_mem, adel_mem]
theorem adj_put {C : Lx} (p q : Key) (y : Value × List Key) : adj (gr (aput p y C)) q = if q = p then y.2 else adj (gr C) q := by
  unfold adj
  rw [show gr (aput p y C) = aput p y.2 (gr C) from amap_put _ _ _ _]
  by_cases h : q = p
  · subst h
    rw [aget_put_same, if_pos rfl]; rfl
  · rw [aget_put_other p q _ h, if_neg h]
/-- What stands under a key so far. -/
def oldV (C : Lx) (p : Key) : Value := (aget p (kvs C)).getD (.slice none 0 0)
theorem ChI.old {W : World} {b n₀ : Nat} {G : Gr} {P : Key → Key → Prop} {C : Lx} (h : ChI W b n₀ G P C) (p : Key) : HOwn W n₀ (oldV C p) (adj (gr C) p) ∧ H32 (adj (gr C) p) ∧ (adj (gr C) p).Nodup := by
  unfold oldV adj
  rw [kvs_get, gr_get]
  cases hg : aget p C with
  | none => exact ⟨World.ownsRow_nil _ _ _ _, H32.nil, .nil⟩
  | some y => exact ⟨(h.own _ (aget_mem hg)).1, (h.own _ (aget_mem hg)).2, h.nod _ (aget_mem hg)⟩
theorem ChI.oldsep {W : World} {b n₀ : Nat} {G : Gr} {P : Key → Key → Prop} {C : Lx} (h : ChI W b n₀ G P C) (p : Key) {x : Key × (Value × List Key)} (hx : x ∈ C) (hne : x.1 ≠ p) {j : Nat} (hj : (oldV C p).ownBlock = some j) : x.2.1.ownBlock ≠ some j := by
  unfold oldV at hj
  rw [kvs_get] at hj
  cases hg : aget p C with
  | none => rw [hg] at hj; cases hj
  | some y =>
    rw [hg] at hj
    exact h.sep _ (aget_mem hg) x hx (fun e => hne e.symm) j hj
theorem ChI.push {W W' : World} {b n₀ : Nat} {G : Gr} {P : Key → Key → Prop} {C : Lx} {p k : Key} {v' : Value} (h : ChI W b n₀ G P C) (mp' : MpH W' b (aput p v' (kvs C))) (own' : HOwn W' n₀ v' (adj (gr C) p ++ [k]))
    (oth : Only (fun j => j = b ∨ (oldV C p).ownBlock = some j) W W') (loc : ∀ j, v'.ownBlock = some j → (oldV C p).ownBlock = some j ∨ W.heap.size ≤ j) (hp : (aget p G).isSome = true) (k32 : k.length = 32) (hnew : ¬ P p k) :
    ChI W' b n₀ G (fun q x => P q x ∨ (q = p ∧ x = k)) (aput p (v', adj (gr C) p ++ [k]) C) := by
  have hlt : ∀ x ∈ C, ∀ j, x.2.1.ownBlock = some j → j < W.heap.size := fun x hx j hj => ((h.own x hx).1.lt j hj).2
  refine ⟨?_, fun x hx => ?_, fun x hx y hy hne j hj => ?_, fun x hx => ?_, fun q x => ?_, fun x hx => ?_⟩
  · rw [show kvs (aput p (v', adj (gr C) p ++ [k]) C) = aput p v' (kvs C) from amap_put _ _ _ _]
    exact mp'
  · rcases mem_aput.1 hx with rfl | ⟨hx, hne⟩
    · exact ⟨own', (h.old p).2.1.app (H32.one k32)⟩
    · exact ⟨(h.own x hx).1.step oth (fun j hj e => e.elim (fun e => own_ne_map (h.own x hx).1 h.mp (by rw [hj, e])) (fun e => h.oldsep p hx hne e hj)), (h.own x hx).2⟩
  · rcases mem_aput.1 hx with rfl | ⟨hx, hxn⟩
    · rcases mem_aput.1 hy with rfl | ⟨hy, hyn⟩
      · exact absurd rfl hne
      · rcases loc j hj with e | e
        · exact h.oldsep p hy hyn e
        · intro e2; have := hlt y hy j e2; omega
    · rcases mem_aput.1 hy with rfl | ⟨hy, hyn⟩
      · intro e2
        rcases loc j e2 with e | e
        · exact h.oldsep p hx hxn e hj
        · have := hlt x hx j hj; omega
      · exact h.sep x hx y hy hne j hj
  · rcases mem_aput.1 hx with rfl | ⟨hx, _⟩
    · refine List.nodup_append.2 ⟨(h.old p).2.2, by simp, fun a ha c hc e => ?_⟩
      rw [List.mem_singleton.1 hc] at e
      exact hnew ((h.mem p k).1 (e ▸ ha))
    · exact h.nod x hx
  · rw [adj_put]
    by_cases e : q = p
    · subst e
      rw [if_pos rfl]
      simp only [List.mem_append, List.mem_singleton, h.mem, true_and]
    · rw [if_neg e, h.mem]
      simp [e]
  · rcases mem_aput.1 hx with rfl | ⟨hx, _⟩
    · exact hp
    · exact h.dom x hx
theorem ChI.small {W : World} {b n₀ : Nat} {G : Gr} {P : Key → Key → Prop} {C : Lx} (h : ChI W b n₀ G P C) (hP : ∀ p x, P p x → (aget x G).isSome = true) (p : Key) : (adj (gr C) p).length ≤ G.length := by
  have := nodup_le (U := G.map (·.1)) (h.old p).2.2 fun x hx => mem_keys.2 (hP p x ((h.mem p x).1 hx))
  rwa [List.length_map] at this
/-- What children hands back. -/
def ChPost (w : World) (G : Gr) (e : Ending) (w' : World) : Prop :=
  ∃ b C, e = .returned (.map (some b)) ∧ LAt w' b C ∧ w.heap.size ≤ b ∧ (∀ p h, h ∈ adj (gr C) p ↔ p ∈ adj G h) ∧ (∀ x ∈ C, x.2.2.length ≤ G.length) ∧ Below w.heap.size w w'
theorem adj_has {G : Gr} {p h : Key} (hp : p ∈ adj G h) : (aget h G).isSome = true := by
  unfold adj at hp
  cases hg : aget h G with
  | none => rw [hg] at hp; cases hp
  | some y => rfl
theorem ChI.done {w W : World} {b n₀ : Nat} {G : Gr} {ss : List Key} {C : Lx} (h : ChI W b n₀ G (fun p x => x ∈ ss ∧ p ∈ adj G x) C) (hs : ss.Perm (G.map (·.1))) (hb : w.heap.size ≤ b) (hB : Below w.heap.size w W) : ChPost w G (.returned (.map (some b))) W := by
  refine ⟨b, C, rfl, ⟨h.mp, fun x hx => ⟨HSeen.own (h.own x hx).1, (h.own x hx).2⟩⟩, hb, fun p x => ?_, fun x hx => ?_, hB⟩
  · rw [h.mem]
    exact ⟨fun e => e.2, fun e => ⟨hs.mem_iff.2 (mem_keys.2 (adj_has e)), e⟩⟩
  · have hg : aget x.1 C = some x.2 := aget_of_mem (kvs_asc_gr h.mp.asc) hx
    have := h.small (fun p x hx => adj_has hx.2) x.1
    unfold adj at this
    rw [gr_get, hg] at this
    exact this

theorem ranges_get {M : Kv} {k : Key} {c : Value} {y : DataW Value × List MemPlace} (hv : rdv c = some y) (hat : ∀ zd, (mapV M).atKey (.string k) zd = y.1) (hk : k ∈ M.map (·.1)) : aget k M = some c := by
  have h1 := hat (.held (.slice none 0 0))
  rw [mapV_at] at h1
  have h2 : y = (.held c, []) := (Option.some.inj hv).symm
  rw [h2] at h1
  simp only [DataW.held.injEq] at h1
  cases hg : aget k M with
  | none =>
    have := aget_isSome (n := k) (M := M)
    rw [hg, decide_eq_true hk] at this
    cases this
  | some v => rw [hg] at h1; exact congrArg some h1
theorem ranges_keep {w w' : World} {b r n : Nat} {D : DataW Value} {left : Lit → Bool} {cnt : Nat} (h : w.ranges Tryz.prog 40 rdv b r n D left cnt) (hb : w'.heap[b]? = w.heap[b]?) (hr : w'.heap[r]? = w.heap[r]?) : w'.ranges Tryz.prog 40 rdv b r n D left cnt := by
  obtain ⟨es, clock, since, seen, c0, h1, F, hs, hD, h2, rest⟩ := h
  exact ⟨es, clock, since, seen, c0, hb.trans h1, F, hs, hD, hr.trans h2, rest⟩
theorem ent_fits {m : Nat} (h : m ≤ 1000) : m + 1 ≤ 4398046511104 ∧ m < maxLen := by unfold maxLen; omega
theorem stop_ch {G : Gr} {ss : List Key} {k : Key} {E : List Key} (hk : adj G k = E) (hs : k ∉ ss) (p x : Key) : ((x ∈ ss ∧ p ∈ adj G x) ∨ (x = k ∧ p ∈ E)) ↔ (x ∈ ss ++ [k] ∧ p ∈ adj G x) := by
  simp only [List.mem_append, List.mem_singleton]
  constructor
  · rintro (⟨h1, h2⟩ | ⟨rfl, h2⟩)
    · exact ⟨.inl h1, h2⟩
    · exact ⟨.inr rfl, by rw [hk]; exact h2⟩
  · rintro ⟨h1 | rfl, h2⟩
    · exact .inl ⟨h1, h2⟩
    · exact .inr ⟨rfl, by rw [hk] at h2; exact h2⟩
set_option maxRecDepth 20000 in
set_option maxHeartbeats 8000000 in
theorem children_to (w : World) (g bm : Nat) (X : Lx) (H : GA w g bm X) (hX : X.length ≤ 1000) (hc : Clo (gr X)) (hn : ∀ x ∈ X, x.2.2.Nodup ∧ x.2.2.length ≤ 1000) :
    Calls Tryz.prog 52 #[gp g] w (ChPost w (gr X)) := by
  have hmm := @run_makeMap Tryz.prog
  have b1 : Below w.heap.size w (w.alloc (.map #[] 0)) := (Below.refl _ w).alloc (Nat.le_refl _) _
  have hs1 : (w.alloc (.map #[] 0)).heap.size = w.heap.size + 1 := by simp
  have H1 := H.kb b1
  have c0 := H1.c0
  have ho := H1.at_.mp.own
  have hI : ChI (w.alloc (.map #[] 0)) w.heap.size (w.heap.size + 2) (gr X) (fun p x => x ∈ ([] : List Key) ∧ p ∈ adj (gr X) x) [] :=
    ⟨MpH.made w, (by simp), (by simp), (by simp), (fun p h => by unfold adj; simp [aget, gr, amap]), (by simp)⟩
  have HI := Lib.hid hI
  have HG := Lib.hid H
  have HX := Lib.hid hX
  have HC := Lib.hid hc
  have HN := Lib.hid hn
  have B1 := Lib.hid b1
  have hbm : bm < w.heap.size := H.at_.mp.lt
  have HBM := Lib.hid hbm
  clear b1 H H1 hI hX hc hn hbm
  go_enter Tryz.func52, Tryz.ntmps52
  generalize hw1 : w.alloc (.map #[] 0) = w1 at *
  go_wp2_with (at_range; refine wpList_range_own _ rfl _ 65 rfl _ _ hkeyed Tryz.underlying65 rdv bm (kvs X).length _ rfl ho ?_; intro w2 hrg0 hg0 hs0)
  have HRG0 := Lib.hid hrg0
  have HI2 : Hid (ChI w2 w.heap.size (w.heap.size + 2) (gr X) (fun p x => x ∈ ([] : List Key) ∧ p ∈ adj (gr X) x) []) := Lib.hid (HI.out.keep (S := fun _ => False) ((Only.refl _ w1).grown hg0 (fun _ _ e => by cases e)) (fun h => h) (fun x hx => by cases hx))
  have B2 : Hid (Below w.heap.size w w2) := Lib.hid (B1.out.trans (Only.below (S := fun _ => False) ((Only.refl _ w1).grown hg0 (fun _ _ e => by cases e)) B1.out.size (fun _ h => h.elim)))
  have HS2 : Hid (w.heap.size + 2 ≤ w2.heap.size) := Lib.hid (by rw [hs0, hs1]; exact Nat.le_refl _)
  clear hrg0 hg0 hs0 ho c0
  rw [hs1] at HRG0
  go_frame
  rw [hs1]
  go_loopw [4] (fun _ wr => ∃ (left : Lit → Bool) (cnt : Nat) (ss : List Key) (C : Lx), Hid (wr.ranges Tryz.prog 40 rdv bm (w.heap.size + 1) (kvs X).length (mapV (kvs X)) left cnt) ∧ Hid (Col (kvs X) left ss) ∧ Hid (ChI wr w.heap.size (w.heap.size + 2) (gr X) (fun p x => x ∈ ss ∧ p ∈ adj (gr X) x) C) ∧ Hid (Below w.heap.size w wr) ∧ Hid (w.heap.size + 2 ≤ wr.heap.size))
    (fun _ wr => wr.rangeLeft bm (w.heap.size + 1))
  case atStart => exact ⟨_, _, [], [], HRG0, Lib.hid (Col.start _), HI2, B2, HS2⟩
  case round =>
    obtain ⟨left, cnt, ss, C, RG, CL, CH, B, HSZ⟩ := hrel
    clear HRG0 HI2 B2 HS2 HI
    go_wp2_with (at_next; refine wpList_next_ranges _ rfl _ rfl 40 hkeyed rdv id id (fun key _ _ => ⟨key, rfl⟩) (fun v _ _ => ⟨v, rfl⟩) bm (w.heap.size + 1) (kvs X).length _ _ _ rfl RG.out ?_ ?_)
    · intro hc0 hl0
      go_wp2
      go_ret
      exact CH.out.done (by rw [gr_keys, ← kvs_keys]; exact CL.out.done HG.out.at_.mp.asc hl0) (Nat.le_refl _) B.out
    · intro x c kl yd yp wn cnt2 hkey hlk hv' hat hrg2 hlt hg2 hs2 hen
      obtain ⟨k, hkM, rfl⟩ := ranges_key RG.out hlk
      obtain ⟨k32, rfl⟩ := came_key HG.out.at_.mp.h32 hkM hkey
      have hgk := ranges_get hv' hat hkM
      rw [kvs_get] at hgk
      obtain ⟨⟨c', E⟩, hgX, rfl⟩ := Option.map_eq_some_iff.1 hgk
      have hkss : k ∉ ss := ((CL.out.left k).1 hlk).2
      have hadj : adj (gr X) k = E := by unfold adj; rw [gr_get, hgX]; rfl
      have hon : Only (fun j => j = w.heap.size + 1) wr wn := (Only.refl _ wr).grown hg2 (fun j _ e => by cases e; rfl)
      have CHn := Lib.hid (CH.out.keep hon (by omega) (fun x hx j hj => by have := ((CH.out.own x hx).1.lt j hj).1; omega))
      have Bn : Hid (Below w.heap.size w wn) := Lib.hid (B.out.trans (Only.below hon B.out.size (fun j hj => by omega)))
      have hsn := (HG.out.at_.seen _ (aget_mem hgX))
      have hen2 := HN.out _ (aget_mem hgX)
      have CL2 := Lib.hid (CL.out.step hlk)
      have HGn : Hid (HSeen wn c' E ∧ H32 E ∧ E.Nodup ∧ E.length ≤ 1000) := Lib.hid ⟨hsn.1.mild (mild_below Bn.out), hsn.2, hen2.1, hen2.2⟩
      obtain ⟨q, cap, rfl⟩ := HGn.out.1.shape
      have st := hst_cells k k32 wn
      have hks : (hv k).size = 32 := by rw [hv_size, k32]
      have b3 : Below wn.heap.size wn (wn.alloc (.cells (hv k) 40)) := (Below.refl _ _).alloc (Nat.le_refl _) _
      have CH3 := Lib.hid (CHn.out.kb b3)
      have B3 : Hid (Below w.heap.size w (wn.alloc (.cells (hv k) 40))) := Lib.hid (Bn.out.alloc Bn.out.size _)
      have HV3 := Lib.hid (heap_alloc_last wn (.cells (hv k) 40))
      have RG3 := Lib.hid (hrg2.alloc (.cells (hv k) 40))
      have hs3 : (wn.alloc (.cells (hv k) 40)).heap.size = wn.heap.size + 1 := by simp
      have hsn' : w.heap.size + 2 ≤ wn.heap.size := by rw [hs2]; exact HSZ.out
      have HSN := Lib.hid hsn'
      have K32 := Lib.hid k32
      have HKS := Lib.hid hkss
      have HAD := Lib.hid hadj
      have HRL := Lib.hid RG.out.left_eq
      have HLT := Lib.hid hlt
      have HSE : Hid (HSeen w (.slice q E.length cap) E) := Lib.hid hsn.1
      have NB3 : Hid (∀ x ∈ C, ∀ j, x.2.1.ownBlock = some j → j ≠ wn.heap.size) := Lib.hid (fun x hx j hj => by have := ((CHn.out.own x hx).1.lt j hj).2; omega)
      obtain ⟨nE, hnE⟩ : ∃ nE, nE = E.length := ⟨_, rfl⟩
      rw [← hnE] at HSE hen
      have HNE := Lib.hid hnE
      have HE3 := Lib.hid HGn.out.2
      clear hkM hkey hlk hv' hat hrg2 hlt hg2 hs2 hgk hgX hkss hadj hon CHn Bn hsn hen2 HGn b3 hnE hsn' k32 CH RG CL
      generalize hw3 : wn.alloc (.cells (hv k) 40) = w3 at *
      go_wp2_with fail
      go_loopw [21] (fun s wr => ∃ (i : Nat) (C : Lx), s = .int .i64 i ∧ i ≤ nE ∧ Hid (ChI wr w.heap.size (w.heap.size + 2) (gr X) (fun p x => (x ∈ ss ∧ p ∈ adj (gr X) x) ∨ (x = k ∧ p ∈ E.take i)) C) ∧ Hid (Below w.heap.size w wr) ∧ Hid (wr.ranges Tryz.prog 40 rdv bm (w.heap.size + 1) (kvs X).length (mapV (kvs X)) (fun x => left x && !x.sameKey (.string k)) cnt2) ∧ Hid (wr.heap[wn.heap.size]? = some (.cells (hv k) 40 (0, 0))) ∧ Hid (∀ x ∈ C, ∀ j, x.2.1.ownBlock = some j → j ≠ wn.heap.size))
        (fun s _ => nE - (intOf s).toNat)
      case atStart => exact ⟨0, C, rfl, Nat.zero_le _, Lib.hid (CH3.out.iff fun p x => by simp), B3, RG3, HV3, NB3⟩
      case round =>
        clear CH3 B3 RG3 NB3 HV3
        obtain ⟨i, C, rfl, hi, CH, B, RG, HV, NB⟩ := hrel
        by_cases hlt : i < nE
        · obtain ⟨j1, j2, j3⟩ := next_fit hlt (Nat.le_trans (Nat.le_of_eq HNE.out) (Nat.le_trans HE3.out.2.2 (by decide)))
          have hiE : i < E.length := by rw [← HNE.out]; exact hlt
          obtain ⟨b, o, c', e1, hrg⟩ := (HSE.out.mild (mild_below B.out)).at HE3.out.1 hiE
          injection e1 with e1 e2 e3
          subst e1
          obtain ⟨p, hp⟩ : ∃ p, p = E[i] := ⟨_, rfl⟩
          rw [← hp] at hrg
          have hp32 : p.length = 32 := by rw [hp]; exact HE3.out.1.at hiE
          have hpE : p ∈ E := by rw [hp]; exact List.getElem_mem hiE
          have hpn : p ∉ E.take i := fun hm => by
            obtain ⟨j, hj, e⟩ := List.mem_take_iff_getElem.1 hm
            have := (List.nodup_iff_pairwise_ne.1 HE3.out.2.1)
            rw [hp] at e
            exact absurd e (List.pairwise_iff_getElem.1 this j i (by omega) hiE (by omega))
          have HMT : Hid (∀ y, y ∈ E.take (i + 1) ↔ y ∈ E.take i ∨ y = p) := Lib.hid (fun y => by rw [hp]; exact mem_take_succ hiE y)
          have hph : (aget p (gr X)).isSome = true := HC.out k p (by rw [HAD.out]; exact hpE)
          have hld0 := hld_range hp32 hrg
          have st := hst_cells p hp32 wr
          have hks : (hv p).size = 32 := by rw [hv_size, hp32]
          have ba : Below wr.heap.size wr (wr.alloc (.cells (hv p) 40)) := (Below.refl _ _).alloc (Nat.le_refl _) _
          have bb : Below wr.heap.size wr ((wr.alloc (.cells (hv p) 40)).alloc (.cells (hv k) 40)) := ba.alloc ba.size _
          have hldp := hld_row (w := wr.alloc (.cells (hv p) 40)) hp32 (heap_alloc_last wr _)
          have hldk := hld_row (w := wr.alloc (.cells (hv p) 40)) K32.out ((ba.block _ (Array.getElem?_eq_some_iff.1 HV.out).1).trans HV.out)
          have CHb := Lib.hid (CH.out.kb bb)
          have hszb : ((wr.alloc (.cells (hv p) 40)).alloc (.cells (hv k) 40)).heap.size = wr.heap.size + 2 := by simp
          have hsza : (wr.alloc (.cells (hv p) 40)).heap.size = wr.heap.size + 1 := by simp
          have hkr : ((wr.alloc (.cells (hv p) 40)).alloc (.cells (hv k) 40)).rangeAt (wr.heap.size + 1) 0 (us (nmb k)) := by
            have := range_new' (wr.alloc (.cells (hv p) 40)) k 40
            rw [hsza] at this
            exact this
          have hCl := Nat.le_trans CHb.out.len (by rw [gr_len]; exact HX.out)
          have hof := ent_fits hCl
          obtain ⟨stm, wc, hme, oc, hmc, hback⟩ := CHb.out.mp.entry Tryz.underlying65 lzero p hp32 (by rw [kvs_len]; exact hof.2)
          have hold := CHb.out.old p
          have hsmall := CHb.out.small (fun p' x hx => by
            rcases hx with hx | ⟨rfl, hx⟩
            · exact adj_has hx.2
            · refine adj_has (G := gr X) (p := p') ?_
              rw [HAD.out]
              exact List.mem_of_mem_take hx) p
          have hsl : (adj (gr C) p).length + 1 ≤ 4398046511104 := (ent_fits (Nat.le_trans hsmall (by rw [gr_len]; exact HX.out))).1
          have hownc := hold.1.step oc (fun j hj e => own_ne_map hold.1 CHb.out.mp (by rw [hj, e]))
          have hkrc : wc.rangeAt (wr.heap.size + 1) 0 (us (nmb k)) := hsr_kb hkr (mild_map CHb.out.mp oc)
          rw [show (aget p (kvs C)).getD (.slice none 0 0) = oldV C p from rfl] at hme
          obtain ⟨po, co, hov⟩ := (HSeen.own hold.1).shape
          have HOW := Lib.hid hownc
          have HKR := Lib.hid hkrc
          have HBK := Lib.hid hback
          have HOC := Lib.hid oc
          have HSL := Lib.hid hsl
          have hszc : w.heap.size + 2 ≤ wc.heap.size := by have := oc.size; rw [hszb] at this; have := (Array.getElem?_eq_some_iff.1 HV.out).1; have := HSN.out; omega
          have HPH := Lib.hid hph
          have HPN := Lib.hid hpn
          have HP32 := Lib.hid hp32
          have HOL := Lib.hid hold
          have HBB := Lib.hid bb
          have HWS : Hid (w.heap.size + 2 ≤ wr.heap.size) := Lib.hid (by have := (Array.getElem?_eq_some_iff.1 HV.out).1; have := HSN.out; omega)
          clear hrg ba bb hkr hCl hof oc hmc hback hold hsmall hsl hownc hkrc hp hpE hpn hph hp32 hiE e2 e3 CH
          generalize hov' : oldV C p = ov at *
          generalize hFE : adj (gr C) p = F at *
          subst hov
          have hbo : ∀ j, (Value.slice po F.length co).ownBlock = some j → w.heap.size + 2 ≤ j ∧ j < wc.heap.size := fun j hj => HOW.out.lt j hj
          have HBO := Lib.hid hbo
          clear hbo
          go_wp2_with (first
            | (refine build_one k K32.out rfl ?_)
            | (at_builtin; go_must (refine push_loc rfl _ _ rfl (w.heap.size + 2) _ F (wr.heap.size + 1) k K32.out rfl HOW.out rfl HKR.out HSL.out hszc ?_); intro vd wd od nd ld; obtain ⟨pd, cd, rfl⟩ := (HSeen.own od).shape; obtain ⟨we, hes, mpe, oe⟩ := HBK.out wd (.slice pd (F ++ [k]).length cd) (nd.block w.heap.size (by omega) (fun e => by have := HBO.out _ e; omega)); rw [List.length_append, List.length_singleton] at hes; have OD := Lib.hid od; have ND := Lib.hid nd; have LD := Lib.hid ld; have ME := Lib.hid mpe; have OE := Lib.hid oe; clear od nd ld mpe oe))
          have oth : Only (fun j => j = w.heap.size ∨ (Value.slice po F.length co).ownBlock = some j) ((wr.alloc (.cells (hv p) 40)).alloc (.cells (hv k) 40)) we :=
            (HOC.out.trans ND.out (fun _ h => .inl h) (fun _ _ h => .inr h)).trans OE.out (fun _ h => h) (fun _ _ h => .inl h)
          have hall : Only (fun j => j = w.heap.size ∨ (Value.slice po F.length co).ownBlock = some j) wr we := (Only.of_below (S := fun j => j = w.heap.size ∨ (Value.slice po F.length co).ownBlock = some j) HBB.out).trans oth (fun _ h => h) (fun _ _ h => h)
          have hnb : ∀ j, (Value.slice po F.length co).ownBlock = some j → j ≠ wn.heap.size := fun j hj => by
            rw [← hov'] at hj
            unfold oldV at hj
            rw [kvs_get] at hj
            cases hg : aget p C with
            | none => rw [hg] at hj; cases hj
            | some y => rw [hg] at hj; exact NB.out _ (aget_mem hg) j hj
          have hwc : ∀ j, wc.heap.size ≤ j → wn.heap.size < j := fun j hj => by
            have h1 := (Array.getElem?_eq_some_iff.1 HV.out).1
            have h2 := HOC.out.size
            rw [hszb] at h2
            omega
          have hpush := ChI.push (v' := .slice pd (F ++ [k]).length cd) CHb.out ME.out (by rw [hFE]; exact OD.out.step OE.out (fun j hj e => by have := (OD.out.lt j hj).1; omega))
            (by rw [hov']; exact oth) (by rw [hov']; exact fun j hj => (LD.out j hj).imp (fun h => h) (fun h => Nat.le_trans HOC.out.size h)) HPH.out K32.out (fun h => h.elim (fun h => HKS.out h.1) (fun h => HPN.out h.2))
          rw [hFE] at hpush
          have hi' := hpush.iff (Q := fun p' x => (x ∈ ss ∧ p' ∈ adj (gr X) x) ∨ (x = k ∧ p' ∈ E.take (i + 1))) (fun p' x => by
            rw [HMT.out]
            constructor
            · rintro ((h | ⟨h1, h2⟩) | ⟨h1, h2⟩)
              · exact .inl h
              · exact .inr ⟨h1, .inl h2⟩
              · exact .inr ⟨h2, .inr h1⟩
            · rintro (h | ⟨h1, h2 | h2⟩)
              · exact .inl (.inl h)
              · exact .inl (.inr ⟨h1, h2⟩)
              · exact .inr ⟨h2, h1⟩)
          have hnv : ∀ j, (Value.slice pd (F ++ [k]).length cd).ownBlock = some j → j ≠ wn.heap.size := fun j hj => by
            rcases LD.out j hj with h | h
            · exact hnb j h
            · have := hwc j h; omega
          refine ⟨⟨i + 1, aput p (.slice pd (F ++ [k]).length cd, F ++ [k]) C, by rw [j1], hlt, Lib.hid hi', Lib.hid (B.out.trans (Only.below hall B.out.size (fun j hj => by
              rcases hj with rfl | hj
              · exact Nat.le_refl _
              · have := HBO.out j hj; omega))), Lib.hid (ranges_keep RG.out (hall.block bm RG.out.owns.lt (fun e => by
              rcases e with e | e
              · have := HBM.out; omega
              · have := HBO.out _ e; have := HBM.out; omega)) (hall.block _ RG.out.lt (fun e => by
              rcases e with e | e
              · omega
              · have := HBO.out _ e; omega))), Lib.hid ((hall.block _ (Array.getElem?_eq_some_iff.1 HV.out).1 (fun e => by
              rcases e with e | e
              · have := HSN.out; omega
              · exact hnb _ e rfl)).trans HV.out), Lib.hid (fun x hx j hj => by
              rcases mem_aput.1 hx with rfl | ⟨hx, _⟩
              · exact hnv j hj
              · exact NB.out x hx j hj)⟩, ?_⟩
          rw [j1]
          simp only [intOf]
          omega
        · obtain rfl : i = nE := by omega
          go_wp2_with fail
          have CHs := CH.out.iff (Q := fun p x => x ∈ ss ++ [k] ∧ p ∈ adj (gr X) x) (fun p x => (by rw [List.take_of_length_le (by rw [HNE.out]; exact Nat.le_refl _)]; exact stop_ch HAD.out HKS.out p x))
          refine ⟨⟨_, cnt2, ss ++ [k], C, RG, CL2, Lib.hid CHs, B, Lib.hid (by have := HV.out; have := (Array.getElem?_eq_some_iff.1 this).1; have := HSN.out; omega)⟩, ?_⟩
          rw [RG.out.left_eq, HRL.out]
          exact HLT.out
end Go.Proofs.YthfkmfepeafgjaaGreatDoor
