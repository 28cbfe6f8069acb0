/- The children of all commits; Descendants. Conditions: hashes of 32 bytes; no more than 1000 commits, whose parents are there, none of them twice; no more than a million hashes asked. -/
import Derived.Test.YthfkmfepeafgjaaGphA
namespace Go.Proofs.Ythfkmfepeafgjaa
open Go.RowKit
open Go.Maps
attribute [local go_sem ↓] hld_open

/-- append, and where the new slice lies. -/
theorem run_push_loc (w : World) (ty : TypeId) (B : Nat) (v : Value) (l : List Key) (b : Nat) (k : Key) (hk : k.length = 32) (hown : HOwn w B v l) (hu : w.rangeAt b 0 (us (nmb k))) (hs : l.length + 1 ≤ 4398046511104) (hB : B ≤ w.heap.size) :
    ∃ v' w', (Builtin.append_ #[25, 25] ty #[v, .slice (some ⟨b, 0, none⟩) 1 1]).run Try.prog w = .ok v' w' ∧ HOwn w' B v' (l ++ [k]) ∧ Only (fun j => v.ownBlock = some j) w w' ∧ (∀ j, v'.ownBlock = some j → v.ownBlock = some j ∨ w.heap.size ≤ j) := by
  obtain ⟨i0, hi0, hz0, hz1, hz2⟩ := info_parts hzinfo
  have hf : l.length + 1 ≤ maxLen ∧ (l.length + 1) * 32 ≤ 140737488355328 := by unfold maxLen; omega
  have hcell : ∀ j u, (us (nmb k))[j]? = some u → w.cell? ((⟨b, 0, none⟩ : Addr).add j) = some u := fun j u hj => by
    rw [Addr.add_lit]
    exact hu j u hj
  have h1 := fl_one' [k]
  rw [fl_one] at h1
  obtain ⟨v', w', hr, h2, h3, h4, h5⟩ := run_append_own_at (P := Try.prog) (w := w) B 25 ty 28 i0 _ 32 32 Try.underlying25 hi0 hz0 hz1 hz2 rfl (by decide) v l.length (fl l) hown ⟨b, 0, none⟩ 1 1 (us (nmb k)) (by rw [usn_length, hk]) hcell h1 hf.1 hf.2 hB
  refine ⟨v', w', hr, ?_, (Only.refl _ w).grown h3 (fun k _ e => e), fun j hj => ?_⟩
  · unfold HOwn
    rw [List.length_append, fl_app, fl_one]
    exact h2
  · rcases h5 with h5 | h5
    · rw [h5] at hj; exact .inl hj
    · rw [h5] at hj
      injection hj with hj
      exact .inr (by omega)
section
variable {ops : Array Oper} {rest : List Oper} {a : Act} {Q : Exit → Act → World → Prop} {o : Oper} {w : World}
theorem push_loc (hgd : o.guard = none) (s x : Operand) (ho : o.op = .call { callee := .builtin .append, args := #[s, x], argTypes := #[25, 25] })
    (B : Nat) (v : Value) (l : List Key) (b : Nat) (k : Key) (hk : k.length = 32) (hs : a.eval s = v) (hown : HOwn w B v l) (hx : a.eval x = .slice (some ⟨b, 0, none⟩) 1 1) (hu : w.rangeAt b 0 (us (nmb k))) (hl : l.length + 1 ≤ 4398046511104) (hB : B ≤ w.heap.size)
    (h : ∀ v' w', HOwn w' B v' (l ++ [k]) → Only (fun j => v.ownBlock = some j) w w' → (∀ j, v'.ownBlock = some j → v.ownBlock = some j ∨ w.heap.size ≤ j) → wpList Try.prog ops Q rest (a.put o.dst v') w') :
    wpList Try.prog ops Q (o :: rest) a w := by
  refine wpList_plain hgd fun K hK => ?_
  obtain ⟨v', w', hr, h1, h2, h3⟩ := run_push_loc w o.type B v l b k hk hown hu hl hB
  unfold Oper.wp execOp
  simp only [ho, resolve, invoke, builtin, Sem.run_bind, Sem.run_pure, Result.andThen_ok, List.map_toArray, List.map_cons, List.map_nil, hs, hx, hr]
  exact hK _ _ (h v' w' h1 h2 h3)
theorem build_one {dst : Option Tmp} {T : TypeId} {pos : String} {after : Array Edge} {x : Operand} (h : Key) (hh : h.length = 32) (hx : a.eval x = .agg (hv h))
    (hK : wpList Try.prog ops Q rest (a.put dst (.slice (some ⟨w.heap.size, 0, none⟩) 1 1)) (w.alloc (.cells (hv h) 28))) : wpList Try.prog ops Q (⟨dst, .buildSlice 25 1 #[(0, x)], T, pos, after, none⟩ :: rest) a w := by
  refine wpList_plain rfl fun K hK' => ?_
  unfold Oper.wp execOp
  simp only [Sem.run_bind, Sem.run_pure, Result.andThen_ok, List.map_toArray, List.map_cons, List.map_nil, hx, run_build_hash w h hh]
  exact hK' _ _ hK
end
/-- The children that have been told: P p h: h stands under p. -/
structure ChI (W : World) (b n₀ : Nat) (G : Gr) (P : Key → Key → Prop) (C : Lx) : Prop where
  mp : MpH W b (kvs C)
  own : ∀ x ∈ C, HOwn W n₀ x.2.1 x.2.2 ∧ H32 x.2.2
  sep : ∀ x ∈ C, ∀ y ∈ C, x.1 ≠ y.1 → ∀ j, x.2.1.ownBlock = some j → y.2.1.ownBlock ≠ some j
  nod : ∀ x ∈ C, x.2.2.Nodup
  mem : ∀ p h, h ∈ adj (gr C) p ↔ P p h
  dom : ∀ x ∈ C, (aget x.1 G).isSome = true
theorem ChI.iff {W : World} {b n₀ : Nat} {G : Gr} {P Q : Key → Key → Prop} {C : Lx} (h : ChI W b n₀ G P C) (hq : ∀ p x, P p x ↔ Q p x) : ChI W b n₀ G Q C := { h with mem := fun p x => (h.mem p x).trans (hq p x) }
theorem ChI.keep {W W' : World} {b n₀ : Nat} {G : Gr} {P : Key → Key → Prop} {C : Lx} {S : Nat → Prop} (h : ChI W b n₀ G P C) (ho : Only S W W') (hb : ¬ S b) (hs : ∀ x ∈ C, ∀ j, x.2.1.ownBlock = some j → ¬ S j) : ChI W' b n₀ G P C :=
  { h with mp := h.mp.kept ho hb, own := fun x hx => ⟨(h.own x hx).1.step ho (hs x hx), (h.own x hx).2⟩ }
theorem ChI.kb {W W' : World} {b n₀ : Nat} {G : Gr} {P : Key → Key → Prop} {C : Lx} (h : ChI W b n₀ G P C) (k : Below W.heap.size W W') : ChI W' b n₀ G P C := h.keep (S := fun _ => False) (Only.of_below k) (fun h => h) (fun _ _ _ _ h => h)
theorem kvs_asc_gr {C : Lx} (h : AAsc (kvs C)) : AAsc C := List.pairwise_map.1 h
theorem ChI.len {W : World} {b n₀ : Nat} {G : Gr} {P : Key → Key → Prop} {C : Lx} (h : ChI W b n₀ G P C) : C.length ≤ G.length := by
  have hn := h.mp.asc.nodup
  rw [kvs_keys] at hn
  have := nodup_le (U := G.map (·.1)) hn fun x hx => by
    obtain ⟨y, hy, rfl⟩ := List.mem_map.1 hx
    exact mem_keys.2 (h.dom y hy)
  rw [List.length_map, List.length_map] at this
  exact this

theorem mem_aput {α : Type} {M : List (Key × α)} {n : Key} {v : α} {x : Key × α} : x ∈ aput n v M ↔ x = (n, v) ∨ (x ∈ M ∧ x.1 ≠ n) := by
  unfold aput
  rw [ains_mem, adel_mem]
theorem adj_put {C : Lx} (p q : Key) (y : Value × List Key) : adj (gr (aput p y C)) q = if q = p then y.2 else adj (gr C) q := by
  unfold adj
  rw [show gr (aput p y C) = aput p y.2 (gr C) from amap_put _ _ _ _]
  by_cases h : q = p
  · subst h
    rw [aget_put_same, if_pos rfl]; rfl
  · rw [aget_put_other p q _ h, if_neg h]
/-- What stands under a key so far. -/
def oldV (C : Lx) (p : Key) : Value := (aget p (kvs C)).getD (.slice none 0 0)
theorem ChI.old {W : World} {b n₀ : Nat} {G : Gr} {P : Key → Key → Prop} {C : Lx} (h : ChI W b n₀ G P C) (p : Key) : HOwn W n₀ (oldV C p) (adj (gr C) p) ∧ H32 (adj (gr C) p) ∧ (adj (gr C) p).Nodup := by
  unfold oldV adj
  rw [kvs_get, gr_get]
  cases hg : aget p C with
  | none => exact ⟨World.ownsRow_nil _ _ _ _, H32.nil, .nil⟩
  | some y => exact ⟨(h.own _ (aget_mem hg)).1, (h.own _ (aget_mem hg)).2, h.nod _ (aget_mem hg)⟩
theorem ChI.oldsep {W : World} {b n₀ : Nat} {G : Gr} {P : Key → Key → Prop} {C : Lx} (h : ChI W b n₀ G P C) (p : Key) {x : Key × (Value × List Key)} (hx : x ∈ C) (hne : x.1 ≠ p) {j : Nat} (hj : (oldV C p).ownBlock = some j) : x.2.1.ownBlock ≠ some j := by
  unfold oldV at hj
  rw [kvs_get] at hj
  cases hg : aget p C with
  | none => rw [hg] at hj; cases hj
  | some y =>
    rw [hg] at hj
    exact h.sep _ (aget_mem hg) x hx (fun e => hne e.symm) j hj
theorem ChI.push {W W' : World} {b n₀ : Nat} {G : Gr} {P : Key → Key → Prop} {C : Lx} {p k : Key} {v' : Value} (h : ChI W b n₀ G P C) (mp' : MpH W' b (aput p v' (kvs C))) (own' : HOwn W' n₀ v' (adj (gr C) p ++ [k]))
    (oth : Only (fun j => j = b ∨ (oldV C p).ownBlock = some j) W W') (loc : ∀ j, v'.ownBlock = some j → (oldV C p).ownBlock = some j ∨ W.heap.size ≤ j) (hp : (aget p G).isSome = true) (k32 : k.length = 32) (hnew : ¬ P p k) :
    ChI W' b n₀ G (fun q x => P q x ∨ (q = p ∧ x = k)) (aput p (v', adj (gr C) p ++ [k]) C) := by
  have hlt : ∀ x ∈ C, ∀ j, x.2.1.ownBlock = some j → j < W.heap.size := fun x hx j hj => ((h.own x hx).1.lt j hj).2
  refine ⟨?_, fun x hx => ?_, fun x hx y hy hne j hj => ?_, fun x hx => ?_, fun q x => ?_, fun x hx => ?_⟩
  · rw [show kvs (aput p (v', adj (gr C) p ++ [k]) C) = aput p v' (kvs C) from amap_put _ _ _ _]
    exact mp'
  · rcases mem_aput.1 hx with rfl | ⟨hx, hne⟩
    · exact ⟨own', (h.old p).2.1.app (H32.one k32)⟩
    · exact ⟨(h.own x hx).1.step oth (fun j hj e => e.elim (fun e => own_ne_map (h.own x hx).1 h.mp (by rw [hj, e])) (fun e => h.oldsep p hx hne e hj)), (h.own x hx).2⟩
  · rcases mem_aput.1 hx with rfl | ⟨hx, hxn⟩
    · rcases mem_aput.1 hy with rfl | ⟨hy, hyn⟩
      · exact absurd rfl hne
      · rcases loc j hj with e | e
        · exact h.oldsep p hy hyn e
        · intro e2; have := hlt y hy j e2; omega
    · rcases mem_aput.1 hy with rfl | ⟨hy, hyn⟩
      · intro e2
        rcases loc j e2 with e | e
        · exact h.oldsep p hx hxn e hj
        · have := hlt x hx j hj; omega
      · exact h.sep x hx y hy hne j hj
  · rcases mem_aput.1 hx with rfl | ⟨hx, _⟩
    · refine List.nodup_append.2 ⟨(h.old p).2.2, by simp, fun a ha c hc e => ?_⟩
      rw [List.mem_singleton.1 hc] at e
      exact hnew ((h.mem p k).1 (e ▸ ha))
    · exact h.nod x hx
  · rw [adj_put]
    by_cases e : q = p
    · subst e
      rw [if_pos rfl]
      simp only [List.mem_append, List.mem_singleton, h.mem, true_and]
    · rw [if_neg e, h.mem]
      simp [e]
  · rcases mem_aput.1 hx with rfl | ⟨hx, _⟩
    · exact hp
    · exact h.dom x hx
theorem ChI.small {W : World} {b n₀ : Nat} {G : Gr} {P : Key → Key → Prop} {C : Lx} (h : ChI W b n₀ G P C) (hP : ∀ p x, P p x → (aget x G).isSome = true) (p : Key) : (adj (gr C) p).length ≤ G.length := by
  have := nodup_le (U := G.map (·.1)) (h.old p).2.2 fun x hx => mem_keys.2 (hP p x ((h.mem p x).1 hx))
  rwa [List.length_map] at this
/-- What children hands back. -/
def ChPost (w : World) (G : Gr) (e : Ending) (w' : World) : Prop :=
  ∃ b C, e = .returned (.map (some b)) ∧ LAt w' b C ∧ w.heap.size ≤ b ∧ (∀ p h, h ∈ adj (gr C) p ↔ p ∈ adj G h) ∧ (∀ x ∈ C, x.2.2.length ≤ G.length) ∧ Below w.heap.size w w'
theorem adj_has {G : Gr} {p h : Key} (hp : p ∈ adj G h) : (aget h G).isSome = true := by
  unfold adj at hp
  cases hg : aget h G with
  | none => rw [hg] at hp; cases hp
  | some y => rfl
theorem ChI.done {w W : World} {b n₀ : Nat} {G : Gr} {ss : List Key} {C : Lx} (h : ChI W b n₀ G (fun p x => x ∈ ss ∧ p ∈ adj G x) C) (hs : ss.Perm (G.map (·.1))) (hb : w.heap.size ≤ b) (hB : Below w.heap.size w W) : ChPost w G (.returned (.map (some b))) W := by
  refine ⟨b, C, rfl, ⟨h.mp, fun x hx => ⟨HSeen.own (h.own x hx).1, (h.own x hx).2⟩⟩, hb, fun p x => ?_, fun x hx => ?_, hB⟩
  · rw [h.mem]
    exact ⟨fun e => e.2, fun e => ⟨hs.mem_iff.2 (mem_keys.2 (adj_has e)), e⟩⟩
  · have hg : aget x.1 C = some x.2 := aget_of_mem (kvs_asc_gr h.mp.asc) hx
    have := h.small (fun p x hx => adj_has hx.2) x.1
    unfold adj at this
    rw [gr_get, hg] at this
    exact this

theorem ranges_get {M : Kv} {k : Key} {c : Value} {y : DataW Value × List MemPlace} (hv : rdv c = some y) (hat : ∀ zd, (mapV M).atKey (.string k) zd = y.1) (hk : k ∈ M.map (·.1)) : aget k M = some c := by
  have h1 := hat (.held (.slice none 0 0))
  rw [mapV_at] at h1
  have h2 : y = (.held c, []) := (Option.some.inj hv).symm
  rw [h2] at h1
  simp only [DataW.held.injEq] at h1
  cases hg : aget k M with
  | none =>
    have := aget_isSome (n := k) (M := M)
    rw [hg, decide_eq_true hk] at this
    cases this
  | some v => rw [hg] at h1; exact congrArg some h1
theorem ranges_keep {w w' : World} {b r n : Nat} {D : DataW Value} {left : Lit → Bool} {cnt : Nat} (h : w.ranges Try.prog 28 rdv b r n D left cnt) (hb : w'.heap[b]? = w.heap[b]?) (hr : w'.heap[r]? = w.heap[r]?) : w'.ranges Try.prog 28 rdv b r n D left cnt := by
  obtain ⟨es, clock, since, seen, c0, h1, F, hs, hD, h2, rest⟩ := h
  exact ⟨es, clock, since, seen, c0, hb.trans h1, F, hs, hD, hr.trans h2, rest⟩
theorem ent_fits {m : Nat} (h : m ≤ 1000) : m + 1 ≤ 4398046511104 ∧ m < maxLen := by unfold maxLen; omega
theorem stop_ch {G : Gr} {ss : List Key} {k : Key} {E : List Key} (hk : adj G k = E) (hs : k ∉ ss) (p x : Key) : ((x ∈ ss ∧ p ∈ adj G x) ∨ (x = k ∧ p ∈ E)) ↔ (x ∈ ss ++ [k] ∧ p ∈ adj G x) := by
  simp only [List.mem_append, List.mem_singleton]
  constructor
  · rintro (⟨h1, h2⟩ | ⟨rfl, h2⟩)
    · exact ⟨.inl h1, h2⟩
    · exact ⟨.inr rfl, by rw [hk]; exact h2⟩
  · rintro ⟨h1 | rfl, h2⟩
    · exact .inl ⟨h1, h2⟩
    · exact .inr ⟨rfl, by rw [hk] at h2; exact h2⟩
end Go.Proofs.Ythfkmfepeafgjaa
