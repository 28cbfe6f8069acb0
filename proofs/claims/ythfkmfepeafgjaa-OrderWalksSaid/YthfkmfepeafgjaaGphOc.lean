/- Rows of commits, read and owned: cut, put behind one another. Conditions: hashes of 32 bytes; no more than a million commits. -/
import Derived.Test.YthfkmfepeafgjaaHndU
import Derived.Deep.Slices
namespace Go.Proofs.Ythfkmfepeafgjaa
open Go.RowKit
open Go.Maps
open Go.Deep (choose_lt)

abbrev cfT (T : Lx) : List Value := cf (kvs T)
theorem cfT_app (S T : Lx) : cfT (S ++ T) = cfT S ++ cfT T := by unfold cfT kvs amap; rw [List.map_append, cf_app]
def T32 (T : Lx) : Prop := ∀ x ∈ T, x.1.length = 32
theorem T32.kv {T : Lx} (h : T32 T) : ∀ c ∈ kvs T, c.1.length = 32 := fun c hc => by
  obtain ⟨x, hx, rfl⟩ := List.mem_map.1 hc
  exact h x hx
theorem cfT_len {T : Lx} (h : T32 T) : (cfT T).length = T.length * 33 := by rw [cfT, cf_length h.kv, kvs_len]
theorem T32.sub {S T : Lx} (h : T32 T) (hs : ∀ x ∈ S, x ∈ T) : T32 S := fun x hx => h x (hs x hx)
/-- The commits T lie at v. -/
structure TS (W : World) (v : Value) (T : Lx) : Prop where
  row : (v = .slice none 0 0 ∧ T = []) ∨ ∃ b o cap, v = .slice (some ⟨b, o, none⟩) T.length cap ∧ T.length ≤ cap ∧ ∀ j u, (cfT T)[j]? = some u → W.cell? ⟨b, o + j, none⟩ = some u
  h32 : T32 T
  lit : ∀ x ∈ T, HSeen W x.2.1 x.2.2
theorem TS.mild {W W' : World} {v : Value} {T : Lx} (h : TS W v T) (m : Mild W W') : TS W' v T := by
  refine ⟨?_, h.h32, fun x hx => (h.lit x hx).mild m⟩
  rcases h.row with h1 | ⟨b, o, cap, h1, h2, h3⟩
  · exact .inl h1
  · exact .inr ⟨b, o, cap, h1, h2, fun j u hj => m.cell (h3 j u hj)⟩
theorem TS.kb {W W' : World} {v : Value} {T : Lx} (h : TS W v T) (k : Below W.heap.size W W') : TS W' v T := h.mild (mild_below k)
theorem TS.shape {W : World} {v : Value} {T : Lx} (h : TS W v T) : ∃ p n cap, v = .slice p n cap ∧ n = T.length ∧ n ≤ cap := by
  rcases h.row with ⟨h1, h2⟩ | ⟨b, o, cap, h1, h2, _⟩
  · exact ⟨none, 0, 0, h1, by rw [h2]; rfl, Nat.le_refl _⟩
  · exact ⟨_, _, cap, h1, rfl, h2⟩
theorem cfT_at {T : Lx} (h : T32 T) {i j : Nat} {x : Key × (Value × List Key)} (hx : T[i]? = some x) (hj : j < 33) : (cfT T)[i * 33 + j]? = (us (nmb x.1) ++ [x.2.1])[j]? := by
  have h1 : (kvs T)[i]? = some (x.1, x.2.1) := by unfold kvs amap; rw [List.getElem?_map, hx]; rfl
  exact cf_at h.kv h1 hj
theorem row33 {h : Key} (hh : h.length = 32) (u : Value) : (us (nmb h) ++ [u]).length = 33 := by rw [List.length_append, usn_length, hh]; rfl
theorem TS.at {W : World} {v : Value} {T : Lx} (h : TS W v T) {i : Nat} {x : Key × (Value × List Key)} (hx : T[i]? = some x) : ∃ b o cap, v = .slice (some ⟨b, o, none⟩) T.length cap ∧ W.rangeAt b (o + i * 33) (us (nmb x.1) ++ [x.2.1]) := by
  rcases h.row with ⟨_, h2⟩ | ⟨b, o, cap, h1, _, h3⟩
  · subst h2; simp at hx
  · refine ⟨b, o, cap, h1, fun j u hj => ?_⟩
    have hj33 : j < 33 := by rw [← row33 (h.h32 x (List.mem_of_getElem? hx)) x.2.1]; exact (List.getElem?_eq_some_iff.1 hj).1
    rw [Nat.add_assoc]
    exact h3 _ u (by rw [cfT_at h.h32 hx hj33]; exact hj)
theorem TS.cseen {W : World} {v : Value} {T : Lx} (h : TS W v T) : CSeen W v (gr T) := by
  obtain ⟨p, n, cap, h1, h2, _⟩ := h.shape
  refine ⟨p, cap, by rw [h1, h2, gr_len], fun i c hc => ?_⟩
  have hi := (List.getElem?_eq_some_iff.1 hc).1
  rw [gr_len] at hi
  have hx : T[i]? = some T[i] := List.getElem?_eq_getElem hi
  have hcx : c = (T[i].1, T[i].2.2) := by
    have : (gr T)[i]? = some (T[i].1, T[i].2.2) := by unfold gr amap; rw [List.getElem?_map, hx]; rfl
    rw [hc] at this; exact Option.some.inj this
  obtain ⟨b, o, cap', e, hr⟩ := h.at hx
  rw [h1] at e
  injection e with e _ _
  subst hcx
  exact ⟨b, o, T[i].2.1, e, hr, h.lit _ (List.getElem_mem hi)⟩
/-- The commits that were put together. -/
theorem TS.of {W : World} {v : Value} {cs : List Cm} (h : CSeen W v cs) (ok : COk cs) (f : CForm v cs.length) : ∃ T : Lx, gr T = cs ∧ TS W v T := by
  obtain ⟨p, cap, hv', hc⟩ := h
  rcases f with hn | ⟨b, cap', hb, hle⟩
  · rw [hv'] at hn
    injection hn with h1 h2 h3
    obtain rfl : cs = [] := List.eq_nil_of_length_eq_zero h2
    exact ⟨[], rfl, .inl ⟨by rw [hv', h1, h3]; rfl, rfl⟩, (fun _ h => by cases h), (fun _ h => by cases h)⟩
  · rw [hv'] at hb
    injection hb with h1 _ h3
    subst h1 h3
    obtain ⟨f, hf⟩ := choose_lt (n := cs.length) (α := Value) (p := fun i u => ∀ hi : i < cs.length, W.rangeAt b (i * 33) (us (nmb cs[i].1) ++ [u]) ∧ HSeen W u cs[i].2) (fun i hi => by
      obtain ⟨b', o, u, e, h4, h5⟩ := hc i _ (List.getElem?_eq_getElem hi)
      injection e with e
      injection e with e1 e2 _
      subst e1 e2
      rw [Nat.zero_add] at h4
      exact ⟨u, fun _ => ⟨h4, h5⟩⟩)
    obtain ⟨T, hT⟩ : ∃ T : Lx, T = cs.mapIdx fun i c => (c.1, (f i, c.2)) := ⟨_, rfl⟩
    have hlen : T.length = cs.length := by rw [hT, List.length_mapIdx]
    have hget : ∀ i (hi : i < cs.length), T[i]? = some (cs[i].1, (f i, cs[i].2)) := fun i hi => by
      rw [hT, List.getElem?_mapIdx, List.getElem?_eq_getElem hi]; rfl
    have hgr : gr T = cs := by
      apply List.ext_getElem?
      intro i
      unfold gr amap
      rw [List.getElem?_map]
      by_cases hi : i < cs.length
      · rw [hget i hi, List.getElem?_eq_getElem hi]; rfl
      · rw [List.getElem?_eq_none (by omega), List.getElem?_eq_none (by omega)]; rfl
    have hmem : ∀ x ∈ T, ∃ i, ∃ hi : i < cs.length, x = (cs[i].1, (f i, cs[i].2)) := fun x hx => by
      obtain ⟨i, hi, e⟩ := List.mem_iff_getElem.1 hx
      have hi' : i < cs.length := by rw [← hlen]; exact hi
      have h9 := hget i hi'
      rw [List.getElem?_eq_getElem hi, e] at h9
      exact ⟨i, hi', Option.some.inj h9⟩
    have h32 : T32 T := fun x hx => by
      obtain ⟨i, hi, rfl⟩ := hmem x hx
      exact (ok _ (List.getElem_mem hi)).1
    refine ⟨T, hgr, .inr ⟨b, 0, cap, by rw [hv', hlen], by rw [hlen]; exact hle, fun j u hj => ?_⟩, h32, fun x hx => ?_⟩
    · have hjl := (List.getElem?_eq_some_iff.1 hj).1
      rw [cfT_len h32, hlen] at hjl
      have hi : j / 33 < cs.length := by omega
      have e : j / 33 * 33 + j % 33 = j := by omega
      have h9 := cfT_at h32 (hget _ hi) (j := j % 33) (by omega)
      rw [e, hj] at h9
      have := (hf (j / 33) hi hi).1 (j % 33) u h9.symm
      rw [e] at this
      rw [Nat.zero_add]; exact this
    · obtain ⟨i, hi, rfl⟩ := hmem x hx
      exact (hf i hi hi).2
abbrev TOwn (W : World) (B : Nat) (v : Value) (T : Lx) : Prop := W.ownsRow B 49 33 v T.length (cfT T)
theorem TS.own {W : World} {B : Nat} {v : Value} {T : Lx} (h : TOwn W B v T) (h32 : T32 T) (hl : ∀ x ∈ T, HSeen W x.2.1 x.2.2) : TS W v T := by
  refine ⟨?_, h32, hl⟩
  rcases h.2 with ⟨h1, h2⟩ | ⟨g, cap, cur, rfl, _, hg, hn, _, _, hc⟩
  · exact .inl ⟨h1, List.eq_nil_of_length_eq_zero h2⟩
  · refine .inr ⟨g, 0, cap, rfl, hn, fun j u hj => ?_⟩
    rw [Nat.zero_add, cell_of_row W g j _ _ _ hg]
    have hjl := (List.getElem?_eq_some_iff.1 hj).1
    rw [cfT_len h32] at hjl
    rw [← hc, List.getElem?_take, if_pos hjl] at hj
    simpa using hj
theorem cfT_take {T : Lx} (h : T32 T) {k : Nat} (j : Nat) (hj : j < k * 33) : (cfT (T.take k))[j]? = (cfT T)[j]? := by
  by_cases hk : k ≤ T.length
  · have e : T.take k ++ T.drop k = T := List.take_append_drop k T
    have h1 : (cfT (T.take k)).length = k * 33 := by rw [cfT_len (h.sub fun x hx => List.mem_of_mem_take hx), List.length_take, Nat.min_eq_left hk]
    have h2 : cfT T = cfT (T.take k) ++ cfT (T.drop k) := by rw [← cfT_app, e]
    rw [h2, List.getElem?_append_left (by omega)]
  · rw [List.take_of_length_le (by omega)]
theorem cfT_drop {T : Lx} (h : T32 T) {k : Nat} (hk : k ≤ T.length) (j : Nat) : (cfT (T.drop k))[j]? = (cfT T)[k * 33 + j]? := by
  have e : T.take k ++ T.drop k = T := List.take_append_drop k T
  have h1 : (cfT (T.take k)).length = k * 33 := by rw [cfT_len (h.sub fun x hx => List.mem_of_mem_take hx), List.length_take, Nat.min_eq_left hk]
  have h2 : cfT T = cfT (T.take k) ++ cfT (T.drop k) := by rw [← cfT_app, e]
  rw [h2, List.getElem?_append_right (by omega), h1, Nat.add_sub_cancel_left]
theorem TS.take {W : World} {p : Option Addr} {n cap : Nat} {T : Lx} (h : TS W (.slice p n cap) T) {k : Nat} (hk : k ≤ T.length) : TS W (.slice p k cap) (T.take k) := by
  have hm : ∀ x ∈ T.take k, x ∈ T := fun x hx => List.mem_of_mem_take hx
  have hl : (T.take k).length = k := by rw [List.length_take, Nat.min_eq_left hk]
  refine ⟨?_, h.h32.sub hm, fun x hx => h.lit x (hm x hx)⟩
  rcases h.row with ⟨h1, h2⟩ | ⟨b, o, cap', h1, h2, h3⟩
  · injection h1 with e1 e2 e3
    subst e1 e3 h2
    have : k = 0 := by simpa using hk
    subst this
    exact .inl ⟨rfl, rfl⟩
  · injection h1 with e1 e2 e3
    subst e1 e3
    refine .inr ⟨b, o, cap, by rw [hl], by omega, fun j u hj => h3 j u ?_⟩
    have hjl := (List.getElem?_eq_some_iff.1 hj).1
    rw [cfT_len (h.h32.sub hm), hl] at hjl
    rw [← cfT_take h.h32 j hjl]; exact hj
theorem TS.drop {W : World} {b o : Nat} {n cap : Nat} {T : Lx} (h : TS W (.slice (some ⟨b, o, none⟩) n cap) T) {k m : Nat} (hk : k ≤ T.length) (hm' : m = T.length - k) : TS W (.slice (if cap = k then some ⟨b, o, none⟩ else some ⟨b, o + k * 33, none⟩) m (cap - k)) (T.drop k) := by
  have hm : ∀ x ∈ T.drop k, x ∈ T := fun x hx => List.mem_of_mem_drop hx
  have hl : (T.drop k).length = m := by rw [List.length_drop, hm']
  refine ⟨?_, h.h32.sub hm, fun x hx => h.lit x (hm x hx)⟩
  rcases h.row with ⟨h1, _⟩ | ⟨b', o', cap', h1, h2, h3⟩
  · cases h1
  · injection h1 with e1 e2 e3
    injection e1 with e1
    injection e1 with e4 e5 _
    subst e4 e5 e3
    by_cases hc : cap = k
    · rw [if_pos hc]
      refine .inr ⟨b, o, cap - k, by rw [hl], by omega, fun j u hj => ?_⟩
      have hjl := (List.getElem?_eq_some_iff.1 hj).1
      rw [cfT_len (h.h32.sub hm), hl] at hjl
      omega
    · rw [if_neg hc]
      refine .inr ⟨b, o + k * 33, cap - k, by rw [hl], by omega, fun j u hj => ?_⟩
      rw [cfT_drop h.h32 hk] at hj
      rw [Nat.add_assoc]
      exact h3 _ u hj
/-- What append does with commits of the call's own and some that are read. -/
theorem run_push_comms (w : World) (ty : TypeId) (B : Nat) (v u : Value) (S T : Lx) (hown : TOwn w B v S) (hu : TS w u T) (hs : S.length + T.length ≤ 1000000) (hB : B ≤ w.heap.size) :
    ∃ v' w', (Builtin.append_ #[46, 46] ty #[v, u]).run Try.prog w = .ok v' w' ∧ TOwn w' B v' (S ++ T) ∧ Only (fun j => v.ownBlock = some j) w w' ∧ ∀ j, v'.ownBlock = some j → v.ownBlock = some j ∨ w.heap.size ≤ j := by
  obtain ⟨i0, hi0, hz0, hz1, hz2⟩ := info_parts czinfo
  have hf : S.length + T.length ≤ maxLen ∧ (S.length + T.length) * 56 ≤ 140737488355328 := by unfold maxLen; omega
  rcases hu.row with ⟨rfl, rfl⟩ | ⟨b, o, cap, rfl, hc, hcell⟩
  · have hr := run_append_nil_h (w := w) B 46 ty 49 i0 33 Try.underlying46 hi0 v _ _ hown
    exact ⟨v, w, hr, by simpa using hown, Only.refl _ _, fun _ h => .inl h⟩
  · have h1 : ∀ u ∈ cfT T, u.oneCell' = true := fun u hu' => by
      obtain ⟨c, hcm, hu2⟩ := List.mem_flatMap.1 hu'
      obtain ⟨x, hx, rfl⟩ := List.mem_map.1 hcm
      rcases List.mem_append.1 hu2 with h3 | h3
      · have := hv_one x.1
        rw [← hv_list] at h3
        exact Array.all_eq_true_iff_forall_mem.1 this u (Array.mem_toList_iff.1 h3)
      · rw [List.mem_singleton.1 h3]; exact (hu.lit x hx).one
    obtain ⟨v', w', hr, h2, h3, h4, h5⟩ := run_append_own_at (P := Try.prog) (w := w) B 46 ty 49 i0 _ 33 56 Try.underlying46 hi0 hz0 hz1 hz2 rfl (by decide) v S.length (cfT S) hown ⟨b, o, none⟩ T.length cap (cfT T) (cfT_len hu.h32) (fun j u hj => by rw [Addr.add_lit]; exact hcell j u hj) h1 hf.1 hf.2 hB
    refine ⟨v', w', hr, ?_, (Only.refl _ w).grown h3 (fun k _ e => e), fun j hj => ?_⟩
    · unfold TOwn
      rw [List.length_append, cfT_app]
      exact h2
    · rcases h5 with h5 | h5
      · rw [h5] at hj; exact .inl hj
      · rw [h5] at hj
        injection hj with hj
        exact .inr (by omega)
section
variable {ops : Array Oper} {rest : List Oper} {a : Act} {Q : Exit → Act → World → Prop} {o : Oper} {w : World} {K : Act → World → Prop} {X : Prop}
theorem step_comms (hgd : o.guard = none) (s x : Operand) (ho : o.op = .call { callee := .builtin .append, args := #[s, x], argTypes := #[46, 46] })
    (B : Nat) (v u : Value) (S T : Lx) (hs : a.eval s = v) (hown : TOwn w B v S) (hx : a.eval x = u) (hu : TS w u T) (hl : S.length + T.length ≤ 1000000) (hB : B ≤ w.heap.size)
    (h : ∀ v' w', TOwn w' B v' (S ++ T) → Only (fun j => v.ownBlock = some j) w w' → (∀ j, v'.ownBlock = some j → v.ownBlock = some j ∨ w.heap.size ≤ j) → K (a.put o.dst v') w') :
    if Region.wanted o (yielded ops a.tmps) = true then Oper.wp Try.prog o a w K Q else X := by
  have hw : Region.wanted o (yielded ops a.tmps) = true := by simp [Region.wanted, hgd]
  rw [if_pos hw]
  obtain ⟨v', w', hr, h1, h2, h3⟩ := run_push_comms w o.type B v u S T hown hu hl hB
  unfold Oper.wp execOp
  simp only [ho, resolve, invoke, builtin, Sem.run_bind, Sem.run_pure, Result.andThen_ok, List.map_toArray, List.map_cons, List.map_nil, hs, hx, hr]
  exact h v' w' h1 h2 h3
theorem push_comms (hgd : o.guard = none) (s x : Operand) (ho : o.op = .call { callee := .builtin .append, args := #[s, x], argTypes := #[46, 46] })
    (B : Nat) (v u : Value) (S T : Lx) (hs : a.eval s = v) (hown : TOwn w B v S) (hx : a.eval x = u) (hu : TS w u T) (hl : S.length + T.length ≤ 1000000) (hB : B ≤ w.heap.size)
    (h : ∀ v' w', TOwn w' B v' (S ++ T) → Only (fun j => v.ownBlock = some j) w w' → (∀ j, v'.ownBlock = some j → v.ownBlock = some j ∨ w.heap.size ≤ j) → wpList Try.prog ops Q rest (a.put o.dst v') w') :
    wpList Try.prog ops Q (o :: rest) a w := by
  refine wpList_plain hgd fun K hK => ?_
  have h9 := step_comms (K := K) (Q := Q) (X := True) (ops := ops) hgd s x ho B v u S T hs hown hx hu hl hB (fun v' w' a1 a2 a3 => hK _ _ (h v' w' a1 a2 a3))
  rwa [if_pos (by simp [Region.wanted, hgd])] at h9
theorem cinfo0 : (Try.prog.info? 49).map (fun i => i.size) = some 33 := by kernel_rfl
/-- An empty slice of commits is made. -/
theorem step_empty_c (hgd : o.guard = none) (ho : o.op = .buildSlice 46 0 #[]) (h : K (a.put o.dst (.slice (some ⟨w.heap.size, 0, none⟩) 0 0)) (w.alloc (.cells #[] 49))) : if Region.wanted o (yielded ops a.tmps) = true then Oper.wp Try.prog o a w K Q else X := by
  obtain ⟨i0, hi0, hz0, hz1, hz2⟩ := info_parts czinfo
  exact step_build_empty hgd ho Try.underlying46 hi0 h
theorem push_empty_c (hgd : o.guard = none) (ho : o.op = .buildSlice 46 0 #[]) (h : wpList Try.prog ops Q rest (a.put o.dst (.slice (some ⟨w.heap.size, 0, none⟩) 0 0)) (w.alloc (.cells #[] 49))) : wpList Try.prog ops Q (o :: rest) a w := by
  refine wpList_plain hgd fun K hK => ?_
  have h9 := step_empty_c (K := K) (Q := Q) (X := True) (ops := ops) hgd ho (hK _ _ h)
  rwa [if_pos (by simp [Region.wanted, hgd])] at h9
end
theorem TS.one {W : World} {b : Nat} {x : Key × (Value × List Key)} (hb : W.heap[b]? = some (.cells (cf [(x.1, x.2.1)]).toArray 49 (0, 0))) (hx : x.1.length = 32) (hl : HSeen W x.2.1 x.2.2) : TS W (.slice (some ⟨b, 0, none⟩) 1 1) [x] :=
  ⟨.inr ⟨b, 0, 1, rfl, Nat.le_refl _, fun j u hj => by rw [Nat.zero_add, cell_of_row W b j _ _ _ hb, List.getElem?_toArray]; exact hj⟩, fun y hy => by rw [List.mem_singleton.1 hy]; exact hx, fun y hy => by rw [List.mem_singleton.1 hy]; exact hl⟩
theorem own_shc {W : World} {B : Nat} {v : Value} {T : Lx} (h : TOwn W B v T) : ∃ p n c, v = .slice p n c ∧ n = T.length := by
  rcases h.2 with ⟨h1, h2⟩ | ⟨g, cap, cur, h1, _⟩
  · exact ⟨none, 0, 0, h1, h2.symm⟩
  · exact ⟨_, _, _, h1, rfl⟩
end Go.Proofs.Ythfkmfepeafgjaa
