/- The example of chapter 11. Condition: errors.errorType holds what its text lays. · GraphKnown's walk. Condition: errors.errorType holds what its text lays. -/
import Derived.Test.YthfkmfepeafgjaaGphB
namespace Go.Proofs.Ythfkmfepeafgjaa
open Go.RowKit Go.Extern.Stop Go.Stop Go.Extern
open Go.Maps

/-- A hash by its first byte. -/
def kn (n : UInt8) : Key := [n, 0, 0, 0, 0, 0, 0, 0, 0, 0, 0, 0, 0, 0, 0, 0, 0, 0, 0, 0, 0, 0, 0, 0, 0, 0, 0, 0, 0, 0, 0, 0]
theorem kn_built (n : UInt8) : Try.prog.built 28 [(0, .int .u8 (n.toNat : Int))] = some (hv (kn n)) := by kernel_rfl
theorem below_al11 (w : World) (o : Obj) : Below w.heap.size w (w.alloc o) := (Below.refl _ _).alloc (Nat.le_refl _) _
/-- A literal of one commit with parents. -/
theorem lit_par (w : World) (h : Key) (hh : h.length = 32) (E : List Key) (n : Nat) (hn : n = E.length) :
    CSeen ((w.alloc (.cells (fl E).toArray 28)).alloc (.cells (cf [(h, .slice (some ⟨w.heap.size, 0, none⟩) n n)]).toArray 49)) (.slice (some ⟨w.heap.size + 1, 0, none⟩) 1 1) [(h, E)] ∧
      Below w.heap.size w ((w.alloc (.cells (fl E).toArray 28)).alloc (.cells (cf [(h, .slice (some ⟨w.heap.size, 0, none⟩) n n)]).toArray 49)) := by
  have hs1 : (w.alloc (.cells (fl E).toArray 28)).heap.size = w.heap.size + 1 := by simp
  have b1 := below_al11 w (.cells (fl E).toArray 28)
  have b2 := below_al11 (w.alloc (.cells (fl E).toArray 28)) (.cells (cf [(h, .slice (some ⟨w.heap.size, 0, none⟩) n n)]).toArray 49)
  have h2 := heap_alloc_last (w.alloc (.cells (fl E).toArray 28)) (.cells (cf [(h, .slice (some ⟨w.heap.size, 0, none⟩) n n)]).toArray 49)
  rw [hs1] at h2
  refine ⟨cseen_new h2 (by simpa using hh) rfl (fun i c d hc hd => ?_) 1 rfl, b1.trans (b2.mono b1.size)⟩
  match i, hc, hd with
  | 0, hc, hd =>
    simp only [List.getElem?_cons_zero, Option.some.injEq] at hc hd
    subst hc hd
    exact ⟨rfl, (hseen_new (heap_alloc_last w _) n hn).mild (mild_below b2)⟩
  | i + 1, hc, _ => simp at hc
/-- A literal of one commit without parents. -/
theorem lit_one (w : World) (h : Key) (hh : h.length = 32) :
    CSeen (w.alloc (.cells (cf [(h, .slice none 0 0)]).toArray 49)) (.slice (some ⟨w.heap.size, 0, none⟩) 1 1) [(h, [])] ∧ Below w.heap.size w (w.alloc (.cells (cf [(h, .slice none 0 0)]).toArray 49)) := by
  refine ⟨cseen_new (heap_alloc_last w _) (by simpa using hh) rfl (fun i c d hc hd => ?_) 1 rfl, below_al11 _ _⟩
  match i, hc, hd with
  | 0, hc, hd =>
    simp only [List.getElem?_cons_zero, Option.some.injEq] at hc hd
    subst hc hd
    exact ⟨rfl, .inl ⟨rfl, rfl⟩⟩
  | i + 1, hc, _ => simp at hc
/-- What the example is. -/
structure Kx11 (a b : Key) : Prop where
  la : a.length = 32
  lb : b.length = 32
  ba : Try.prog.built 28 [(0, .int .u8 1)] = some (hv a)
  bb : Try.prog.built 28 [(0, .int .u8 2)] = some (hv b)
  f1 : chk [] 2 [(a, [b])] [] = some (10, some b)
  f2 : chk [] 2 [(a, [])] [] = none
  g2 : adds [] [(a, [])] = [(a, [])]
theorem kx11 : Kx11 (kn 1) (kn 2) := by
  refine ⟨rfl, rfl, kn_built 1, kn_built 2, ?_, ?_, by decide⟩
  · unfold chk
    rw [if_pos (by decide), show ck2 [(kn 1, [kn 2])] = none by decide, show ck3 [] [] [(kn 1, [kn 2])] = none by decide, show ck4 [] (addA [] [] [(kn 1, [kn 2])]) [(kn 1, [kn 2])] = some (10, some (kn 2)) by decide]
    rfl
  · refine chk_fine.2 ⟨by decide, by decide, by decide, by decide, by decide, ?_, by decide⟩
    rw [ck6, if_neg (by rintro ⟨p, hp, _⟩; cases hp)]
    rfl
theorem cok1 {a b : Key} (la : a.length = 32) (lb : b.length = 32) : COk [(a, [b])] := fun c hc => by rw [List.mem_singleton.1 hc]; exact ⟨la, H32.one lb⟩
theorem cok0 {a : Key} (la : a.length = 32) : COk [(a, [])] := fun c hc => by rw [List.mem_singleton.1 hc]; exact ⟨la, H32.nil⟩
end Go.Proofs.Ythfkmfepeafgjaa
namespace Go.Proofs.Ythfkmfepeafgjaa
open Go.RowKit Go.Extern.Stop Go.Stop Go.Extern
open Go.Maps

theorem bal {w W : World} (h : Below w.heap.size w W) (o : Obj) : Below w.heap.size w (W.alloc o) := h.alloc h.size _
/-- What the closed sentence says of its hashes. -/
structure Kz (a b c d4 d5 d6 d7 d8 d9 : Key) : Prop where
  la : a.length = 32
  lb : b.length = 32
  lc : c.length = 32
  l4 : H32 [d4, d5, d6, d7, d8]
  l9 : d9.length = 32
  b1 : Try.prog.built 28 [(0, .int .u8 1)] = some (hv a)
  b2 : Try.prog.built 28 [(0, .int .u8 2)] = some (hv b)
  b3 : Try.prog.built 28 [(0, .int .u8 3)] = some (hv c)
  b4 : Try.prog.built 28 [(0, .int .u8 4)] = some (hv d4)
  b5 : Try.prog.built 28 [(0, .int .u8 5)] = some (hv d5)
  b6 : Try.prog.built 28 [(0, .int .u8 6)] = some (hv d6)
  b7 : Try.prog.built 28 [(0, .int .u8 7)] = some (hv d7)
  b8 : Try.prog.built 28 [(0, .int .u8 8)] = some (hv d8)
  b9 : Try.prog.built 28 [(0, .int .u8 9)] = some (hv d9)
  fe : chk [] 0 [] [] = some (1, none)
  ff : chk [] 2 [(a, [d4, d5, d6, d7, d8])] [] = some (8, some a)
  fh : chk [] 2 [(a, [b, b])] [] = some (1, some a)
  fi : chk [] 2 [(b, [a]), (a, []), (b, [a])] [] = none
  gi : adds [] [(b, [a]), (a, []), (b, [a])] = [(a, []), (b, [a])]
  fj : chk [(a, []), (b, [a])] 2 [(b, [])] [] = some (9, some b)
  fk : chk [(a, []), (b, [a])] 1 [] [a, c] = some (11, some c)
  fl : chk [(a, []), (b, [a])] 2 [(c, [d9]), (d9, [c])] [] = some (12, some c)
  fm : rm1 [a] [(a, []), (b, [a])] = some (10, some b)
  fn : rm1 [b, c] [(a, []), (b, [a])] = none
  okI : COk [(b, [a]), (a, []), (b, [a])]
  okL : COk [(c, [d9]), (d9, [c])]
  gn : rmv [b, c] [(a, []), (b, [a])] = [(a, [])]
  fa : (ancs [(a, []), (b, [a])] [b]).length = 2
  fd : (descs [(a, []), (b, [a])] [a]).length = 2
  fp : aget b [(a, []), (b, [a])] = some [a]
theorem kz_le : chk [] 0 [] [] = some (1, none) := by unfold chk; rw [if_neg (by decide)]
theorem kz_ff : chk [] 2 [(kn 1, [kn 4, kn 5, kn 6, kn 7, kn 8])] [] = some (8, some (kn 1)) := by
  unfold chk; rw [if_pos (by decide), show ck2 [(kn 1, [kn 4, kn 5, kn 6, kn 7, kn 8])] = some (8, some (kn 1)) by decide]; rfl
theorem kz_fh : chk [] 2 [(kn 1, [kn 2, kn 2])] [] = some (1, some (kn 1)) := by
  unfold chk; rw [if_pos (by decide), show ck2 [(kn 1, [kn 2, kn 2])] = some (1, some (kn 1)) by decide]; rfl
theorem no_up {f : Key → List Key} {a b : Key} (h : f a = []) (hne : a ≠ b) : ¬ Up f a b := fun k => by
  cases k with
  | refl => exact hne rfl
  | step h1 _ => rw [h] at h1; cases h1
theorem kz_fi : chk [] 2 [(kn 2, [kn 1]), (kn 1, []), (kn 2, [kn 1])] [] = none := by
  refine chk_fine.2 ⟨by decide, by decide, by decide, by decide, by decide, ?_, by decide⟩
  have hn : ¬ ∃ p ∈ [kn 1], Up (adj (addA [] [] [(kn 2, [kn 1]), (kn 1, []), (kn 2, [kn 1])])) p (kn 2) := fun ⟨p, hp, h⟩ => by
    rw [List.mem_singleton.1 hp] at h
    exact no_up (by decide) (by decide) h
  rw [ck6, if_neg hn, ck6, if_neg (fun ⟨p, hp, _⟩ => by cases hp), ck6, if_neg hn]
  rfl
theorem kz_fj : chk [(kn 1, []), (kn 2, [kn 1])] 2 [(kn 2, [])] [] = some (9, some (kn 2)) := by
  unfold chk; rw [if_pos (by decide), show ck2 [(kn 2, [])] = none by decide, show ck3 [(kn 1, []), (kn 2, [kn 1])] [] [(kn 2, [])] = some (9, some (kn 2)) by decide]; rfl
theorem kz_fk : chk [(kn 1, []), (kn 2, [kn 1])] 1 [] [kn 1, kn 3] = some (11, some (kn 3)) := by
  unfold chk
  rw [if_pos (by decide), show ck2 [] = none by decide, show ck3 [(kn 1, []), (kn 2, [kn 1])] [] [] = none by decide, show ck4 [(kn 1, []), (kn 2, [kn 1])] (addA [(kn 1, []), (kn 2, [kn 1])] [] []) [] = none by decide,
    show ck5 [(kn 1, []), (kn 2, [kn 1])] (addA [(kn 1, []), (kn 2, [kn 1])] [] []) [kn 1, kn 3] = some (11, some (kn 3)) by decide]; rfl
theorem kz_fl : chk [(kn 1, []), (kn 2, [kn 1])] 2 [(kn 3, [kn 9]), (kn 9, [kn 3])] [] = some (12, some (kn 3)) := by
  unfold chk
  have h6 : ck6 (addA [(kn 1, []), (kn 2, [kn 1])] [] [(kn 3, [kn 9]), (kn 9, [kn 3])]) [(kn 3, [kn 9]), (kn 9, [kn 3])] = some (12, some (kn 3)) := by
    rw [ck6, if_pos ⟨kn 9, List.mem_singleton.2 rfl, Up.one (by decide)⟩]
  rw [if_pos (by decide), show ck2 [(kn 3, [kn 9]), (kn 9, [kn 3])] = none by decide, show ck3 [(kn 1, []), (kn 2, [kn 1])] [] [(kn 3, [kn 9]), (kn 9, [kn 3])] = none by decide,
    show ck4 [(kn 1, []), (kn 2, [kn 1])] (addA [(kn 1, []), (kn 2, [kn 1])] [] [(kn 3, [kn 9]), (kn 9, [kn 3])]) [(kn 3, [kn 9]), (kn 9, [kn 3])] = none by decide,
    show ck5 [(kn 1, []), (kn 2, [kn 1])] (addA [(kn 1, []), (kn 2, [kn 1])] [] [(kn 3, [kn 9]), (kn 9, [kn 3])]) [] = none by decide, h6]; rfl
theorem kz_clo : Clo [(kn 1, []), (kn 2, [kn 1])] := fun h p hp => by
  obtain ⟨ps, e1, e2⟩ := adj_some hp
  have := aget_mem e1
  simp only [List.mem_cons, Prod.mk.injEq, List.not_mem_nil, or_false] at this
  rcases this with ⟨_, rfl⟩ | ⟨_, rfl⟩
  · cases e2
  · rw [List.mem_singleton.1 e2]; decide
theorem kz_fa : (ancs [(kn 1, []), (kn 2, [kn 1])] [kn 2]).length = 2 := by
  have h : ancs [(kn 1, []), (kn 2, [kn 1])] [kn 2] = [kn 1, kn 2] := asc_ext _ _ (ancs_asc (by unfold AAsc; decide) _) (by unfold Asc; decide) fun x => by
    rw [ancs_mem kz_clo]
    constructor
    · rintro ⟨y, hy, _, hu⟩
      rw [List.mem_singleton.1 hy] at hu
      have := up_has kz_clo hu (by decide)
      rw [aget_isSome] at this
      exact of_decide_eq_true this
    · intro hx
      simp only [List.mem_cons, List.not_mem_nil, or_false] at hx
      rcases hx with rfl | rfl
      · exact ⟨kn 2, by simp, by decide, Up.one (by decide)⟩
      · exact ⟨kn 2, by simp, by decide, .refl _⟩
  rw [h]; rfl
theorem kz_fd : (descs [(kn 1, []), (kn 2, [kn 1])] [kn 1]).length = 2 := by
  have h : descs [(kn 1, []), (kn 2, [kn 1])] [kn 1] = [kn 1, kn 2] := asc_ext _ _ (descs_asc (by unfold AAsc; decide) _) (by unfold Asc; decide) fun x => by
    rw [descs_mem]
    constructor
    · intro hd
      have := dsc_has hd
      rw [aget_isSome] at this
      exact of_decide_eq_true this
    · intro hx
      simp only [List.mem_cons, List.not_mem_nil, or_false] at hx
      rcases hx with rfl | rfl
      · exact ⟨kn 1, by simp, by decide, .refl _⟩
      · exact ⟨kn 1, by simp, by decide, Up.one (by decide)⟩
  rw [h]; rfl
theorem kz_h : H32 [kn 4, kn 5, kn 6, kn 7, kn 8] := fun h hh => by
  simp only [List.mem_cons, List.not_mem_nil, or_false] at hh; rcases hh with rfl | rfl | rfl | rfl | rfl <;> rfl
theorem kz_okI : COk [(kn 2, [kn 1]), (kn 1, []), (kn 2, [kn 1])] := fun c hc => by
  simp only [List.mem_cons, List.not_mem_nil, or_false] at hc; rcases hc with rfl | rfl | rfl; 
  · exact ⟨rfl, H32.one rfl⟩
  · exact ⟨rfl, H32.nil⟩
  · exact ⟨rfl, H32.one rfl⟩
theorem kz_okL : COk [(kn 3, [kn 9]), (kn 9, [kn 3])] := fun c hc => by
  simp only [List.mem_cons, List.not_mem_nil, or_false] at hc; rcases hc with rfl | rfl <;> exact ⟨rfl, H32.one rfl⟩
theorem kz : Kz (kn 1) (kn 2) (kn 3) (kn 4) (kn 5) (kn 6) (kn 7) (kn 8) (kn 9) :=
  ⟨rfl, rfl, rfl, kz_h, rfl, kn_built 1, kn_built 2, kn_built 3, kn_built 4, kn_built 5, kn_built 6, kn_built 7, kn_built 8, kn_built 9, kz_le, kz_ff, kz_fh, kz_fi, by decide, kz_fj, kz_fk, kz_fl, by decide, by decide, kz_okI, kz_okL, by decide, kz_fa, kz_fd, by decide⟩

/-- Where the known sentence stands: the hashes of the caller's own, the graph, the errors. -/
structure Ks (w W : World) (H : List (Nat × Key)) (g bm : Nat) (X : Lx) (L : List (Value × Rf)) : Prop where
  bel : Below w.heap.size w W
  own : ∀ p ∈ H, W.heap[p.1]? = some (.cells (hv p.2) 28 (0, 0)) ∧ p.2.length = 32
  ga : GA W g bm X
  lo : w.heap.size ≤ bm
  err : ∀ p ∈ L, ErrW W p.1 p.2
theorem ErrW.mild {w w' : World} {v : Value} : ∀ {r : Rf}, ErrW w v r → Mild w w' → ErrW w' v r
  | none, h, _ => h
  | some (_, none), h, _ => h
  | some (_, some _), h, b => by
    obtain ⟨h1, p, h2, h3⟩ := h
    exact ⟨h1, p, h2, b.cells h3.1, h3.2⟩
theorem Ks.kb {w W W' : World} {H : List (Nat × Key)} {g bm : Nat} {X : Lx} {L : List (Value × Rf)} (h : Ks w W H g bm X L) (k : Below W.heap.size W W') : Ks w W' H g bm X L :=
  ⟨h.bel.trans (k.mono h.bel.size), fun p hp => ⟨(mild_below k).cells (h.own p hp).1, (h.own p hp).2⟩, h.ga.kb k, h.lo, fun p hp => (h.err p hp).mild (mild_below k)⟩
theorem Ks.turn {w W W' : World} {H : List (Nat × Key)} {g bm : Nat} {X X' : Lx} {L : List (Value × Rf)} (h : Ks w W H g bm X L) (ho : Only (fun j => j = bm) W W') (hg : GA W' g bm X') : Ks w W' H g bm X' L :=
  have m := mild_map h.ga.at_.mp ho
  ⟨h.bel.trans (ho.below h.bel.size fun k hk => by rw [hk]; exact h.lo), fun p hp => ⟨m.cells (h.own p hp).1, (h.own p hp).2⟩, hg, h.lo, fun p hp => (h.err p hp).mild m⟩
theorem Ks.add {w W : World} {H : List (Nat × Key)} {g bm : Nat} {X : Lx} {L : List (Value × Rf)} (h : Ks w W H g bm X L) {x : Value} {r : Rf} (e : ErrW W x r) : Ks w W H g bm X ((x, r) :: L) :=
  ⟨h.bel, h.own, h.ga, h.lo, fun p hp => by exact (List.mem_cons.1 hp).elim (fun q => by rw [q]; exact e) (h.err p)⟩
theorem Ks.hash {w W : World} {H : List (Nat × Key)} {g bm : Nat} {X : Lx} {L : List (Value × Rf)} (h : Ks w W H g bm X L) {b : Nat} {k : Key} (hk : k.length = 32) (hb : W.heap[b]? = some (.cells (hv k) 28 (0, 0))) : Ks w W ((b, k) :: H) g bm X L :=
  ⟨h.bel, fun p hp => (List.mem_cons.1 hp).elim (fun q => by rw [q]; exact ⟨hb, hk⟩) (h.own p), h.ga, h.lo, h.err⟩
theorem Ks.ld {w W : World} {H : List (Nat × Key)} {g bm : Nat} {X : Lx} {L : List (Value × Rf)} (h : Ks w W H g bm X L) (b : Nat) (k : Key) (hm : (b, k) ∈ H) : (hld ⟨b, 0, none⟩).run Try.prog W = .ok (.agg (hv k)) W :=
  hld_row (h.own _ hm).2 (h.own _ hm).1
/-- A call that adds and is refused, or not. -/
theorem Ks.added {w W W' : World} {H : List (Nat × Key)} {g bm : Nat} {X : Lx} {L : List (Value × Rf)} {cs : List Cm} {e : Ending} (h : Ks w W H g bm X L) (p : AddPost W g bm X cs e W') :
    ∃ x X', e = .returned x ∧ Ks w W' H g bm X' ((x, chk (gr X) 2 cs []) :: L) ∧ ((chk (gr X) 2 cs []).isSome = true → X' = X) ∧ (chk (gr X) 2 cs [] = none → gr X' = adds (gr X) cs) := by
  obtain ⟨x, rfl, ex, o, h1⟩ := p
  rcases h1 with ⟨h1, b⟩ | ⟨X', h1, g', hX⟩
  · exact ⟨x, X, rfl, (h.kb b).add ex, fun _ => rfl, fun h2 => absurd h1 (by rw [h2]; simp)⟩
  · exact ⟨x, X', rfl, (h.turn o g').add ex, fun h2 => absurd h2 (by rw [h1]; simp), fun _ => hX⟩
theorem Ks.removed {w W W' : World} {H : List (Nat × Key)} {g bm : Nat} {X : Lx} {L : List (Value × Rf)} {E : List Key} {e : Ending} (h : Ks w W H g bm X L) (p : RemPost W g bm X E e W') :
    ∃ x X', e = .returned x ∧ Ks w W' H g bm X' ((x, rm1 E (gr X)) :: L) ∧ ((rm1 E (gr X)).isSome = true → X' = X) ∧ (rm1 E (gr X) = none → gr X' = rmv E (gr X)) := by
  obtain ⟨x, rfl, ex, o, h1⟩ := p
  rcases h1 with ⟨h1, b⟩ | ⟨X', h1, g', hX⟩
  · exact ⟨x, X, rfl, (h.kb b).add ex, fun _ => rfl, fun h2 => absurd h1 (by rw [h2]; simp)⟩
  · exact ⟨x, X', rfl, (h.turn o g').add ex, fun h2 => absurd h2 (by rw [h1]; simp), fun _ => hX⟩
theorem Ks.refused {w W W' : World} {H : List (Nat × Key)} {g bm : Nat} {X : Lx} {L : List (Value × Rf)} {cs : List Cm} {e : Ending} {r : Int × Option Key} (h : Ks w W H g bm X L) (hr : chk (gr X) 2 cs [] = some r) (p : AddPost W g bm X cs e W') :
    ∃ x, e = .returned x ∧ Ks w W' H g bm X ((x, some r) :: L) := by
  obtain ⟨x, X', rfl, h1, h2, _⟩ := h.added p
  obtain rfl := h2 (by rw [hr]; rfl)
  rw [hr] at h1
  exact ⟨x, rfl, h1⟩
theorem Ks.taken {w W W' : World} {H : List (Nat × Key)} {g bm : Nat} {X : Lx} {L : List (Value × Rf)} {cs : List Cm} {e : Ending} (h : Ks w W H g bm X L) (hr : chk (gr X) 2 cs [] = none) (p : AddPost W g bm X cs e W') :
    ∃ X', e = .returned .nilIface ∧ Ks w W' H g bm X' L ∧ gr X' = adds (gr X) cs := by
  obtain ⟨x, X', rfl, h1, _, h2⟩ := h.added p
  have ex := h1.err _ (List.mem_cons_self)
  rw [hr] at ex
  obtain rfl : x = .nilIface := ex
  exact ⟨X', rfl, ⟨h1.bel, h1.own, h1.ga, h1.lo, fun p hp => h1.err p (List.mem_cons_of_mem _ hp)⟩, h2 hr⟩
theorem Ks.norem {w W W' : World} {H : List (Nat × Key)} {g bm : Nat} {X : Lx} {L : List (Value × Rf)} {E : List Key} {e : Ending} {r : Int × Option Key} (h : Ks w W H g bm X L) (hr : rm1 E (gr X) = some r) (p : RemPost W g bm X E e W') :
    ∃ x, e = .returned x ∧ Ks w W' H g bm X ((x, some r) :: L) := by
  obtain ⟨x, X', rfl, h1, h2, _⟩ := h.removed p
  obtain rfl := h2 (by rw [hr]; rfl)
  rw [hr] at h1
  exact ⟨x, rfl, h1⟩
/-- What was taken away, and the other graph beside it. -/
theorem Ks.gone {w W W' : World} {H : List (Nat × Key)} {g bm g' bm' : Nat} {X X' : Lx} {L : List (Value × Rf)} {E : List Key} {e : Ending} (h : Ks w W H g bm X L) (h' : Ks w W H g' bm' X' L) (hne : bm ≠ bm') (hr : rm1 E (gr X') = none) (p : RemPost W g' bm' X' E e W') :
    ∃ X2, e = .returned .nilIface ∧ Ks w W' H g bm X L ∧ Ks w W' H g' bm' X2 L ∧ gr X2 = rmv E (gr X') := by
  obtain ⟨x, rfl, ex, o, h1⟩ := id p
  obtain ⟨x1, X2, hx, h1, _, h2⟩ := h'.removed p
  rw [hr] at ex
  obtain rfl : x = .nilIface := ex
  have m := mild_map h'.ga.at_.mp o
  exact ⟨X2, rfl, ⟨h1.bel, h1.own, h.ga.only o m hne, h.lo, fun p hp => h1.err p (List.mem_cons_of_mem _ hp)⟩, ⟨h1.bel, h1.own, h1.ga, h1.lo, fun p hp => h1.err p (List.mem_cons_of_mem _ hp)⟩, h2 hr⟩
theorem h32_two {a b : Key} (ha : a.length = 32) (hb : b.length = 32) : H32 [a, b] := fun x hx => by
  simp only [List.mem_cons, List.not_mem_nil, or_false] at hx; rcases hx with rfl | rfl <;> assumption
theorem cseen_nil (W : World) : CSeen W (.slice none 0 0) [] := ⟨none, 0, rfl, fun i d h => by simp at h⟩
theorem al_size (W : World) (o : Obj) : (W.alloc o).heap.size = W.heap.size + 1 := by simp
theorem Wf.parm {X : Lx} (h : Wf (gr X)) (n : Nat) (hn : 4 ≤ n) : ∀ x ∈ X, x.2.2.length ≤ n := fun x hx => Nat.le_trans (h.par _ (List.mem_map.2 ⟨x, hx, rfl⟩)).1 hn
theorem Wf.parn {X : Lx} (h : Wf (gr X)) : ∀ x ∈ X, x.2.2.Nodup ∧ x.2.2.length ≤ 1000 := fun x hx => ⟨(h.par _ (List.mem_map.2 ⟨x, hx, rfl⟩)).2, Nat.le_trans (h.par _ (List.mem_map.2 ⟨x, hx, rfl⟩)).1 (by decide)⟩
theorem Wf.xlen {X : Lx} (h : Wf (gr X)) : X.length ≤ 1000 := by have := h.few; rwa [gr_len] at this
theorem Ks.err1 {w W : World} {H : List (Nat × Key)} {g bm : Nat} {X : Lx} {L : List (Value × Rf)} (h : Ks w W H g bm X L) (x : Value) (k : Int) (o : Option Key) (hm : (x, some (k, o)) ∈ L) : ErrW W x (some (k, o)) := h.err _ hm
/-- A commit beside a slice of its parents, in memory. -/
def Lit (W : World) (c : Key × Value) (d : Cm) : Prop := c.1 = d.1 ∧ HSeen W c.2 d.2
theorem Lit.kb {W W' : World} {c : Key × Value} {d : Cm} (h : Lit W c d) (k : Below W.heap.size W W') : Lit W' c d := ⟨h.1, h.2.mild (mild_below k)⟩
theorem lit_new (W : World) (h : Key) (E : List Key) (n : Nat) (hn : n = E.length) : Lit (W.alloc (.cells (fl E).toArray 28)) (h, .slice (some ⟨W.heap.size, 0, none⟩) n n) (h, E) := ⟨rfl, hseen_new (heap_alloc_last W _) n hn⟩
theorem lit_row {W : World} {B : Nat} (h : Key) {E : List Key} (hb : W.heap[B]? = some (.cells (fl E).toArray 28 (0, 0))) (n : Nat) (hn : n = E.length) : Lit W (h, .slice (some ⟨B, 0, none⟩) n n) (h, E) := ⟨rfl, hseen_new hb n hn⟩
theorem lit_nil (W : World) (h : Key) : Lit W (h, .slice none 0 0) (h, []) := ⟨rfl, .inl ⟨rfl, rfl⟩⟩
inductive Lits (W : World) : Cv → List Cm → Prop
  | nil : Lits W [] []
  | cons {c d C D} : Lit W c d → Lits W C D → Lits W (c :: C) (d :: D)
theorem Lits.get {W : World} {C : Cv} {D : List Cm} (h : Lits W C D) : C.length = D.length ∧ ∀ (i : Nat) (c : Key × Value) (d : Cm), C[i]? = some c → D[i]? = some d → Lit W c d := by
  induction h with
  | nil => exact ⟨rfl, fun i c d h => by simp at h⟩
  | cons h1 _ ih =>
    refine ⟨by simp [ih.1], fun i c d h2 h3 => ?_⟩
    cases i with
    | zero => simp only [List.getElem?_cons_zero, Option.some.injEq] at h2 h3; subst h2 h3; exact h1
    | succ i => exact ih.2 i c d (by simpa using h2) (by simpa using h3)
theorem Lits.made {W : World} {C : Cv} {D : List Cm} (h : Lits W C D) (h32 : ∀ c ∈ C, c.1.length = 32) (n : Nat) (hn : n = D.length) (B : Nat) (hB : W.heap.size = B) :
    CSeen (W.alloc (.cells (cf C).toArray 49)) (.slice (some ⟨B, 0, none⟩) n n) D := by
  subst hB
  exact cseen_new (heap_alloc_last W _) h32 h.get.1 (fun i c d hc hd => (h.get.2 i c d hc hd).kb (below_al11 W _)) n hn
theorem two_rows (W : World) (E F : List Key) : ((W.alloc (.cells (fl E).toArray 28)).alloc (.cells (fl F).toArray 28)).heap[W.heap.size]? = some (.cells (fl E).toArray 28 (0, 0)) ∧
    ((W.alloc (.cells (fl E).toArray 28)).alloc (.cells (fl F).toArray 28)).heap[W.heap.size + 1]? = some (.cells (fl F).toArray 28 (0, 0)) := by
  have h1 := heap_alloc_last W (.cells (fl E).toArray 28)
  have h2 := heap_alloc_last (W.alloc (.cells (fl E).toArray 28)) (.cells (fl F).toArray 28)
  rw [al_size] at h2
  exact ⟨(mild_below (below_al11 (W.alloc (.cells (fl E).toArray 28)) _)).cells h1, h2⟩
theorem Ks.al {w W : World} {H : List (Nat × Key)} {g bm : Nat} {X : Lx} {L : List (Value × Rf)} (h : Ks w W H g bm X L) (o : Obj) : Ks w (W.alloc o) H g bm X L := h.kb (below_al11 W o)
end Go.Proofs.Ythfkmfepeafgjaa
