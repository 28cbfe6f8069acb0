/- Ancestors and descendants, both ways: plain mathematics. No condition. · What the statements of stage 11 ask of an error: same. Condition: errors.errorType holds what its text lays. · The program's graph and the reference's, side by side. No condition. -/
import Derived.Test.YthfkmfepeafgjaaGphUn
import Derived.Test.YthfkmfepeafgjaaRgrN
import Derived.Test.YthfkmfepeafgjaaRgrJ
namespace Go.Proofs.Ythfkmfepeafgjaa
open Go.RowKit Go.Extern.Stop Go.Stop Go.Extern
open Go.Maps

theorem ways_iff {G : Gr} (W : Wf G) (x y : Key) : y ∈ ancs G [x] ↔ x ∈ descs G [y] := by
  rw [ancs_mem W.clo, descs_mem]
  constructor
  · rintro ⟨a, ha, h1, h2⟩
    rw [List.mem_singleton.1 ha] at h1 h2
    exact ⟨y, List.mem_singleton.2 rfl, up_has W.clo h2 h1, h2⟩
  · rintro ⟨a, ha, h1, h2⟩
    rw [List.mem_singleton.1 ha] at h1 h2
    exact ⟨x, List.mem_singleton.2 rfl, dsc_has (E := [y]) ⟨y, List.mem_singleton.2 rfl, h1, h2⟩, h2⟩
theorem ancs_idem {G : Gr} (W : Wf G) (E : List Key) : ancs G (ancs G E) = ancs G E := by
  refine asc_ext _ _ (ancs_asc W.asc _) (ancs_asc W.asc _) fun x => ?_
  rw [ancs_mem W.clo, ancs_mem W.clo]
  constructor
  · rintro ⟨a, ha, _, h2⟩
    obtain ⟨b, hb, h3, h4⟩ := (ancs_mem W.clo).1 ha
    exact ⟨b, hb, h3, h4.trans h2⟩
  · rintro ⟨a, ha, h1, h2⟩
    exact ⟨x, (ancs_mem W.clo).2 ⟨a, ha, h1, h2⟩, up_has W.clo h2 h1, .refl _⟩
theorem descs_idem {G : Gr} (W : Wf G) (E : List Key) : descs G (descs G E) = descs G E := by
  refine asc_ext _ _ (descs_asc W.asc _) (descs_asc W.asc _) fun x => ?_
  rw [descs_mem, descs_mem]
  constructor
  · rintro ⟨a, ha, _, h2⟩
    obtain ⟨b, hb, h3, h4⟩ := descs_mem.1 ha
    exact ⟨b, hb, h3, h2.trans h4⟩
  · rintro h
    exact ⟨x, descs_mem.2 h, dsc_has h, .refl _⟩
theorem ancs_self {G : Gr} (W : Wf G) (x : Key) : x ∈ ancs G [x] ↔ (aget x G).isSome = true := by
  rw [ancs_mem W.clo]
  constructor
  · rintro ⟨a, ha, h1, _⟩
    rw [List.mem_singleton.1 ha] at h1
    exact h1
  · exact fun h => ⟨x, List.mem_singleton.2 rfl, h, .refl _⟩
theorem ancs_all {G : Gr} (W : Wf G) : ancs G (G.map (·.1)) = G.map (·.1) := by
  refine asc_ext _ _ (ancs_asc W.asc _) (aasc_asc W.asc) fun x => ?_
  rw [ancs_mem W.clo]
  constructor
  · rintro ⟨a, _, h1, h2⟩
    exact mem_keys.2 (up_has W.clo h2 h1)
  · exact fun h => ⟨x, h, mem_keys.1 h, .refl _⟩
theorem descs_sub (G : Gr) (E : List Key) : ∀ x ∈ descs G E, x ∈ G.map (·.1) := fun _ hx => (List.mem_filter.1 hx).1
theorem ancs_sub (G : Gr) (E : List Key) : ∀ x ∈ ancs G E, x ∈ G.map (·.1) := fun _ hx => (List.mem_filter.1 hx).1
theorem sub_h32 {X : Lx} (W : Wf (gr X)) {L : List Key} (h : ∀ x ∈ L, x ∈ (gr X).map (·.1)) : H32 L := fun x hx => keys_h32 W x (h x hx)
theorem req_field (pc ph : Option Addr) (m cc mh ch : Nat) (gg : Int) (W : World) : (Instr.field 64 (.agg #[.slice pc m cc, .slice ph mh ch, .int .i64 gg]) 0).run Try.prog W = .ok (.slice pc m cc) W := by kernel_rfl
/-- A list of hashes of one's own, of those of a graph. -/
structure Ls (W : World) (B : Nat) (p : Option Addr) (n c : Nat) (X : Lx) (L : List Key) : Prop where
  own : HOwn W B (.slice p n c) L
  len : n = L.length
  h32 : H32 L
  few : L.length ≤ 1000
theorem Ls.kb {W W' : World} {B : Nat} {p : Option Addr} {n c : Nat} {X : Lx} {L : List Key} (h : Ls W B p n c X L) (k : Below W.heap.size W W') : Ls W' B p n c X L := ⟨own_below h.own k, h.len, h.h32, h.few⟩
theorem Ls.mk' {W : World} {B : Nat} {v : Value} {X : Lx} {L : List Key} (W' : Wf (gr X)) (o : HOwn W B v L) (h : ∀ x ∈ L, x ∈ (gr X).map (·.1)) (hl : L.length ≤ 1000) : ∃ p n c, v = .slice p n c ∧ Ls W B p n c X L := by
  obtain ⟨p, n, c, rfl, e⟩ := own_sh o
  exact ⟨p, n, c, rfl, o, e, sub_h32 W' h, hl⟩
end Go.Proofs.Ythfkmfepeafgjaa
namespace Go.Proofs.Ythfkmfepeafgjaa
open Go.RowKit Go.Extern.Stop Go.Stop Go.Extern
open Go.Maps

theorem who_len {w : World} {v : Value} : ∀ {r : Rf}, ErrW w v r → (whoH r).length = 32
  | none, _ => rfl
  | some (_, none), _ => rfl
  | some (_, some _), h => h.1
end Go.Proofs.Ythfkmfepeafgjaa
namespace Go.Proofs.Ythfkmfepeafgjaa
open Go.RowKit
open Go.Maps

theorem GA.away {W W' : World} {g bm rg : Nat} {X : Lx} {p : Option Addr} {n c : Nat} {t : TypeId} (h : GA W g bm X) (hb : W.heap[rg]? = some (.cells #[.slice p n c] t (0, 0))) (ho : Only (fun j => j = rg) W W') : GA W' g bm X := by
  have hg : g ≠ rg := fun e => by
    have := h.cell
    rw [e, hb] at this
    injection this with this
    injection this with h1 _ _
    have := congrArg (fun a : Array Value => a[0]?) h1
    simp at this
  have hm : bm ≠ rg := fun e => by
    obtain ⟨es, c', hi⟩ := h.at_.mp.ismap
    rw [e, hb] at hi
    cases hi
  exact ⟨(ho.block g (Array.getElem?_eq_some_iff.1 h.cell).1 hg).trans h.cell, h.at_.mp.kept ho hm, fun x hx => ⟨(h.at_.seen x hx).1.away hb ho, (h.at_.seen x hx).2⟩⟩
/-- The program's graph and the reference's, alike. -/
structure Kq (w W : World) (g bm rg : Nat) (X : Lx) (p : Option Addr) (n cap : Nat) (T : Lx) : Prop where
  k : Ks w W [] g bm X []
  r : RG W rg p n cap T
  eq : gr X = gr T
  wf : Wf (gr X)
  lo : w.heap.size ≤ rg
theorem Kq.kb {w W W' : World} {g bm rg : Nat} {X : Lx} {p : Option Addr} {n cap : Nat} {T : Lx} (h : Kq w W g bm rg X p n cap T) (b : Below W.heap.size W W') : Kq w W' g bm rg X p n cap T := ⟨h.k.kb b, h.r.kb b, h.eq, h.wf, h.lo⟩
theorem Kq.wft {w W : World} {g bm rg : Nat} {X : Lx} {p : Option Addr} {n cap : Nat} {T : Lx} (h : Kq w W g bm rg X p n cap T) : Wf (gr T) := by rw [← h.eq]; exact h.wf
/-- The reference's graph has turned. -/
theorem Ks.rturn {w W W' : World} {g bm rg : Nat} {X : Lx} {L : List (Value × Rf)} {p : Option Addr} {n c : Nat} {T : Lx} (h : Ks w W [] g bm X L) (r : RG W rg p n c T) (ho : Only (fun j => j = rg) W W') (lo : w.heap.size ≤ rg) : Ks w W' [] g bm X [] :=
  ⟨h.bel.trans (ho.below h.bel.size fun k hk => by rw [hk]; exact lo), fun p hp => by (cases hp), h.ga.away r.cell ho, h.lo, fun p hp => by (cases hp)⟩
theorem rf_or {r s : Rf} (h1 : ∀ k o, r = some (k, o) → k ≠ 0) (h2 : ∀ k o, s = some (k, o) → k ≠ 0) : ∀ k o, r.or s = some (k, o) → k ≠ 0 := fun k o h => by
  cases r with
  | none => exact h2 k o h
  | some x => exact h1 k o h
theorem ck2_kind : ∀ cs k o, ck2 cs = some (k, o) → k ≠ 0
  | [], _, _, h => by cases h
  | c :: cs, k, o, h => by
    rw [ck2] at h
    split at h
    · injection h with h; injection h with h _; omega
    · split at h
      · exact ck2_kind cs k o h
      · injection h with h; injection h with h _; omega
theorem ck3_kind {G : Gr} : ∀ cs A k o, ck3 G A cs = some (k, o) → k ≠ 0
  | [], _, _, _, h => by cases h
  | c :: cs, A, k, o, h => by
    rw [ck3] at h
    split at h
    · split at h
      · exact ck3_kind cs A k o h
      · injection h with h; injection h with h _; omega
    · exact ck3_kind cs _ k o h
theorem ck4_kind {G A : Gr} : ∀ cs k o, ck4 G A cs = some (k, o) → k ≠ 0
  | [], _, _, h => by cases h
  | c :: cs, k, o, h => by
    rw [ck4] at h
    split at h
    · injection h with h; injection h with h _; omega
    · exact ck4_kind cs k o h
theorem ck5_kind {G A : Gr} (hs : List Key) (k : Int) (o : Option Key) (h : ck5 G A hs = some (k, o)) : k ≠ 0 := by
  unfold ck5 at h
  split at h
  · injection h with h; injection h with h _; omega
  · cases h
theorem ck6_kind {A : Gr} : ∀ cs k o, ck6 A cs = some (k, o) → k ≠ 0
  | [], _, _, h => by cases h
  | c :: cs, k, o, h => by
    rw [ck6] at h
    split at h
    · injection h with h; injection h with h _; omega
    · exact ck6_kind cs k o h
theorem chk_kind {G : Gr} {grp : Int} {cs : List Cm} {hs : List Key} : ∀ k o, chk G grp cs hs = some (k, o) → k ≠ 0 := by
  unfold chk
  split
  · refine rf_or (ck2_kind cs) (rf_or (ck3_kind cs []) (rf_or (ck4_kind cs) (rf_or (ck5_kind hs) (rf_or (ck6_kind cs) ?_))))
    intro k o h
    split at h
    · injection h with h; injection h with h _; omega
    · cases h
  · intro k o h
    injection h with h
    injection h with h _
    omega
/-- A refusal's hash is one of 32 bytes. -/
def R32 (r : Rf) : Prop := (whoH r).length = 32
theorem R32.or {r s : Rf} (h1 : R32 r) (h2 : R32 s) : R32 (r.or s) := by
  cases r with
  | none => exact h2
  | some x => exact h1
theorem R32.non : R32 none := rfl
theorem r32_some {k : Int} {h : Key} (hh : h.length = 32) : R32 (some (k, some h)) := hh
theorem ck2_32 : ∀ cs, COk cs → R32 (ck2 cs)
  | [], _ => rfl
  | c :: cs, hc => by
    rw [ck2]
    have h0 := (hc c List.mem_cons_self).1
    split
    · exact r32_some h0
    · split
      · exact ck2_32 cs fun d hd => hc d (List.mem_cons_of_mem _ hd)
      · exact r32_some h0
theorem ck3_32 {G : Gr} : ∀ cs A, COk cs → R32 (ck3 G A cs)
  | [], _, _ => rfl
  | c :: cs, A, hc => by
    rw [ck3]
    have h0 := (hc c List.mem_cons_self).1
    have h1 : COk cs := fun d hd => hc d (List.mem_cons_of_mem _ hd)
    split
    · split
      · exact ck3_32 cs _ h1
      · exact r32_some h0
    · exact ck3_32 cs _ h1
theorem miss_in {G A : Gr} : ∀ {E : List Key} {p : Key}, miss G A E = some p → p ∈ E
  | [], _, h => by cases h
  | q :: E, p, h => by
    rw [miss] at h
    split at h
    · exact List.mem_cons_of_mem _ (miss_in h)
    · injection h with h; rw [h]; exact List.mem_cons_self
theorem ck4_32 {G A : Gr} : ∀ cs, COk cs → R32 (ck4 G A cs)
  | [], _ => rfl
  | c :: cs, hc => by
    rw [ck4]
    cases hm : miss G A c.2 with
    | some p => exact r32_some ((hc c List.mem_cons_self).2 p (miss_in hm))
    | none => exact ck4_32 cs fun d hd => hc d (List.mem_cons_of_mem _ hd)
theorem ck5_32 {G A : Gr} (hs : List Key) (h : H32 hs) : R32 (ck5 G A hs) := by
  unfold ck5
  cases hm : miss G A hs with
  | some p => exact r32_some (h p (miss_in hm))
  | none => rfl
theorem ck6_32 {A : Gr} : ∀ cs, COk cs → R32 (ck6 A cs)
  | [], _ => rfl
  | c :: cs, hc => by
    rw [ck6]
    split
    · exact r32_some (hc c List.mem_cons_self).1
    · exact ck6_32 cs fun d hd => hc d (List.mem_cons_of_mem _ hd)
theorem chk_32 {G : Gr} {grp : Int} {cs : List Cm} {hs : List Key} (hc : COk cs) (h : H32 hs) : R32 (chk G grp cs hs) := by
  unfold chk
  split
  · refine (ck2_32 cs hc).or ((ck3_32 cs [] hc).or ((ck4_32 cs hc).or ((ck5_32 hs h).or ((ck6_32 cs hc).or ?_))))
    split <;> rfl
  · rfl
theorem rg_new (W : World) : RG (W.alloc (.cells #[.slice none 0 0] 62)) W.heap.size none 0 0 [] := ⟨heap_alloc_last W _, ⟨.inl ⟨rfl, rfl⟩, (fun _ h => by simp at h), (fun _ h => by simp at h)⟩, rfl, List.Pairwise.nil, Nat.zero_le _, (fun _ h => by simp at h)⟩
theorem left_le : ∀ (T : Lx) (L : List Bool) (k : Nat), (∀ x ∈ T, x.2.2.length ≤ k) → left T L ≤ T.length * (k + 1)
  | [], _, _, _ => Nat.zero_le _
  | _ :: _, [], _, _ => Nat.zero_le _
  | x :: T, b :: L, k, h => by
    have h1 := left_le T L k fun y hy => h y (List.mem_cons_of_mem _ hy)
    have h2 := h x List.mem_cons_self
    rw [left, List.length_cons, Nat.add_mul, Nat.one_mul]
    have : (if b = true then 0 else x.2.2.length + 1) ≤ k + 1 := by split <;> omega
    omega
theorem hv_reset {w : World} {b : Nat} {q q' : Key} {t : TypeId} (hq : q.length = 32) (hq' : q'.length = 32) (h : w.heap[b]? = some (.cells (hv q) t (0, 0))) : (w.setCells b 0 (hv q').toList).heap[b]? = some (.cells (hv q') t (0, 0)) := by
  have h1 : hv q = (hv q).toList.toArray := by simp
  rw [h1] at h
  have e1 : (hv q).toList.length = 32 := by rw [Array.length_toList, hv_size, hq]
  have e2 : (hv q').toList.length = 32 := by rw [Array.length_toList, hv_size, hq']
  have h2 := cells_puts (hv q').toList 0 (hv q).toList w h (by rw [e1, e2]; omega)
  rw [h2]
  congr 1
  unfold puts
  rw [List.take_zero, List.drop_eq_nil_of_le (by rw [e1, e2]; omega)]
  simp
theorem kind_zero {r : Rf} (hr : ∀ k o, r = some (k, o) → k ≠ 0) : decide (kindOf r = 0) = r.isNone := by
  match r, hr with
  | none, _ => rfl
  | some (k, o), hr => exact decide_eq_false (hr k o rfl)
theorem who_len' {G : Gr} {grp : Int} {cs : List Cm} {hs : List Key} {w : World} {v : Value} (he : ErrW w v (chk G grp cs hs)) : (whoH (chk G grp cs hs)).length = 32 := by
  match chk G grp cs hs, he with
  | none, _ => rfl
  | some (_, none), _ => rfl
  | some (_, some _), h => exact h.1
end Go.Proofs.Ythfkmfepeafgjaa
