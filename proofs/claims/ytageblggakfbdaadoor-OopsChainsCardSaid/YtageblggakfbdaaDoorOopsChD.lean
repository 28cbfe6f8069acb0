/- The state of the loop of OopsChains: a chain that was made of layers, its names, its outermost place and hash. No condition. -/
import Derived.Test.YtageblggakfbdaaDoorOopsKn
import Derived.Test.YtageblggakfbdaaDoorOopsErrP
import Derived.Test.YtageblggakfbdaaDoorOopsShort
import Derived.Test.YtageblggakfbdaaDoorOopsLayer
import Derived.Laws.AppendOwnNone
import Derived.Deep.MidRow
import Derived.Deep.Onto
namespace Go.Proofs.YtageblggakfbdaaDoor
open Go.RowKit

/-- A layer as OopsChains makes it. -/
def Good1 : Lnk → Prop
  | .step _ s => s.size ≤ 140737488351232
  | .place _ n => 0 ≤ n ∧ n ≤ 999
  | .which _ q => ∃ n, q = hsh n
def Good (L : List Lnk) : Prop := ∀ l ∈ L, Good1 l
theorem Good.cons {l : Lnk} {L : List Lnk} (h : Good1 l) (hs : Good L) : Good (l :: L) := fun x hx => by
  rcases List.mem_cons.1 hx with rfl | hx
  · exact h
  · exact hs x hx

theorem fplace_good : ∀ {L : List Lnk}, Good L → ∀ n, fplace L = some n → 0 ≤ n ∧ n ≤ 999
  | .place _ m :: _, h, n, e => by cases e; exact h _ (List.mem_cons_self ..)
  | .step _ _ :: L, h, n, e => fplace_good (L := L) (fun x hx => h x (List.mem_cons_of_mem _ hx)) n e
  | .which _ _ :: L, h, n, e => fplace_good (L := L) (fun x hx => h x (List.mem_cons_of_mem _ hx)) n e
theorem fwhich_good : ∀ {L : List Lnk}, Good L → ∀ q, fwhich L = some q → ∃ n, q = hsh n
  | .which _ m :: _, h, n, e => by cases e; exact h _ (List.mem_cons_self ..)
  | .step _ _ :: L, h, n, e => fwhich_good (L := L) (fun x hx => h x (List.mem_cons_of_mem _ hx)) n e
  | .place _ _ :: L, h, n, e => fwhich_good (L := L) (fun x hx => h x (List.mem_cons_of_mem _ hx)) n e

/-- The state: the chain L around the kind k, its names at v, its hash at block hb. -/
structure Cs (w W : World) (hb : Nat) (k : Int) (L : List Lnk) (v : Value) : Prop where
  bel : Below w.heap.size w W
  glob : Glob W
  tab : Tab W
  ch : Ch W L (kind k)
  good : Good L
  own : W.ownsRow w.heap.size 9 1 v (names L).length (strs (names L))
  rng : W.rangeAt hb 0 ((fwhich L).getD zeros).toList
  thr : W.there hb 0 32
  row : ∃ cs, W.heap[hb]? = some (.cells cs 23 (0, 0))
  hbw : w.heap.size ≤ hb

/-- A row of texts is another block than the hash. -/
theorem Cs.apart {w W : World} {hb : Nat} {k : Int} {L : List Lnk} {v : Value} (h : Cs w W hb k L v) : v.ownBlock ≠ some hb := by
  intro e
  rcases h.own.2 with ⟨rfl, _⟩ | ⟨g, cap, cur, rfl, _, hg, _⟩
  · simp [Value.ownBlock] at e
  · simp [Value.ownBlock] at e
    subst e
    obtain ⟨cs, hr⟩ := h.row
    rw [hr] at hg
    simp at hg
theorem Ch.far {W : World} {hb : Nat} {cs : Array Value} (hr : W.heap[hb]? = some (.cells cs 23 (0, 0))) : ∀ {L : List Lnk} {b : Value}, Ch W L b → ∀ l ∈ L, l.blk ≠ hb
  | [], _, _, _, h => by cases h
  | l :: L, b, ⟨h1, _, _, h4⟩, x, hx => by
    rcases List.mem_cons.1 hx with rfl | hx
    · intro e
      rw [e, hr] at h1
      cases x <;> simp [Lnk.obj] at h1
    · exact Ch.far hr h4 x hx

theorem own_kb {W W' : World} {B : Nat} {v : Value} {n : Nat} {xs : List Value} {e : TypeId} (h : W.ownsRow B e 1 v n xs) (hb : ∀ k, v.ownBlock = some k → W'.heap[k]? = W.heap[k]?) : W'.ownsRow B e 1 v n xs := by
  refine ⟨h.1, ?_⟩
  rcases h.2 with hn | ⟨g, cap, cur, rfl, hbg, hg, rest⟩
  · exact .inl hn
  · exact .inr ⟨g, cap, cur, rfl, hbg, (hb g rfl).trans hg, rest⟩

theorem kept_block {W W' : World} {b : Nat} (h : W'.heap[b]? = W.heap[b]?) : (∀ o cs, W.rangeAt b o cs → W'.rangeAt b o cs) ∧ (∀ o n, W.there b o n → W'.there b o n) :=
  ⟨fun o cs hr j v hv => by rw [World.cell?_of_block (w := W) (a := ⟨b, o + j, none⟩) h]; exact hr j v hv,
   fun o n ht j hj => by rw [World.cell?_of_block (w := W) (a := ⟨b, o + j, none⟩) h, World.frozen?_of_block (w := W) (a := ⟨b, o + j, none⟩) h]; exact ht j hj⟩

theorem Cs.kb {w W W' : World} {hb : Nat} {k : Int} {L : List Lnk} {v : Value} (h : Cs w W hb k L v) (b : Below W.heap.size W W') : Cs w W' hb k L v := by
  obtain ⟨cs, hr⟩ := h.row
  have hk := b.block hb (Array.getElem?_eq_some_iff.1 hr).1
  exact ⟨h.bel.trans (b.mono h.bel.size), h.glob.kb b, h.tab.kb b, h.ch.kb b, h.good, own_kb h.own (fun k hk => b.block k (h.own.lt k hk).2), (kept_block hk).1 _ _ h.rng, (kept_block hk).2 _ _ h.thr, ⟨cs, hk.trans hr⟩, h.hbw⟩

theorem row_setCells {b : Nat} {T : TypeId} : ∀ (vs : List Value) (o : Nat) {W : World} {cs : Array Value}, W.heap[b]? = some (.cells cs T (0, 0)) → ∃ cs', (W.setCells b o vs).heap[b]? = some (.cells cs' T (0, 0))
  | [], _, _, cs, h => ⟨cs, h⟩
  | v :: vs, o, W, cs, h => by
    have hlt := lt_of_block h
    have h' : W.heap[b] = .cells cs T (0, 0) := by simpa [Array.getElem?_eq_getElem hlt] using h
    have h1 : ∃ cs', (W.setCell ⟨b, o, none⟩ v).heap[b]? = some (.cells cs' T (0, 0)) := by
      show ∃ cs', (W.heap.modify b _)[b]? = _
      rw [Array.getElem?_eq_getElem (by simpa using hlt), Array.getElem_modify_self, h']
      exact ⟨_, rfl⟩
    obtain ⟨cs1, h1⟩ := h1
    exact row_setCells vs (o + 1) h1

/-- A step goes on: the new name ahead of the names. -/
theorem Cs.step {w W W' : World} {hb : Nat} {k : Int} {L : List Lnk} {v v' : Value} {p : Nat} {s : ByteArray} (h : Cs w W hb k L v) (b : Below W.heap.size W W') (hc : Ch W' (.step p s :: L) (kind k)) (hs : s.size ≤ 140737488351232)
    (ho : W'.ownsRow w.heap.size 9 1 v' (names (.step p s :: L)).length (strs (names (.step p s :: L)))) : Cs w W' hb k (.step p s :: L) v' :=
  have g := h.kb b
  ⟨g.bel, g.glob, g.tab, hc, g.good.cons hs, ho, g.rng, g.thr, g.row, g.hbw⟩
theorem Cs.place {w W W' : World} {hb : Nat} {k : Int} {L : List Lnk} {v : Value} {p : Nat} {n : Int} (h : Cs w W hb k L v) (b : Below W.heap.size W W') (hc : Ch W' (.place p n :: L) (kind k)) (hn : 0 ≤ n ∧ n ≤ 999) : Cs w W' hb k (.place p n :: L) v :=
  have g := h.kb b
  ⟨g.bel, g.glob, g.tab, hc, g.good.cons hn, g.own, g.rng, g.thr, g.row, g.hbw⟩
/-- The hash is stored: all but its own limb stays. -/
structure Cw (w W : World) (hb : Nat) (k : Int) (L : List Lnk) (v : Value) (q : Array Value) : Prop where
  bel : Below w.heap.size w W
  glob : Glob W
  tab : Tab W
  ch : Ch W L (kind k)
  good : Good L
  own : W.ownsRow w.heap.size 9 1 v (names L).length (strs (names L))
  rng : W.rangeAt hb 0 q.toList
  thr : W.there hb 0 32
  row : ∃ cs, W.heap[hb]? = some (.cells cs 23 (0, 0))
  hbw : w.heap.size ≤ hb
theorem Cs.stored {w W : World} {hb : Nat} {k : Int} {L : List Lnk} {v : Value} {q : Array Value} (h : Cs w W hb k L v) (hq : q.size = 32) (hgl : hb ≠ 0) (htl : hb ≠ 1) : Cw w (W.setCells hb 0 q.toList) hb k L v q := by
  obtain ⟨cs, hr⟩ := h.row
  have ho : Only (fun x => x = hb) W (W.setCells hb 0 q.toList) := Only.setCells (S := fun x => x = hb) (b := hb) rfl q.toList 0 (Only.refl _ W)
  have hb1 : ∀ i, i < W.heap.size → i ≠ hb → (W.setCells hb 0 q.toList).heap[i]? = W.heap[i]? := fun i hi hn => ho.block i hi hn
  have hlen : q.toList.length = 32 := by rw [Array.length_toList, hq]
  refine ⟨h.bel.trans (ho.below h.bel.size fun x hx => hx ▸ h.hbw), ?_, ?_, h.ch.only ho (Ch.far hr h.ch), h.good, own_kb h.own ?_, World.rangeAt_setCells_same _ _ _ _ (by rw [hlen]; exact h.thr), World.there_setCells h.thr _ _ _, row_setCells _ _ hr, h.hbw⟩
  · unfold Glob
    rw [World.cell?_of_block (w := W) (hb1 _ (World.block_lt_of_cell? W _ h.glob) (Ne.symm hgl))]
    exact h.glob
  · intro n hn
    obtain ⟨z, hz⟩ := h.tab n hn
    exact ⟨z, by rw [World.cell?_of_block (w := W) (hb1 _ (World.block_lt_of_cell? W _ hz) (Ne.symm htl))]; exact hz⟩
  · intro x hx
    exact hb1 x (h.own.lt x hx).2 (fun e => h.apart (e ▸ hx))
theorem Cw.kb {w W W' : World} {hb : Nat} {k : Int} {L : List Lnk} {v : Value} {q : Array Value} (h : Cw w W hb k L v q) (b : Below W.heap.size W W') : Cw w W' hb k L v q := by
  obtain ⟨cs, hr⟩ := h.row
  have hk := b.block hb (Array.getElem?_eq_some_iff.1 hr).1
  exact ⟨h.bel.trans (b.mono h.bel.size), h.glob.kb b, h.tab.kb b, h.ch.kb b, h.good, own_kb h.own (fun k hk => b.block k (h.own.lt k hk).2), (kept_block hk).1 _ _ h.rng, (kept_block hk).2 _ _ h.thr, ⟨cs, hk.trans hr⟩, h.hbw⟩
theorem Cw.which {w W W' : World} {hb : Nat} {k : Int} {L : List Lnk} {v : Value} {p : Nat} {n : Int} (h : Cw w W hb k L v (hsh n)) (b : Below W.heap.size W W') (hc : Ch W' (.which p (hsh n) :: L) (kind k)) : Cs w W' hb k (.which p (hsh n) :: L) v :=
  have g := h.kb b
  ⟨g.bel, g.glob, g.tab, hc, g.good.cons ⟨n, rfl⟩, g.own, g.rng, g.thr, g.row, g.hbw⟩

theorem own_len {w : World} {B n : Nat} {v : Value} {xs : List Value} {e : TypeId} (h : w.ownsRow B e 1 v n xs) : ∃ a cap, v = .slice a n cap := by
  rcases h.2 with ⟨rfl, rfl⟩ | ⟨g, cap, cur, rfl, _⟩
  · exact ⟨none, 0, rfl⟩
  · exact ⟨_, cap, rfl⟩
theorem own_at {w : World} {B n : Nat} {a : Option Addr} {cap : Nat} {xs : List ByteArray} (h : w.ownsRow B 9 1 (.slice a n cap) n (strs xs)) (i : Nat) (hi : i < n) {s : ByteArray} (hs : xs[i]? = some s) :
    ∃ g, a = some ⟨g, 0, none⟩ ∧ n ≤ cap ∧ w.cell? ⟨g, i, none⟩ = some (.string s) := by
  rcases h.2 with ⟨h0, h1⟩ | ⟨g, cap', cur, h0, _, _, hn, _⟩
  · omega
  · cases h0
    have := h.cells (g := g) rfl i (.string s) (by simp [strs, hs])
    rw [Addr.add_lit, Nat.zero_add] at this
    exact ⟨g, rfl, hn, this⟩
theorem below_drew2 (w : World) : Below w.heap.size w w.drew := ⟨rfl, rfl, rfl, Nat.le_refl _, fun _ _ => rfl⟩

theorem range_kept {w w' : World} {b o : Nat} {cs : List Value} (h : w.rangeAt b o cs) (hb : Below w.heap.size w w') : w'.rangeAt b o cs := fun j v hv => by
  have h1 := h j v hv
  rw [World.cell?_of_block (w := w) (a := ⟨b, o + j, none⟩) (hb.block _ (World.block_lt_of_cell? w _ h1))]; exact h1

theorem beq_comm2 (a b : Int) : (a == b) = (b == a) := by
  by_cases h : a = b
  · subst h; rfl
  · rw [beq_eq_false_iff_ne.2 h, beq_eq_false_iff_ne.2 (Ne.symm h)]

theorem ld_rng {W : World} {b : Nat} {q : Array Value} (hs : q.size = 32) (h : W.rangeAt b 0 q.toList) : (ldH ⟨b, 0, none⟩).run Tryd.prog W = .ok (.agg q) W := by
  have := run_loadVar_mid (P := Tryd.prog) W b 0 23 q.toList _ h Tryd.underlying23 rfl (size_hash' q hs)
  rw [Array.toArray_toList] at this
  exact this
theorem nonempty (sx : ByteArray) (hsx : 0 < sx.size) : ¬ sx.toList = [] := fun e0 => by
  rw [ByteArray.toList_eq] at e0
  have e1 : sx.data.toList.length = 0 := by rw [e0]; rfl
  rw [Array.length_toList] at e1
  have e2 : sx.size = 0 := e1
  omega

theorem below_row2 {B : Nat} {w w' : World} {row : Option Nat} (h : w.grownBy w' row) (hB : B ≤ w.heap.size) (hr : ∀ k, row = some k → B ≤ k) : Below B w w' := (Below.refl B w).grown h hB hr

/-- 'append(s, x...)' of texts. -/
theorem append_strs {ops : Array Oper} {rest : List Oper} {o : Oper} {a : Act} {w : World} {Q : Exit → Act → World → Prop} (hgd : o.guard = none) (s x : Operand)
    (ho : o.op = .call { callee := .builtin .append, args := #[s, x], argTypes := #[31, 31] })
    (base B' : Nat) (v : Value) (xs : List ByteArray) (hs : a.eval s = v) (hown : w.ownsRow base 9 1 v xs.length (strs xs)) (u : Value) (l : List ByteArray) (hx : a.eval x = u) (hse : w.ownsRow B' 9 1 u l.length (strs l))
    (hb : xs.length + l.length ≤ 1000000) (hbase : base ≤ w.heap.size)
    (h : ∀ v' w', w'.ownsRow base 9 1 v' (xs ++ l).length (strs (xs ++ l)) → w.grownBy w' v.ownBlock → wpList Tryd.prog ops Q rest (a.put o.dst v') w') :
    wpList Tryd.prog ops Q (o :: rest) a w := by
  obtain ⟨i0, hi0, hz0, hz1, hz2⟩ := info_parts strinfo
  have hc : ∀ g, u.ownBlock = some g → _ := fun g hg => hse.cells (g := g) hg
  rcases hse.2 with ⟨rfl, h0⟩ | ⟨g, cap, cur, rfl, _, _, hn, _⟩
  · have hl : l = [] := List.eq_nil_of_length_eq_zero h0
    subst hl
    refine wpList_append_own_none hgd s x _ ho base 9 i0 1 Tryd.underlying31 hi0 v xs.length (strs xs) hs hown hx ?_
    exact h v w (by rw [List.append_nil]; exact hown) ⟨rfl, rfl, rfl, Nat.le_refl _, fun _ _ _ => rfl⟩
  · refine wpList_append_own_at _ hgd s x _ ho base 9 i0 _ 1 16 Tryd.underlying31 hi0 hz0 hz1 hz2 rfl (by omega) v xs.length (strs xs) hs hown ⟨g, 0, none⟩ l.length cap (strs l) hx (by simp) (hc _ rfl) (by intro u hu; obtain ⟨x, _, rfl⟩ := List.mem_map.1 hu; rfl) (by simp [maxLen]; omega) (by omega) hbase ?_
    intro v' w' h1 h2 _ _
    refine h v' w' ?_ h2
    rw [List.length_append, strs, List.map_append]
    exact h1

theorem base_kind' (k : Int) : Base (kind k) := base_kind k
end Go.Proofs.YtageblggakfbdaaDoor
