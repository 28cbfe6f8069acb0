/- A graph in memory: the map of its commits' parents; sets of hashes; has, Has, New, Count. Conditions: hashes of 32 bytes. -/
import Derived.Test.YtakbdnkodnlkdaaDoorGphP
import Derived.Test.YtakbdnkodnlkdaaDoorHexPo
namespace Go.Proofs.YtakbdnkodnlkdaaDoor
open Go.RowKit
open Go.Maps
attribute [local go_sem ↓] hld_open

theorem lzero (w : World) : (zeroValue 31).run Tryd.prog w = .ok (.slice none 0 0) w := by kernel_rfl
theorem uzero (w : World) : (zeroValue 94).run Tryd.prog w = .ok (.agg #[]) w := by kernel_rfl
theorem cell_nomap {w : World} {a : Addr} {u : Value} {es : Array MapEntry} {c : Nat} (h : w.cell? a = some u) (hm : w.heap[a.block]? = some (.map es c)) : False := by
  simp [World.cell?, hm] at h
/-- A step that turns no cells but in new memory. -/
structure Mild (w w' : World) : Prop where
  only : Only (fun k => ∀ cs t f, w.heap[k]? ≠ some (.cells cs t f)) w w'
theorem mild_below {w w' : World} (h : Below w.heap.size w w') : Mild w w' := ⟨Only.of_below h⟩
theorem mild_map {w w' : World} {b : Nat} {M : Kv} (h : MpH w b M) (ho : Only (fun k => k = b) w w') : Mild w w' := by
  obtain ⟨es, c, hb⟩ := h.ismap
  exact ⟨ho.mono fun k _ e cs t f hk => by rw [e, hb] at hk; cases hk⟩
theorem Mild.cells {w w' : World} (h : Mild w w') {k : Nat} {cs : Array Value} {t : TypeId} {f : Nat × Nat} (hk : w.heap[k]? = some (.cells cs t f)) : w'.heap[k]? = some (.cells cs t f) :=
  (h.only.block k (Array.getElem?_eq_some_iff.1 hk).1 (fun e => e cs t f hk)).trans hk
theorem Mild.cell {w w' : World} (h : Mild w w') {a : Addr} {u : Value} (ha : w.cell? a = some u) : w'.cell? a = some u := by
  have hlt := World.block_lt_of_cell? _ _ ha
  cases hb : w.heap[a.block]? with
  | none => simp [World.cell?, hb] at ha
  | some o =>
    cases o with
    | cells cs t f => rw [World.cell?_of_block (w := w) (a := a) (by rw [h.cells hb, hb])]; exact ha
    | _ => simp [World.cell?, hb] at ha
theorem Mild.trans {a b c : World} (h : Mild a b) (k : Mild b c) : Mild a c := ⟨h.only.trans k.only (fun _ h => h) (fun _ _ hT cs t f e => hT cs t f (h.cells e))⟩
theorem HSeen.mild {w w' : World} {v : Value} {E : List Key} (h : HSeen w v E) (m : Mild w w') : HSeen w' v E := by
  rcases h with h | ⟨a, cap, h1, h2, h3⟩
  · exact .inl h
  · exact .inr ⟨a, cap, h1, h2, fun j u hj => m.cell (h3 j u hj)⟩
theorem HSeen.shape {w : World} {v : Value} {E : List Key} (h : HSeen w v E) : ∃ p cap, v = .slice p E.length cap := by
  rcases h with ⟨rfl, rfl⟩ | ⟨a, cap, h1, _⟩
  · exact ⟨_, _, rfl⟩
  · exact ⟨_, _, h1⟩
/-- A hash of a slice that is read. -/
theorem HSeen.at {w : World} {v : Value} {E : List Key} (h : HSeen w v E) (hE : H32 E) {i : Nat} (hi : i < E.length) : ∃ b o cap, v = .slice (some ⟨b, o, none⟩) E.length cap ∧ w.rangeAt b (o + i * 32) (us (nmb E[i])) := by
  rcases h with ⟨_, rfl⟩ | ⟨⟨b, o, s⟩, cap, h1, h2, h3⟩
  · simp at hi
  · have hs : s = none := by
      have h0 : (fl E)[0]? ≠ none := by
        rw [Ne, List.getElem?_eq_none_iff, fl_length hE]; omega
      obtain ⟨u, hu⟩ := Option.ne_none_iff_exists'.1 h0
      have := h3 0 u hu
      cases s with
      | none => rfl
      | some x => simp only [World.cell?, Addr.add] at this; split at this <;> simp at this
    subst hs
    refine ⟨b, o, cap, h1, fun j u hj => ?_⟩
    have hjl : j < 32 := by
      have := (List.getElem?_eq_some_iff.1 hj).1
      rw [usn_length, hE.at hi] at this; exact this
    have := h3 (i * 32 + j) u (by rw [fl_at hE hi hjl]; exact hj)
    rw [Addr.add_lit] at this
    rw [← Nat.add_assoc] at this
    exact this
theorem hsr_kb {w w' : World} {b o : Nat} {l : List Value} (h : w.rangeAt b o l) (k : Mild w w') : w'.rangeAt b o l := fun j u hj => k.cell (h j u hj)

/-- Commits by hash: the slice of the parents, and the parents. -/
abbrev Lx := List (Key × (Value × List Key))
abbrev Gr := List (Key × List Key)
abbrev gr (X : Lx) : Gr := amap (fun y : Value × List Key => y.2) X
abbrev kvs (X : Lx) : Kv := amap (fun y : Value × List Key => y.1) X
/-- Block b is the map of the lists of hashes X. -/
structure LAt (w : World) (b : Nat) (X : Lx) : Prop where
  mp : MpH w b (kvs X)
  seen : ∀ x ∈ X, HSeen w x.2.1 x.2.2 ∧ H32 x.2.2
/-- Block g is a graph: it leads to the map at block bm. -/
structure GA (w : World) (g bm : Nat) (X : Lx) : Prop where
  cell : w.heap[g]? = some (.cells #[.map (some bm)] 65 (0, 0))
  at_ : LAt w bm X
theorem LAt.mild {w w' : World} {b : Nat} {X : Lx} (h : LAt w b X) (m : Mild w w') (hb : w'.heap[b]? = w.heap[b]?) : LAt w' b X :=
  ⟨h.mp.same hb, fun x hx => ⟨(h.seen x hx).1.mild m, (h.seen x hx).2⟩⟩
theorem LAt.kb {w w' : World} {b : Nat} {X : Lx} (h : LAt w b X) (k : Below w.heap.size w w') : LAt w' b X := h.mild (mild_below k) (k.block b h.mp.lt)
theorem GA.kb {w w' : World} {g bm : Nat} {X : Lx} (h : GA w g bm X) (k : Below w.heap.size w w') : GA w' g bm X := ⟨(k.block g (Array.getElem?_eq_some_iff.1 h.cell).1).trans h.cell, h.at_.kb k⟩
theorem GA.c0 {w : World} {g bm : Nat} {X : Lx} (h : GA w g bm X) : w.cell? ⟨g, 0, none⟩ = some (.map (some bm)) := by rw [cell_of_row w g 0 _ _ _ h.cell]; rfl
/-- Block b is the set of the hashes R. -/
structure SetH (w : World) (b : Nat) (R : List Key) : Prop where
  ex : ∃ M, MpH w b M ∧ (∀ p ∈ M, p.2 = .agg #[]) ∧ R = M.map (·.1)
theorem SetH.kb {w w' : World} {b : Nat} {R : List Key} {B : Nat} (h : SetH w b R) (k : Below B w w') (hB : b < B) : SetH w' b R := by
  obtain ⟨M, h1, h2, h3⟩ := h.ex
  exact ⟨M, h1.kb k hB, h2, h3⟩
theorem aget_isSome {α : Type} {n : Key} : ∀ {M : List (Key × α)}, (aget n M).isSome = decide (n ∈ M.map (·.1))
  | [] => by simp [aget]
  | y :: M => by
    have ih := aget_isSome (n := n) (M := M)
    by_cases hy : y.1 = n
    · rw [gpos hy]; simp [hy]
    · rw [gneg hy, ih]; simp [Ne.symm hy]
theorem set_get {M : Kv} (h : ∀ p ∈ M, p.2 = .agg #[]) (n : Key) : (aget n M).getD (.agg #[]) = .agg #[] := by
  cases hg : aget n M with
  | none => rfl
  | some v => exact h _ (aget_mem hg)
theorem kvs_get (n : Key) (X : Lx) : aget n (kvs X) = (aget n X).map (·.1) := amap_get _ _ _

set_option maxRecDepth 20000 in
/-- Is a hash in a map of lists? -/
theorem lhas_to (w : World) (b : Nat) (M : Kv) (h : Key) (hh : h.length = 32) (H : MpH w b M) : Calls Tryd.prog 48 #[.map (some b), .agg (hv h)] w fun e w' => e = .returned (.bool (aget h M).isSome) ∧ Below w.heap.size w w' := by
  have b1 : Below w.heap.size w (w.alloc (.cells (hv h) 26)) := (Below.refl _ w).alloc (Nat.le_refl _) _
  have hl := Lib.hid (range_new w (hv h) 26)
  have hz := Lib.hid (hinfo' (hv h) (by rw [hv_size, hh]))
  have hlk := (H.kb b1 H.lt).lookOk Tryd.underlying63 (lzero _) h hh
  generalize (aget h M).getD (.slice none 0 0) = zv at hlk
  generalize (aget h M).isSome = ok at hlk ⊢
  have B1 := Lib.hid b1
  clear b1 H hh
  go_enter Tryd.func48, Tryd.ntmps48
  go_wp2_with (refine load_to hl.out Tryd.underlying26 rfl hz.out ?hx ?_; (case hx => rfl))
  go_ret
  exact ⟨rfl, B1.out⟩
set_option maxRecDepth 20000 in
/-- Is a hash in a set? -/
theorem shas_to (w : World) (b : Nat) (R : List Key) (h : Key) (hh : h.length = 32) (H : SetH w b R) : Calls Tryd.prog 35 #[.map (some b), .agg (hv h)] w fun e w' => e = .returned (.bool (decide (h ∈ R))) ∧ Below w.heap.size w w' := by
  obtain ⟨M, HM, hu, rfl⟩ := H.ex
  have b1 : Below w.heap.size w (w.alloc (.cells (hv h) 26)) := (Below.refl _ w).alloc (Nat.le_refl _) _
  have hl := Lib.hid (range_new w (hv h) 26)
  have hz := Lib.hid (hinfo' (hv h) (by rw [hv_size, hh]))
  have hlk := (HM.kb b1 HM.lt).lookOk Tryd.underlying72 (uzero _) h hh
  rw [set_get hu, aget_isSome] at hlk
  generalize decide (h ∈ M.map (·.1)) = ok at hlk ⊢
  have B1 := Lib.hid b1
  clear b1 H HM hh
  go_enter Tryd.func35, Tryd.ntmps35
  go_wp2_with (refine load_to hl.out Tryd.underlying26 rfl hz.out ?hx ?_; (case hx => rfl))
  go_ret
  exact ⟨rfl, B1.out.alloc B1.out.size _⟩
end Go.Proofs.YtakbdnkodnlkdaaDoor
