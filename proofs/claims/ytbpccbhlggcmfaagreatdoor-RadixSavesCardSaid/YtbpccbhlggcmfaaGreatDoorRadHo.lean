/- RadixHolds returns true and makes new memory alone. Condition: errors.errorType holds what its text lays. -/
import Derived.Test.YtbpccbhlggcmfaaGreatDoorRadIs
import Derived.Test.YtbpccbhlggcmfaaGreatDoorRadPs
namespace Go.Proofs.YtbpccbhlggcmfaaGreatDoor
open Go.RowKit
attribute [local go_sem ↓] hld_open heq_open hne_open

theorem pairinfo (x : Pr) (h : x.h.length = 32) : (Tryz.prog.info? 57).map (·.size) = some x.row.length := by rw [Pr.row_length h]; kernel_rfl
theorem TA.ty {W : World} {ρ : Nat → Nat} : ∀ {t : Nd}, TA W ρ t → ∀ k, t.Bl k → ∃ cs t', W.heap[k]? = some (.cells cs t' (0, 0)) ∧ (t' = 91 ∨ t' = 168)
  | .none, _, _, hk => hk.elim
  | .leaf b h m, ht, k, hk => by
    obtain rfl : k = b := hk
    exact ⟨_, _, ht.1, .inl rfl⟩
  | .fork b g ws, ht, k, hk => by
    rcases hk with rfl | rfl | ⟨i, hk⟩
    · exact ⟨_, _, ht.1, .inl rfl⟩
    · exact ⟨_, _, ht.2.1, .inr rfl⟩
    · exact (ht.2.2 i).ty k hk
/-- No block of what was put is one of the tree's. -/
theorem KX.apart {W : World} {B tb : Nat} {T : Nd} {ρ : Nat → Nat} {k : En} {B2 kb : Nat} {vh vn : Value} {E : List (List UInt8)} {l : List Int} (H : CT W B tb T ρ k) (K : KX W B2 kb vh vn E l) {j : Nat} (h1 : j = tb ∨ T.Bl j) (h2 : j = kb ∨ vh.ownBlock = some j ∨ vn.ownBlock = some j) : False := by
  have ht : ∃ cs t', W.heap[j]? = some (.cells cs t' (0, 0)) ∧ (t' = 91 ∨ t' = 168 ∨ t' = 66) := by
    rcases h1 with rfl | h1
    · exact ⟨_, _, H.tt.top, .inr (.inr rfl)⟩
    · obtain ⟨cs, t', e1, e2⟩ := H.tt.ta.ty j h1
      exact ⟨cs, t', e1, e2.elim .inl (fun e => .inr (.inl e))⟩
  obtain ⟨cs, t', e1, e2⟩ := ht
  have hs : ∃ ds t2, W.heap[j]? = some (.cells ds t2 (0, 0)) ∧ (t2 = 52 ∨ t2 = 36 ∨ t2 = 3) := by
    rcases h2 with rfl | h2 | h2
    · exact ⟨_, _, K.cell, .inl rfl⟩
    · obtain ⟨ds, hds⟩ := row_type9 K.hs h2
      exact ⟨ds, _, hds, .inr (.inl rfl)⟩
    · obtain ⟨ds, hds⟩ := row_type9 K.ns h2
      exact ⟨ds, _, hds, .inr (.inr rfl)⟩
  obtain ⟨ds, t2, e3, e4⟩ := hs
  rw [e1] at e3
  have e5 : t' = t2 := by injection e3 with e3; injection e3
  subst e5
  rcases e2 with rfl | rfl | rfl <;> rcases e4 with e | e | e <;> exact absurd e (by decide)
theorem KX.keep {W W' : World} {B kb : Nat} {vh vn : Value} {E : List (List UInt8)} {l : List Int} {S : Nat → Prop} (h : KX W B kb vh vn E l) (ho : Only S W W') (hS : ∀ j, (j = kb ∨ vh.ownBlock = some j ∨ vn.ownBlock = some j) → ¬ S j) : KX W' B kb vh vn E l := by
  refine ⟨(ho.block kb h.lt (hS kb (.inl rfl))).trans h.cell, ⟨h.hs.1, ?_⟩, ⟨h.ns.1, ?_⟩, h.h32, h.ge⟩
  · rcases h.hs.2 with h1 | ⟨g, cap, cur, h1, h2, hg, h3⟩
    · exact .inl h1
    · exact .inr ⟨g, cap, cur, h1, h2, (ho.block g (Array.getElem?_eq_some_iff.1 hg).1 (hS g (.inr (.inl (by rw [h1]; rfl))))).trans hg, h3⟩
  · rcases h.ns.2 with h1 | ⟨g, cap, cur, h1, h2, hg, h3⟩
    · exact .inl h1
    · exact .inr ⟨g, cap, cur, h1, h2, (ho.block g (Array.getElem?_eq_some_iff.1 hg).1 (hS g (.inr (.inr (by rw [h1]; rfl))))).trans hg, h3⟩
/-- The tree and what was put, side by side. -/
structure HoI (w W : World) (tb : Nat) (T : Nd) (ρ : Nat → Nat) (k : En) (kb : Nat) (vh vn : Value) (k2 : En) : Prop where
  ct : CT W w.heap.size tb T ρ k
  kx : KX W w.heap.size kb vh vn (keys k2) (nums k2)
  bel : Below w.heap.size w W
section
variable {w W W' : World} {tb : Nat} {T : Nd} {ρ : Nat → Nat} {k k2 : En} {kb : Nat} {vh vn : Value}
theorem HoI.below (h : HoI w W tb T ρ k kb vh vn k2) (hb : Below W.heap.size W W') : HoI w W' tb T ρ k kb vh vn k2 := ⟨h.ct.kb hb, h.kx.below hb, h.bel.trans (hb.mono h.bel.size)⟩
theorem HoI.put {h : List UInt8} {m : Int} (H : HoI w W tb T ρ k kb vh vn k2) (hh : h.length = 32) (hp : TPut W tb T ρ h m W') : ∃ T' σ, HoI w W' tb T' σ (kput k h m) kb vh vn k2 ∧ PutS [] h m ρ σ T T' := by
  obtain ⟨T', σ, h1, h2, h3⟩ := H.ct.put H.bel.size hh hp
  obtain ⟨_, _, _, _, _, h4⟩ := hp
  exact ⟨T', σ, ⟨h1, H.kx.keep h4 (fun j hj e => KX.apart H.ct H.kx e hj), H.bel.trans h2⟩, h3⟩
theorem HoI.kput {h : List UInt8} {m : Int} (H : HoI w W tb T ρ k kb vh vn k2) (hp : KPost W w.heap.size kb vh vn (Go.Proofs.YtbpccbhlggcmfaaGreatDoor.kput k2 h m) W') : ∃ vh' vn', HoI w W' tb T ρ k kb vh' vn' (Go.Proofs.YtbpccbhlggcmfaaGreatDoor.kput k2 h m) ∧ KOld W vh vn vh' vn' := by
  obtain ⟨⟨vh', vn', h1, h5⟩, h2, h3⟩ := hp
  exact ⟨vh', vn', ⟨{ H.ct with tt := H.ct.tt.kept h3 (fun j hj e => KX.apart H.ct H.kx hj e) }, h1, H.bel.trans h2⟩, h5⟩
end
theorem prseen_at {w W : World} {B b o : Nat} {E : List Pr} (h : PrSeen w (some ⟨b, o, none⟩) E) (hb : Below B w W) (hB : w.heap.size ≤ B) {i : Nat} {x : Pr} (hi : E[i]? = some x) : W.rangeAt b (o + i * 35) x.row := fun j v hj => by
  obtain ⟨b', o', e, hr⟩ := h i x hi
  injection e with e
  injection e with e1 e2
  subst e1 e2
  have h1 := hr j v hj
  have h2 := World.block_lt_of_cell? w _ h1
  rw [World.cell?_of_block (w := w) (hb.block _ (Nat.lt_of_lt_of_le h2 hB))]
  exact h1
end Go.Proofs.YtbpccbhlggcmfaaGreatDoor
