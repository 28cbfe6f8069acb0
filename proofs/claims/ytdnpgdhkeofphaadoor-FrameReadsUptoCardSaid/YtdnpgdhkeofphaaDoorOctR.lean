/- What the small calls of the octet Reader do: NewReader, fail, Lack, Left, take. -/
import Derived.Test.YtdnpgdhkeofphaaDoorOctKit
import Derived.Test.YtdnpgdhkeofphaaDoorOctClone
import Derived.Test.YtdnpgdhkeofphaaDoorGenPick
namespace Go.Proofs.YtdnpgdhkeofphaaDoor
open Go.RowKit

/-- The slice v holds the bytes l in w, at an address written out. -/
def SeenR (w : World) (v : Value) (l : List Int) : Prop :=
  (v = .slice none 0 0 ∧ l = []) ∨ ∃ g o cap, v = .slice (some ⟨g, o, none⟩) l.length cap ∧ l.length ≤ cap ∧ ∀ j u, (us l)[j]? = some u → w.cell? ⟨g, o + j, none⟩ = some u
theorem SeenR.seen {w : World} {v : Value} {l : List Int} (h : SeenR w v l) : Seen w v l := by
  rcases h with h | ⟨g, o, cap, rfl, hc, hu⟩
  · exact .inl h
  · exact .inr ⟨_, cap, rfl, hc, fun j u hj => by rw [Addr.add_lit]; exact hu j u hj⟩
theorem SeenR.kept {w w' : World} {v : Value} {l : List Int} (h : SeenR w v l) (hb : ∀ k, v.ownBlock = some k → w'.heap[k]? = w.heap[k]?) : SeenR w' v l := by
  rcases h with h | ⟨g, o, cap, rfl, hc, hu⟩
  · exact .inl h
  · refine .inr ⟨g, o, cap, rfl, hc, fun j u hj => ?_⟩
    rw [World.cell?_of_block (w := w) (a := ⟨g, o + j, none⟩) (hb _ rfl)]
    exact hu j u hj
theorem SeenR.nil (w : World) : SeenR w (.slice none 0 0) [] := .inl ⟨rfl, rfl⟩
theorem SeenR.own {w : World} {B : Nat} {v : Value} {l : List Int} (h : w.ownsRow B 5 1 v l.length (us l)) : SeenR w v l := by
  have hc : ∀ g, v.ownBlock = some g → _ := fun g hg => h.cells (g := g) hg
  rcases h.2 with ⟨rfl, h0⟩ | ⟨g, cap, cur, rfl, _, _, hn, _⟩
  · exact .inl ⟨rfl, List.eq_nil_of_length_eq_zero h0⟩
  · exact .inr ⟨g, 0, cap, rfl, hn, fun j u hj => by have := hc _ rfl j u hj; rw [Addr.add_lit] at this; exact this⟩

/-- The object at block b: the slice v, which holds the bytes l, and the mark lk. -/
structure Rd (T B : Nat) (w : World) (b : Nat) (v : Value) (l : List Int) (lk : Bool) : Prop where
  base : B ≤ b
  at_ : w.heap[b]? = some (.cells #[v, .bool lk] T (0, 0))
  seen : SeenR w v l
  own : ∀ k, v.ownBlock = some k → B ≤ k ∧ k ≠ b ∧ k < w.heap.size
  ok : Okb l
  small : l.length ≤ 140737488351232
  lacks : lk = true → l = []

/-- Behind a call that may have written to that object and to no other. -/
def Rdd (T B : Nat) (w : World) (b : Nat) (v : Value) (l : List Int) (lk : Bool) (w' : World) : Prop :=
  ∃ v', Rd T B w' b v' l lk ∧ Only (fun k => k = b) w w' ∧ ∀ k, v'.ownBlock = some k → v.ownBlock = some k

section
variable {T B b : Nat} {w w1 w' : World} {v v1 : Value} {l l1 : List Int} {lk lk1 : Bool}
theorem Rd.lt (h : Rd T B w b v l lk) : b < w.heap.size := (Array.getElem?_eq_some_iff.1 h.at_).1
theorem Rd.c0 (h : Rd T B w b v l lk) : w.cell? ⟨b, 0, none⟩ = some v := by rw [cell_of_row w b 0 _ _ _ h.at_]; rfl
theorem Rd.c1 (h : Rd T B w b v l lk) : w.cell? ⟨b, 1, none⟩ = some (.bool lk) := by rw [cell_of_row w b 1 _ _ _ h.at_]; rfl
theorem Rd.kept (h : Rd T B w b v l lk) {S : Nat → Prop} (ho : Only S w w') (hb : ¬ S b) (hv : ∀ k, v.ownBlock = some k → ¬ S k) : Rd T B w' b v l lk :=
  ⟨h.base, (ho.block b h.lt hb).trans h.at_, h.seen.kept fun k hk => ho.block k (h.own k hk).2.2 (hv k hk), fun k hk => ⟨(h.own k hk).1, (h.own k hk).2.1, Nat.lt_of_lt_of_le (h.own k hk).2.2 ho.size⟩, h.ok, h.small, h.lacks⟩
theorem Rd.kb (h : Rd T B w b v l lk) (hb : Below w.heap.size w w') : Rd T B w' b v l lk := h.kept (S := fun _ => False) (Only.of_below hb) (fun h => h) (fun _ _ h => h)
theorem Rd.below (h : Rd T B w b v l lk) (o : Only (fun k => k = b) w w') : Below B w w' := o.below (Nat.le_trans h.base (Nat.le_of_lt h.lt)) fun _ hk => hk ▸ h.base
theorem Rdd.refl (h : Rd T B w b v l lk) : Rdd T B w b v l lk w := ⟨v, h, Only.refl _ _, fun _ h => h⟩
theorem Rdd.trans (ho : Only (fun k => k = b) w w1) (hv : ∀ k, v1.ownBlock = some k → v.ownBlock = some k) (h2 : Rdd T B w1 b v1 l lk w') : Rdd T B w b v l lk w' := by
  obtain ⟨v2, hr, ho2, hv2⟩ := h2
  exact ⟨v2, hr, ho.trans ho2 (fun _ h => h) (fun _ _ h => h), fun k hk => hv k (hv2 k hk)⟩
end


theorem two_set0 {w : World} {b : Nat} {x y u : Value} {t : TypeId} (h : w.heap[b]? = some (.cells #[x, y] t (0, 0))) : (w.setCell ⟨b, 0, none⟩ u).heap[b]? = some (.cells #[u, y] t (0, 0)) := by
  have hlt := lt_of_block h
  have h' : w.heap[b] = .cells #[x, y] t (0, 0) := by simpa [Array.getElem?_eq_getElem hlt] using h
  show (w.heap.modify b _)[b]? = _
  rw [Array.getElem?_eq_getElem (by simpa using hlt), Array.getElem_modify_self, h']
  rfl
theorem two_set1 {w : World} {b : Nat} {x y u : Value} {t : TypeId} (h : w.heap[b]? = some (.cells #[x, y] t (0, 0))) : (w.setCell ⟨b, 1, none⟩ u).heap[b]? = some (.cells #[x, u] t (0, 0)) := by
  have hlt := lt_of_block h
  have h' : w.heap[b] = .cells #[x, y] t (0, 0) := by simpa [Array.getElem?_eq_getElem hlt] using h
  show (w.heap.modify b _)[b]? = _
  rw [Array.getElem?_eq_getElem (by simpa using hlt), Array.getElem_modify_self, h']
  rfl

set_option maxHeartbeats 400000 in
theorem fail_any (B : Nat) (w : World) (b : Nat) (v : Value) (l : List Int) (lk : Bool) (h : Rd 148 B w b v l lk) :
    Calls Tryd.prog 78 #[.pointer (some ⟨b, 0, none⟩)] w fun e w' => e = .returned (.tuple #[]) ∧ Rdd 148 B w b v [] true w' := by
  have c0 := h.c0
  have c1 := h.c1
  have f0 := frozen_of_row w b 0 _ _ h.at_
  have f1 := frozen_of_row w b 1 _ _ h.at_
  have h1 := two_set1 (u := .bool true) (two_set0 (u := .slice none 0 0) h.at_)
  have R : Rdd 148 B w b v [] true ((w.setCell ⟨b, 0, none⟩ (.slice none 0 0)).setCell ⟨b, 1, none⟩ (.bool true)) :=
    ⟨_, ⟨h.base, h1, SeenR.nil _, fun k hk => by simp [Value.ownBlock] at hk, Okb.nil, by simp, fun _ => rfl⟩, ((Only.refl (fun k => k = b) w).setCell (p := ⟨b, 0, none⟩) rfl _).setCell (p := ⟨b, 1, none⟩) rfl _, fun k hk => by simp [Value.ownBlock] at hk⟩
  have HR := Lib.hid R
  clear R h h1
  go_enter Tryd.func78, Tryd.ntmps78
  go_wp2
  go_end0
  exact ⟨rfl, HR.out⟩

theorem newreader_any (w : World) (B : Nat) (hB : B ≤ w.heap.size) (u : Value) (l : List Int) (hl : l.length ≤ 140737488351232) (hk : Okb l) (hs : Seen w u l) :
    Calls Tryd.prog 52 #[u] w fun e w' => ∃ b v, e = .returned (.pointer (some ⟨b, 0, none⟩)) ∧ Rd 148 B w' b v l false ∧ Below w.heap.size w w' ∧ w.heap.size ≤ b ∧ (∀ k, v.ownBlock = some k → w.heap.size ≤ k) := by
  go_enter Tryd.func52, Tryd.ntmps52
  go_wp2_with (go_at_call 55; refine (clone_any _ _ l hl hs).mono ?_; rintro e w1 ⟨v', rfl, R1, R2⟩; have HR1 := Lib.hid R1; have HR2 := Lib.hid R2; rcases R1.2 with ⟨rfl, _⟩ | ⟨g, gc, cur, rfl, hbg, hg, rest⟩ <;> clear R1 R2)
  all_goals
    go_ret
    have hz := HR2.out.size
    refine ⟨w1.heap.size, _, rfl, ⟨by omega, heap_alloc_new w1 _, (SeenR.own HR1.out).kept ?_, ?_, hk, hl, by simp⟩, HR2.out.alloc hz _, hz, ?_⟩
    · intro k hk
      exact Below.heap_alloc _ _ _ (HR1.out.lt k hk).2
    · intro k hk
      have := HR1.out.lt k hk
      exact ⟨by omega, by omega, by simp; omega⟩
    · intro k hk
      exact (HR1.out.lt k hk).1
end Go.Proofs.YtdnpgdhkeofphaaDoor
