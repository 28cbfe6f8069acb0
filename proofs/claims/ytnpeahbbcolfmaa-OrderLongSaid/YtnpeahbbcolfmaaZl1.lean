/- A part (1 of 3) of what is needed to prove: OrderLong returns true, whatever the memory holds and whatever the schedule is. No condition. -/
import Derived.Test.YtnpeahbbcolfmaaChecked
import Derived.WalkKit
import Derived.WalkSpells
import Derived.BigRegion
import Derived.Deep.RegionLaw
import Derived.Deep.DrawnRows
import Derived.Deep.AppendLies
import Derived.KernelRfl
import Derived.Lib.Hide
import Derived.Lib.EndianBits
import Derived.Laws.BitsAllLaws
import Derived.RowKit
import Derived.Maps.OwnSet
import Derived.Laws.Tables
import Derived.Deep.WholeRow
import Derived.Deep.MidRow
import Derived.Laws.BytesArg
import Derived.Lib.Bytealg
import Derived.Lib.Strings
import Derived.Laws.AppendOwnNone
import Derived.Deep.Onto
import Derived.OwnWalk
import Derived.Lib.VarintBits
import Derived.Deep.RegionWith
import Derived.Lib.BytesEntry
import Derived.Deep.QuietTactic
import Derived.BigQuiet
import Derived.ChangeKeysEq
import Derived.IntWalk
import Derived.Lib.SliceRun
import Derived.Laws.Concat
import Derived.Great.BuildSlice
import Derived.Deep.RegionHeld3
import Derived.DeepKeys4
import Derived.ChangeSlices
import Derived.WideKeyEntry
import Derived.Maps.RangeWalk
import Derived.Sort.MapsRangeIn
import Derived.Shelf.SlSortCmp.NoneTotal
import Derived.RangeFuncNested
import Derived.RangeFuncBound
import Derived.RangeFuncCalls
import Derived.RangeFuncLeaves
import Derived.RangeFuncBox
import Derived.Shelf.Abstract
import Derived.Shelf.RegionOpen
import Derived.OwnWalkIn
import Derived.TacticsInMore
import Derived.LoopNIn
import Derived.LoopIn
import Derived.Maps.AppendAt
import Derived.Shelf.SlMaps.Clone
import Derived.Shelf.SlGeneric
import Derived.Shelf.Lay
import Derived.Stop.Asserts
import Derived.LaidEql
import Derived.RowKitTokens
set_option linter.unusedSimpArgs false
set_option linter.unusedVariables false
namespace Go.Proofs.Ytnpeahbbcolfmaa
open Go.RowKit
/-- Numbers as bytes in memory. -/
abbrev us (l : List Int) : List Value := l.map (Value.int .u8)

/-- Every number of the list is a byte. -/
def Okb (l : List Int) : Prop := ∀ x ∈ l, 0 ≤ x ∧ x < 256
theorem Okb.nil : Okb [] := by intro x hx; cases hx
theorem Okb.app {l m : List Int} (h : Okb l) (k : Okb m) : Okb (l ++ m) := by
  intro x hx
  rcases List.mem_append.1 hx with hx | hx
  · exact h x hx
  · exact k x hx
theorem Okb.tail {x : Int} {l : List Int} (h : Okb (x :: l)) : Okb l := fun y hy => h y (List.mem_cons_of_mem _ hy)
theorem Okb.drop {l : List Int} (h : Okb l) (n : Nat) : Okb (l.drop n) := fun y hy => h y (List.mem_of_mem_drop hy)
theorem Okb.take {l : List Int} (h : Okb l) (n : Nat) : Okb (l.take n) := fun y hy => h y (List.mem_of_mem_take hy)

/-- Between w and w' nothing has turned but the blocks that S names and new ones. -/
structure Only (S : Nat → Prop) (w w' : World) : Prop where
  os : w'.os = w.os
  tape : w'.tape = w.tape
  output : w'.output = w.output
  size : w.heap.size ≤ w'.heap.size
  block : ∀ k, k < w.heap.size → ¬ S k → w'.heap[k]? = w.heap[k]?

theorem Only.refl (S : Nat → Prop) (w : World) : Only S w w := ⟨rfl, rfl, rfl, Nat.le_refl _, fun _ _ _ => rfl⟩
theorem Only.drew {S : Nat → Prop} {a w : World} (h : Only S a w) : Only S a w.drew := ⟨h.os, h.tape, h.output, h.size, h.block⟩
theorem Only.trans {S T U : Nat → Prop} {a b c : World} (h : Only S a b) (k : Only T b c) (hS : ∀ x, S x → U x) (hT : ∀ x, x < a.heap.size → T x → U x) : Only U a c :=
  ⟨k.os.trans h.os, k.tape.trans h.tape, k.output.trans h.output, Nat.le_trans h.size k.size, fun i hi hu =>
    (k.block i (Nat.lt_of_lt_of_le hi h.size) (fun ht => hu (hT i hi ht))).trans (h.block i hi (fun hs => hu (hS i hs)))⟩
theorem Only.mono {S T : Nat → Prop} {a b : World} (h : Only S a b) (hS : ∀ x, x < a.heap.size → S x → T x) : Only T a b :=
  ⟨h.os, h.tape, h.output, h.size, fun i hi hu => h.block i hi (fun hs => hu (hS i hi hs))⟩
theorem Only.alloc {S : Nat → Prop} {a w : World} (h : Only S a w) (o : Obj) : Only S a (w.alloc o) :=
  h.trans (T := fun _ => False) ⟨rfl, rfl, rfl, by simp, fun k hk _ => Below.heap_alloc _ _ _ hk⟩ (fun _ h => h) (fun _ _ h => h.elim)
theorem Only.setCell {S : Nat → Prop} {a w : World} (h : Only S a w) {p : Addr} (hp : S p.block) (u : Value) : Only S a (w.setCell p u) :=
  h.trans (T := fun k => k = p.block) ⟨rfl, rfl, rfl, by simp [World.setCell], fun k _ hk => Below.heap_setCell _ _ _ _ hk⟩ (fun _ h => h) (fun _ _ h => h ▸ hp)
theorem Only.grown {S : Nat → Prop} {a w w' : World} {row : Option Nat} (h : Only S a w) (hg : w.grownBy w' row) (hr : ∀ k, k < a.heap.size → row = some k → S k) : Only S a w' :=
  h.trans (T := fun k => row = some k) ⟨hg.os, hg.tape, hg.output, hg.size, fun k hk hn => hg.block k hk (fun e => hn e.symm)⟩ (fun _ h => h) (fun k hk e => hr k hk e)
theorem Only.below {S : Nat → Prop} {w w' : World} {B : Nat} (h : Only S w w') (hB : B ≤ w.heap.size) (hS : ∀ k, S k → B ≤ k) : Below B w w' :=
  ⟨h.os, h.tape, h.output, h.size, fun k hk => h.block k (by omega) (fun hs => by have := hS k hs; omega)⟩
theorem Only.of_below {w w' : World} {S : Nat → Prop} (h : Below w.heap.size w w') : Only S w w' :=
  ⟨h.os, h.tape, h.output, h.size, fun k hk _ => h.block k hk⟩

/-- The object at block b: one cell, the slice v, which owns the bytes xs. -/
def Wr (T B : Nat) (w : World) (b : Nat) (v : Value) (xs : List Int) : Prop :=
  B ≤ b ∧ w.heap[b]? = some (.cells #[v] T (0, 0)) ∧ w.ownsRow B 5 1 v xs.length (us xs)

/-- Behind a call that wrote to that object: it holds the bytes ys now, and nothing else has turned. -/
def Wrote (T B : Nat) (w : World) (b : Nat) (v : Value) (ys : List Int) (w' : World) : Prop :=
  ∃ v', Wr T B w' b v' ys ∧ Only (fun k => k = b ∨ v.ownBlock = some k) w w' ∧ (v'.ownBlock = v.ownBlock ∨ ∃ g, v'.ownBlock = some g ∧ w.heap.size ≤ g)

theorem Wr.cell {T B b : Nat} {w : World} {v : Value} {xs : List Int} (h : Wr T B w b v xs) : w.cell? ⟨b, 0, none⟩ = some v := by
  rw [cell_of_row w b 0 _ _ _ h.2.1]; rfl
theorem Wr.apart {T B b : Nat} {w : World} {v : Value} {xs : List Int} (hT : T ≠ 5) (h : Wr T B w b v xs) : some b ≠ v.ownBlock := by
  intro he
  obtain ⟨_, h1, _, h2⟩ := h
  rcases h2 with ⟨rfl, _⟩ | ⟨g, cap, cur, rfl, _, hg, _⟩
  · simp [Value.ownBlock] at he
  · simp [Value.ownBlock] at he
    subst he
    rw [h1] at hg
    simp at hg
    exact hT hg.2
theorem Wr.lt {T B b : Nat} {w : World} {v : Value} {xs : List Int} (h : Wr T B w b v xs) : b < w.heap.size := (Array.getElem?_eq_some_iff.1 h.2.1).1
theorem Wr.ownlt {T B b : Nat} {w : World} {v : Value} {xs : List Int} (h : Wr T B w b v xs) {k : Nat} (hk : v.ownBlock = some k) : k < w.heap.size := (h.2.2.lt k hk).2
theorem Wr.base {T B b : Nat} {w : World} {v : Value} {xs : List Int} (h : Wr T B w b v xs) : B ≤ w.heap.size := Nat.le_trans h.1 (Nat.le_of_lt h.lt)
/-- The object is as it was where neither its block nor its row has turned. -/
theorem Wr.kept {T B b : Nat} {w w' : World} {v : Value} {xs : List Int} {S : Nat → Prop} (h : Wr T B w b v xs) (ho : Only S w w') (hb : ¬ S b) (hv : ∀ k, v.ownBlock = some k → ¬ S k) : Wr T B w' b v xs := by
  refine ⟨h.1, (ho.block b h.lt hb).trans h.2.1, h.2.2.1, ?_⟩
  rcases h.2.2.2 with hn | ⟨g, cap, cur, rfl, hbg, hg, rest⟩
  · exact .inl hn
  · exact .inr ⟨g, cap, cur, rfl, hbg, (ho.block g (h.ownlt rfl) (hv g rfl)).trans hg, rest⟩

theorem Wr.kb {T B b : Nat} {w w' : World} {v : Value} {xs : List Int} (h : Wr T B w b v xs) (hb : Below w.heap.size w w') : Wr T B w' b v xs := h.kept (S := fun _ => False) (Only.of_below hb) (fun h => h) (fun _ _ h => h)
theorem Wr.below {T B b : Nat} {w w' : World} {v : Value} {xs : List Int} (h : Wr T B w b v xs) (o : Only (fun k => k = b ∨ v.ownBlock = some k) w w') : Below B w w' :=
  o.below h.base fun k hk => by
    rcases hk with rfl | hk
    · exact h.1
    · exact (h.2.2.lt k hk).1

theorem Wrote.refl {T B b : Nat} {w : World} {v : Value} {xs : List Int} (h : Wr T B w b v xs) : Wrote T B w b v xs w :=
  ⟨v, h, Only.refl _ _, .inl rfl⟩
theorem Wrote.trans {T B b : Nat} {w w1 w2 : World} {v v1 : Value} {ys zs : List Int} (_h : Wr T B w1 b v1 ys) (ho : Only (fun k => k = b ∨ v.ownBlock = some k) w w1)
    (hv : v1.ownBlock = v.ownBlock ∨ ∃ g, v1.ownBlock = some g ∧ w.heap.size ≤ g) (h2 : Wrote T B w1 b v1 zs w2) : Wrote T B w b v zs w2 := by
  obtain ⟨v2, hw2, ho2, hv2⟩ := h2
  refine ⟨v2, hw2, ho.trans ho2 (fun _ h => h) ?_, ?_⟩
  · intro x hx h
    rcases h with h | h
    · exact .inl h
    · rcases hv with hv | ⟨g, hg, hs⟩
      · exact .inr (hv ▸ h)
      · rw [hg] at h; cases h; omega
  · rcases hv2 with hv2 | ⟨g, hg, hs⟩
    · rw [hv2]; exact hv
    · exact .inr ⟨g, hg, Nat.le_trans ho.size hs⟩

/-- One statement 'o.f = append(o.f, ..)' behind what was written before. -/
theorem Wrote.app {T B b : Nat} {w wr wx w1 : World} {v v' : Value} {zs news : List Int} {g cap H n : Nat} (hT : T ≠ 5) (h : Wr T B wr b v' zs) (ho : Only (fun k => k = b ∨ v.ownBlock = some k) w wr)
    (hv : v'.ownBlock = v.ownBlock ∨ ∃ g, v'.ownBlock = some g ∧ w.heap.size ≤ g) (hx : Below wr.heap.size wr wx)
    (hn : n = zs.length + news.length) (hown : w1.ownsRow B 5 1 (.slice (some ⟨g, 0, none⟩) n cap) n (us zs ++ us news)) (hgrow : wx.grownBy w1 v'.ownBlock)
    (hat : v'.ownBlock = some g ∨ g = H) (hH : wr.heap.size ≤ H) : Wrote T B w b v (zs ++ news) (w1.setCell ⟨b, 0, none⟩ (.slice (some ⟨g, 0, none⟩) n cap)) := by
  have hap := h.apart hT
  have hb1 : w1.heap[b]? = some (.cells #[v'] T (0, 0)) := ((hgrow.block b (Nat.lt_of_lt_of_le h.lt hx.size) hap).trans (hx.block b h.lt)).trans h.2.1
  have hgb : g ≠ b := by
    intro e
    subst e
    rcases hown.2 with ⟨hs, _⟩ | ⟨g', cap', cur, hs, _, hg, _⟩
    · cases hs
    · cases hs
      rw [hb1] at hg
      simp at hg
      exact hT hg.2
  have honly : Only (fun k => k = b ∨ v.ownBlock = some k) w w1 := by
    refine Only.grown (ho.trans (T := fun _ => False) (Only.of_below hx) (fun _ h => h) (fun _ _ h => h.elim)) hgrow ?_
    intro k hk e
    rcases hv with hv | ⟨g2, hg2, hs⟩
    · exact .inr (hv ▸ e)
    · rw [hg2] at e; cases e; omega
  refine ⟨.slice (some ⟨g, 0, none⟩) n cap, ⟨h.1, one_setCell hb1, ?_⟩, honly.setCell (.inl rfl) _, ?_⟩
  · have hl : (zs ++ news).length = n := by rw [List.length_append, hn]
    refine ⟨by simp, ?_⟩
    rcases hown.2 with ⟨hs, _⟩ | ⟨g', cap', cur, hs, hbg, hg, r1, r2, r3, r4⟩
    · cases hs
    · cases hs
      refine .inr ⟨g, cap, cur, by rw [hl], hbg, ?_, by rw [hl]; exact r1, r2, r3, ?_⟩
      · rw [Below.heap_setCell _ _ _ _ hgb]; exact hg
      · rw [hl, r4]; simp [us]
  · rcases hat with hat | hat
    · rcases hv with hv | ⟨g2, hg2, hs⟩
      · exact .inl (by rw [← hv, hat]; rfl)
      · exact .inr ⟨g2, by rw [← hg2, hat]; rfl, hs⟩
    · exact .inr ⟨g, rfl, by have := ho.size; omega⟩

/-- The same value stored anew. -/
theorem Wrote.same {T B b : Nat} {w w1 : World} {v v' : Value} {xs : List Int} (h : Wr T B w b v xs) (hT : T ≠ 5) (hown : w1.ownsRow B 5 1 v' xs.length (us xs)) (hgrow : w.grownBy w1 v.ownBlock)
    (hat : v'.ownBlock = v.ownBlock ∨ v'.ownBlock = some w.heap.size) : Wrote T B w b v xs (w1.setCell ⟨b, 0, none⟩ v') := by
  have hap := h.apart hT
  have hb1 : w1.heap[b]? = some (.cells #[v] T (0, 0)) := (hgrow.block b h.lt hap).trans h.2.1
  have honly : Only (fun k => k = b ∨ v.ownBlock = some k) w w1 := Only.grown (Only.refl _ _) hgrow (fun k _ e => .inr e)
  refine ⟨v', ⟨h.1, one_setCell hb1, hown.1, ?_⟩, honly.setCell (.inl rfl) _, ?_⟩
  · rcases hown.2 with hn | ⟨g, cap, cur, rfl, hbg, hg, rest⟩
    · exact .inl hn
    · refine .inr ⟨g, cap, cur, rfl, hbg, ?_, rest⟩
      rw [Below.heap_setCell _ _ _ _ ?_]
      · exact hg
      · intro e
        simp only at e
        subst e
        rw [hb1] at hg
        simp at hg
        exact hT hg.2
  · rcases hat with hat | hat
    · exact .inl hat
    · exact .inr ⟨_, hat, Nat.le_refl _⟩

/-- Byte j of n, counted from the least significant one. -/
def byteAt (n : Int) (j : Nat) : Int := IntKind.u8.wrap (n / 2 ^ (8 * j))
/-- The m lowest bytes of n, the most significant one first. -/
def be (n : Int) : Nat → List Int
  | 0 => []
  | j + 1 => byteAt n j :: be n j
/-- The slice v holds the bytes l in w. -/
def Seen (w : World) (v : Value) (l : List Int) : Prop :=
  (v = .slice none 0 0 ∧ l = []) ∨ ∃ a cap, v = .slice (some a) l.length cap ∧ l.length ≤ cap ∧ ∀ j u, (us l)[j]? = some u → w.cell? (a.add j) = some u

theorem Addr.add_block (a : Addr) (j : Nat) : (a.add j).block = a.block := by unfold Addr.add; split <;> rfl
theorem Seen.kept {w w' : World} {v : Value} {l : List Int} (h : Seen w v l) (hb : ∀ k, v.ownBlock = some k → w'.heap[k]? = w.heap[k]?) : Seen w' v l := by
  rcases h with h | ⟨a, cap, rfl, hc, hu⟩
  · exact .inl h
  · refine .inr ⟨a, cap, rfl, hc, fun j u hj => ?_⟩
    rw [World.cell?_of_block (w := w) (a := a.add j) (by rw [Addr.add_block]; exact hb _ rfl)]
    exact hu j u hj
theorem Seen.kb {w w' : World} {v : Value} {l : List Int} (h : Seen w v l) (hb : Below w.heap.size w w') : Seen w' v l := by
  rcases h with h | ⟨a, cap, rfl, hc, hu⟩
  · exact .inl h
  · refine .inr ⟨a, cap, rfl, hc, fun j u hj => ?_⟩
    have h1 := hu j u hj
    have h2 := World.block_lt_of_cell? w _ h1
    rw [World.cell?_of_block (w := w) (hb.block _ h2)]
    exact h1
theorem Seen.nil (w : World) : Seen w (.slice none 0 0) [] := .inl ⟨rfl, rfl⟩
theorem Seen.own {w : World} {B : Nat} {v : Value} {l : List Int} (h : w.ownsRow B 5 1 v l.length (us l)) : Seen w v l := by
  have hc : ∀ g, v.ownBlock = some g → _ := fun g hg => h.cells (g := g) hg
  rcases h.2 with ⟨rfl, h0⟩ | ⟨g, cap, cur, rfl, _, _, hn, _⟩
  · exact .inl ⟨rfl, List.eq_nil_of_length_eq_zero h0⟩
  · exact .inr ⟨_, cap, rfl, hn, hc _ rfl⟩

theorem u8info : (Try.prog.info? 5).map (fun i => (i.zero, i.size, i.bytes)) = some (some (.int .u8 0), 1, 1) := by kernel_rfl

end Go.Proofs.Ytnpeahbbcolfmaa
namespace Go.Proofs.Ytnpeahbbcolfmaa
open Go.RowKit
end Go.Proofs.Ytnpeahbbcolfmaa
namespace Go.Proofs.Ytnpeahbbcolfmaa
open Go.RowKit
end Go.Proofs.Ytnpeahbbcolfmaa
namespace Go.Proofs.Ytnpeahbbcolfmaa
open Go.RowKit
open Go.Maps
abbrev Key := List UInt8

theorem bb_irrefl : ∀ a : Key, bytesBefore a a = false
  | [] => rfl
  | x :: a => by simp [bytesBefore, bb_irrefl a, UInt8.lt_irrefl]
theorem bb_trans : ∀ a b c : Key, bytesBefore a b = true → bytesBefore b c = true → bytesBefore a c = true
  | [], [], _, h, _ => by simp [bytesBefore] at h
  | [], _ :: _, [], _, h => by simp [bytesBefore] at h
  | [], _ :: _, _ :: _, _, _ => rfl
  | _ :: _, [], _, h, _ => by simp [bytesBefore] at h
  | _ :: _, _ :: _, [], _, h => by simp [bytesBefore] at h
  | x :: a, y :: b, z :: c, h1, h2 => by
    simp only [bytesBefore, Bool.or_eq_true, Bool.and_eq_true, decide_eq_true_eq, beq_iff_eq] at h1 h2 ⊢
    rcases h1 with h1 | ⟨rfl, h1⟩
    · rcases h2 with h2 | ⟨rfl, h2⟩
      · exact .inl (UInt8.lt_trans h1 h2)
      · exact .inl h1
    · rcases h2 with h2 | ⟨rfl, h2⟩
      · exact .inl h2
      · exact .inr ⟨rfl, bb_trans a b c h1 h2⟩
theorem bb_total : ∀ a b : Key, bytesBefore a b = true ∨ a = b ∨ bytesBefore b a = true
  | [], [] => .inr (.inl rfl)
  | [], _ :: _ => .inl rfl
  | _ :: _, [] => .inr (.inr rfl)
  | x :: a, y :: b => by
    simp only [bytesBefore, Bool.or_eq_true, Bool.and_eq_true, decide_eq_true_eq, beq_iff_eq]
    by_cases h1 : x < y
    · exact .inl (.inl h1)
    by_cases h2 : y < x
    · exact .inr (.inr (.inl h2))
    obtain rfl : x = y := UInt8.le_antisymm (UInt8.not_lt.1 h2) (UInt8.not_lt.1 h1)
    rcases bb_total a b with h | rfl | h
    · exact .inl (.inr ⟨rfl, h⟩)
    · exact .inr (.inl rfl)
    · exact .inr (.inr (.inr ⟨rfl, h⟩))

section
variable {α β : Type}
/-- A file laid in its place. -/
def ains (x : Key × α) : List (Key × α) → List (Key × α)
  | [] => [x]
  | y :: r => if bytesBefore x.1 y.1 then x :: y :: r else y :: ains x r
def adel (n : Key) (l : List (Key × α)) : List (Key × α) := l.filter fun p => !(p.1 == n)
def aput (n : Key) (a : α) (l : List (Key × α)) : List (Key × α) := ains (n, a) (adel n l)
def aget (n : Key) (l : List (Key × α)) : Option α := (l.find? fun p => p.1 == n).map (·.2)

theorem fpos {m : Key} {y : Key × α} {l : List (Key × α)} (h : (y.1 == m) = true) : (y :: l).find? (fun p => p.1 == m) = some y := List.find?_cons_of_pos (p := fun p : Key × α => p.1 == m) h
theorem fneg {m : Key} {y : Key × α} {l : List (Key × α)} (h : ¬ (y.1 == m) = true) : (y :: l).find? (fun p => p.1 == m) = l.find? (fun p => p.1 == m) := List.find?_cons_of_neg (p := fun p : Key × α => p.1 == m) h
theorem gpos {m : Key} {y : Key × α} {l : List (Key × α)} (h : y.1 = m) : aget m (y :: l) = some y.2 := by unfold aget; rw [fpos (by simpa using h)]; rfl
theorem gneg {m : Key} {y : Key × α} {l : List (Key × α)} (h : ¬ y.1 = m) : aget m (y :: l) = aget m l := by unfold aget; rw [fneg (by simpa using h)]
def AAsc (l : List (Key × α)) : Prop := l.Pairwise fun p q => bytesBefore p.1 q.1 = true
theorem AAsc.nil : AAsc ([] : List (Key × α)) := List.Pairwise.nil
theorem AAsc.del {l : List (Key × α)} (h : AAsc l) (n : Key) : AAsc (adel n l) := h.sublist List.filter_sublist
theorem ains_mem (x : Key × α) : ∀ (l : List (Key × α)) (y : Key × α), y ∈ ains x l ↔ y = x ∨ y ∈ l
  | [], y => by simp [ains]
  | z :: l, y => by
    rw [ains]
    split
    · simp
    · simp only [List.mem_cons, ains_mem x l y]
      constructor
      · rintro (h | h | h) <;> simp [h]
      · rintro (h | h | h) <;> simp [h]
theorem adel_mem (n : Key) (l : List (Key × α)) (y : Key × α) : y ∈ adel n l ↔ y ∈ l ∧ y.1 ≠ n := by
  simp [adel, List.mem_filter]
theorem AAsc.ins {x : Key × α} : ∀ {l : List (Key × α)}, AAsc l → (∀ y ∈ l, y.1 ≠ x.1) → AAsc (ains x l)
  | [], _, _ => List.pairwise_singleton _ _
  | y :: l, h, hx => by
    obtain ⟨h1, h2⟩ := List.pairwise_cons.1 h
    rw [ains]
    split
    · rename_i hb
      refine List.pairwise_cons.2 ⟨fun z hz => ?_, h⟩
      rcases List.mem_cons.1 hz with rfl | hz
      · exact hb
      · exact bb_trans _ _ _ hb (h1 z hz)
    · rename_i hb
      refine List.pairwise_cons.2 ⟨fun z hz => ?_, AAsc.ins h2 (fun z hz => hx z (List.mem_cons_of_mem _ hz))⟩
      rcases (ains_mem _ _ _).1 hz with rfl | hz
      · rcases bb_total y.1 z.1 with h3 | h3 | h3
        · exact h3
        · exact absurd h3 (hx y List.mem_cons_self)
        · exact absurd h3 hb
      · exact h1 z hz
theorem AAsc.put {l : List (Key × α)} (h : AAsc l) (n : Key) (a : α) : AAsc (aput n a l) :=
  (h.del n).ins fun y hy => ((adel_mem n l y).1 hy).2

theorem aget_ins_same (n : Key) (a : α) : ∀ l : List (Key × α), (∀ y ∈ l, y.1 ≠ n) → aget n (ains (n, a) l) = some a
  | [], _ => by simp [ains, aget]
  | y :: l, h => by
    have h1 : y.1 ≠ n := h y List.mem_cons_self
    have ih := aget_ins_same n a l (fun z hz => h z (List.mem_cons_of_mem _ hz))
    rw [ains]
    split
    · simp [aget]
    · rw [gneg h1]; exact ih
theorem aget_ins_other (n m : Key) (a : α) (hne : m ≠ n) : ∀ l : List (Key × α), aget m (ains (n, a) l) = aget m l
  | [] => by simp [ains, aget, Ne.symm hne]
  | y :: l => by
    have ih := aget_ins_other n m a hne l
    rw [ains]
    split
    · simp [aget, Ne.symm hne]
    · by_cases h : y.1 = m
      · rw [gpos h, gpos h]
      · rw [gneg h, gneg h]; exact ih
theorem aget_del_other (n m : Key) (hne : m ≠ n) : ∀ l : List (Key × α), aget m (adel n l) = aget m l
  | [] => rfl
  | y :: l => by
    have ih := aget_del_other n m hne l
    unfold adel at ih ⊢
    by_cases h : y.1 = n
    · rw [List.filter_cons_of_neg (by simp [h]), gneg (by rw [h]; exact Ne.symm hne)]
      exact ih
    · rw [List.filter_cons_of_pos (by simpa using h)]
      by_cases h2 : y.1 = m
      · rw [gpos h2, gpos h2]
      · rw [gneg h2, gneg h2]; exact ih
theorem aget_put_same (n : Key) (a : α) (l : List (Key × α)) : aget n (aput n a l) = some a := aget_ins_same n a _ fun y hy => ((adel_mem n l y).1 hy).2
theorem aget_put_other (n m : Key) (a : α) (hne : m ≠ n) (l : List (Key × α)) : aget m (aput n a l) = aget m l := by
  rw [aput, aget_ins_other n m a hne, aget_del_other n m hne]
theorem aget_mem {n : Key} {a : α} {l : List (Key × α)} (h : aget n l = some a) : (n, a) ∈ l := by
  unfold aget at h
  obtain ⟨p, hp, rfl⟩ := Option.map_eq_some_iff.1 h
  have h1 := List.mem_of_find?_eq_some hp
  have h2 := List.find?_some hp
  simp only [beq_iff_eq] at h2
  rw [← h2]; exact h1
theorem aget_of_mem {n : Key} {a : α} : ∀ {l : List (Key × α)}, AAsc l → (n, a) ∈ l → aget n l = some a
  | [], _, h => by cases h
  | y :: l, hs, h => by
    obtain ⟨h1, h2⟩ := List.pairwise_cons.1 hs
    rcases List.mem_cons.1 h with rfl | h
    · simp [aget]
    · have h3 := h1 _ h
      have h4 : y.1 ≠ n := fun e => by rw [e] at h3; rw [bb_irrefl] at h3; cases h3
      rw [gneg h4]; exact aget_of_mem h2 h

/-- What all files come to. -/
def asum (f : α → Nat) (l : List (Key × α)) : Nat := (l.map fun p => f p.2).sum
theorem asum_ins (f : α → Nat) (x : Key × α) : ∀ l, asum f (ains x l) = f x.2 + asum f l
  | [] => by simp [ains, asum]
  | y :: l => by
    have ih := asum_ins f x l
    rw [ains]
    split
    · simp [asum]
    · simp only [asum, List.map_cons, List.sum_cons] at ih ⊢; omega
def olen (f : α → Nat) : Option α → Nat
  | none => 0
  | some a => f a
theorem adel_none {n : Key} : ∀ {l : List (Key × α)}, aget n l = none → adel n l = l
  | [], _ => rfl
  | y :: l, h => by
    by_cases hy : y.1 = n
    · rw [gpos hy] at h; cases h
    · rw [gneg hy] at h
      have ih := adel_none (l := l) h
      unfold adel at ih ⊢
      rw [List.filter_cons_of_pos (by simpa using hy), ih]
theorem asum_del (f : α → Nat) (n : Key) : ∀ {l : List (Key × α)}, AAsc l → asum f (adel n l) + olen f (aget n l) = asum f l
  | [], _ => rfl
  | y :: l, h => by
    obtain ⟨h1, h2⟩ := List.pairwise_cons.1 h
    have ih := asum_del f n h2
    by_cases hy : y.1 = n
    · have a1 : aget n l = none := by
        cases hg : aget n l with
        | none => rfl
        | some a => have := h1 _ (aget_mem hg); rw [hy, bb_irrefl] at this; cases this
      have a2 : adel n (y :: l) = l := by
        have := adel_none a1
        unfold adel at this ⊢
        rw [List.filter_cons_of_neg (by simp [hy]), this]
      have a3 : aget n (y :: l) = some y.2 := gpos hy
      rw [a2, a3]
      simp only [olen, asum, List.map_cons, List.sum_cons]; omega
    · have a2 : adel n (y :: l) = y :: adel n l := by unfold adel; rw [List.filter_cons_of_pos (by simpa using hy)]
      have a3 : aget n (y :: l) = aget n l := gneg hy
      rw [a2, a3]
      simp only [asum, List.map_cons, List.sum_cons] at ih ⊢; omega
theorem asum_put (f : α → Nat) (n : Key) (a : α) {l : List (Key × α)} (h : AAsc l) : asum f (aput n a l) + olen f (aget n l) = f a + asum f l := by
  rw [aput, asum_ins]
  have := asum_del f n h
  simp only; omega

/-- Files of which less is told. -/
def amap (g : α → β) (l : List (Key × α)) : List (Key × β) := l.map fun p => (p.1, g p.2)
theorem amap_ins (g : α → β) (x : Key × α) : ∀ l, amap g (ains x l) = ains (x.1, g x.2) (amap g l)
  | [] => rfl
  | y :: l => by
    have ih := amap_ins g x l
    simp only [ains, amap, List.map_cons] at ih ⊢
    split <;> simp [ih]
theorem amap_del (g : α → β) (n : Key) (l : List (Key × α)) : amap g (adel n l) = adel n (amap g l) := by
  unfold amap adel
  rw [List.filter_map]
  rfl
theorem amap_put (g : α → β) (n : Key) (a : α) (l : List (Key × α)) : amap g (aput n a l) = aput n (g a) (amap g l) := by
  rw [aput, amap_ins, amap_del]; rfl
theorem amap_get (g : α → β) (n : Key) : ∀ l : List (Key × α), aget n (amap g l) = (aget n l).map g
  | [] => rfl
  | y :: l => by
    have ih := amap_get g n l
    unfold amap at ih ⊢
    rw [List.map_cons]
    by_cases hy : y.1 = n
    · rw [gpos hy, gpos (by exact hy)]; rfl
    · rw [gneg hy, gneg (by exact hy)]; exact ih
end
/-- A map's element read as what it is. -/
def rdv (v : Value) : Option (DataW Value × List MemPlace) := some (.held v, [])
theorem same_str (a b : Key) : (Lit.string a).sameKey (.string b) = (a == b) := rfl
end Go.Proofs.Ytnpeahbbcolfmaa
namespace Go.Proofs.Ytnpeahbbcolfmaa
open Go.RowKit
variable {P : Program} {ops : Array Oper} {rest : List Oper} {a : Act} {w : World} {Q : Exit → Act → World → Prop} {dst : Option Tmp} {T : TypeId} {pos : String} {after : Array Edge}
theorem load_to {ty : TypeId} {x : Operand} {b o : Nat} {cs : List Value} {d : TypeDesc} (hc : w.rangeAt b o cs) (hu : P.underlying ty = some d) (hd : d.isRow = true) (hi : (P.info? ty).map (·.size) = some cs.length)
    (hx : a.eval x = .pointer (some ⟨b, o, none⟩)) (h : wpList P ops Q rest (a.put dst (.agg cs.toArray)) w) : wpList P ops Q (⟨dst, .load ty x, T, pos, after, none⟩ :: rest) a w :=
  wpList_load_mid rfl ty x rfl b o hx cs d hc hu hd hi h

theorem move_to {x : Operand} (h : wpList P ops Q rest (a.put dst (a.eval x)) w) : wpList P ops Q (⟨dst, .move x, T, pos, after, none⟩ :: rest) a w :=
  wpList_plain rfl fun _ hK => by
    unfold Oper.wp execOp
    simp only [Sem.run_pure]
    exact hK _ _ h

theorem build_to {t : TypeId} {parts : Array (Nat × Operand)} {vals : Array (Nat × Value)} {cells : Array Value} (hr : P.built t vals.toList = some cells) (hv : (parts.map fun (i, x) => (i, a.eval x)) = vals)
    (h : wpList P ops Q rest (a.put dst (.agg cells)) w) : wpList P ops Q (⟨dst, .build t parts, T, pos, after, none⟩ :: rest) a w :=
  wpList_plain rfl fun _ hK => wp_build t parts rfl (by rw [hv, hr]; rfl) (by rw [hv, hr]; exact hK _ _ h)

theorem store_to {ty : TypeId} {x y : Operand} {b o : Nat} {cells : Array Value} (ht : w.there b o cells.size) (hi : (P.info? ty).map (·.size) = some cells.size) (h1 : cells.all (·.oneCell') = true)
    (hx : a.eval x = .pointer (some ⟨b, o, none⟩)) (hy : a.eval y = .agg cells) (h : wpList P ops Q rest (a.put dst undef) (w.setCells b o cells.toList)) : wpList P ops Q (⟨dst, .store ty x y, T, pos, after, none⟩ :: rest) a w :=
  wpList_store_mid rfl ty x y rfl b o cells hx hy ht hi h1 h

theorem range_new (w : World) (h : Array Value) (t : TypeId) : (w.alloc (.cells h t)).rangeAt w.heap.size 0 h.toList := fun j v hv => by
  rw [Nat.zero_add, cell_of_row _ _ j h t (0, 0) (heap_alloc_last w _)]
  simpa using hv

theorem range_row {w : World} {p : Nat} {h : Array Value} {t : TypeId} (hp : w.heap[p]? = some (.cells h t (0, 0))) : w.rangeAt p 0 h.toList := fun j v hv => by
  rw [Nat.zero_add, cell_of_row w p j h t (0, 0) hp]
  simpa using hv

theorem Only.setCells {S : Nat → Prop} {b : Nat} (hb : S b) : ∀ (vs : List Value) (o : Nat) {a w : World}, Only S a w → Only S a (w.setCells b o vs)
  | [], _, _, _, h => h
  | v :: vs, o, _, _, h => Only.setCells hb vs (o + 1) (h.setCell (p := ⟨b, o, none⟩) hb v)

theorem there_row {w : World} {p : Nat} {h : Array Value} {t : TypeId} (hp : w.heap[p]? = some (.cells h t (0, 0))) : w.there p 0 h.size := fun j hj => by
  rw [Nat.zero_add]
  constructor
  · rw [cell_of_row w p j h t (0, 0) hp]; simp [hj]
  · have := free_of_one (w := w) (b := p) (v := .bool true) (t := t)
    clear this
    simp [World.frozen?, hp]

/-- The whole array, out of a block that was stored whole. -/
theorem loaded {t : TypeId} {d : TypeDesc} {b : Nat} {q : Array Value} (ht : w.there b 0 q.size) (hu : P.underlying t = some d) (hd : d.isRow = true) (hi : (P.info? t).map (·.size) = some q.size) :
    (loadVar t ⟨b, 0, none⟩).run P (w.setCells b 0 q.toList) = .ok (.agg q) (w.setCells b 0 q.toList) :=
  run_loadVar_mid _ b 0 t q.toList d (World.rangeAt_setCells_same _ _ _ _ (by simpa using ht)) hu hd (by simpa using hi)

end Go.Proofs.Ytnpeahbbcolfmaa
namespace Go.Proofs.Ytnpeahbbcolfmaa
open Go.RowKit
theorem pick_any (w : World) (n m : Int) (h : 0 < m) (hm : m ≤ 4611686018427387904) : Calls Try.prog 5 #[.int .i64 n, .int .i64 m] w fun e w' => e = .returned (.int .i64 (n % m)) ∧ w = w' := by
  have h1 := Int.tmod_lt_of_pos n h
  have h3 : ¬ m = 0 := by omega
  have h4 : n.tmod m = n % m ∨ (n.tmod m < 0 ∧ n.tmod m + m = n % m) := by
    have := Int.tmod_eq_emod (a := n) (b := m)
    have hp := Int.emod_nonneg n h3
    have hl := Int.emod_lt_of_pos n h
    split at this <;> omega
  have h2 : -m ≤ n.tmod m := by
    have hp := Int.emod_nonneg n h3
    omega
  have h5 := Int.emod_nonneg n h3
  have H4 := Lib.hid h4
  clear h4
  go_enter Try.func5, Try.ntmps5
  go_wp2
  all_goals go_ret
  · rcases H4.out with h | ⟨h, h'⟩
    · omega
    · exact ⟨by show Ending.returned (.int .i64 (n.tmod m + m)) = _; rw [h'], rfl⟩
  · rcases H4.out with h | ⟨h, h'⟩
    · exact ⟨by show Ending.returned (.int .i64 (n.tmod m)) = _; rw [h], rfl⟩
    · omega

theorem pick_to (w : World) (n m r : Int) (h : 0 < m) (hm : m ≤ 4611686018427387904) (hr : n % m = r) : Calls Try.prog 5 #[.int .i64 n, .int .i64 m] w fun e w' => e = .returned (.int .i64 r) ∧ w = w' := by
  subst hr
  exact pick_any w n m h hm

end Go.Proofs.Ytnpeahbbcolfmaa
namespace Go.Proofs.Ytnpeahbbcolfmaa
open Go.Op (bytesLess)
/-- Bytes as numbers. -/
def nmb (l : List UInt8) : List Int := l.map fun b => (b.toNat : Int)
theorem nm_length (l : List UInt8) : (nmb l).length = l.length := List.length_map _
theorem nm_str (l : List UInt8) : strOfNums (nmb l) = ⟨l.toArray⟩ := by
  unfold strOfNums nmb
  rw [List.map_map]
  congr 2
  have : ((fun n : Int => UInt8.ofNat n.toNat) ∘ fun b : UInt8 => (b.toNat : Int)) = id := by
    funext b; simp
  rw [this, List.map_id]

theorem less_irrefl : ∀ a, bytesLess a a = false
  | [] => rfl
  | x :: a => by simp [bytesLess, less_irrefl a]
theorem less_trans : ∀ a b c, bytesLess a b = true → bytesLess b c = true → bytesLess a c = true
  | _, [], _, h, _ => by cases ‹List UInt8› <;> simp [bytesLess] at h
  | _, _ :: _, [], _, h => by simp [bytesLess] at h
  | [], _ :: _, _ :: _, _, _ => rfl
  | x :: a, y :: b, z :: c, h, k => by
    simp only [bytesLess, Bool.or_eq_true, Bool.and_eq_true, decide_eq_true_eq, beq_iff_eq] at h k ⊢
    rcases h with h | ⟨rfl, h⟩
    · rcases k with k | ⟨rfl, k⟩
      · exact .inl (UInt8.lt_trans h k)
      · exact .inl h
    · rcases k with k | ⟨rfl, k⟩
      · exact .inl k
      · exact .inr ⟨rfl, less_trans a b c h k⟩
theorem less_total : ∀ a b, bytesLess a b = false → bytesLess b a = false → a = b
  | [], [], _, _ => rfl
  | [], _ :: _, h, _ => by simp [bytesLess] at h
  | _ :: _, [], _, h => by simp [bytesLess] at h
  | x :: a, y :: b, h, k => by
    simp only [bytesLess, Bool.or_eq_false_iff, Bool.and_eq_false_iff, decide_eq_false_iff_not] at h k
    have e : x = y := by
      have h1 := h.1; have k1 := k.1
      exact UInt8.le_antisymm (UInt8.not_lt.1 k1) (UInt8.not_lt.1 h1)
    subst e
    rw [less_total a b (by simpa using h.2) (by simpa using k.2)]
theorem less_asymm {a b : List UInt8} (h : bytesLess a b = true) : bytesLess b a = false := by
  cases hb : bytesLess b a with
  | false => rfl
  | true => have := less_trans a b a h hb; rw [less_irrefl] at this; cases this

/-- The comparison of the library is below zero where the order says so. -/
theorem cmp_less : ∀ a b, decide (Lib.compareBytes a b < 0) = bytesLess a b
  | [], [] => rfl
  | [], _ :: _ => rfl
  | _ :: _, [] => rfl
  | x :: a, y :: b => by
    rw [Lib.compareBytes, bytesLess]
    by_cases h : x < y
    · simp [h]
    · rw [if_neg h]
      by_cases k : y < x
      · have : x ≠ y := fun e => by subst e; exact h k
        simp [h, k, this]
      · have e : x = y := UInt8.le_antisymm (UInt8.not_lt.1 k) (UInt8.not_lt.1 h)
        subst e
        rw [if_neg k, cmp_less a b]
        simp

end Go.Proofs.Ytnpeahbbcolfmaa
namespace Go.Proofs.Ytnpeahbbcolfmaa
open Go.RowKit
/-- A hash's cells. -/
def hv (l : List UInt8) : Array Value := (us (nmb l)).toArray
theorem hv_size (l : List UInt8) : (hv l).size = l.length := by simp [hv, us, nmb]
theorem hv_list (l : List UInt8) : (hv l).toList = us (nmb l) := by simp [hv]
theorem hv_get {l : List UInt8} {j : Nat} (h : j < l.length) : (hv l)[j]? = some (.int .u8 (l[j].toNat : Int)) := by simp [hv, us, nmb, h]
theorem hv_one (l : List UInt8) : (hv l).all (·.oneCell') = true := by simp [hv, us, Value.oneCell']
theorem hinfo (h : Array Value) (hs : h.size = 32) : (Try.prog.info? 27).map (·.size) = some h.size := by rw [hs]; kernel_rfl
theorem hinfo' (h : Array Value) (hs : h.size = 32) : (Try.prog.info? 27).map (·.size) = some h.toList.length := by rw [Array.length_toList]; exact hinfo h hs
/-- The hash of zeros. -/
def hz : List UInt8 := [0, 0, 0, 0, 0, 0, 0, 0, 0, 0, 0, 0, 0, 0, 0, 0, 0, 0, 0, 0, 0, 0, 0, 0, 0, 0, 0, 0, 0, 0, 0, 0]
def hzer : Array Value := #[.int .u8 0, .int .u8 0, .int .u8 0, .int .u8 0, .int .u8 0, .int .u8 0, .int .u8 0, .int .u8 0, .int .u8 0, .int .u8 0, .int .u8 0, .int .u8 0, .int .u8 0, .int .u8 0, .int .u8 0, .int .u8 0, .int .u8 0, .int .u8 0, .int .u8 0, .int .u8 0, .int .u8 0, .int .u8 0, .int .u8 0, .int .u8 0, .int .u8 0, .int .u8 0, .int .u8 0, .int .u8 0, .int .u8 0, .int .u8 0, .int .u8 0, .int .u8 0]
/-- A hash is loaded: one step. -/
noncomputable def hld (a : Addr) : Sem Value := loadVar 27 a
theorem hld_open (a : Addr) : loadVar 27 a = hld a := rfl
theorem hld_range {w : World} {p o : Nat} {q : List UInt8} (hs : q.length = 32) (hp : w.rangeAt p o (us (nmb q))) : (hld ⟨p, o, none⟩).run Try.prog w = .ok (.agg (hv q)) w := by
  have := run_loadVar_mid (P := Try.prog) w p o 27 (us (nmb q)) _ hp Try.underlying27 rfl (by rw [← hv_list]; exact hinfo' (hv q) (by rw [hv_size, hs]))
  exact this
theorem hld_row {w : World} {p : Nat} {q : List UInt8} {t : TypeId} (hs : q.length = 32) (hp : w.heap[p]? = some (.cells (hv q) t (0, 0))) : (hld ⟨p, 0, none⟩).run Try.prog w = .ok (.agg (hv q)) w :=
  hld_range hs (by have := range_row hp; rwa [hv_list] at this)
theorem hst_cells (q : List UInt8) (hs : q.length = 32) (w : World) :
    (storeCells ⟨w.heap.size, 0, none⟩ (hv q).toList).run Try.prog (w.alloc (.cells #[.int .u8 0, .int .u8 0, .int .u8 0, .int .u8 0, .int .u8 0, .int .u8 0, .int .u8 0, .int .u8 0, .int .u8 0, .int .u8 0, .int .u8 0, .int .u8 0, .int .u8 0, .int .u8 0, .int .u8 0, .int .u8 0, .int .u8 0, .int .u8 0, .int .u8 0, .int .u8 0, .int .u8 0, .int .u8 0, .int .u8 0, .int .u8 0, .int .u8 0, .int .u8 0, .int .u8 0, .int .u8 0, .int .u8 0, .int .u8 0, .int .u8 0, .int .u8 0] 27)) = .ok () (w.alloc (.cells (hv q) 27)) :=
  run_storeCells_new (P := Try.prog) w 27 hzer (hv q) (hinfo _ (by rw [hv_size, hs])) (by rw [hv_size, hs]; rfl) (hv_one q)

section
/-- The first byte of the hash of k. -/
def hsig (k : Int) : Int := [171, 171, 160, 18, 254, 171].getD (k % 6).toNat 0
def u8o (x : Int) : UInt8 := UInt8.ofNat x.toNat
def hkl (k : Int) : List UInt8 := [u8o (hsig k), u8o (k / 6 * 16), u8o (k * 7 % 256), 0, 0, 0, 0, 0, 0, 0, 0, 0, 0, 0, 0, 0, 0, 0, 0, 0, 0, 0, 0, 0, 0, 0, 0, 0, 0, 0, 0, u8o k]
/-- The hash of n, as the hand makes it. -/
def hh (n : Int) : List UInt8 := hkl (n % 60)
end
end Go.Proofs.Ytnpeahbbcolfmaa
namespace Go.Proofs.Ytnpeahbbcolfmaa
open Go.RowKit
end Go.Proofs.Ytnpeahbbcolfmaa
namespace Go.Proofs.Ytnpeahbbcolfmaa
open Go.RowKit
/-- The list with vs written from o on. -/
def puts (C : List Value) (o : Nat) (vs : List Value) : List Value := C.take o ++ vs ++ C.drop (o + vs.length)
theorem puts_nil (C : List Value) (o : Nat) : puts C o [] = C := by simp [puts]
theorem puts_cons (C : List Value) (o : Nat) (v : Value) (vs : List Value) (h : o < C.length) : puts (C.set o v) (o + 1) vs = puts C o (v :: vs) := by
  unfold puts
  rw [List.take_succ_eq_append_getElem (by simpa using h), List.getElem_set_self, List.take_set_of_le (by omega), List.drop_set_of_lt (by omega), List.length_cons, show o + 1 + vs.length = o + (vs.length + 1) from by omega]
  simp
theorem cells_set {w : World} {b j : Nat} {row : List Value} {t : TypeId} (h : w.heap[b]? = some (.cells row.toArray t (0, 0))) (v : Value) : (w.setCell ⟨b, j, none⟩ v).heap[b]? = some (.cells (row.set j v).toArray t (0, 0)) := by
  unfold World.setCell
  simp only [Array.getElem?_modify, if_true, h, Option.map_some]
  simp
theorem cells_puts : ∀ (vs : List Value) (o : Nat) (C : List Value) (w : World) {g : Nat} {t : TypeId}, w.heap[g]? = some (.cells C.toArray t (0, 0)) → o + vs.length ≤ C.length → (w.setCells g o vs).heap[g]? = some (.cells (puts C o vs).toArray t (0, 0))
  | [], o, C, w, g, t, h, _ => by rw [puts_nil]; exact h
  | v :: r, o, C, w, g, t, h, hl => by
    have h1 := cells_set (j := o) h v
    have ih := cells_puts r (o + 1) (C.set o v) (w.setCell ⟨g, o, none⟩ v) h1 (by simp at hl ⊢; omega)
    rw [puts_cons C o v r (by simp at hl; omega)] at ih
    exact ih
end Go.Proofs.Ytnpeahbbcolfmaa
namespace Go.Proofs.Ytnpeahbbcolfmaa
open Go.RowKit Go.Op
/-- The cells of hashes in a row. -/
def fl (E : List (List UInt8)) : List Value := E.flatMap fun h => us (nmb h)
/-- All are hashes. -/
def H32 (E : List (List UInt8)) : Prop := ∀ h ∈ E, h.length = 32
theorem H32.nil : H32 [] := fun _ h => by cases h
theorem H32.app {E F : List (List UInt8)} (h : H32 E) (k : H32 F) : H32 (E ++ F) := fun x hx => by
  rcases List.mem_append.1 hx with hx | hx
  · exact h x hx
  · exact k x hx
theorem H32.one {h : List UInt8} (hh : h.length = 32) : H32 [h] := fun x hx => by rw [List.mem_singleton.1 hx]; exact hh
theorem H32.take {E : List (List UInt8)} (h : H32 E) (k : Nat) : H32 (E.take k) := fun x hx => h x (List.mem_of_mem_take hx)
theorem H32.drop {E : List (List UInt8)} (h : H32 E) (k : Nat) : H32 (E.drop k) := fun x hx => h x (List.mem_of_mem_drop hx)
theorem H32.at {E : List (List UInt8)} (h : H32 E) {i : Nat} (hi : i < E.length) : E[i].length = 32 := h _ (List.getElem_mem hi)
theorem H32.set {E : List (List UInt8)} (h : H32 E) {i : Nat} {x : List UInt8} (hx : x.length = 32) : H32 (E.set i x) := fun y hy => by
  rcases List.mem_or_eq_of_mem_set hy with hy | rfl
  · exact h y hy
  · exact hx
theorem usn_length (h : List UInt8) : (us (nmb h)).length = h.length := by rw [us, List.length_map, nm_length]
theorem fl_cons (h : List UInt8) (E : List (List UInt8)) : fl (h :: E) = us (nmb h) ++ fl E := by simp [fl]
theorem fl_app (E F : List (List UInt8)) : fl (E ++ F) = fl E ++ fl F := by simp [fl]
theorem fl_one (h : List UInt8) : fl [h] = us (nmb h) := by simp [fl]
theorem fl_length : ∀ {E : List (List UInt8)}, H32 E → (fl E).length = E.length * 32
  | [], _ => rfl
  | h :: E, hE => by
    rw [fl_cons, List.length_append, usn_length, fl_length (fun x hx => hE x (List.mem_cons_of_mem _ hx)), hE h (List.mem_cons_self ..), List.length_cons]
    omega
theorem fl_take {E : List (List UInt8)} (hE : H32 E) (i : Nat) : (fl E).take (i * 32) = fl (E.take i) := by
  by_cases hi : i ≤ E.length
  · conv => lhs; rw [← List.take_append_drop i E, fl_app]
    rw [List.take_append_of_le_length (by rw [fl_length (hE.take i), List.length_take]; omega), List.take_of_length_le (by rw [fl_length (hE.take i), List.length_take]; omega)]
  · rw [List.take_of_length_le (by rw [fl_length hE]; omega), List.take_of_length_le (by omega)]
theorem fl_drop {E : List (List UInt8)} (hE : H32 E) (i : Nat) (hi : i ≤ E.length) : (fl E).drop (i * 32) = fl (E.drop i) := by
  conv => lhs; rw [← List.take_append_drop i E, fl_app]
  rw [List.drop_append_of_le_length (by rw [fl_length (hE.take i), List.length_take]; omega), List.drop_of_length_le (by rw [fl_length (hE.take i), List.length_take]; omega), List.nil_append]
theorem fl_at {E : List (List UInt8)} (hE : H32 E) {i c : Nat} (hi : i < E.length) (hc : c < 32) : (fl E)[i * 32 + c]? = (us (nmb E[i]))[c]? := by
  have h1 : ((fl E).drop (i * 32))[c]? = (fl E)[i * 32 + c]? := by rw [List.getElem?_drop]
  rw [← h1, fl_drop hE i (by omega), List.drop_eq_getElem_cons hi, fl_cons, List.getElem?_append_left (by rw [usn_length, hE.at hi]; exact hc)]
theorem fl_one' (E : List (List UInt8)) : ∀ u ∈ fl E, u.oneCell' = true := by
  intro u hu
  simp only [fl, List.mem_flatMap] at hu
  obtain ⟨h, _, hx⟩ := hu
  obtain ⟨x, _, rfl⟩ := List.mem_map.1 hx
  rfl

theorem puts_fl {E : List (List UInt8)} (hE : H32 E) (R : List Value) {i : Nat} (hi : i < E.length) {h : List UInt8} (hh : h.length = 32) : puts (fl E ++ R) (i * 32) (us (nmb h)) = fl (E.set i h) ++ R := by
  unfold puts
  have hl := fl_length hE
  rw [usn_length, hh, show i * 32 + 32 = (i + 1) * 32 from by omega, List.take_append_of_le_length (by omega), fl_take hE, List.drop_append_of_le_length (by omega), fl_drop hE (i + 1) (by omega)]
  rw [List.set_eq_take_append_cons_drop, if_pos hi, fl_app, fl_cons]
  simp
theorem puts_zero {E : List (List UInt8)} (hE : H32 E) (R : List Value) {k m : Nat} (hk : k + m = E.length) : puts (fl E ++ R) (k * 32) (fl (List.replicate m hz)) = fl (E.take k ++ List.replicate m hz) ++ R := by
  unfold puts
  have hl := fl_length hE
  have hz32 : H32 (List.replicate m hz) := fun x hx => by rw [List.eq_of_mem_replicate hx]; rfl
  have hlz := fl_length hz32
  rw [List.length_replicate] at hlz
  rw [hlz, List.take_append_of_le_length (by omega), fl_take hE, show k * 32 + m * 32 = (fl E).length from by omega, List.drop_left, fl_app]

/-- Neighbours that are alike are left out. -/
def cpt : List (List UInt8) → List (List UInt8)
  | [] => []
  | [x] => [x]
  | x :: y :: l => if x = y then cpt (y :: l) else x :: cpt (y :: l)
theorem cpt_snoc : ∀ (l : List (List UInt8)) (z x : List UInt8), cpt (l ++ [z, x]) = cpt (l ++ [z]) ++ (if x = z then [] else [x])
  | [], z, x => by
    by_cases h : z = x
    · subst h; simp [cpt]
    · have h' : ¬ x = z := fun e => h e.symm
      simp [cpt, h, h']
  | [a], z, x => by
    have ih := cpt_snoc [] z x
    simp only [List.nil_append] at ih
    simp only [List.cons_append, List.nil_append, cpt]
    have e : cpt [z, x] = cpt [z] ++ (if x = z then [] else [x]) := ih
    simp only [cpt] at e
    rw [e]
    by_cases h : a = z <;> simp [h]
  | a :: b :: l, z, x => by
    have ih := cpt_snoc (b :: l) z x
    simp only [List.cons_append, cpt] at ih ⊢
    rw [ih]
    by_cases h : a = b <;> simp [h]
theorem cpt_step {d : List (List UInt8)} {m : Nat} (h0 : 0 < m) (hm : m < d.length) : cpt (d.take (m + 1)) = cpt (d.take m) ++ (if d[m] = d[m - 1] then [] else [d[m]]) := by
  have e : d.take m = d.take (m - 1) ++ [d[m - 1]] := by
    conv => lhs; rw [show m = m - 1 + 1 from by omega]
    rw [List.take_succ_eq_append_getElem (by omega)]
  have e2 : d.take (m + 1) = d.take (m - 1) ++ [d[m - 1], d[m]] := by
    rw [List.take_succ_eq_append_getElem hm, e, List.append_assoc]; rfl
  rw [e2, cpt_snoc, ← e]
theorem cpt_mem (a : List UInt8) : ∀ l, a ∈ cpt l ↔ a ∈ l
  | [] => Iff.rfl
  | [_] => Iff.rfl
  | x :: y :: l => by
    have ih := cpt_mem a (y :: l)
    rw [cpt]
    by_cases h : x = y
    · subst h; rw [if_pos rfl, ih]; simp
    · rw [if_neg h, List.mem_cons, ih, List.mem_cons]; simp
theorem cpt_length : ∀ l, (cpt l).length ≤ l.length
  | [] => Nat.le_refl _
  | [_] => Nat.le_refl _
  | x :: y :: l => by
    have ih := cpt_length (y :: l)
    rw [cpt]
    split
    · simp at ih ⊢; omega
    · simp at ih ⊢; omega
theorem cpt_none : ∀ l : List (List UInt8), (∀ i, (h : i + 1 < l.length) → l[i + 1] ≠ l[i]) → cpt l = l
  | [], _ => rfl
  | [_], _ => rfl
  | x :: y :: l, h => by
    have h0 := h 0 (by simp)
    have ih := cpt_none (y :: l) (fun i hi => h (i + 1) (by simpa using hi))
    rw [cpt, if_neg (fun e => h0 e.symm), ih]

/-- Each one comes ahead of all behind it. -/
abbrev Asc (l : List (List UInt8)) : Prop := l.Pairwise fun a b => bytesLess a b = true
theorem cpt_asc : ∀ l : List (List UInt8), l.Pairwise (fun a b => bytesLess b a = false) → Asc (cpt l)
  | [], _ => .nil
  | [_], _ => by simp [cpt, Asc]
  | x :: y :: l, h => by
    have ih := cpt_asc (y :: l) h.tail
    rw [cpt]
    by_cases e : x = y
    · rw [if_pos e]; exact ih
    · rw [if_neg e]
      refine List.pairwise_cons.2 ⟨fun a ha => ?_, ih⟩
      have hxy := (List.pairwise_cons.1 h).1 y (by simp)
      have hlt : bytesLess x y = true := by
        cases hb : bytesLess x y with
        | true => rfl
        | false => exact absurd (less_total x y hb hxy) e
      rcases List.mem_cons.1 ((cpt_mem a (y :: l)).1 ha) with rfl | hm
      · exact hlt
      · have h2 := (List.pairwise_cons.1 h.tail).1 a hm
        cases hb : bytesLess y a with
        | true => exact less_trans x y a hlt hb
        | false => rw [← less_total y a hb h2]; exact hlt
theorem asc_ext : ∀ (l m : List (List UInt8)), Asc l → Asc m → (∀ a, a ∈ l ↔ a ∈ m) → l = m
  | [], [], _, _, _ => rfl
  | [], y :: m, _, _, h => by have := (h y).2 (by simp); cases this
  | x :: l, [], _, _, h => by have := (h x).1 (by simp); cases this
  | x :: l, y :: m, hl, hm, h => by
    have hl1 := List.pairwise_cons.1 hl
    have hm1 := List.pairwise_cons.1 hm
    have e : x = y := by
      rcases List.mem_cons.1 ((h x).1 (by simp)) with e | hx
      · exact e
      · rcases List.mem_cons.1 ((h y).2 (by simp)) with e | hy
        · exact e.symm
        · have h1 := hm1.1 x hx
          have h2 := hl1.1 y hy
          rw [less_asymm h1] at h2; cases h2
    subst e
    rw [asc_ext l m hl1.2 hm1.2 fun a => ?_]
    constructor
    · intro ha
      rcases List.mem_cons.1 ((h a).1 (List.mem_cons_of_mem _ ha)) with rfl | h2
      · have := hl1.1 _ ha; rw [less_irrefl] at this; cases this
      · exact h2
    · intro ha
      rcases List.mem_cons.1 ((h a).2 (List.mem_cons_of_mem _ ha)) with rfl | h2
      · have := hm1.1 _ ha; rw [less_irrefl] at this; cases this
      · exact h2

/-- One more hash, in its place. -/
def rput : List (List UInt8) → List UInt8 → List (List UInt8)
  | [], h => [h]
  | x :: l, h => if bytesLess x h = true then x :: rput l h else if x = h then x :: l else h :: x :: l
theorem rput_mem (a h : List UInt8) : ∀ l, a ∈ rput l h ↔ a = h ∨ a ∈ l
  | [] => by simp [rput]
  | x :: l => by
    rw [rput]
    by_cases h1 : bytesLess x h = true
    · rw [if_pos h1, List.mem_cons, rput_mem a h l, List.mem_cons]
      constructor
      · rintro (h | h | h)
        · exact .inr (.inl h)
        · exact .inl h
        · exact .inr (.inr h)
      · rintro (h | h | h)
        · exact .inr (.inl h)
        · exact .inl h
        · exact .inr (.inr h)
    · rw [if_neg h1]
      by_cases h2 : x = h
      · subst h2; rw [if_pos rfl]; simp
      · rw [if_neg h2]; simp
theorem rput_asc (h : List UInt8) : ∀ l, Asc l → Asc (rput l h)
  | [], _ => by simp [rput, Asc]
  | x :: l, hl => by
    have hl1 := List.pairwise_cons.1 hl
    rw [rput]
    by_cases h1 : bytesLess x h = true
    · rw [if_pos h1]
      refine List.pairwise_cons.2 ⟨fun a ha => ?_, rput_asc h l hl1.2⟩
      rcases (rput_mem a h l).1 ha with rfl | ha
      · exact h1
      · exact hl1.1 a ha
    · rw [if_neg h1]
      by_cases h2 : x = h
      · rw [if_pos h2]; exact hl
      · rw [if_neg h2]
        have hx : bytesLess h x = true := by
          cases hb : bytesLess h x with
          | true => rfl
          | false => exact absurd (less_total x h (by simpa using h1) hb) h2
        refine List.pairwise_cons.2 ⟨fun a ha => ?_, hl⟩
        rcases List.mem_cons.1 ha with rfl | ha
        · exact hx
        · exact less_trans h x a hx (hl1.1 a ha)
/-- Sorted, each once. -/
def rsort (l : List (List UInt8)) : List (List UInt8) := l.foldl rput []
theorem rsort_go (l : List (List UInt8)) : ∀ s, Asc s → Asc (l.foldl rput s) ∧ ∀ a, a ∈ l.foldl rput s ↔ a ∈ s ∨ a ∈ l := by
  induction l with
  | nil => intro s hs; exact ⟨hs, fun a => by simp⟩
  | cons x l ih =>
    intro s hs
    obtain ⟨h1, h2⟩ := ih (rput s x) (rput_asc x s hs)
    refine ⟨h1, fun a => ?_⟩
    rw [List.foldl_cons, h2, rput_mem, List.mem_cons]
    constructor
    · rintro ((h | h) | h)
      · exact .inr (.inl h)
      · exact .inl h
      · exact .inr (.inr h)
    · rintro (h | h | h)
      · exact .inl (.inr h)
      · exact .inl (.inl h)
      · exact .inr h
theorem rsort_asc (l : List (List UInt8)) : Asc (rsort l) := (rsort_go l [] .nil).1
theorem rsort_mem (l : List (List UInt8)) (a : List UInt8) : a ∈ rsort l ↔ a ∈ l := by rw [rsort, (rsort_go l [] .nil).2]; simp
theorem rsort_h32 {l : List (List UInt8)} (h : H32 l) : H32 (rsort l) := fun x hx => h x ((rsort_mem l x).1 hx)
/-- A sorted list's neighbours left out is the list sorted, each once. -/
theorem cpt_rsort {l E : List (List UInt8)} (hs : E.Pairwise fun a b => bytesLess b a = false) (hm : ∀ a, a ∈ E ↔ a ∈ l) : cpt E = rsort l :=
  asc_ext _ _ (cpt_asc E hs) (rsort_asc l) fun a => by rw [cpt_mem, hm, rsort_mem]
end Go.Proofs.Ytnpeahbbcolfmaa
namespace Go.Proofs.Ytnpeahbbcolfmaa
open Go.RowKit
end Go.Proofs.Ytnpeahbbcolfmaa
namespace Go.Proofs.Ytnpeahbbcolfmaa
open Go.RowKit
end Go.Proofs.Ytnpeahbbcolfmaa
namespace Go.Proofs.Ytnpeahbbcolfmaa
open Go.RowKit
theorem nm_bytes (l : List UInt8) : (Lib.bytesOf (nmb l)).toArray = l.toArray := by
  have h := nm_str l
  have h2 : strOfNums (nmb l) = ⟨(Lib.bytesOf (nmb l)).toArray⟩ := by
    apply ByteArray.ext
    show (strOfNums (nmb l)).data = (Lib.bytesOf (nmb l)).toArray
    rfl
  rw [h2] at h
  exact congrArg ByteArray.data h
theorem run_bytes_hv {P : Program} (w : World) (l : List UInt8) (p n c : Nat) (hn : l.length = n) (h : w.rangeAt p 0 (us (nmb l))) : (Extern.Bytes.bytesOf (.slice (some ⟨p, 0, none⟩) n c)).run P w = .ok ⟨l.toArray⟩ w := by
  have hl := Lib.run_loadBytesX (P := P) w (nmb l) ⟨p, 0, none⟩ .empty (fun j x hj => by
    rw [Addr.add_lit]
    exact h j (.int .u8 x) (by simp [us, List.getElem?_map, hj]))
  rw [nm_length, hn, nm_bytes] at hl
  show (Extern.Bytes.loadBytes ⟨p, 0, none⟩ n .empty).run P w = _
  rw [hl, show ByteArray.empty.data = #[] from rfl, Array.empty_append]
theorem run_compare_hv {P : Program} (w : World) (x y : List UInt8) (p q n c m d : Nat) (hx : x.length = n) (hy : y.length = m) (hp : w.rangeAt p 0 (us (nmb x))) (hq : w.rangeAt q 0 (us (nmb y))) :
    (Extern.BytealgCompare.compare #[.slice (some ⟨p, 0, none⟩) n c, .slice (some ⟨q, 0, none⟩) m d]).run P w = .ok (.int .i64 (Lib.compareBytes x y)) w := by
  change Sem.run P (do pure (goInt (Extern.BytealgCompare.cmp (← Extern.Bytes.bytesOf (.slice (some ⟨p, 0, none⟩) n c)) (← Extern.Bytes.bytesOf (.slice (some ⟨q, 0, none⟩) m d))))) w = _
  simp only [Sem.run_bind, Sem.run_pure, Result.andThen, run_bytes_hv w x p n c hx hp, run_bytes_hv w y q m d hy hq, Lib.cmp_eq]
  rfl
set_option maxRecDepth 20000 in
theorem bcmp_any (w : World) (x y : List UInt8) (p q n c m d : Nat) (hx : x.length = n) (hy : y.length = m) (hp : w.rangeAt p 0 (us (nmb x))) (hq : w.rangeAt q 0 (us (nmb y))) :
    Calls Try.prog 76 #[.slice (some ⟨p, 0, none⟩) n c, .slice (some ⟨q, 0, none⟩) m d] w fun e w' => e = .returned (.int .i64 (Lib.compareBytes x y)) ∧ w = w' := by
  have hrun := run_compare_hv (P := Try.prog) w x y p q n c m d hx hy hp hq
  generalize Lib.compareBytes x y = r at *
  have HRUN := Lib.hid hrun
  clear hrun hp hq hx hy
  go_enter Try.func76, Try.ntmps76
  go_wp2
  rw [run_callFunc_extern Try.func89 (by kernel_rfl) (by kernel_rfl) (by kernel_rfl) (e := Extern.BytealgCompare.compare) (by kernel_rfl), HRUN.out]
  simp only [Result.andThen]
  rw [Oper.upon_value]
  go_wp2
  go_ret
  exact ⟨rfl, rfl⟩

theorem range_new' (w : World) (l : List UInt8) (t : TypeId) : (w.alloc (.cells (hv l) t)).rangeAt w.heap.size 0 (us (nmb l)) := by
  have := range_new w (hv l) t
  rwa [hv_list] at this
theorem range_keep {w w' : World} {p : Nat} {vs : List Value} (h : w.rangeAt p 0 vs) (hb : w'.heap[p]? = w.heap[p]?) : w'.rangeAt p 0 vs := fun j v hj => by
  rw [World.cell?_of_block (w := w) (a := ⟨p, 0 + j, none⟩) hb]; exact h j v hj

theorem range_drew {w : World} {n p : Nat} {vs : List Value} (h : w.rangeAt p 0 vs) : (w.drewN n).rangeAt p 0 vs := h
theorem compare_to (w : World) (x y : List UInt8) (hx : x.length = 32) (hy : y.length = 32) : Calls Try.prog 64 #[.agg (hv x), .agg (hv y)] w fun e w' =>
    e = .returned (.int .i64 (Lib.compareBytes x y)) ∧ ∃ q, w' = ((w.alloc (.cells (hv x) 27)).alloc (.cells (hv y) 27)).drewN q := by
  have h1 := range_new' w x 27
  have h2 := range_new' (w.alloc (.cells (hv x) 27)) y 27
  have h3 : ((w.alloc (.cells (hv x) 27)).alloc (.cells (hv y) 27)).rangeAt w.heap.size 0 (us (nmb x)) := range_keep h1 (Below.heap_alloc _ _ _ (by simp))
  rw [show (w.alloc (.cells (hv x) 27)).heap.size = w.heap.size + 1 from by simp] at h2
  have H2 := Lib.hid h2
  have H3 := Lib.hid h3
  have HX := Lib.hid hx
  have HY := Lib.hid hy
  clear h1 h2 h3 hx hy
  go_enter Try.func64, Try.ntmps64
  go_wp2_with fail
  go_quiet ((go_at_call 76; exact Calls.quiet_of_same ((bcmp_any (World.drewN _ _) x y _ _ _ _ _ _ HX.out HY.out (range_drew H3.out) (range_drew H2.out)).mono fun _ _ h => ⟨h.1, h.2.symm⟩)))
  go_wp2
  go_ret
  exact ⟨rfl, _, rfl⟩

attribute [local go_sem ↓] hld_open
end Go.Proofs.Ytnpeahbbcolfmaa
namespace Go.Proofs.Ytnpeahbbcolfmaa
open Go.RowKit
/-- Two hashes are compared: one step. -/
noncomputable def heqS (a b : Array Value) : Sem Value := binOp .eql 27 (.agg a) (.agg b)
theorem heq_open (a b : Array Value) : binOp .eql 27 (.agg a) (.agg b) = heqS a b := rfl
noncomputable def hneS (a b : Array Value) : Sem Value := binOp .neq 27 (.agg a) (.agg b)
theorem hne_open (a b : Array Value) : binOp .neq 27 (.agg a) (.agg b) = hneS a b := rfl
theorem heq_guard (x y : Operand) (a b : Array Value) (w : World) : (eqGuard .eql 27 x y (.agg a) (.agg b)).run Try.prog w = .ok () w := run_eqGuard_agg _ _ _ _ _ _ _ (by kernel_rfl)
theorem hne_guard (x y : Operand) (a b : Array Value) (w : World) : (eqGuard .neq 27 x y (.agg a) (.agg b)).run Try.prog w = .ok () w := run_eqGuard_agg _ _ _ _ _ _ _ (by kernel_rfl)

theorem u8_beq (x y : UInt8) : (((x.toNat : Int)) == ((y.toNat : Int))) = (x == y) := by
  rw [Bool.eq_iff_iff, beq_iff_eq, beq_iff_eq]
  constructor
  · intro h; exact UInt8.toNat_inj.1 (by omega)
  · intro h; rw [h]
theorem items_hv (a b : List UInt8) (ha : a.length = 32) (hb : b.length = 32) (w : World) : ∀ is : List Nat, (∀ j ∈ is, j < 32) →
    (Op.eqItems 9999 5 1 (hv a) (hv b) is).run Try.prog w = .ok (is.all fun j => a.getD j 0 == b.getD j 0) w := by
  intro is
  induction is with
  | nil => intro _; simp [Op.eqItems]
  | cons j is ih =>
    intro h
    have hj : j < 32 := h j (List.mem_cons_self ..)
    have hja : j < a.length := by omega
    have hjb : j < b.length := by omega
    have p1 : (part 5 (hv a) (j * 1)).run Try.prog w = .ok (.int .u8 (a[j].toNat : Int)) w := run_part_plain w (by kernel_rfl) (by rw [Nat.mul_one]; exact hv_get hja)
    have p2 : (part 5 (hv b) (j * 1)).run Try.prog w = .ok (.int .u8 (b[j].toNat : Int)) w := run_part_plain w (by kernel_rfl) (by rw [Nat.mul_one]; exact hv_get hjb)
    have he := run_equalIn_int (P := Try.prog) w 9998 5 .u8 .u8 (a[j].toNat : Int) (b[j].toNat : Int) Try.underlying5
    simp only [Op.eqItems, Sem.run_bind, p1, p2, Result.andThen_ok, he, u8_beq]
    rw [List.all_cons, show a.getD j 0 = a[j] from by simp [List.getD, hja], show b.getD j 0 = b[j] from by simp [List.getD, hjb]]
    cases hc : a[j] == b[j] with
    | false => simp
    | true => simpa using ih fun k hk => h k (List.mem_cons_of_mem _ hk)
theorem all_eq (a b : List UInt8) (ha : a.length = 32) (hb : b.length = 32) : ((List.range 32).all fun j => a.getD j 0 == b.getD j 0) = decide (a = b) := by
  rw [Bool.eq_iff_iff, decide_eq_true_eq, List.all_eq_true]
  constructor
  · intro h
    refine List.ext_getElem (by omega) fun j h1 h2 => ?_
    have := h j (List.mem_range.2 (by omega))
    rw [beq_iff_eq, show a.getD j 0 = a[j] from by simp [List.getD, h1], show b.getD j 0 = b[j] from by simp [List.getD, h2]] at this
    exact this
  · rintro rfl j _; simp
theorem equal_hv (a b : List UInt8) (ha : a.length = 32) (hb : b.length = 32) (w : World) : (Op.equalIn 10000 27 (.agg (hv a)) (.agg (hv b))).run Try.prog w = .ok (decide (a = b)) w := by
  obtain ⟨i, hi⟩ : ∃ i, Try.prog.info? 5 = some i := by
    cases h : Try.prog.info? 5 with
    | none => have := u8info; rw [h] at this; cases this
    | some i => exact ⟨i, rfl⟩
  have hc : Try.prog.cellsOf 5 = 1 := by kernel_rfl
  rw [run_equalIn_array w 9999 (hv a) (hv b) Try.underlying27 hi, hc, items_hv a b ha hb w _ (fun j hj => List.mem_range.1 hj), all_eq a b ha hb]
theorem heq_hv {a b : List UInt8} (ha : a.length = 32) (hb : b.length = 32) (w : World) : (heqS (hv a) (hv b)).run Try.prog w = .ok (.bool (decide (a = b))) w := by
  show (binOp .eql 27 (.agg (hv a)) (.agg (hv b))).run Try.prog w = _
  rw [run_eql_struct, equal_hv a b ha hb]
  rfl
theorem hne_hv {a b : List UInt8} (ha : a.length = 32) (hb : b.length = 32) (w : World) : (hneS (hv a) (hv b)).run Try.prog w = .ok (.bool (!decide (a = b))) w := by
  show (binOp .neq 27 (.agg (hv a)) (.agg (hv b))).run Try.prog w = _
  rw [run_neq_struct, equal_hv a b ha hb]
  rfl
end Go.Proofs.Ytnpeahbbcolfmaa
namespace Go.Proofs.Ytnpeahbbcolfmaa
open Go.RowKit
theorem hzinfo : (Try.prog.info? 27).map (fun i => (i.zero, i.size, i.bytes)) = some (some (.agg hzer), 32, 32) := by kernel_rfl

/-- The slice v holds the hashes E. -/
def HSeen (w : World) (v : Value) (E : List (List UInt8)) : Prop :=
  (v = .slice none 0 0 ∧ E = []) ∨ ∃ a cap, v = .slice (some a) E.length cap ∧ E.length ≤ cap ∧ ∀ j u, (fl E)[j]? = some u → w.cell? (a.add j) = some u
/-- It owns them. -/
abbrev HOwn (w : World) (B : Nat) (v : Value) (E : List (List UInt8)) : Prop := w.ownsRow B 27 32 v E.length (fl E)
theorem HSeen.own {w : World} {B : Nat} {v : Value} {E : List (List UInt8)} (h : HOwn w B v E) : HSeen w v E := by
  have hc : ∀ g, v.ownBlock = some g → _ := fun g hg => h.cells (g := g) hg
  rcases h.2 with ⟨rfl, h0⟩ | ⟨g, cap, cur, rfl, _, _, hn, _⟩
  · exact .inl ⟨rfl, List.eq_nil_of_length_eq_zero h0⟩
  · exact .inr ⟨_, cap, rfl, hn, hc _ rfl⟩
/-- The block of an owned row. -/
theorem HOwn.row {w : World} {B : Nat} {v : Value} {E : List (List UInt8)} (h : HOwn w B v E) (h0 : 0 < E.length) : ∃ g cap R, v = .slice (some ⟨g, 0, none⟩) E.length cap ∧ B ≤ g ∧ w.heap[g]? = some (.cells (fl E ++ R).toArray 27 (0, 0)) ∧ E.length ≤ cap ∧ cap ≤ maxLen ∧ R.length = (cap - E.length) * 32 := by
  rcases h.2 with ⟨_, hn⟩ | ⟨g, cap, cur, rfl, hb, hg, hn, hm, hs, ht⟩
  · omega
  · refine ⟨g, cap, cur.toList.drop (E.length * 32), rfl, hb, ?_, hn, hm, ?_⟩
    · rw [← ht, List.take_append_drop]; simpa using hg
    · rw [List.length_drop, Array.length_toList, hs, Nat.sub_mul]
theorem hown_mk {w : World} {B g cap n : Nat} {E : List (List UInt8)} {R : List Value} (hE : H32 E) (hn : n = E.length) (hb : B ≤ g) (hg : w.heap[g]? = some (.cells (fl E ++ R).toArray 27 (0, 0))) (hc : E.length ≤ cap) (hm : cap ≤ maxLen) (hR : R.length = (cap - E.length) * 32) : HOwn w B (.slice (some ⟨g, 0, none⟩) n cap) E := by
  subst hn
  refine ⟨fl_length hE, .inr ⟨g, cap, (fl E ++ R).toArray, rfl, hb, hg, hc, hm, ?_, ?_⟩⟩
  · show (fl E ++ R).length = cap * 32
    rw [List.length_append, fl_length hE, hR, ← Nat.add_mul]
    congr 1; omega
  · rw [show (fl E ++ R).toArray.toList = fl E ++ R from rfl, ← fl_length hE, List.take_left]

set_option maxRecDepth 20000 in
set_option maxHeartbeats 800000 in
theorem hclone_any (w : World) (v : Value) (E : List (List UInt8)) (hE : H32 E) (hl : E.length * 32 ≤ 140737488355328) (hs : HSeen w v E) :
    Calls Try.prog 28 #[v] w fun e w' => ∃ v', e = .returned v' ∧ HOwn w' w.heap.size v' E ∧ Below w.heap.size w w' := by
  obtain ⟨i0, hi0, hz0, hz1, hz2⟩ := info_parts hzinfo
  rcases hs with ⟨rfl, rfl⟩ | ⟨a, cap, rfl, hc, hu⟩
  · have hn1 : ∀ w : World, (binOp .eql 28 (.slice none 0 0) (.slice none 0 0)).run Try.prog w = .ok (.bool true) w := fun w => Lib.run_eql_slice_nil w _ _ none _ _ _ _ Try.underlying28
    clear hl hE
    go_enter Try.func28, Try.ntmps28
    go_wp2
    go_ret
    exact ⟨_, rfl, World.ownsRow_nil _ _ _ _, Below.refl _ _⟩
  · have hown := World.ownsRow_made (base := w.heap.size) (e := 27) (size := 32) w #[] 0 (Nat.le_refl _) (by decide) rfl
    have hn1 : ∀ w : World, (binOp .eql 28 (.slice (some a) E.length cap) (.slice none 0 0)).run Try.prog w = .ok (.bool false) w := fun w => Lib.run_eql_slice_nil w _ _ (some a) _ _ _ _ Try.underlying28
    have hnews : Hid (∀ j u, (fl E)[j]? = some u → (w.alloc (.cells #[] 27)).cell? (a.add j) = some u) := Lib.hid fun j u hj => by
      have h1 := hu j u hj
      have h2 := World.block_lt_of_cell? w _ h1
      rw [World.cell?_of_block (w := w) (Below.heap_alloc w _ _ h2)]; exact h1
    have HE := Lib.hid (fl_length hE)
    clear hu hE
    go_enter Try.func28, Try.ntmps28
    go_wp2_with (at_builtin; refine wpList_append_own _ (by rfl) (.tmp 5) (.tmp 6) _ (by rfl) w.heap.size 27 i0 _ 32 32 Try.underlying28 hi0 hz0 hz1 hz2 rfl (by omega) (.slice (some ⟨w.heap.size, 0, none⟩) 0 0) 0 [] (by rfl) hown a E.length cap (fl E) (by rfl) HE.out hnews.out (fl_one' E) (by simp [maxLen]; omega) (by omega) (by simp) ?_; intro v' w' hown' hgrow _)
    go_ret
    exact ⟨v', rfl, by simpa using hown', ((Below.refl _ _).alloc (Nat.le_refl _) _).grown hgrow (by simp) (by intro k hk; cases hk; exact Nat.le_refl _)⟩
end Go.Proofs.Ytnpeahbbcolfmaa
namespace Go.Proofs.Ytnpeahbbcolfmaa
open Go.RowKit
attribute [local go_sem ↓] hld_open heq_open hne_open
theorem hzer_rep : hzer = Array.replicate 32 (.int .u8 0) := rfl
theorem fl_zero : ∀ n, fl (List.replicate n hz) = List.replicate (n * 32) (.int .u8 0)
  | 0 => rfl
  | n + 1 => by
    rw [List.replicate_succ, fl_cons, fl_zero n, show us (nmb hz) = List.replicate 32 (.int .u8 0) from rfl, List.replicate_append_replicate]
    congr 1; omega
theorem clear_hash (w : World) (ty : TypeId) (g o n c : Nat) (hn : 0 < n) (ht : w.there g o (n * 32)) :
    (Builtin.clear_ #[28] ty #[.slice (some ⟨g, o, none⟩) n c]).run Try.prog w = .ok (.tuple #[]) (w.setCells g o (fl (List.replicate n hz))) := by
  have hv : ∀ w, (zeroValue 27).run Try.prog w = .ok (.agg hzer) w := fun w => by kernel_rfl
  have hzc : (Builtin.zeroCells (Value.agg hzer).cells n).toList = fl (List.replicate n hz) := by
    rw [fl_zero, show (Value.agg hzer).cells = hzer from rfl, hzer_rep]
    apply List.ext_getElem
    · simp [Builtin.zeroCells]
    · intro i h1 h2
      have : i % 32 < 32 := by omega
      simp [Builtin.zeroCells, this]
  have hst := run_storeCells_cells (P := Try.prog) g o (fl (List.replicate n hz)) 0 w (fun j hj => by
      rw [fl_zero, List.length_replicate] at hj
      have := (ht j hj).1
      rwa [Nat.add_zero]) (fun j hj => by
      rw [fl_zero, List.length_replicate] at hj
      have := (ht j hj).2
      rwa [Nat.add_zero]) (fl_one' _)
  simp only [Nat.add_zero] at hst
  obtain ⟨m, rfl⟩ : ∃ m, n = m + 1 := ⟨n - 1, by omega⟩
  simp [Builtin.clear_, run_underlying Try.underlying28, hv, hzc, hst]

theorem row_range {w : World} {g i : Nat} {E : List (List UInt8)} {R : List Value} {t : TypeId} (hE : H32 E) (hi : i < E.length) (h : w.heap[g]? = some (.cells (fl E ++ R).toArray t (0, 0))) : w.rangeAt g (i * 32) (us (nmb E[i])) := fun j v hv => by
  have hj : j < 32 := by have := (List.getElem?_eq_some_iff.1 hv).1; rwa [usn_length, hE.at hi] at this
  rw [cell_of_row w g _ _ _ _ h, List.getElem?_toArray, List.getElem?_append_left (by rw [fl_length hE]; omega), fl_at hE hi hj]
  exact hv
theorem row_there {w : World} {g o n : Nat} {C : List Value} {t : TypeId} (h : w.heap[g]? = some (.cells C.toArray t (0, 0))) (hl : o + n ≤ C.length) : w.there g o n := fun j hj => by
  constructor
  · rw [cell_of_row w g _ _ _ _ h, List.getElem?_toArray, List.getElem?_eq_getElem (by omega)]; rfl
  · simp [World.frozen?, h]
theorem hld_at {w : World} {g i : Nat} {E : List (List UInt8)} {R : List Value} {t : TypeId} (hE : H32 E) (hi : i < E.length) (h : w.heap[g]? = some (.cells (fl E ++ R).toArray t (0, 0))) (q : Nat) : (hld ⟨g, i * 32, none⟩).run Try.prog (w.drewN q) = .ok (.agg (hv E[i])) (w.drewN q) :=
  hld_range (hE.at hi) (w := w.drewN q) (row_range hE hi h)

/-- What Compact leaves. -/
def CPost (w : World) (g cap : Nat) (E : List (List UInt8)) (e : Ending) (w' : World) : Prop :=
  e = .returned (.slice (some ⟨g, 0, none⟩) (cpt E).length cap) ∧ ∃ R', w'.heap[g]? = some (.cells (fl (cpt E) ++ R').toArray 27 (0, 0)) ∧ R'.length = (cap - (cpt E).length) * 32 ∧ Only (fun k => k = g) w w'
theorem cpost_same {w : World} {g cap n : Nat} {E : List (List UInt8)} {R : List Value} (hn : n = E.length) (hc : cpt E = E) (hg : w.heap[g]? = some (.cells (fl E ++ R).toArray 27 (0, 0))) (hR : R.length = (cap - E.length) * 32) (q : Nat) :
    CPost w g cap E (.returned (.slice (some ⟨g, 0, none⟩) n cap)) (w.drewN q) := by
  subst hn
  unfold CPost
  rw [hc]
  exact ⟨rfl, R, hg, hR, rfl, rfl, rfl, Nat.le_refl _, fun _ _ _ => rfl⟩

/-- Behind the first two that are alike: what is written, what is not read yet. -/
structure CInv (w : World) (g : Nat) (E : List (List UInt8)) (R : List Value) (kk m : Nat) (D : List (List UInt8)) (W : World) : Prop where
  h32 : H32 D
  len : D.length = E.length
  done : D.take kk = cpt (E.take m)
  rest : D.drop (m - 1) = E.drop (m - 1)
  row : W.heap[g]? = some (.cells (fl D ++ R).toArray 27 (0, 0))
  only : Only (fun k => k = g) w W
theorem CInv.at {w : World} {g kk m : Nat} {E D : List (List UInt8)} {R : List Value} {W : World} (h : CInv w g E R kk m D W) {i : Nat} (hi : m - 1 ≤ i) (h1 : i < D.length) (h2 : i < E.length) : D[i] = E[i] := by
  have e := congrArg (fun l => l[i - (m - 1)]?) h.rest
  simp only [List.getElem?_drop, show m - 1 + (i - (m - 1)) = i from by omega, List.getElem?_eq_getElem h1, List.getElem?_eq_getElem h2, Option.some.injEq] at e
  exact e
theorem CInv.skip {w : World} {g kk m : Nat} {E D : List (List UInt8)} {R : List Value} {W : World} (h : CInv w g E R kk m D W) (q : Nat) (m0 : 0 < m) (hm : m < E.length) (he : E[m] = E[m - 1]) : CInv w g E R kk (m + 1) D (W.drewN q) := by
  refine ⟨h.h32, h.len, ?_, ?_, h.row, ⟨h.only.os, h.only.tape, h.only.output, h.only.size, h.only.block⟩⟩
  · rw [cpt_step m0 hm, if_pos he, List.append_nil]; exact h.done
  · have := congrArg (List.drop 1) h.rest
    rw [List.drop_drop, List.drop_drop] at this
    rwa [show m - 1 + 1 = m + 1 - 1 from by omega] at this
theorem CInv.keep {w : World} {g kk m : Nat} {E D : List (List UInt8)} {R : List Value} {W : World} (h : CInv w g E R kk m D W) (q : Nat) (m0 : 0 < m) (hm : m < E.length) (hk : kk < m) (hE : H32 E) (he : ¬ E[m] = E[m - 1]) :
    CInv w g E R (kk + 1) (m + 1) (D.set kk E[m]) ((W.drewN q).setCells g (kk * 32) (us (nmb E[m]))) := by
  have hl := h.len
  have h1 := cells_puts (us (nmb E[m])) (kk * 32) (fl D ++ R) (W.drewN q) h.row (by rw [usn_length, hE.at hm, List.length_append, fl_length h.h32]; omega)
  rw [puts_fl h.h32 R (by omega) (hE.at hm)] at h1
  refine ⟨h.h32.set (hE.at hm), by rw [List.length_set, hl], ?_, ?_, h1, Only.setCells (S := fun k => k = g) (b := g) rfl _ _ ⟨h.only.os, h.only.tape, h.only.output, h.only.size, h.only.block⟩⟩
  · rw [cpt_step m0 hm, if_neg he, ← h.done, List.take_succ_eq_append_getElem (by rw [List.length_set]; omega), List.getElem_set_self, List.take_set_of_le (Nat.le_refl _)]
  · have := congrArg (List.drop 1) h.rest
    rw [List.drop_drop, List.drop_drop, show m - 1 + 1 = m + 1 - 1 from by omega] at this
    rw [List.drop_set_of_lt (by omega)]
    exact this
theorem CInv.ended {w : World} {g kk n cap : Nat} {E D : List (List UInt8)} {R : List Value} {W : World} (h : CInv w g E R kk n D W) (hn : n = E.length) (hk : kk < n) (hc : E.length ≤ cap) (hR : R.length = (cap - E.length) * 32) :
    CPost w g cap E (.returned (.slice (some ⟨g, 0, none⟩) kk cap)) (W.setCells g (kk * 32) (fl (List.replicate (n - kk) hz))) := by
  subst hn
  have hl := h.len
  have hd := h.done
  rw [List.take_of_length_le (Nat.le_refl _)] at hd
  have hkl : kk = (cpt E).length := by rw [← hd, List.length_take]; omega
  have hz32 : H32 (List.replicate (E.length - kk) hz) := fun x hx => by rw [List.eq_of_mem_replicate hx]; rfl
  have h1 := cells_puts (fl (List.replicate (E.length - kk) hz)) (kk * 32) (fl D ++ R) W h.row (by rw [fl_length hz32, List.length_replicate, List.length_append, fl_length h.h32]; omega)
  rw [puts_zero h.h32 R (by omega), fl_app, hd, List.append_assoc] at h1
  refine ⟨by rw [← hkl], _, h1, ?_, Only.setCells (S := fun k => k = g) (b := g) rfl _ _ h.only⟩
  rw [List.length_append, fl_length hz32, List.length_replicate, hR, ← Nat.add_mul, ← hkl]
  congr 1; omega

set_option maxRecDepth 20000 in
set_option maxHeartbeats 4000000 in
theorem hcompact_to (w : World) (g cap : Nat) (E : List (List UInt8)) (hE : H32 E) (R : List Value) (hg : w.heap[g]? = some (.cells (fl E ++ R).toArray 27 (0, 0))) (hc : E.length ≤ cap) (hm : cap ≤ maxLen) (hR : R.length = (cap - E.length) * 32) :
    Calls Try.prog 65 #[.slice (some ⟨g, 0, none⟩) E.length cap] w (CPost w g cap E) := by
  unfold maxLen at hm
  have HE := Lib.hid hE
  have HG := Lib.hid hg
  have HR := Lib.hid hR
  have hgd := heq_guard
  have hgd2 := hne_guard
  clear hE hg hR
  obtain ⟨n, hn⟩ : ∃ n, n = E.length := ⟨_, rfl⟩
  rw [← hn] at hc ⊢
  have HN := Lib.hid hn
  clear hn
  by_cases h2 : n < 2
  · have hcc : cpt E = E := cpt_none E (fun i hi => by have := HN.out; omega)
    have HCC := Lib.hid hcc
    clear hcc
    go_enter Try.func65, Try.ntmps65
    go_wp2
    go_ret
    exact cpost_same HN.out HCC.out HG.out HR.out 0
  · go_enter Try.func65, Try.ntmps65
    go_wp2
    go_loopw [3] (fun i wr => ∃ (k : Nat), 1 ≤ k ∧ k ≤ n ∧ i = .int .i64 k ∧ Hid (∀ i, (h : i + 1 < E.length) → i + 1 < k → E[i + 1] ≠ E[i]) ∧ ∃ q, wr = w.drewN q) (fun i _ => n - (intOf i).toNat)
    case atStart => exact ⟨1, Nat.le_refl _, by omega, rfl, Lib.hid (fun i _ h => by omega), 0, rfl⟩
    case round =>
      obtain ⟨k, k1, k2, rfl, HK, q, rfl⟩ := hrel
      by_cases hlt : k < n
      · have hkE : k < E.length := by rw [← HN.out]; exact hlt
        have hk1E : k - 1 < E.length := by rw [← HN.out]; omega
        have l1 := fun m => hld_at HE.out hkE HG.out m
        have l2 := fun m => hld_at HE.out hk1E HG.out m
        have heq := heq_hv (HE.out.at hkE) (HE.out.at hk1E)
        have hk' : (k : Int) < n := by omega
        have m1 : IntKind.i64.wrap ((k : Int) - 1) = (k : Int) - 1 := IntWalk.i64_in _ (by omega)
        have m2 : (0 : Int) ≤ (k : Int) - 1 := by omega
        have m2' : (1 : Int) ≤ (k : Int) := by omega
        have m3 : ((k : Int) - 1).toNat = k - 1 := by omega
        have m4 : (k : Int) - 1 < n := by omega
        by_cases hdup : E[k]'hkE = E[k - 1]'hk1E
        · rw [decide_eq_true hdup] at heq
          have HD := Lib.hid hdup
          clear hdup
          go_wp2_with fail
          go_quiet (fail)
          go_wp2_with fail
          have hst0 : CInv w g E R k (k + 1) E (w.drewN (q + nq)) := by
            refine ⟨HE.out, rfl, ?_, rfl, HG.out, rfl, rfl, rfl, Nat.le_refl _, fun _ _ _ => rfl⟩
            rw [cpt_step (by omega) hkE, if_pos HD.out, List.append_nil]
            exact (cpt_none _ (fun i hi => by
              rw [List.getElem_take, List.getElem_take]
              rw [List.length_take] at hi
              exact HK.out i (by omega) (by omega))).symm
          have HS0 := Lib.hid hst0
          clear l1 l2 heq m1 m2 m3 m4 m2' hst0
          go_loopw [3, 5] (fun kv jv wr => ∃ (kk j : Nat) (D : List (List UInt8)), kv = .int .i64 kk ∧ jv = .int .i64 j ∧ 1 ≤ j ∧ j ≤ n - k ∧ kk + 1 ≤ k + j ∧ Hid (CInv w g E R kk (k + j) D wr)) (fun _ j _ => n - k - (intOf j).toNat)
          case atStart => exact ⟨k, 1, E, rfl, rfl, Nat.le_refl _, by omega, by omega, HS0⟩
          case round =>
            obtain ⟨kk, j, D, rfl, rfl, j1, j2, j3, HI⟩ := hrel
            by_cases hj : j < n - k
            · have hmE : k + j < E.length := by rw [← HN.out]; omega
              have hmD : k + j < D.length := by rw [HI.out.len]; exact hmE
              have hmE1 : k + j - 1 < E.length := by omega
              have hmD1 : k + (j - 1) < D.length := by omega
              have l1 := fun m => hld_at HI.out.h32 (i := k + j) hmD HI.out.row m
              have l2 := fun m => hld_at HI.out.h32 hmD1 HI.out.row m
              rw [HI.out.at (i := k + j) (by omega) hmD hmE, show (k + j) * 32 = k * 32 + j * 32 from by omega] at l1
              have e1 : D[k + (j - 1)]'hmD1 = E[k + j - 1]'hmE1 := by
                have := HI.out.at (i := k + j - 1) (by omega) (by omega) hmE1
                rw [← this]
                congr 1
                omega
              rw [e1, show (k + (j - 1)) * 32 = k * 32 + (j - 1) * 32 from by omega] at l2
              have hne := hne_hv (HE.out.at hmE) (HE.out.at hmE1)
              have x32 := Lib.hid (HE.out.at hmE)
              have hj' : (j : Int) < (n - k : Nat) := by omega
              have m1 : IntKind.i64.wrap ((j : Int) - 1) = (j : Int) - 1 := IntWalk.i64_in _ (by omega)
              have m2 : (0 : Int) ≤ (j : Int) - 1 := by omega
              have m2' : (1 : Int) ≤ (j : Int) := by omega
              have m3 : ((j : Int) - 1).toNat = j - 1 := by omega
              have m4 : (j : Int) - 1 < (n - k : Nat) := by omega
              by_cases heq2 : E[k + j]'hmE = E[k + j - 1]'hmE1
              · rw [decide_eq_true heq2] at hne
                have HNX := fun q => HI.out.skip q (by omega) hmE heq2
                have HNXX := Lib.hid HNX
                clear heq2 HNX e1
                go_wp2_with fail
                go_quiet (fail)
                go_wp2_with fail
                refine ⟨⟨kk, j + 1, D, rfl, by go_num, by omega, by omega, by omega, Lib.hid (HNXX.out _)⟩, by simp [intOf]; omega⟩
              · rw [decide_eq_false heq2] at hne
                have HNX := fun q => HI.out.keep q (by omega) hmE (by omega) HE.out heq2
                have HNXX := Lib.hid HNX
                have HT : Hid (wr.there g (kk * 32) (hv E[k + j]).size) := Lib.hid (row_there HI.out.row (by rw [hv_size, x32.out, List.length_append, fl_length HI.out.h32]; omega))
                clear heq2 HNX e1
                go_wp2_with fail
                go_quiet (fail)
                go_wp2_with (refine store_to (w := World.drewN wr _) HT.out (hinfo (hv E[k + j]) (by rw [hv_size, x32.out])) (hv_one _) ?hx ?hy ?_; (case hx => rfl); (case hy => simp [Act.eval]))
                refine ⟨⟨kk + 1, j + 1, D.set kk E[k + j], by go_num, by go_num, by omega, by omega, by omega, Lib.hid ?_⟩, by simp [intOf]; omega⟩
                have := HNXX.out nq
                rw [← hv_list] at this
                exact this
            · have hjn : k + j = n := by omega
              have HI2 := Lib.hid (hjn ▸ HI.out : CInv w g E R kk n D wr)
              have hkn : kk < n := by omega
              have hcl : ∀ ty, (Builtin.clear_ #[28] ty #[.slice (some ⟨g, kk * 32, none⟩) (n - kk) (cap - kk)]).run Try.prog wr = .ok (.tuple #[]) (wr.setCells g (kk * 32) (fl (List.replicate (n - kk) hz))) :=
                fun ty => clear_hash wr ty g (kk * 32) (n - kk) (cap - kk) (by omega) (row_there HI2.out.row (by rw [List.length_append, fl_length HI2.out.h32, HI2.out.len, ← HN.out]; omega))
              have HJ : Hid (k + j = n) := Lib.hid hjn
              clear hjn HI
              go_wp2_with fail
              go_ret
              exact HI2.out.ended HN.out hkn (by rw [← HN.out]; exact hc) HR.out
        · rw [decide_eq_false hdup] at heq
          have HD := Lib.hid hdup
          clear hdup
          go_wp2_with fail
          go_quiet (fail)
          go_wp2_with fail
          refine ⟨⟨k + 1, by omega, by omega, by go_num, Lib.hid ?_, _, rfl⟩, by simp [intOf]; omega⟩
          intro i hi h
          by_cases hik : i + 1 < k
          · exact HK.out i hi hik
          · obtain rfl : k = i + 1 := by omega
            exact HD.out
      · have : k = n := by omega
        subst this
        have hcc : cpt E = E := cpt_none E (fun i hi => HK.out i hi (by have := HN.out; omega))
        have HCC := Lib.hid hcc
        clear hcc
        go_wp2
        go_ret
        exact cpost_same HN.out HCC.out HG.out HR.out q
end Go.Proofs.Ytnpeahbbcolfmaa
namespace Go.Proofs.Ytnpeahbbcolfmaa
open Go.RowKit
variable {ops : Array Oper} {rest : List Oper} {a : Act} {w : World} {Q : Exit → Act → World → Prop} {dst : Option Tmp} {T : TypeId} {pos : String} {after : Array Edge}
theorem fl_flat (E : List (List UInt8)) : (E.map fun h => Value.agg (hv h)).flatMap (fun v => v.cells.toList) = fl E := by
  rw [List.flatMap_map]
  unfold fl
  congr 1
end Go.Proofs.Ytnpeahbbcolfmaa
namespace Go.Proofs.Ytnpeahbbcolfmaa
open Go.RowKit
attribute [local go_sem ↓] hld_open heq_open
end Go.Proofs.Ytnpeahbbcolfmaa
namespace Go.Proofs.Ytnpeahbbcolfmaa
open Go.RowKit
attribute [local go_sem ↓] hld_open heq_open hne_open
theorem rput_length (h : List UInt8) : ∀ l, (rput l h).length ≤ l.length + 1
  | [] => by simp [rput]
  | x :: l => by
    have ih := rput_length h l
    rw [rput]
    split
    · simp; omega
    · split <;> simp
theorem rsort_length : ∀ l, (rsort l).length ≤ l.length := by
  intro l
  have : ∀ s, (l.foldl rput s).length ≤ s.length + l.length := by
    induction l with
    | nil => intro s; simp
    | cons x l ih => intro s; have h1 := ih (rput s x); have h2 := rput_length x s; simp at h1 ⊢; omega
  simpa [rsort] using this []

end Go.Proofs.Ytnpeahbbcolfmaa
namespace Go.Proofs.Ytnpeahbbcolfmaa
open Go.RowKit
open Go.Maps
theorem hlaw : WideMaps.KeyLaw Try.prog 27 := deep_law (m := 2) (by decide) (by kernel_rfl) (by kernel_rfl) (by rw [Try.underlying27])
theorem hkeyed : Keyed Try.prog 27 := Keyed.of_law hlaw
theorem bytes_one (b : UInt8) : (Lit.int IntKind.u8 (b.toNat : Int)).keyBytes = [b] := by
  have h : b.toNat < 256 := b.toNat_lt
  simp only [Lit.keyBytes, bytesBE, IntKind.bits, bytesLE]
  have e : ((b.toNat : Int) % 256).toNat % 256 = b.toNat := by omega
  simp [e]
theorem bytes_hash : ∀ h : Key, keyBytes (h.map fun b => Lit.int IntKind.u8 (b.toNat : Int)) = h
  | [] => rfl
  | b :: h => by
    have ih := bytes_hash h
    unfold keyBytes at ih ⊢
    rw [List.map_cons, List.flatMap_cons, ih, bytes_one]; rfl
theorem lits_hash (d : Nat) (h : Key) (hl : h.length = 32) : Try.prog.keyLits (d + 2) 27 (us (nmb h)) = some (h.map fun b => Lit.int IntKind.u8 (b.toNat : Int)) := by
  have c1 : Try.prog.cellsOf 27 = 32 := by kernel_rfl
  have c2 : Try.prog.cellsOf 5 = 1 := by kernel_rfl
  unfold Program.keyLits
  have hlen : (us (nmb h)).length = 32 := by rw [usn_length, hl]
  simp only [Try.underlying27, c1, c2, hlen, if_true]
  have hm : (List.range 32).mapM (fun i => Try.prog.keyLits (d + 1) 5 (((us (nmb h)).drop (i * 1)).take 1)) = some ((List.range 32).map fun i => [Lit.int IntKind.u8 ((h.getD i 0).toNat : Int)]) := by
    refine ChangeShapes.mapM_range_of 32 fun i hi => ?_
    have hi' : i < h.length := by omega
    have e : ((us (nmb h)).drop (i * 1)).take 1 = [.int .u8 ((h.getD i 0).toNat : Int)] := by
      rw [Nat.mul_one, List.take_one, List.head?_drop]
      simp [us, nmb, hi', List.getD]
    rw [e]
    unfold Program.keyLits
    have hw : (Lit.int IntKind.u8 ((h.getD i 0).toNat : Int)).wf = true := by
      generalize h.getD i 0 = x
      have := x.toNat_lt
      have h1 : (0 : Int) ≤ (x.toNat : Int) := by omega
      have h2 : (x.toNat : Int) ≤ 255 := by omega
      exact Bool.and_eq_true_iff.2 ⟨decide_eq_true h1, decide_eq_true h2⟩
    simp only [Try.underlying5]
    rw [if_pos ⟨trivial, hw⟩]
  rw [hm]
  simp only [Option.map_some, Option.some.injEq]
  have e2 : ∀ n, ((List.range n).map fun i => [Lit.int IntKind.u8 ((h.getD i 0).toNat : Int)]).flatten = (List.range n).map fun i => Lit.int IntKind.u8 ((h.getD i 0).toNat : Int) := fun n => by
    induction n with
    | zero => rfl
    | succ n ih => rw [List.range_succ, List.map_append, List.map_append, List.flatten_append, ih]; simp
  rw [e2, ← hl]
  apply List.ext_getElem
  · simp
  · intro i h1 h2
    simp at h1
    simp [List.getD, h1]
theorem hkey (h : Key) (hl : h.length = 32) : keyOf Try.prog 27 (.agg (hv h)) = some (.string h) := by
  obtain ⟨n, hn⟩ : ∃ n, Try.prog.types.size + 1 = n + 2 := by
    obtain ⟨m, hm⟩ : ∃ m, Try.prog.types.size = m + 1 := ⟨Try.prog.types.size - 1, by kernel_rfl⟩
    exact ⟨m, by omega⟩
  have hk : Try.prog.keyType 27 = true := by kernel_rfl
  have c1 : Try.prog.cellsOf 27 = 32 := by kernel_rfl
  have hf : (Value.agg (hv h)).formed Try.prog 27 = true := by
    simp [Value.formed, Try.underlying27, c1, hv_size, hl]
  unfold keyOf
  simp only [Try.underlying27, hk, hf, Bool.and_self, if_true]
  rw [show (Value.agg (hv h)).cells = hv h from rfl, hv_list, hn, lits_hash n h hl]
  simp [bytes_hash]

/-- What a map of values by hash reads as. -/
abbrev Kv := List (Key × Value)
def mapV (M : Kv) : DataW Value := .map (M.map fun e => (.string e.1, .held e.2))
theorem mapV_ins (n : Key) (x : Value) : ∀ M : Kv, DataW.insert (Lit.string n, DataW.held x) (M.map fun e => (Lit.string e.1, DataW.held e.2)) = (ains (n, x) M).map fun e => (Lit.string e.1, DataW.held e.2)
  | [] => rfl
  | y :: L => by
    have ih := mapV_ins n x L
    simp only [ains, List.map_cons, DataW.insert, Lit.before] at ih ⊢
    by_cases hb : bytesBefore n y.1 = true
    · simp [hb]
    · simp [hb, ih]
theorem mapV_del (n : Key) (M : Kv) : (mapV M).del (.string n) = mapV (adel n M) := by
  unfold mapV DataW.del adel
  simp only [List.filter_map]
  rfl
theorem mapV_put (n : Key) (v : Value) (M : Kv) : (mapV M).put (.string n) (.held v) = mapV (aput n v M) := by
  have h := mapV_del n M
  unfold mapV DataW.del at h
  unfold mapV DataW.put
  simp only [DataW.map.injEq] at h ⊢
  rw [h]
  exact mapV_ins n v _
theorem mapV_find (n : Key) : ∀ M : Kv, ((M.map fun e => (Lit.string e.1, (DataW.held e.2 : DataW Value))).find? fun p => p.1.sameKey (.string n)) = (aget n M).map fun x => (Lit.string n, DataW.held x)
  | [] => rfl
  | y :: L => by
    have ih := mapV_find n L
    rw [List.map_cons]
    by_cases hy : (y.1 == n) = true
    · rw [List.find?_cons_of_pos (p := fun p : Lit × DataW Value => p.1.sameKey (.string n)) (by exact hy)]
      simp only [beq_iff_eq] at hy
      rw [gpos hy, hy]; rfl
    · rw [List.find?_cons_of_neg (p := fun p : Lit × DataW Value => p.1.sameKey (.string n)) (by exact hy), ih, gneg (by simpa using hy)]
theorem mapV_at (n : Key) (z : Value) (M : Kv) : (mapV M).atKey (.string n) (.held z) = .held ((aget n M).getD z) := by
  unfold mapV DataW.atKey
  simp only [mapV_find]
  cases aget n M <;> rfl
theorem mapV_has (n : Key) (M : Kv) : Maps.has (mapV M) (.string n) = (aget n M).isSome := by
  unfold mapV Maps.has
  simp only
  rw [← List.isSome_find?]
  rw [mapV_find]
  cases aget n M <;> rfl
theorem mapV_size (M : Kv) : Maps.size (mapV M) = M.length := by simp [mapV, Maps.size]

/-- Block b is the map of the values M by hash. -/
structure MpH (w : World) (b : Nat) (M : Kv) : Prop where
  own : w.ownsMap Try.prog 27 rdv b M.length (mapV M)
  asc : AAsc M
  h32 : ∀ p ∈ M, p.1.length = 32
theorem MpH.of {w : World} {b n : Nat} {M : Kv} (h : w.ownsMap Try.prog 27 rdv b n (mapV M)) (ha : AAsc M) (hh : ∀ p ∈ M, p.1.length = 32) : MpH w b M := by
  refine ⟨?_, ha, hh⟩
  obtain ⟨es, clock, h1, h2, _, h4⟩ := h
  refine ⟨es, clock, h1, h2, ?_, h4⟩
  have h5 : (mapV M) = _ := h4
  unfold mapV at h5
  have h6 := congrArg List.length (DataW.map.inj h5)
  rw [length_sorted] at h6
  simp at h6
  omega
theorem aput_h32 {M : Kv} (hh : ∀ p ∈ M, p.1.length = 32) {n : Key} (hn : n.length = 32) (v : Value) : ∀ p ∈ aput n v M, p.1.length = 32 := fun p hp => by
  rcases (ains_mem _ _ _).1 hp with rfl | hp
  · exact hn
  · exact hh p ((adel_mem _ _ _).1 hp).1
theorem adel_h32 {M : Kv} (hh : ∀ p ∈ M, p.1.length = 32) (n : Key) : ∀ p ∈ adel n M, p.1.length = 32 := fun p hp => hh p ((adel_mem _ _ _).1 hp).1
section
variable {w w' : World} {b : Nat} {M : Kv}
theorem MpH.made (w : World) : MpH (w.alloc (.map #[] 0)) w.heap.size [] := ⟨World.ownsMap_made w Try.prog 27 rdv, .nil, fun _ h => by cases h⟩
theorem MpH.lt (h : MpH w b M) : b < w.heap.size := World.ownsMap.lt h.own
theorem MpH.same (h : MpH w b M) (hb : w'.heap[b]? = w.heap[b]?) : MpH w' b M := by
  obtain ⟨es, clock, h1, h2⟩ := h.own
  exact ⟨⟨es, clock, hb.trans h1, h2⟩, h.asc, h.h32⟩
theorem MpH.kept {S : Nat → Prop} (h : MpH w b M) (ho : Only S w w') (hb : ¬ S b) : MpH w' b M := h.same (ho.block b h.lt hb)
theorem MpH.kb {B : Nat} (h : MpH w b M) (hb : Below B w w') (hB : b < B) : MpH w' b M := h.same (hb.block b hB)
theorem MpH.drew (h : MpH w b M) (n : Nat) : MpH (w.drewN n) b M := h.same rfl
theorem MpH.ismap (h : MpH w b M) : ∃ es clock, w.heap[b]? = some (.map es clock) := by
  obtain ⟨es, clock, h1, _⟩ := h.own
  exact ⟨es, clock, h1⟩
theorem MpH.look {t e : TypeId} {z : Value} (h : MpH w b M) (ht : Try.prog.underlying t = some (.map 27 e)) (hz : (zeroValue e).run Try.prog w = .ok z w) (n : Key) (hn : n.length = 32) :
    (Instr.lookup t (.map (some b)) (.agg (hv n)) false).run Try.prog w = .ok ((aget n M).getD z) w := by
  obtain ⟨v, ps, hrun, hv'⟩ := World.ownsMap.lookup h.own hkeyed ht hz (zd := .held z) (zp := []) rfl (hkey n hn)
  rw [mapV_at] at hv'
  have e' := congrArg Prod.fst (Option.some.inj hv')
  simp only [DataW.held.injEq] at e'
  rw [hrun, e']
theorem MpH.lookOk {t e : TypeId} {z : Value} (h : MpH w b M) (ht : Try.prog.underlying t = some (.map 27 e)) (hz : (zeroValue e).run Try.prog w = .ok z w) (n : Key) (hn : n.length = 32) :
    (Instr.lookup t (.map (some b)) (.agg (hv n)) true).run Try.prog w = .ok (.tuple #[(aget n M).getD z, .bool (aget n M).isSome]) w := by
  obtain ⟨v, ps, hrun, hv'⟩ := World.ownsMap.look_ok h.own hkeyed ht hz (zd := .held z) (zp := []) rfl (hkey n hn)
  rw [mapV_at] at hv'
  rw [mapV_has] at hrun
  have e' := congrArg Prod.fst (Option.some.inj hv')
  simp only [DataW.held.injEq] at e'
  rw [hrun, e']
theorem MpH.store {t e : TypeId} (h : MpH w b M) (ht : Try.prog.underlying t = some (.map 27 e)) (n : Key) (hn : n.length = 32) (hl : M.length < maxLen) (v : Value) :
    ∃ w', (Instr.mapUpdate t (.map (some b)) (.agg (hv n)) v).run Try.prog w = .ok () w' ∧ MpH w' b (aput n v M) ∧ Only (fun k => k = b) w w' := by
  obtain ⟨w', hrun, h1, h2⟩ := World.ownsMap.update h.own hkeyed ht hl (hkey n hn) (R := rdv) (val := v) rfl
  rw [mapV_put n v] at h1
  exact ⟨w', hrun, MpH.of h1 (h.asc.put n v) (aput_h32 h.h32 hn v), (Only.refl _ w).grown h2 (fun k _ e => by cases e; rfl)⟩
theorem MpH.drop {t e : TypeId} (h : MpH w b M) (ht : Try.prog.underlying t = some (.map 27 e)) (n : Key) (hn : n.length = 32) (ty : TypeId) :
    ∃ w', (Builtin.delete_ #[t, 27] ty #[.map (some b), .agg (hv n)]).run Try.prog w = .ok (.tuple #[]) w' ∧ MpH w' b (adel n M) ∧ Only (fun k => k = b) w w' := by
  obtain ⟨w', hrun, h1, h2⟩ := World.ownsMap.drop h.own hkeyed ht (hkey n hn) ty
  rw [mapV_del] at h1
  exact ⟨w', hrun, MpH.of h1 (h.asc.del n) (adel_h32 h.h32 n), (Only.refl _ w).grown h2.grown (fun k _ e => by cases e; rfl)⟩
theorem MpH.len {t e : TypeId} (h : MpH w b M) (ht : Try.prog.underlying t = some (.map 27 e)) (ty : TypeId) : (Builtin.len_ #[t] ty #[.map (some b)]).run Try.prog w = .ok (.int .i64 M.length) w := by
  rw [World.ownsMap.len h.own ht ty, mapV_size]
end
end Go.Proofs.Ytnpeahbbcolfmaa
namespace Go.Proofs.Ytnpeahbbcolfmaa
open Go.RowKit
open Go.Maps
attribute [local go_sem ↓] hld_open
theorem lzero (w : World) : (zeroValue 28).run Try.prog w = .ok (.slice none 0 0) w := by kernel_rfl
theorem uzero (w : World) : (zeroValue 114).run Try.prog w = .ok (.agg #[]) w := by kernel_rfl
/-- A step that turns no cells but in new memory. -/
structure Mild (w w' : World) : Prop where
  only : Only (fun k => ∀ cs t f, w.heap[k]? ≠ some (.cells cs t f)) w w'
theorem mild_below {w w' : World} (h : Below w.heap.size w w') : Mild w w' := ⟨Only.of_below h⟩
theorem mild_map {w w' : World} {b : Nat} {M : Kv} (h : MpH w b M) (ho : Only (fun k => k = b) w w') : Mild w w' := by
  obtain ⟨es, c, hb⟩ := h.ismap
  exact ⟨ho.mono fun k _ e cs t f hk => by rw [e, hb] at hk; cases hk⟩
theorem Mild.cells {w w' : World} (h : Mild w w') {k : Nat} {cs : Array Value} {t : TypeId} {f : Nat × Nat} (hk : w.heap[k]? = some (.cells cs t f)) : w'.heap[k]? = some (.cells cs t f) :=
  (h.only.block k (Array.getElem?_eq_some_iff.1 hk).1 (fun e => e cs t f hk)).trans hk
theorem Mild.cell {w w' : World} (h : Mild w w') {a : Addr} {u : Value} (ha : w.cell? a = some u) : w'.cell? a = some u := by
  have hlt := World.block_lt_of_cell? _ _ ha
  cases hb : w.heap[a.block]? with
  | none => simp [World.cell?, hb] at ha
  | some o =>
    cases o with
    | cells cs t f => rw [World.cell?_of_block (w := w) (a := a) (by rw [h.cells hb, hb])]; exact ha
    | _ => simp [World.cell?, hb] at ha
theorem Mild.trans {a b c : World} (h : Mild a b) (k : Mild b c) : Mild a c := ⟨h.only.trans k.only (fun _ h => h) (fun _ _ hT cs t f e => hT cs t f (h.cells e))⟩
theorem HSeen.mild {w w' : World} {v : Value} {E : List Key} (h : HSeen w v E) (m : Mild w w') : HSeen w' v E := by
  rcases h with h | ⟨a, cap, h1, h2, h3⟩
  · exact .inl h
  · exact .inr ⟨a, cap, h1, h2, fun j u hj => m.cell (h3 j u hj)⟩
theorem HSeen.shape {w : World} {v : Value} {E : List Key} (h : HSeen w v E) : ∃ p cap, v = .slice p E.length cap := by
  rcases h with ⟨rfl, rfl⟩ | ⟨a, cap, h1, _⟩
  · exact ⟨_, _, rfl⟩
  · exact ⟨_, _, h1⟩
/-- A hash of a slice that is read. -/
theorem HSeen.at {w : World} {v : Value} {E : List Key} (h : HSeen w v E) (hE : H32 E) {i : Nat} (hi : i < E.length) : ∃ b o cap, v = .slice (some ⟨b, o, none⟩) E.length cap ∧ w.rangeAt b (o + i * 32) (us (nmb E[i])) := by
  rcases h with ⟨_, rfl⟩ | ⟨⟨b, o, s⟩, cap, h1, h2, h3⟩
  · simp at hi
  · have hs : s = none := by
      have h0 : (fl E)[0]? ≠ none := by
        rw [Ne, List.getElem?_eq_none_iff, fl_length hE]; omega
      obtain ⟨u, hu⟩ := Option.ne_none_iff_exists'.1 h0
      have := h3 0 u hu
      cases s with
      | none => rfl
      | some x => simp only [World.cell?, Addr.add] at this; split at this <;> simp at this
    subst hs
    refine ⟨b, o, cap, h1, fun j u hj => ?_⟩
    have hjl : j < 32 := by
      have := (List.getElem?_eq_some_iff.1 hj).1
      rw [usn_length, hE.at hi] at this; exact this
    have := h3 (i * 32 + j) u (by rw [fl_at hE hi hjl]; exact hj)
    rw [Addr.add_lit] at this
    rw [← Nat.add_assoc] at this
    exact this
theorem hsr_kb {w w' : World} {b o : Nat} {l : List Value} (h : w.rangeAt b o l) (k : Mild w w') : w'.rangeAt b o l := fun j u hj => k.cell (h j u hj)

/-- Commits by hash: the slice of the parents, and the parents. -/
abbrev Lx := List (Key × (Value × List Key))
abbrev Gr := List (Key × List Key)
abbrev gr (X : Lx) : Gr := amap (fun y : Value × List Key => y.2) X
abbrev kvs (X : Lx) : Kv := amap (fun y : Value × List Key => y.1) X
/-- Block b is the map of the lists of hashes X. -/
structure LAt (w : World) (b : Nat) (X : Lx) : Prop where
  mp : MpH w b (kvs X)
  seen : ∀ x ∈ X, HSeen w x.2.1 x.2.2 ∧ H32 x.2.2
/-- Block g is a graph: it leads to the map at block bm. -/
structure GA (w : World) (g bm : Nat) (X : Lx) : Prop where
  cell : w.heap[g]? = some (.cells #[.map (some bm)] 68 (0, 0))
  at_ : LAt w bm X
theorem LAt.mild {w w' : World} {b : Nat} {X : Lx} (h : LAt w b X) (m : Mild w w') (hb : w'.heap[b]? = w.heap[b]?) : LAt w' b X :=
  ⟨h.mp.same hb, fun x hx => ⟨(h.seen x hx).1.mild m, (h.seen x hx).2⟩⟩
theorem LAt.kb {w w' : World} {b : Nat} {X : Lx} (h : LAt w b X) (k : Below w.heap.size w w') : LAt w' b X := h.mild (mild_below k) (k.block b h.mp.lt)
theorem GA.kb {w w' : World} {g bm : Nat} {X : Lx} (h : GA w g bm X) (k : Below w.heap.size w w') : GA w' g bm X := ⟨(k.block g (Array.getElem?_eq_some_iff.1 h.cell).1).trans h.cell, h.at_.kb k⟩
theorem GA.c0 {w : World} {g bm : Nat} {X : Lx} (h : GA w g bm X) : w.cell? ⟨g, 0, none⟩ = some (.map (some bm)) := by rw [cell_of_row w g 0 _ _ _ h.cell]; rfl
/-- Block b is the set of the hashes R. -/
structure SetH (w : World) (b : Nat) (R : List Key) : Prop where
  ex : ∃ M, MpH w b M ∧ (∀ p ∈ M, p.2 = .agg #[]) ∧ R = M.map (·.1)
theorem SetH.kb {w w' : World} {b : Nat} {R : List Key} {B : Nat} (h : SetH w b R) (k : Below B w w') (hB : b < B) : SetH w' b R := by
  obtain ⟨M, h1, h2, h3⟩ := h.ex
  exact ⟨M, h1.kb k hB, h2, h3⟩
theorem aget_isSome {α : Type} {n : Key} : ∀ {M : List (Key × α)}, (aget n M).isSome = decide (n ∈ M.map (·.1))
  | [] => by simp [aget]
  | y :: M => by
    have ih := aget_isSome (n := n) (M := M)
    by_cases hy : y.1 = n
    · rw [gpos hy]; simp [hy]
    · rw [gneg hy, ih]; simp [Ne.symm hy]
theorem set_get {M : Kv} (h : ∀ p ∈ M, p.2 = .agg #[]) (n : Key) : (aget n M).getD (.agg #[]) = .agg #[] := by
  cases hg : aget n M with
  | none => rfl
  | some v => exact h _ (aget_mem hg)
theorem kvs_get (n : Key) (X : Lx) : aget n (kvs X) = (aget n X).map (·.1) := amap_get _ _ _

set_option maxRecDepth 20000 in
/-- Is a hash in a map of lists? -/
theorem lhas_to (w : World) (b : Nat) (M : Kv) (h : Key) (hh : h.length = 32) (H : MpH w b M) : Calls Try.prog 52 #[.map (some b), .agg (hv h)] w fun e w' => e = .returned (.bool (aget h M).isSome) ∧ Below w.heap.size w w' := by
  have b1 : Below w.heap.size w (w.alloc (.cells (hv h) 27)) := (Below.refl _ w).alloc (Nat.le_refl _) _
  have hl := Lib.hid (range_new w (hv h) 27)
  have hz := Lib.hid (hinfo' (hv h) (by rw [hv_size, hh]))
  have hlk := (H.kb b1 H.lt).lookOk Try.underlying66 (lzero _) h hh
  generalize (aget h M).getD (.slice none 0 0) = zv at hlk
  generalize (aget h M).isSome = ok at hlk ⊢
  have B1 := Lib.hid b1
  clear b1 H hh
  go_enter Try.func52, Try.ntmps52
  go_wp2_with (refine load_to hl.out Try.underlying27 rfl hz.out ?hx ?_; (case hx => rfl))
  go_ret
  exact ⟨rfl, B1.out⟩
set_option maxRecDepth 20000 in
/-- Is a hash in a set? -/
theorem shas_to (w : World) (b : Nat) (R : List Key) (h : Key) (hh : h.length = 32) (H : SetH w b R) : Calls Try.prog 58 #[.map (some b), .agg (hv h)] w fun e w' => e = .returned (.bool (decide (h ∈ R))) ∧ Below w.heap.size w w' := by
  obtain ⟨M, HM, hu, rfl⟩ := H.ex
  have b1 : Below w.heap.size w (w.alloc (.cells (hv h) 27)) := (Below.refl _ w).alloc (Nat.le_refl _) _
  have hl := Lib.hid (range_new w (hv h) 27)
  have hz := Lib.hid (hinfo' (hv h) (by rw [hv_size, hh]))
  have hlk := (HM.kb b1 HM.lt).lookOk Try.underlying98 (uzero _) h hh
  rw [set_get hu, aget_isSome] at hlk
  generalize decide (h ∈ M.map (·.1)) = ok at hlk ⊢
  have B1 := Lib.hid b1
  clear b1 H HM hh
  go_enter Try.func58, Try.ntmps58
  go_wp2_with (refine load_to hl.out Try.underlying27 rfl hz.out ?hx ?_; (case hx => rfl))
  go_ret
  exact ⟨rfl, B1.out.alloc B1.out.size _⟩
end Go.Proofs.Ytnpeahbbcolfmaa
namespace Go.Proofs.Ytnpeahbbcolfmaa
open Go.RowKit Go.Shelf
open Go.Sort (HoldsK putRowK flatK grow PermIn SortedIn SWO)
def Try.hsortf_ren : Go.Shelf.Ren := ⟨fun | 6 => 63 | 15 => 75 | 14 => 74 | 28 => 87 | 29 => 88 | 20 => 79 | 21 => 80 | 22 => 81 | 23 => 82 | 24 => 83 | 25 => 84 | 26 => 85 | 27 => 86 | 46 => 90 | 47 => 91 | 48 => 92 | 49 => 93 | 50 => 94 | 57 => 95 | n => n, fun | 22 => 28 | 24 => 27 | 25 => 112 | 3 => 3 | 39 => 30 | 0 => 0 | 53 => 134 | 55 => 136 | 4 => 4 | 46 => 128 | 45 => 127 | 50 => 55 | 5 => 5 | 9 => 9 | 66 => 137 | 70 => 141 | 76 => 143 | 77 => 144 | n => n, fun | n => n⟩
theorem Try.hsortf : Go.Proofs.SlLaysF0.n6 Try.prog Try.hsortf_ren := {
  mixed := by kernel_rfl
  f6 := ⟨Try.f63.name, by decide, Try.func63.trans (congrArg some (by kernel_rfl))⟩
  f14 := ⟨Try.f74.name, by decide, Try.func74.trans (congrArg some (by kernel_rfl))⟩
  f15 := Try.func75.trans (congrArg some (by kernel_rfl))
  f20 := ⟨Try.f79.name, by decide, Try.func79.trans (congrArg some (by kernel_rfl))⟩
  f21 := ⟨Try.f80.name, by decide, Try.func80.trans (congrArg some (by kernel_rfl))⟩
  f22 := ⟨Try.f81.name, by decide, Try.func81.trans (congrArg some (by kernel_rfl))⟩
  f23 := ⟨Try.f82.name, by decide, Try.func82.trans (congrArg some (by kernel_rfl))⟩
  f24 := ⟨Try.f83.name, by decide, Try.func83.trans (congrArg some (by kernel_rfl))⟩
  f25 := ⟨Try.f84.name, by decide, Try.func84.trans (congrArg some (by kernel_rfl))⟩
  f26 := ⟨Try.f85.name, by decide, Try.func85.trans (congrArg some (by kernel_rfl))⟩
  f27 := ⟨Try.f86.name, by decide, Try.func86.trans (congrArg some (by kernel_rfl))⟩
  f28 := Try.func87.trans (congrArg some (by kernel_rfl))
  f29 := Try.func88.trans (congrArg some (by kernel_rfl))
  f46 := ⟨Try.f90.name, by decide, Try.func90.trans (congrArg some (by kernel_rfl))⟩
  f47 := Try.func91.trans (congrArg some (by kernel_rfl))
  f48 := Try.func92.trans (congrArg some (by kernel_rfl))
  f49 := ⟨Try.f93.name, by decide, Try.func93.trans (congrArg some (by kernel_rfl))⟩
  f50 := ⟨Try.f94.name, by decide, Try.func94.trans (congrArg some (by kernel_rfl))⟩
  f57 := ⟨Try.f95.name, by decide, Try.func95.trans (congrArg some (by kernel_rfl))⟩
  t0 := Try.underlying0
  a0 := Try.isAgg0
  z0 := Try.sizeOf0
  v0 := Try.zeroValue0
  t3 := Try.underlying3
  a3 := Try.isAgg3
  z3 := Try.sizeOf3
  v3 := Try.zeroValue3
  t4 := Try.underlying4
  a4 := Try.isAgg4
  z4 := Try.sizeOf4
  v4 := Try.zeroValue4
  t5 := Try.underlying5
  a5 := Try.isAgg5
  z5 := Try.sizeOf5
  v5 := Try.zeroValue5
  t9 := Try.underlying9
  a9 := Try.isAgg9
  z9 := Try.sizeOf9
  v9 := Try.zeroValue9
  t22 := Try.underlying28
  a22 := Try.isAgg28
  z22 := Try.sizeOf28
  v22 := Try.zeroValue28
  t25 := Try.underlying112
  a25 := Try.isAgg112
  z25 := Try.sizeOf112
  v25 := Try.zeroValue112
  t39 := Try.underlying30
  a39 := Try.isAgg30
  z39 := Try.sizeOf30
  v39 := Try.zeroValue30
  t45 := Try.underlying127
  a45 := Try.isAgg127
  z45 := Try.sizeOf127
  v45 := Try.zeroValue127
  t46 := Try.underlying128
  a46 := Try.isAgg128
  z46 := Try.sizeOf128
  v46 := Try.zeroValue128
  t50 := Try.underlying55
  a50 := Try.isAgg55
  z50 := Try.sizeOf55
  v50 := Try.zeroValue55
  t53 := Try.underlying134
  a53 := Try.isAgg134
  z53 := Try.sizeOf134
  v53 := Try.zeroValue134
  t55 := Try.underlying136
  a55 := Try.isAgg136
  z55 := Try.sizeOf136
  v55 := Try.zeroValue136
  t66 := Try.underlying137
  a66 := Try.isAgg137
  z66 := Try.sizeOf137
  v66 := Try.zeroValue137
  t70 := Try.underlying141
  a70 := Try.isAgg141
  z70 := Try.sizeOf141
  v70 := Try.zeroValue141
  t76 := Try.underlying143
  a76 := Try.isAgg143
  z76 := Try.sizeOf143
  v76 := Try.zeroValue143
  t77 := Try.underlying144
  a77 := Try.isAgg144
  z77 := Try.sizeOf144
  v77 := Try.zeroValue144 }

/-- A hash, with its length. -/
abbrev Hs := { l : List UInt8 // l.length = 32 }
instance : Inhabited Hs := ⟨⟨hz, rfl⟩⟩
def encH (x : Hs) : List Value := us (nmb x.1)
def cfH (x y : Hs) : Int := Lib.compareBytes x.1 y.1
theorem encH_length (x : Hs) : (encH x).length = 32 := by unfold encH; rw [usn_length, x.2]
theorem encH_one (x : Hs) : ∀ v ∈ encH x, v.oneCell' = true := fun v hv => by
  obtain ⟨y, _, rfl⟩ := List.mem_map.1 hv
  rfl
theorem ltH (x y : Hs) : ltOf cfH x y = Op.bytesLess x.1 y.1 := cmp_less x.1 y.1
theorem swoH : SWO (ltOf cfH) where
  irrefl x := by rw [ltH]; exact less_irrefl _
  trans x y z h k := by rw [ltH] at *; exact less_trans _ _ _ h k
  ntrans x y z h k := by
    rw [ltH] at *
    cases hb : Op.bytesLess x.1 z.1 with
    | false => rfl
    | true =>
      cases hc : Op.bytesLess y.1 x.1 with
      | true => have := less_trans _ _ _ hc hb; rw [k] at this; cases this
      | false => rw [less_total _ _ h hc] at hb; rw [k] at hb; cases hb
theorem lays_cmp (blk off size : Nat) (w : World) : CmpLays Try.prog 64 #[] encH 32 cfH blk off size w := fun m os dk _ x y => by
  have h := compare_to (sortWorldK encH 32 w blk off m dk os) x.1 y.1 x.2 y.2
  refine h.mono ?_
  rintro e w' ⟨he, q, hw⟩
  exact ⟨he, q, _, by rw [hw, Sort.alloc_eq_grow, Sort.alloc_eq_grow, Sort.grow_grow]; rfl⟩

theorem lift_H : ∀ E : List (List UInt8), H32 E → ∃ d : List Hs, d.map (·.1) = E
  | [], _ => ⟨[], rfl⟩
  | h :: E, hE => by
    obtain ⟨d, hd⟩ := lift_H E (fun x hx => hE x (List.mem_cons_of_mem _ hx))
    exact ⟨⟨h, hE h (List.mem_cons_self ..)⟩ :: d, by rw [List.map_cons, hd]⟩
theorem flat_fl (d : Array Hs) : (flatK encH 32 d).toList = fl (d.toList.map (·.1)) := by
  have hE : H32 (d.toList.map (·.1)) := fun x hx => by
    obtain ⟨y, _, rfl⟩ := List.mem_map.1 hx
    exact y.2
  refine List.ext_getElem? fun t => ?_
  by_cases ht : t < d.size * 32
  · have hi : t / 32 < d.size := by omega
    have hg := Sort.get_flatK encH 32 d t ht
    have hs : t < (flatK encH 32 d).size := by rw [Sort.size_flatK]; exact ht
    have e1 : (flatK encH 32 d).toList[t]? = some ((encH d[t / 32]!)[t % 32]!) := by
      rw [Array.getElem?_toList, Array.getElem?_eq_getElem hs, ← hg, getElem!_pos _ t hs]
    have hi2 : t / 32 < (d.toList.map (·.1)).length := by simpa using hi
    have e2 := fl_at hE (i := t / 32) (c := t % 32) hi2 (by omega)
    rw [show t / 32 * 32 + t % 32 = t from by omega] at e2
    have hd : d[t / 32]! = d[t / 32] := getElem!_pos d (t / 32) hi
    rw [e1, e2, hd]
    have hl : t % 32 < (encH d[t / 32]).length := by rw [encH_length]; omega
    rw [getElem!_pos (encH d[t / 32]) (t % 32) hl]
    simp only [List.getElem_map, Array.getElem_toList]
    exact (List.getElem?_eq_getElem hl).symm
  · rw [List.getElem?_eq_none (by rw [Array.length_toList, Sort.size_flatK]; omega), List.getElem?_eq_none (by rw [fl_length hE]; simp; omega)]

theorem put_row (F : Array Value) (C R : List Value) (h : F.size = C.length) : Sort.putCells id 0 F (C ++ R).toArray = (F.toList ++ R).toArray := by
  apply Array.ext_getElem?
  intro t
  unfold Sort.putCells
  rw [Array.getElem?_mapIdx, List.getElem?_toArray, List.getElem?_toArray]
  by_cases ht : t < F.size
  · rw [List.getElem?_append_left (by omega), List.getElem?_append_left (by simpa using ht), List.getElem?_eq_getElem (show t < C.length by omega)]
    simp [ht]
  · rw [List.getElem?_append_right (by omega), List.getElem?_append_right (by simp; omega), show F.toList.length = C.length from by simpa using h]
    generalize R[t - C.length]? = o
    cases o with
    | none => rfl
    | some v => rw [Option.map_some, if_neg (by omega)]

theorem grow_at (X : World) (os : Array Obj) (k : Nat) (hk : k < X.heap.size) : (grow X os).heap[k]? = X.heap[k]? := by
  show (X.heap ++ os)[k]? = _
  rw [Array.getElem?_append_left hk]
theorem putK_at (w : World) (n g : Nat) (d : Array Hs) (k : Nat) : (putRowK encH 32 (Sort.ahead w n) g 0 d).heap[k]? = if g = k then (w.heap[k]?).map (Sort.onCells (Sort.putCells id 0 (flatK encH 32 d))) else w.heap[k]? := by
  show (w.heap.modify g (Sort.onCells (Sort.putCells id 0 (flatK encH 32 d))))[k]? = _
  rw [Array.getElem?_modify]
theorem putK_size (w : World) (n g : Nat) (d : Array Hs) : (putRowK encH 32 (Sort.ahead w n) g 0 d).heap.size = w.heap.size := by
  show (w.heap.modify g (Sort.onCells (Sort.putCells id 0 (flatK encH 32 d)))).size = _
  rw [Array.size_modify]
theorem hsort_none (p : Option Addr) (cap : Nat) (W : World) : Calls Try.prog 63 #[.slice p 0 cap, .func (.func 64) #[] #[]] W fun e w' => e = .returned (.tuple #[]) ∧ w' = W := 
  AnyF.slices_SortFunc_none Try.hsortf p cap (.func (.func 64) #[] #[]) W
theorem hsort_to (w : World) (g cap : Nat) (E : List (List UInt8)) (hE : H32 E) (R : List Value) (hg : w.heap[g]? = some (.cells (fl E ++ R).toArray 27 (0, 0))) (hn : E.length < 4611686018427387904) :
    Calls Try.prog 63 #[.slice (some ⟨g, 0, none⟩) E.length cap, .func (.func 64) #[] #[]] w fun e w' => e = .returned (.tuple #[]) ∧
      ∃ E', H32 E' ∧ E'.length = E.length ∧ (∀ a, a ∈ E' ↔ a ∈ E) ∧ E'.Pairwise (fun a b => Op.bytesLess b a = false) ∧ w'.heap[g]? = some (.cells (fl E' ++ R).toArray 27 (0, 0)) ∧ Only (fun k => k = g) w w' := by
  have eg : ∀ args w, (callFunc 64 args).run Try.prog w = .ok (.enter 64 args) w := enters_of Try.func64 (by kernel_rfl) rfl
  obtain ⟨dl, hdl⟩ := lift_H E hE
  obtain ⟨d, hdm⟩ : ∃ d : Array Hs, d.toList.map (·.1) = E := ⟨dl.toArray, hdl⟩
  have hds : d.size = E.length := by rw [← hdm]; simp
  have hfl := flat_fl d
  rw [hdm] at hfl
  have hgl := (Array.getElem?_eq_some_iff.1 hg).1
  have hH : HoldsK encH 32 w g 0 d := fun t ht => by
    rw [Nat.zero_add]
    have hs : t < (fl E).length := by rw [← hfl]; simpa using ht
    constructor
    · rw [cell_of_row w g t _ _ _ hg, List.getElem?_toArray, List.getElem?_append_left hs, ← hfl, Array.getElem?_toList, getElem!_pos _ t ht]
      simp
    · simp [World.frozen?, hg]
  have hc := AnyQ.slices_SortFunc Try.hsortf 32 Try.isAgg27 Try.sizeOf27 encH encH_length encH_one cfH swoH 64 #[] g 0 cap d w eg (lays_cmp g 0 d.size w) hH hgl (by omega)
  rw [hds] at hc
  refine Calls.mono hc ?_
  rintro e w' ⟨he, d', n, os, hp, hso, rfl⟩
  refine ⟨he, d'.toList.map (·.1), ?_, ?_, ?_, ?_, ?_, ?_⟩
  · intro x hx
    obtain ⟨y, _, rfl⟩ := List.mem_map.1 hx
    exact y.2
  · rw [List.length_map, Array.length_toList, hp.1, hds]
  · intro a
    have hpm := hp.2.2
    have e1 : d'.extract 0 E.length = d' := by rw [← hds, ← hp.1]; exact Array.extract_size
    have e2 : d.extract 0 E.length = d := by rw [← hds]; exact Array.extract_size
    rw [e1, e2] at hpm
    rw [← hdm]
    exact (hpm.map (·.1)).mem_iff
  · rw [List.pairwise_iff_getElem]
    intro i j hi hj hij
    have hi' : i < d'.size := by simpa using hi
    have hj' : j < d'.size := by simpa using hj
    have h := hso i j (Nat.zero_le _) hij (by rw [← hds, ← hp.1]; exact hj')
    rw [getElem!_pos d' i hi', getElem!_pos d' j hj', ltH] at h
    simpa using h
  · show (grow (putRowK encH 32 (Sort.ahead w n) g 0 d') os).heap[g]? = _
    rw [grow_at _ _ _ (by rw [putK_size]; exact hgl), putK_at, if_pos rfl, hg]
    show some (Obj.cells (Sort.putCells id 0 (flatK encH 32 d') (fl E ++ R).toArray) _ _) = _
    rw [put_row _ _ _ (by rw [Sort.size_flatK, hp.1, hds, fl_length hE]), flat_fl]
  · refine ⟨rfl, rfl, rfl, ?_, fun k hk hn => ?_⟩
    · show _ ≤ ((putRowK encH 32 (Sort.ahead w n) g 0 d').heap ++ os).size
      rw [Array.size_append, putK_size]; omega
    · show (grow (putRowK encH 32 (Sort.ahead w n) g 0 d') os).heap[k]? = _
      rw [grow_at _ _ _ (by rw [putK_size]; exact hk), putK_at, if_neg (fun e => hn e.symm)]
end Go.Proofs.Ytnpeahbbcolfmaa
namespace Go.Proofs.Ytnpeahbbcolfmaa
open Go.RowKit
theorem hcompact_none (w : World) (p : Option Addr) (cap : Nat) : Calls Try.prog 65 #[.slice p 0 cap] w fun e w' => e = .returned (.slice p 0 cap) ∧ w = w' := by
  go_enter Try.func65, Try.ntmps65
  go_wp2
  go_ret
  exact ⟨rfl, rfl⟩
theorem own_form {w : World} {B : Nat} {v : Value} (h : HOwn w B v []) : ∃ p cap, v = .slice p 0 cap := by
  rcases h.2 with ⟨rfl, _⟩ | ⟨g, cap, cur, rfl, _⟩
  · exact ⟨_, _, rfl⟩
  · exact ⟨_, _, rfl⟩

/-- What Sort leaves. -/
def SoPost (w : World) (E : List (List UInt8)) (e : Ending) (w' : World) : Prop := ∃ v', e = .returned v' ∧ HOwn w' w.heap.size v' (rsort E) ∧ Below w.heap.size w w'

set_option maxRecDepth 20000 in
set_option maxHeartbeats 1000000 in
theorem sort_to (w : World) (v : Value) (E : List (List UInt8)) (hE : H32 E) (hl : E.length * 32 ≤ 140737488355328) (hs : HSeen w v E) : Calls Try.prog 45 #[v] w (SoPost w E) := by
  have HC := Lib.hid (hclone_any w v E hE hl hs)
  have HE := Lib.hid hE
  clear hs hE
  by_cases h0 : E.length = 0
  · obtain rfl : E = [] := List.eq_nil_of_length_eq_zero h0
    have hsn : ∀ p cap W, Calls Try.prog 63 #[.slice p 0 cap, .func (.func 64) #[] #[]] W fun e w' => e = .returned (.tuple #[]) ∧ w' = W := fun p cap W =>
      hsort_none p cap W
    have HS := Lib.hid hsn
    clear hsn h0 hl
    go_enter Try.func45, Try.ntmps45
    go_wp2_with fail
    refine HC.out.mono ?_
    rintro e w1 ⟨v1, rfl, o1, b1⟩
    obtain ⟨p, cap, rfl⟩ := own_form o1
    have O1 := Lib.hid o1
    have B1 := Lib.hid b1
    clear o1 b1
    go_wp2_with fail
    refine (HS.out p cap w1).mono ?_
    rintro e w2 ⟨rfl, rfl⟩
    go_wp2_with fail
    refine (hcompact_none w2 p cap).mono ?_
    rintro e w3 ⟨rfl, rfl⟩
    go_wp2_with fail
    go_ret
    exact ⟨_, rfl, O1.out, B1.out⟩
  · go_enter Try.func45, Try.ntmps45
    go_wp2_with fail
    refine HC.out.mono ?_
    rintro e w1 ⟨v1, rfl, o1, b1⟩
    obtain ⟨g, cap, R, rfl, hb, hg, hc, hm, hR⟩ := o1.row (by omega)
    have HS := Lib.hid (hsort_to w1 g cap E HE.out R hg (by omega))
    have B1 := Lib.hid b1
    have HR := Lib.hid hR
    have HBG := Lib.hid hb
    clear o1 b1 hg hR hb HC
    go_wp2_with fail
    refine HS.out.mono ?_
    rintro e w2 ⟨rfl, E', e32, hlen, hmem, hsort, hg2, on2⟩
    have HK := Lib.hid (hcompact_to w2 g cap E' e32 R hg2 (by rw [hlen]; exact hc) hm (by rw [hlen]; exact HR.out))
    rw [hlen] at HK
    have hcr := cpt_rsort hsort hmem
    have HCR := Lib.hid hcr
    have HX := Lib.hid (show (cpt E').length ≤ E.length from hlen ▸ cpt_length E')
    have ON2 := Lib.hid on2
    clear e32 hlen hmem hsort hg2 on2 hcr HS
    go_wp2_with fail
    refine HK.out.mono ?_
    rintro e w3 hp
    obtain ⟨rfl, R', h1, h2, h3⟩ := hp
    have H1 := Lib.hid h1
    have H2 := Lib.hid h2
    have H3 := Lib.hid h3
    clear h1 h2 h3 HK
    go_wp2_with fail
    go_ret
    have h1 := H1.out
    have h2 := H2.out
    have hx := HX.out
    rw [HCR.out] at h1 h2 hx ⊢
    refine ⟨_, rfl, hown_mk (rsort_h32 HE.out) rfl HBG.out h1 (by omega) hm h2, ?_⟩
    have hon := (ON2.out.trans H3.out (U := fun k => k = g) (fun _ h => h) (fun _ _ h => h))
    have hon2 := (Only.of_below (S := fun k => w.heap.size ≤ k) B1.out).trans (hon.mono (T := fun k => w.heap.size ≤ k) (fun x _ h => by have := HBG.out; omega)) (fun _ h => h) (fun _ _ h => h)
    exact hon2.below (Nat.le_refl _) (fun _ h => h)
end Go.Proofs.Ytnpeahbbcolfmaa
namespace Go.Proofs.Ytnpeahbbcolfmaa
open Go.RowKit Go.Shelf
open Go.Maps
attribute [local go_sem] Oper.semAt_some
attribute [local go_sem ↓] hld_open
/-- What has come, while some are left. -/
structure Col (M : Kv) (left : Lit → Bool) (ss : List Key) : Prop where
  left : ∀ k, left (.string k) = true ↔ k ∈ M.map (·.1) ∧ k ∉ ss
  nodup : ss.Nodup
  sub : ∀ k ∈ ss, k ∈ M.map (·.1)
theorem Col.start (M : Kv) : Col M (Maps.has (mapV M)) [] := ⟨fun k => by rw [mapV_has, aget_isSome]; simp, .nil, fun k h => by cases h⟩
theorem Col.step {M : Kv} {left : Lit → Bool} {ss : List Key} (h : Col M left ss) {k : Key} (hk : left (.string k) = true) : Col M (fun x => left x && !x.sameKey (.string k)) (ss ++ [k]) := by
  obtain ⟨k1, k2⟩ := (h.left k).1 hk
  refine ⟨fun x => ?_, List.nodup_append.2 ⟨h.nodup, by simp, fun a ha b hb => by rw [List.mem_singleton.1 hb]; exact fun e => k2 (e ▸ ha)⟩, fun x hx => ?_⟩
  · simp only [Bool.and_eq_true, Bool.not_eq_true', same_str, beq_eq_false_iff_ne, h.left, List.mem_append, List.mem_singleton]
    constructor
    · rintro ⟨⟨a, b⟩, c⟩; exact ⟨a, fun e => e.elim b c⟩
    · rintro ⟨a, b⟩; exact ⟨⟨a, fun e => b (.inl e)⟩, fun e => b (.inr e)⟩
  · rcases List.mem_append.1 hx with hx | hx
    · exact h.sub x hx
    · rw [List.mem_singleton.1 hx]; exact k1
theorem AAsc.nodup {α : Type} {M : List (Key × α)} (h : AAsc M) : (M.map (·.1)).Nodup := List.pairwise_map.2 (h.imp fun {a b} hab e => by rw [e, bb_irrefl] at hab; cases hab)
theorem Col.done {M : Kv} {left : Lit → Bool} {ss : List Key} (h : Col M left ss) (ha : AAsc M) (hl : ∀ k, left k = false) : ss.Perm (M.map (·.1)) := by
  refine (List.perm_ext_iff_of_nodup h.nodup ha.nodup).2 fun k => ⟨h.sub k, fun hk => Classical.byContradiction fun hn => ?_⟩
  have := (h.left k).2 ⟨hk, hn⟩
  rw [hl] at this; cases this
theorem MpH.grown {w w' : World} {b : Nat} {M : Kv} {row : Option Nat} (h : MpH w b M) (hg : w.grownBy w' row) (hne : some b ≠ row) : MpH w' b M := h.same (hg.block b h.lt hne)
theorem run_build_hash (w : World) (h : Key) (hh : h.length = 32) : (Instr.buildSlice 28 1 #[(0, .agg (hv h))]).run Try.prog w = .ok (.slice (some ⟨w.heap.size, 0, none⟩) 1 1) (w.alloc (.cells (hv h) 27)) := by
  obtain ⟨i0, hi0, hz0, hz1, hz2⟩ := info_parts hzinfo
  refine run_buildSlice w 28 27 1 _ (hv h) i0 (.agg hzer) Try.underlying28 hi0 hz0 (by rw [hz1]; decide) (by rw [hz1]; decide) ?_
  rw [hz1]
  have := Great.fill_whole (s := 32) (by decide) [Value.agg (hv h)] ((Array.range (1 * 32)).map ((Value.agg hzer).cells[· % (Value.agg hzer).cells.size]!)) (fun v hvm => by
    rw [List.mem_singleton.1 hvm]
    show (hv h).size = 32
    rw [hv_size, hh]) (by simp)
  have e := fl_flat [h]
  rw [fl_one] at e
  rw [List.map_cons, List.map_nil] at e
  rw [e, ← hv_list] at this
  exact this
theorem own_lower {w : World} {B B' : Nat} {v : Value} {E : List Key} (h : HOwn w B v E) (hB : B' ≤ B) : HOwn w B' v E := by
  refine ⟨h.1, ?_⟩
  rcases h.2 with h1 | ⟨g, cap, cur, h1, h2, h3⟩
  · exact .inl h1
  · exact .inr ⟨g, cap, cur, h1, Nat.le_trans hB h2, h3⟩
theorem own_isCells {W : World} {B : Nat} {v : Value} {E : List Key} (h : HOwn W B v E) : ∀ (j : Nat) (o : Obj), v.ownBlock = some j → W.heap[j]? = some o → o.isCells = true := fun j o hj ho => by
  rcases h.2 with ⟨rfl, _⟩ | ⟨g, cap, cur, rfl, _, hgb, _⟩
  · simp [Value.ownBlock] at hj
  · obtain rfl : g = j := by simpa [Value.ownBlock] using hj
    rw [hgb] at ho; cases ho; rfl
end Go.Proofs.Ytnpeahbbcolfmaa
namespace Go.Proofs.Ytnpeahbbcolfmaa
open Go.RowKit
open Go.Maps
attribute [local go_sem ↓] hld_open
theorem bl_bb : ∀ a b : Key, Op.bytesLess a b = bytesBefore a b
  | [], [] => rfl
  | [], _ :: _ => rfl
  | _ :: _, [] => rfl
  | x :: a, y :: b => by
    have ih := bl_bb a b
    simp only [Op.bytesLess, bytesBefore, ih]
theorem kvs_keys (X : Lx) : (kvs X).map (·.1) = X.map (·.1) := by simp [kvs, amap, Function.comp_def]
theorem kvs_len (X : Lx) : (kvs X).length = X.length := by simp [kvs, amap]
theorem gr_len (X : Lx) : (gr X).length = X.length := by simp [gr, amap]
theorem gr_get (n : Key) (X : Lx) : aget n (gr X) = (aget n X).map (·.2) := amap_get _ _ _
theorem srt_fit {n : Nat} (h : n ≤ 1000000) : n * 32 ≤ 140737488355328 := by omega
theorem blw_drn {n m : Nat} {w w' : World} (h : Below n (w.drewN m) w') : Below n w w' := ⟨h.os, h.tape, h.output, h.size, h.block⟩
theorem blw_qt (n m : Nat) (w : World) : Below n w (w.drewN m) := ⟨rfl, rfl, rfl, Nat.le_refl _, fun _ _ => rfl⟩
abbrev gp (g : Nat) : Value := .pointer (some ⟨g, 0, none⟩)

/-- graph.New. -/
theorem new_to (w : World) : Calls Try.prog 6 #[] w fun e w' => e = .returned (gp (w.heap.size + 1)) ∧ GA w' (w.heap.size + 1) w.heap.size [] ∧ Below w.heap.size w w' := by
  have h1 := MpH.made w
  have b1 : Below w.heap.size w (w.alloc (.map #[] 0)) := (Below.refl _ w).alloc (Nat.le_refl _) _
  have h2 : GA ((w.alloc (.map #[] 0)).alloc (.cells #[.map (some w.heap.size)] 68)) (w.heap.size + 1) w.heap.size [] :=
    ⟨by have := heap_alloc_last (w.alloc (.map #[] 0)) (.cells #[.map (some w.heap.size)] 68); simpa using this, h1.kb ((Below.refl _ _).alloc (Nat.le_refl _) _) h1.lt, fun x hx => by cases hx⟩
  have B := Lib.hid (b1.alloc b1.size (.cells #[.map (some w.heap.size)] 68))
  have H2 := Lib.hid h2
  have hmm := @run_makeMap Try.prog
  clear h1 h2 b1
  go_enter Try.func6, Try.ntmps6
  go_wp2
  go_ret
  exact ⟨rfl, H2.out, B.out⟩
/-- Count. -/
theorem count_to (w : World) (g bm : Nat) (X : Lx) (H : GA w g bm X) : Calls Try.prog 40 #[gp g] w fun e w' => e = .returned (.int .i64 X.length) ∧ w = w' := by
  have hc := H.c0
  have ho := H.at_.mp.own
  have hs : Maps.size (mapV (kvs X)) = X.length := by rw [mapV_size, kvs_len]
  generalize mapV (kvs X) = D at ho hs
  go_enter Try.func40, Try.ntmps40
  go_wp2_with (at_len; refine wpList_len_own _ rfl _ 66 rfl _ _ Try.underlying66 rdv bm (kvs X).length D rfl ho ?_; rw [hs])
  go_ret
  exact ⟨rfl, rfl⟩
set_option maxRecDepth 20000 in
/-- Has. -/
theorem has_to (w : World) (g bm : Nat) (X : Lx) (h : Key) (hh : h.length = 32) (H : GA w g bm X) : Calls Try.prog 27 #[gp g, .agg (hv h)] w fun e w' => e = .returned (.bool (aget h (gr X)).isSome) ∧ Below w.heap.size w w' := by
  have b1 : Below w.heap.size w (w.alloc (.cells (hv h) 27)) := (Below.refl _ w).alloc (Nat.le_refl _) _
  have H1 := H.kb b1
  have hq : (aget h (kvs X)).isSome = (aget h (gr X)).isSome := by rw [kvs_get, gr_get]; cases aget h X <;> rfl
  have HC := Lib.hid (fun W (hW : Below (w.alloc (.cells (hv h) 27)).heap.size (w.alloc (.cells (hv h) 27)) W) => lhas_to W bm (kvs X) h hh (H1.at_.mp.kb hW H1.at_.mp.lt))
  rw [hq] at HC
  generalize (aget h (gr X)).isSome = ok at HC ⊢
  have c0 := H1.c0
  have HV := Lib.hid (heap_alloc_last w (.cells (hv h) 27))
  have q0 := hld_row (w := (w.alloc (.cells (hv h) 27)).drew) hh HV.out
  have H1' := Lib.hid H1
  have HH := Lib.hid hh
  have B1 := Lib.hid b1
  clear b1 H H1 hq hh
  go_enter Try.func27, Try.ntmps27
  go_wp2_with fail
  generalize w.alloc (.cells (hv h) 27) = w1 at *
  try simp only [List.append]
  refine wp_region_noPanic ?_
  refine wp_region_held_drew (S := (fun W => W.cell? ⟨g, 0, none⟩ = some (.map (some bm)) ∧ (hld ⟨w.heap.size, 0, none⟩).run Try.prog W = .ok (.agg (hv h)) W)) (by kernel_rfl) ⟨c0, q0⟩ (fun hHeld => ?_)
  refine wpAnyH_take (i := 0) (v := ?_) (by simp only [List.getElem?_toArray, List.getElem?_cons_zero]; rfl) (by kernel_rfl) (by kernel_rfl) (by kernel_rfl) (fun _ _ _ h => h) (Or.inl ⟨by rfl, ?_⟩) (by assumption) ?_
  rotate_left
  · intro w hSw
    try dsimp only at hSw
    go_simp
    try with_reducible rfl
  try simp only [Act.put, List.setIfInBounds_toArray, List.set_cons_zero, List.set_cons_succ]
  refine wpAnyH_take (i := 1) (v := ?_) (by simp only [List.getElem?_toArray, List.getElem?_cons_succ, List.getElem?_cons_zero]; rfl) (by kernel_rfl) (by kernel_rfl) (by kernel_rfl) (fun _ _ _ h => h) (Or.inl ⟨by rfl, ?_⟩) (by assumption) ?_
  rotate_left
  · intro w hSw
    try dsimp only at hSw
    go_simp
    try with_reducible rfl
  try simp only [Act.put, List.setIfInBounds_toArray, List.set_cons_zero, List.set_cons_succ]
  refine wpAnyH_take (i := 2) (v := ?_) (by simp only [List.getElem?_toArray, List.getElem?_cons_succ, List.getElem?_cons_zero]; rfl) (by kernel_rfl) (by kernel_rfl) (by kernel_rfl) (fun _ _ _ h => h) (Or.inl ⟨by rfl, ?_⟩) (by assumption) ?_
  rotate_left
  · intro w hSw
    try dsimp only at hSw
    go_simp
    try with_reducible rfl
  try simp only [Act.put, List.setIfInBounds_toArray, List.set_cons_zero, List.set_cons_succ]
  refine wpAnyH_take (i := 3) (v := ?_) (by simp only [List.getElem?_toArray, List.getElem?_cons_succ, List.getElem?_cons_zero]; rfl) (by kernel_rfl) (by kernel_rfl) (by kernel_rfl) (fun _ _ _ h => h) (Or.inl ⟨by rfl, ?_⟩) (by assumption) ?_
  rotate_left
  · intro w hSw
    try dsimp only at hSw
    go_simp
    try with_reducible rfl
  try simp only [Act.put, List.setIfInBounds_toArray, List.set_cons_zero, List.set_cons_succ]
  refine wpAnyH_take (i := 4) (v := ?_) (by simp only [List.getElem?_toArray, List.getElem?_cons_succ, List.getElem?_cons_zero]; rfl) (by kernel_rfl) (by kernel_rfl) (by kernel_rfl) (fun _ _ _ h => h) (Or.inl ⟨by rfl, ?_⟩) (by assumption) ?_
  rotate_left
  · intro w hSw
    try dsimp only at hSw
    go_simp
    try with_reducible rfl
  try simp only [Act.put, List.setIfInBounds_toArray, List.set_cons_zero, List.set_cons_succ]
  refine wpAnyH_ready (rs := [5]) (by kernel_rfl) (by simp) ?_
  refine AllReadyH.cons (by simp only [List.getElem?_toArray, List.getElem?_cons_succ, List.getElem?_cons_zero]; rfl) (fun K hK => ?_) AllReadyH.nil
  go_simp
  refine (HC.out w1.drew ((Below.refl _ w1).drew)).mono ?_
  rintro e w2 ⟨rfl, b2⟩
  have B2 : Hid (Below w.heap.size w w2) := Lib.hid (B1.out.trans ((blw_drn (m := 1) b2).mono B1.out.size))
  have q2 := hld_row (w := w2) HH.out ((b2.block _ (Array.getElem?_eq_some_iff.1 HV.out).1).trans HV.out)
  have c2 := (H1'.out.kb (blw_drn (m := 1) b2)).c0
  go_wp2_with fail
  refine hK.out _ _ ⟨c2, q2⟩ (fun hHeld => ?_)
  clear hK K
  try simp only [Act.put, List.setIfInBounds_toArray, List.set_cons_zero, List.set_cons_succ]
  refine wpAnyH_take (i := 6) (v := ?_) (by simp only [List.getElem?_toArray, List.getElem?_cons_succ, List.getElem?_cons_zero]; rfl) (by kernel_rfl) (by kernel_rfl) (by kernel_rfl) (fun _ _ _ h => h) (Or.inl ⟨by rfl, ?_⟩) (by assumption) ?_
  rotate_left
  · intro w hSw
    try dsimp only at hSw
    go_simp
    try with_reducible rfl
  try simp only [Act.put, List.setIfInBounds_toArray, List.set_cons_zero, List.set_cons_succ]
  refine wpAnyH_done (by kernel_rfl) ?_ _
  refine NoPanic.normal ?_
  go_wp2
  go_ret
  exact ⟨rfl, B2.out⟩

set_option maxRecDepth 20000 in
/-- Parents. -/
theorem parents_to (w : World) (g bm : Nat) (X : Lx) (h : Key) (hh : h.length = 32) (H : GA w g bm X) (hl : ∀ x ∈ X, x.2.2.length ≤ 1000000) : Calls Try.prog 23 #[gp g, .agg (hv h)] w fun e w' =>
    ∃ v, e = .returned (.tuple #[v, .bool (aget h (gr X)).isSome]) ∧ HOwn w' w.heap.size v ((aget h (gr X)).getD []) ∧ Below w.heap.size w w' := by
  have b1 : Below w.heap.size w (w.alloc (.cells (hv h) 27)) := (Below.refl _ w).alloc (Nat.le_refl _) _
  have H1 := H.kb b1
  have hlk := fun j => (H1.at_.mp.drew j).lookOk Try.underlying66 (lzero _) h hh
  have hq : (aget h (kvs X)).isSome = (aget h (gr X)).isSome := by rw [kvs_get, gr_get]; cases aget h X <;> rfl
  rw [hq] at hlk
  have hs : HSeen (w.alloc (.cells (hv h) 27)) ((aget h (kvs X)).getD (.slice none 0 0)) ((aget h (gr X)).getD []) ∧ H32 ((aget h (gr X)).getD []) ∧ ((aget h (gr X)).getD []).length ≤ 1000000 := by
    rw [kvs_get, gr_get]
    cases hg : aget h X with
    | none => exact ⟨.inl ⟨rfl, rfl⟩, H32.nil, Nat.zero_le _⟩
    | some y => exact ⟨(H1.at_.seen _ (aget_mem hg)).1, (H1.at_.seen _ (aget_mem hg)).2, hl _ (aget_mem hg)⟩
  generalize (aget h (gr X)).isSome = ok at hlk ⊢
  generalize (aget h (gr X)).getD [] = E at hs ⊢
  generalize (aget h (kvs X)).getD (.slice none 0 0) = zv at hlk hs
  have HCL := Lib.hid (fun W (hW : Below (w.alloc (.cells (hv h) 27)).heap.size (w.alloc (.cells (hv h) 27)) W) => hclone_any W zv E hs.2.1 (srt_fit hs.2.2) (hs.1.mild (mild_below hW)))
  have c0 := H1.c0
  have HV := Lib.hid (heap_alloc_last w (.cells (hv h) 27))
  have hld0 := fun j => hld_row (w := (w.alloc (.cells (hv h) 27)).drewN j) hh HV.out
  have B1 := Lib.hid b1
  clear b1 H H1 hq hh hs hl
  go_enter Try.func23, Try.ntmps23
  go_wp2_with fail
  generalize w.alloc (.cells (hv h) 27) = w1 at *
  generalize hv h = q at *
  go_quiet (fail)
  go_wp2_with (first
    | (go_at_call 28; refine (HCL.out (w1.drewN _) (blw_qt _ _ w1)).mono ?_; rintro e w2 ⟨v2, rfl, o2, b2⟩))
  go_ret2
  have b3 := blw_drn b2
  exact ⟨_, rfl, own_lower o2 B1.out.size, B1.out.trans (b3.mono B1.out.size)⟩
end Go.Proofs.Ytnpeahbbcolfmaa
namespace Go.Proofs.Ytnpeahbbcolfmaa
open Go.RowKit
open Go.Maps
attribute [local go_sem ↓] hld_open
/-- b comes of a by steps along f. -/
inductive Up (f : Key → List Key) : Key → Key → Prop
  | refl (a : Key) : Up f a a
  | step {a b c : Key} (h : b ∈ f a) (k : Up f b c) : Up f a c
theorem Up.one {f : Key → List Key} {a b : Key} (h : b ∈ f a) : Up f a b := .step h (.refl b)
theorem Up.trans {f : Key → List Key} {a b c : Key} (h : Up f a b) (k : Up f b c) : Up f a c := by
  induction h with
  | refl => exact k
  | step h1 _ ih => exact .step h1 (ih k)
theorem Up.snoc {f : Key → List Key} {a b c : Key} (h : Up f a b) (k : c ∈ f b) : Up f a c := h.trans (.one k)
/-- What has been reached, R, and what is to be gone through, T. -/
structure RInv (f : Key → List Key) (E R T : List Key) : Prop where
  up : ∀ x, x ∈ R ∨ x ∈ T → ∃ a ∈ E, Up f a x
  src : ∀ a ∈ E, a ∈ R ∨ a ∈ T
  clo : ∀ x ∈ R, ∀ p ∈ f x, p ∈ R ∨ p ∈ T
theorem RInv.start (f : Key → List Key) (E : List Key) : RInv f E [] E := ⟨fun x h => h.elim (fun h => by cases h) fun h => ⟨x, h, .refl x⟩, fun _ h => .inr h, fun _ h => by cases h⟩
theorem RInv.old {f : Key → List Key} {E R T : List Key} {x : Key} (h : RInv f E R (T ++ [x])) (hx : x ∈ R) : RInv f E R T := by
  have g : ∀ y, y ∈ R ∨ y ∈ T ++ [x] → y ∈ R ∨ y ∈ T := fun y hy => by
    rcases hy with hy | hy
    · exact .inl hy
    · rcases List.mem_append.1 hy with hy | hy
      · exact .inr hy
      · rw [List.mem_singleton.1 hy]; exact .inl hx
  exact ⟨fun y hy => h.up y (hy.imp id fun e => List.mem_append_left _ e), fun a ha => g a (h.src a ha), fun y hy p hp => g p (h.clo y hy p hp)⟩
theorem RInv.new {f : Key → List Key} {E R R' T : List Key} {x : Key} (h : RInv f E R (T ++ [x])) (hR : ∀ y, y ∈ R' ↔ y = x ∨ y ∈ R) : RInv f E R' (T ++ f x) := by
  obtain ⟨a, ha, hax⟩ := h.up x (.inr (List.mem_append_right _ List.mem_cons_self))
  have g : ∀ y, y ∈ R ∨ y ∈ T ++ [x] → y ∈ R' ∨ y ∈ T ++ f x := fun y hy => by
    rcases hy with hy | hy
    · exact .inl ((hR y).2 (.inr hy))
    · rcases List.mem_append.1 hy with hy | hy
      · exact .inr (List.mem_append_left _ hy)
      · exact .inl ((hR y).2 (.inl (List.mem_singleton.1 hy)))
  refine ⟨fun y hy => ?_, fun b hb => g b (h.src b hb), fun y hy p hp => ?_⟩
  · rcases hy with hy | hy
    · rcases (hR y).1 hy with rfl | hy
      · exact ⟨a, ha, hax⟩
      · exact h.up y (.inl hy)
    · rcases List.mem_append.1 hy with hy | hy
      · exact h.up y (.inr (List.mem_append_left _ hy))
      · exact ⟨a, ha, hax.snoc hy⟩
  · rcases (hR y).1 hy with rfl | hy
    · exact .inr (List.mem_append_right _ hp)
    · exact g p (h.clo y hy p hp)
theorem up_mem {f : Key → List Key} {R : List Key} (hc : ∀ x ∈ R, ∀ p ∈ f x, p ∈ R) {a x : Key} (h : Up f a x) : a ∈ R → x ∈ R := by
  induction h with
  | refl => exact id
  | step h1 _ ih => exact fun h0 => ih (hc _ h0 _ h1)
theorem RInv.done {f : Key → List Key} {E R : List Key} (h : RInv f E R []) (x : Key) : x ∈ R ↔ ∃ a ∈ E, Up f a x := by
  have n : ∀ y, y ∈ R ∨ y ∈ ([] : List Key) → y ∈ R := fun y hy => hy.elim (fun h => h) (fun h => by cases h)
  exact ⟨fun hx => h.up x (.inl hx), fun ⟨a, ha, hax⟩ => up_mem (fun x hx p hp => n p (h.clo x hx p hp)) hax (n a (h.src a ha))⟩
theorem nodup_le {α : Type} [DecidableEq α] : ∀ {R U : List α}, R.Nodup → (∀ x ∈ R, x ∈ U) → R.length ≤ U.length
  | [], _, _, _ => Nat.zero_le _
  | x :: R, U, h, hs => by
    obtain ⟨h1, h2⟩ := List.nodup_cons.1 h
    have hx := hs x List.mem_cons_self
    have := nodup_le (U := U.erase x) h2 fun y hy => (List.mem_erase_of_ne (by rintro rfl; exact h1 hy)).2 (hs y (List.mem_cons_of_mem _ hy))
    rw [List.length_erase_of_mem hx] at this
    have := List.length_pos_of_mem hx
    rw [List.length_cons]; omega
theorem up_in {f : Key → List Key} {E U : List Key} (hE : ∀ x ∈ E, x ∈ U) (hf : ∀ x, ∀ p ∈ f x, p ∈ U) {a x : Key} (ha : a ∈ E) (h : Up f a x) : x ∈ U := by
  have h0 := hE a ha
  clear ha
  induction h with
  | refl => exact h0
  | step h1 _ ih => exact ih (hf _ _ h1)
/-- The parents of a commit. -/
def adj (G : Gr) (h : Key) : List Key := (aget h G).getD []
/-- How many entries a map has. -/
def msz (w : World) (b : Nat) : Nat := match w.heap[b]? with | some (.map es _) => es.size | _ => 0
theorem MpH.msz {w : World} {b : Nat} {M : Kv} (h : MpH w b M) : msz w b = M.length := by
  obtain ⟨es, clock, h1, h2, _, h4⟩ := h.own
  unfold mapV at h4
  have h6 := congrArg List.length (DataW.map.inj h4)
  rw [length_sorted] at h6
  simp at h6
  simp only [Go.Proofs.Ytnpeahbbcolfmaa.msz, h1]
  exact h6.symm
def slen : Value → Nat | .slice _ n _ => n | _ => 0
theorem HOwn.cut {w : World} {B n : Nat} {p : Option Addr} {c : Nat} {T : List Key} {x : Key} (h : HOwn w B (.slice p n c) (T ++ [x])) (hT : H32 T) : HOwn w B (.slice p T.length c) T := by
  obtain ⟨g, cap, R, e, hb, hg, hc, hm, hR⟩ := h.row (by simp)
  simp only [Value.slice.injEq] at e
  obtain ⟨rfl, _, rfl⟩ := e
  rw [List.length_append, List.length_singleton] at hc hR
  rw [fl_app, fl_one, List.append_assoc] at hg
  have hx : (us (nmb x)).length = 32 := by
    have := h.1
    rw [fl_app, fl_one, List.length_append, fl_length hT, List.length_append, List.length_singleton] at this
    omega
  exact hown_mk hT rfl hb hg (by omega) hm (by rw [List.length_append, hx, hR]; omega)
theorem HOwn.last {w : World} {B n : Nat} {p : Option Addr} {c : Nat} {T : List Key} {x : Key} (h : HOwn w B (.slice p n c) (T ++ [x])) (hT : H32 (T ++ [x])) : ∃ g, p = some ⟨g, 0, none⟩ ∧ n = T.length + 1 ∧ T.length < c ∧ w.rangeAt g (T.length * 32) (us (nmb x)) := by
  obtain ⟨g, cap, R, e, hb, hg, hc, hm, hR⟩ := h.row (by simp)
  simp only [Value.slice.injEq] at e
  obtain ⟨rfl, rfl, rfl⟩ := e
  rw [List.length_append, List.length_singleton] at hc
  have := row_range hT (i := T.length) (by simp) hg
  refine ⟨g, rfl, by simp, by omega, ?_⟩
  simpa using this
theorem own_ne_map {w : World} {B b : Nat} {v : Value} {E : List Key} {M : Kv} (h : HOwn w B v E) (hm : MpH w b M) : v.ownBlock ≠ some b := fun e => by
  obtain ⟨es, c, hb⟩ := hm.ismap
  have := own_isCells h b _ e hb
  cases this
theorem HOwn.step {w w' : World} {B : Nat} {v : Value} {E : List Key} {S : Nat → Prop} (h : HOwn w B v E) (ho : Only S w w') (hs : ∀ j, v.ownBlock = some j → ¬ S j) : HOwn w' B v E := by
  refine ⟨h.1, ?_⟩
  rcases h.2 with h1 | ⟨g, cap, cur, rfl, hb, hg, h3⟩
  · exact .inl h1
  · exact .inr ⟨g, cap, cur, rfl, hb, (ho.block g (Array.getElem?_eq_some_iff.1 hg).1 (hs g rfl)).trans hg, h3⟩
theorem SetH.step {w w' : World} {b : Nat} {R : List Key} {S : Nat → Prop} (h : SetH w b R) (ho : Only S w w') (hs : ¬ S b) : SetH w' b R := by
  obtain ⟨M, h1, h2, h3⟩ := h.ex
  exact ⟨M, h1.kept ho hs, h2, h3⟩
theorem run_append_nil_h {w : World} (base : Nat) (t ty e : TypeId) (i : TypeInfo) (size : Nat) (ht : Try.prog.underlying t = some (.slice e)) (hi : Try.prog.info? e = some i)
    (v : Value) (n : Nat) (xs : List Value) (hown : w.ownsRow base e size v n xs) : (Builtin.append_ #[t, t] ty #[v, .slice none 0 0]).run Try.prog w = .ok v w := by
  rcases hown.2 with ⟨rfl, rfl⟩ | ⟨g, cap, cur, rfl, _, _, hnc, _⟩
  · simp [Builtin.append_, run_underlying ht, sizeOf, typeInfo, hi, Builtin.lenOf, Builtin.firstCells]
  · simp [Builtin.append_, run_underlying ht, sizeOf, typeInfo, hi, Builtin.lenOf, Builtin.firstCells, hnc, storeCells]
/-- What append does with a slice of the call's own and one that is read. -/
theorem run_push_hash (w : World) (ty : TypeId) (B : Nat) (v u : Value) (l m : List Key) (hown : HOwn w B v l) (hu : HSeen w u m) (hm : H32 m) (hs : l.length + m.length ≤ 4398046511104) (hB : B ≤ w.heap.size) :
    ∃ v' w', (Builtin.append_ #[28, 28] ty #[v, u]).run Try.prog w = .ok v' w' ∧ HOwn w' B v' (l ++ m) ∧ Only (fun j => v.ownBlock = some j) w w' := by
  obtain ⟨i0, hi0, hz0, hz1, hz2⟩ := info_parts hzinfo
  have hf : l.length + m.length ≤ maxLen ∧ (l.length + m.length) * 32 ≤ 140737488355328 := by unfold maxLen; omega
  rcases hu with ⟨rfl, rfl⟩ | ⟨a, cap, rfl, hc, hcell⟩
  · obtain ⟨v', w', hr, h1, h2⟩ : ∃ v' w', (Builtin.append_ #[28, 28] ty #[v, .slice none 0 0]).run Try.prog w = .ok v' w' ∧ v' = v ∧ w' = w :=
      ⟨v, w, run_append_nil_h B _ ty 27 i0 32 Try.underlying28 hi0 v _ _ hown, rfl, rfl⟩
    subst h1 h2
    exact ⟨_, _, hr, by simpa using hown, Only.refl _ _⟩
  · obtain ⟨v', w', hr, h2, h3, h4, h5⟩ := run_append_own_at (P := Try.prog) (w := w) B 28 ty 27 i0 _ 32 32 Try.underlying28 hi0 hz0 hz1 hz2 rfl (by decide) v l.length (fl l) hown a m.length cap (fl m) (fl_length hm) hcell (fl_one' m) hf.1 hf.2 hB
    refine ⟨v', w', hr, ?_, (Only.refl _ w).grown h3 (fun k _ e => e)⟩
    unfold HOwn
    rw [List.length_append, fl_app]
    exact h2
section
variable {ops : Array Oper} {rest : List Oper} {a : Act} {Q : Exit → Act → World → Prop} {o : Oper} {w : World}
theorem push_hash (hgd : o.guard = none) (s x : Operand) (ho : o.op = .call { callee := .builtin .append, args := #[s, x], argTypes := #[28, 28] })
    (B : Nat) (v u : Value) (l m : List Key) (hs : a.eval s = v) (hown : HOwn w B v l) (hx : a.eval x = u) (hu : HSeen w u m) (h32m : H32 m) (hl : l.length + m.length ≤ 4398046511104) (hB : B ≤ w.heap.size)
    (h : ∀ v' w', HOwn w' B v' (l ++ m) → Only (fun j => v.ownBlock = some j) w w' → wpList Try.prog ops Q rest (a.put o.dst v') w') :
    wpList Try.prog ops Q (o :: rest) a w := by
  refine wpList_plain hgd fun K hK => ?_
  obtain ⟨v', w', hr, h1, h2⟩ := run_push_hash w o.type B v u l m hown hu h32m hl hB
  unfold Oper.wp execOp
  simp only [ho, resolve, invoke, builtin, Sem.run_bind, Sem.run_pure, Result.andThen_ok, List.map_toArray, List.map_cons, List.map_nil, hs, hx, hr]
  exact hK _ _ (h v' w' h1 h2)
end
theorem reach_fits {t r n m : Nat} (ht : t + 1 ≤ 4000 + r * 1000) (hr : r ≤ n) (hn : n ≤ 4000) (hm : m ≤ 1000) : t + m ≤ 4398046511104 ∧ t + m ≤ 4000 + (r + 1) * 1000 := by omega
theorem idx_fits {t r : Nat} (ht : t + 1 ≤ 4000 + r * 1000) (hr : r ≤ 4000) : wrap64 (t : Int) = (t : Int) ∧ (0 : Int) ≤ (t : Int) ∧ (t : Int) < (t : Int) + 1 ∧ (t : Int) + 1 > 0 := by
  unfold wrap64; omega
theorem meas_new {n r t m : Nat} (hr : r + 1 ≤ n) (hm : m ≤ 1000) : (n - (r + 1)) * 1001 + (t + m) < (n - r) * 1001 + (t + 1) := by omega
theorem lzs (p : Option Addr) (n c : Nat) : slen (.slice p n c) = n := rfl
theorem setH_made (w : World) : SetH (w.alloc (.map #[] 0)) w.heap.size [] := ⟨⟨[], MpH.made w, fun p h => by simp at h, rfl⟩⟩
theorem setH_nodup {w : World} {b : Nat} {R : List Key} (h : SetH w b R) : R.Nodup := by
  obtain ⟨M, h1, _, rfl⟩ := h.ex
  exact h1.asc.nodup
theorem setH_msz {w : World} {b : Nat} {R : List Key} (h : SetH w b R) : msz w b = R.length := by
  obtain ⟨M, h1, _, rfl⟩ := h.ex
  rw [h1.msz, List.length_map]
theorem asum_one {α : Type} : ∀ M : List (Key × α), asum (fun _ => 1) M = M.length
  | [] => rfl
  | a :: M => by
    have ih := asum_one M
    simp only [asum, List.map_cons, List.sum_cons, List.length_cons] at ih ⊢
    omega
/-- A hash more in a set. -/
theorem setH_store {w : World} {b : Nat} {R : List Key} (h : SetH w b R) (n : Key) (hn : n.length = 32) (hl : R.length ≤ 1000000) :
    ∃ w', (Instr.mapUpdate 98 (.map (some b)) (.agg (hv n)) (.agg #[])).run Try.prog w = .ok () w' ∧ (∃ R', SetH w' b R' ∧ (∀ y, y ∈ R' ↔ y = n ∨ y ∈ R) ∧ (n ∉ R → R'.length = R.length + 1)) ∧ Only (fun k => k = b) w w' := by
  obtain ⟨M, h1, hu, rfl⟩ := h.ex
  rw [List.length_map] at hl
  obtain ⟨w', hr, h2, h3⟩ := h1.store Try.underlying98 n hn (by unfold maxLen; omega) (.agg #[])
  have hm : ∀ y, y ∈ (aput n (Value.agg #[]) M).map (·.1) ↔ y = n ∨ y ∈ M.map (·.1) := fun y => by
    simp only [List.mem_map]
    constructor
    · rintro ⟨p, hp, rfl⟩
      rcases (ains_mem _ _ _).1 hp with rfl | hp
      · exact .inl rfl
      · exact .inr ⟨p, ((adel_mem _ _ _).1 hp).1, rfl⟩
    · rintro (rfl | ⟨p, hp, rfl⟩)
      · exact ⟨_, (ains_mem _ _ _).2 (.inl rfl), rfl⟩
      · by_cases e : p.1 = n
        · exact ⟨_, (ains_mem _ _ _).2 (.inl rfl), e.symm⟩
        · exact ⟨p, (ains_mem _ _ _).2 (.inr ((adel_mem _ _ _).2 ⟨hp, e⟩)), rfl⟩
  refine ⟨w', hr, ⟨_, ⟨⟨_, h2, fun p hp => ?_, rfl⟩⟩, hm, fun hno => ?_⟩, h3⟩
  · rcases (ains_mem _ _ _).1 hp with rfl | hp
    · rfl
    · exact hu p ((adel_mem _ _ _).1 hp).1
  · have hg : aget n M = none := by
      have := aget_isSome (n := n) (M := M)
      rw [decide_eq_false hno] at this
      cases hgg : aget n M with
      | none => rfl
      | some v => rw [hgg] at this; cases this
    have hs := asum_put (fun _ => 1) n (Value.agg #[]) h1.asc
    rw [hg] at hs
    simp only [asum_one, olen] at hs
    rw [List.length_map, List.length_map]; omega
theorem SetH.lt' {w : World} {b : Nat} {R : List Key} (h : SetH w b R) : b + 1 ≤ w.heap.size := by
  obtain ⟨M, h1, _⟩ := h.ex
  exact h1.lt
/-- What reach hands back. -/
def RePost (w : World) (f : Key → List Key) (E U : List Key) (e : Ending) (w' : World) : Prop :=
  ∃ b R, e = .returned (.map (some b)) ∧ SetH w' b R ∧ w.heap.size ≤ b ∧ (∀ x, x ∈ R ↔ ∃ a ∈ E, Up f a x) ∧ R.length ≤ U.length ∧ Below w.heap.size w w'
set_option maxRecDepth 20000 in
set_option maxHeartbeats 4000000 in
theorem reach_to (w : World) (bl : Nat) (X : Lx) (v : Value) (E U : List Key) (H : LAt w bl X) (hE : HSeen w v E) (h32 : H32 E) (hEl : E.length ≤ 4000) (hU : U.length ≤ 4000) (hEU : ∀ x ∈ E, x ∈ U) (hfU : ∀ x, ∀ p ∈ adj (gr X) x, p ∈ U) (hf : ∀ x ∈ X, x.2.2.length ≤ 1000) :
    Calls Try.prog 48 #[.map (some bl), v] w (RePost w (adj (gr X)) E U) := by
  have hu32 : ∀ a ∈ E, ∀ x, Up (adj (gr X)) a x → x.length = 32 := fun a ha x hx => by
    have hc : ∀ y ∈ E ++ U.filter (fun u => u.length = 32), ∀ p ∈ adj (gr X) y, p ∈ E ++ U.filter (fun u => u.length = 32) := fun y _ p hp => by
      refine List.mem_append_right _ (List.mem_filter.2 ⟨hfU y p hp, ?_⟩)
      unfold adj at hp
      rw [gr_get] at hp
      cases hg : aget y X with
      | none => rw [hg] at hp; cases hp
      | some z => rw [hg] at hp; exact decide_eq_true ((H.seen _ (aget_mem hg)).2 p hp)
    rcases List.mem_append.1 (up_mem hc hx (List.mem_append_left _ ha)) with h | h
    · exact h32 x h
    · exact of_decide_eq_true (List.mem_filter.1 h).2
  have hmm := @run_makeMap Try.prog
  have b1 : Below w.heap.size w (w.alloc (.map #[] 0)) := (Below.refl _ w).alloc (Nat.le_refl _) _
  have HCL := Lib.hid (hclone_any (w.alloc (.map #[] 0)) v E h32 (by omega) (hE.mild (mild_below b1)))
  have HS0 := Lib.hid (setH_made w)
  have hs0 : (w.alloc (.map #[] 0)).heap.size = w.heap.size + 1 := by simp
  have B1 := Lib.hid b1
  have HL := Lib.hid H
  have HU := Lib.hid hu32
  have HEU := Lib.hid hEU
  have HFU := Lib.hid hfU
  have HF := Lib.hid hf
  have HEl := Lib.hid hEl
  have HUl := Lib.hid hU
  have H3 := Lib.hid h32
  clear hu32 b1 H hE h32 hEl hU hEU hfU hf
  go_enter Try.func48, Try.ntmps48
  go_wp2_with fail
  refine HCL.out.mono ?_
  rintro e w1 ⟨v1, rfl, o1, b2⟩
  rw [hs0] at o1 b2
  have HS1 := Lib.hid (HS0.out.kb b2 (Nat.lt_succ_self _))
  have B2 := Lib.hid (B1.out.trans (b2.mono (Nat.le_succ _)))
  obtain ⟨p1, c1, rfl⟩ := (HSeen.own o1).shape
  have O1 := Lib.hid o1
  clear o1 b2
  go_wp2_with fail
  go_loopw [6] (fun s wr => ∃ T R p n c, s = .slice p n c ∧ n = T.length ∧ Hid (HOwn wr (w.heap.size + 1) (.slice p n c) T) ∧ Hid (SetH wr w.heap.size R) ∧ Hid (RInv (adj (gr X)) E R T) ∧ Hid (H32 T ∧ T.length ≤ 4000 + R.length * 1000 ∧ R.length ≤ U.length) ∧ Hid (Below w.heap.size w wr))
    (fun s wr => (U.length - msz wr w.heap.size) * 1001 + slen s)
  case atStart => exact ⟨E, [], p1, E.length, c1, rfl, rfl, O1, HS1, Lib.hid (RInv.start _ _), Lib.hid ⟨H3.out, by have := HEl.out; simp; omega, Nat.zero_le _⟩, B2⟩
  case round =>
    obtain ⟨T, R, p, n, c, rfl, hn, O, S, I, L, B⟩ := hrel
    clear HS0 HS1 B1 B2 O1
    cases hT : T.reverse with
    | nil =>
      obtain rfl : T = [] := by simpa using hT
      obtain rfl : n = 0 := hn
      clear hT
      go_wp2
      go_ret
      exact ⟨_, R, rfl, S.out, Nat.le_refl _, I.out.done, L.out.2.2, B.out⟩
    | cons x T' =>
      obtain ⟨T1, rfl⟩ : ∃ T1, T = T1 ++ [x] := ⟨T'.reverse, by rw [← List.reverse_reverse T, hT, List.reverse_cons]⟩
      clear hT T'
      obtain ⟨h32T, hTl, hRl⟩ := L.out
      have hx : x.length = 32 := h32T x (List.mem_append_right _ List.mem_cons_self)
      have h32T1 : H32 T1 := fun y hy => h32T y (List.mem_append_left _ hy)
      obtain ⟨g, rfl, hn', hcap, hrg⟩ := O.out.last h32T
      obtain ⟨m, hm⟩ : ∃ m, m = T1.length := ⟨_, rfl⟩
      rw [List.length_append, List.length_singleton, ← hm] at hTl
      rw [← hm] at hn' hcap hrg
      clear hn
      subst hn'
      obtain ⟨i1, i2, i3, i4⟩ := idx_fits hTl (Nat.le_trans hRl HUl.out)
      have hcm : (m : Int) ≤ (c : Int) := by omega
      have OC := Lib.hid (HOwn.cut O.out h32T1)
      have hld0 := hld_range hx hrg
      have st := hst_cells x hx wr
      have hks : (hv x).size = 32 := by rw [hv_size, hx]
      have b3 : Below wr.heap.size wr (wr.alloc (.cells (hv x) 27)) := (Below.refl _ _).alloc (Nat.le_refl _) _
      have hwr : w.heap.size + 1 ≤ wr.heap.size := by
        have hlt : w.heap.size < wr.heap.size := by
          obtain ⟨M, h1, _⟩ := S.out.ex
          exact h1.lt
        exact hlt
      have S3 := Lib.hid (S.out.kb b3 hwr)
      have HV3 := Lib.hid (heap_alloc_last wr (.cells (hv x) 27))
      have hld3 := hld_row (w := wr.alloc (.cells (hv x) 27)) hx HV3.out
      have HSH := Lib.hid (shas_to (wr.alloc (.cells (hv x) 27)) w.heap.size R x hx S3.out)
      have O3 := Lib.hid (OC.out.step (Only.of_below (S := fun _ => False) b3) (fun _ _ h => h))
      have B3 : Hid (Below w.heap.size w (wr.alloc (.cells (hv x) 27))) := Lib.hid (B.out.alloc B.out.size _)
      have hs3 : (wr.alloc (.cells (hv x) 27)).heap.size = wr.heap.size + 1 := by simp
      have MZ := Lib.hid (setH_msz S.out)
      have HM := Lib.hid hm
      have HTL := Lib.hid hTl
      have HRL := Lib.hid hRl
      have HX := Lib.hid hx
      have H32T1 := Lib.hid h32T1
      have HWR := Lib.hid hwr
      clear hrg b3 hm hTl hRl h32T h32T1 O OC S L
      generalize hw3 : wr.alloc (.cells (hv x) 27) = w3 at *
      by_cases hxR : x ∈ R
      · have HXR := Lib.hid hxR
        rw [decide_eq_true hxR] at HSH
        clear hxR
        go_wp2_with fail
        refine HSH.out.mono ?_
        rintro e w4 ⟨rfl, b4⟩
        rw [hs3] at b4
        have S4 := Lib.hid (S3.out.kb b4 (by omega))
        have O4 := Lib.hid (O3.out.step (Only.of_below (S := fun _ => False) (by rw [hs3]; exact b4)) (fun _ _ h => h))
        have B4 : Hid (Below w.heap.size w w4) := Lib.hid (B3.out.trans (b4.mono (by omega)))
        clear b4
        go_wp2_with fail
        rw [MZ.out, setH_msz S4.out, lzs, lzs]
        exact ⟨⟨T1, R, _, m, c, rfl, HM.out, by rw [HM.out]; exact O4, S4, Lib.hid (RInv.old I.out HXR.out), Lib.hid ⟨H32T1.out, by rw [← HM.out]; have := HTL.out; omega, HRL.out⟩, B4⟩, by omega⟩
      · have HXR := Lib.hid hxR
        rw [decide_eq_false hxR] at HSH
        clear hxR
        go_wp2_with fail
        refine HSH.out.mono ?_
        rintro e w4 ⟨rfl, b4⟩
        rw [hs3] at b4
        have S4 := Lib.hid (S3.out.kb b4 (by omega))
        have O4 := Lib.hid (O3.out.step (Only.of_below (S := fun _ => False) (by rw [hs3]; exact b4)) (fun _ _ h => h))
        have B4 : Hid (Below w.heap.size w w4) := Lib.hid (B3.out.trans (b4.mono (by omega)))
        have HV4 := Lib.hid ((b4.block wr.heap.size (by omega)).trans HV3.out)
        have hld4 := hld_row (w := w4) HX.out HV4.out
        obtain ⟨w5, hmu, ⟨R', s5, hR', hlen⟩, o5⟩ := setH_store S4.out x HX.out (by have := HRL.out; have := HUl.out; omega)
        have hne : wr.heap.size ≠ w.heap.size := by have := HWR.out; omega
        have HV5 := Lib.hid ((o5.block wr.heap.size (Array.getElem?_eq_some_iff.1 HV4.out).1 hne).trans HV4.out)
        have hld5 := hld_row (w := w5) HX.out HV5.out
        have B5 : Hid (Below w.heap.size w w5) := Lib.hid (B4.out.trans (Only.below (S := fun k => k = w.heap.size) o5 B4.out.size (fun k hk => by omega)))
        have O5 := Lib.hid (O4.out.step o5 (fun j hj e => by have := (O4.out.lt j hj).1; omega))
        have L5 := HL.out.kb B5.out
        have hlk := L5.mp.look Try.underlying66 (lzero _) x HX.out
        have hsn : HSeen w5 ((aget x (kvs X)).getD (.slice none 0 0)) (adj (gr X) x) ∧ H32 (adj (gr X) x) ∧ (adj (gr X) x).length ≤ 1000 := by
          unfold adj
          rw [kvs_get, gr_get]
          cases hg : aget x X with
          | none => exact ⟨.inl ⟨rfl, rfl⟩, H32.nil, Nat.zero_le _⟩
          | some y => exact ⟨(L5.seen _ (aget_mem hg)).1, (L5.seen _ (aget_mem hg)).2, HF.out _ (aget_mem hg)⟩
        have S5 := Lib.hid s5
        have HR5 := Lib.hid hR'
        have HLN := Lib.hid (hlen HXR.out)
        have HSN := Lib.hid hsn
        have HFL := Lib.hid hsn.2.2
        have hrf := reach_fits HTL.out HRL.out HUl.out hsn.2.2
        have HRF := Lib.hid hrf
        have hsz5 := B5.out.size
        have hwb : w.heap.size + 1 ≤ w5.heap.size := s5.lt'
        have HPL : Hid (T1.length + (adj (gr X) x).length ≤ 4398046511104) := Lib.hid (by rw [← HM.out]; exact hrf.1)
        generalize hzv : (aget x (kvs X)).getD (.slice none 0 0) = zv at hlk HSN
        generalize hF : adj (gr X) x = F at *
        have HOM := Lib.hid HM.out
        clear b4 o5 L5 s5 hR' hlen hsn hrf hsz5 hzv
        have hO5' : HOwn w5 (w.heap.size + 1) (.slice (some ⟨g, 0, none⟩) m c) T1 := by rw [HOM.out]; exact O5.out
        have HO5 := Lib.hid hO5'
        clear hO5' O5
        go_wp2_with (at_builtin; refine push_hash rfl _ _ rfl (w.heap.size + 1) _ zv T1 F rfl HO5.out rfl HSN.out.1 HSN.out.2.1 HPL.out hwb ?_; intro v6 w6 o6 n6; have O6 := Lib.hid o6; obtain ⟨p6, c6, rfl⟩ := (HSeen.own o6).shape; have N6 := Lib.hid n6; clear o6 n6)
        rw [MZ.out]
        have hb6 : ∀ j, (Value.slice (some ⟨g, 0, none⟩) m c).ownBlock = some j → w.heap.size + 1 ≤ j := fun j hj => (HO5.out.lt j hj).1
        have S6 := S5.out.step N6.out (fun e => by have := hb6 _ e; omega)
        rw [setH_msz S6, lzs, lzs, HLN.out]
        have hR6 : R'.length ≤ U.length := nodup_le (setH_nodup S6) fun y hy => by
          obtain ⟨a, ha, hay⟩ := (RInv.new I.out HR5.out).up y (.inl hy)
          exact up_in HEU.out HFU.out ha hay
        rw [HLN.out] at hR6
        refine ⟨⟨T1 ++ F, R', p6, _, c6, rfl, (List.length_append ..).symm, by rw [← List.length_append]; exact O6, Lib.hid S6, Lib.hid (by rw [← hF]; exact RInv.new I.out HR5.out), Lib.hid ⟨H32T1.out.app HSN.out.2.1, ?_, by rw [HLN.out]; exact hR6⟩, Lib.hid (B5.out.trans (Only.below N6.out B5.out.size (fun k hk => by have := hb6 k hk; omega)))⟩, ?_⟩
        · rw [List.length_append, HLN.out, ← HM.out]
          exact HRF.out.2
        · rw [← HM.out]
          exact meas_new hR6 HFL.out
end Go.Proofs.Ytnpeahbbcolfmaa
namespace Go.Proofs.Ytnpeahbbcolfmaa
open Go.RowKit
open Go.Maps
attribute [local go_sem ↓] hld_open
theorem next_fit {i n : Nat} (hi : i < n) (hn : n ≤ 1000000) : wrap64 ((i : Int) + 1) = ((i + 1 : Nat) : Int) ∧ (0 : Int) ≤ (i : Int) ∧ (i : Int) < (n : Int) := by unfold wrap64; omega
/-- All parents are there. -/
def Clo (G : Gr) : Prop := ∀ h, ∀ p ∈ adj G h, (aget p G).isSome = true
def Anc (G : Gr) (E : List Key) (x : Key) : Prop := ∃ a ∈ E, (aget a G).isSome = true ∧ Up (adj G) a x
open Classical in
/-- The ancestors of some hashes, and they. -/
noncomputable def ancs (G : Gr) (E : List Key) : List Key := (G.map (·.1)).filter fun x => decide (Anc G E x)
theorem up_has {G : Gr} (hc : Clo G) {a x : Key} (h : Up (adj G) a x) (ha : (aget a G).isSome = true) : (aget x G).isSome = true := by
  induction h with
  | refl => exact ha
  | step h1 _ ih => exact ih (hc _ _ h1)
theorem mem_keys {G : Gr} {x : Key} : x ∈ G.map (·.1) ↔ (aget x G).isSome = true := by rw [aget_isSome]; simp
theorem ancs_mem {G : Gr} (hc : Clo G) {E : List Key} {x : Key} : x ∈ ancs G E ↔ Anc G E x := by
  unfold ancs
  simp only [List.mem_filter, mem_keys, decide_eq_true_eq]
  exact ⟨fun h => h.2, fun h => ⟨by obtain ⟨a, _, ha, hu⟩ := h; exact up_has hc hu ha, h⟩⟩
theorem ancs_len (G : Gr) (E : List Key) : (ancs G E).length ≤ G.length := by
  unfold ancs
  exact Nat.le_trans (List.length_filter_le _ _) (by simp)
end Go.Proofs.Ytnpeahbbcolfmaa
namespace Go.Proofs.Ytnpeahbbcolfmaa
open Go.RowKit
open Go.Maps
attribute [local go_sem ↓] hld_open
/-- append, and where the new slice lies. -/
theorem run_push_loc (w : World) (ty : TypeId) (B : Nat) (v : Value) (l : List Key) (b : Nat) (k : Key) (hk : k.length = 32) (hown : HOwn w B v l) (hu : w.rangeAt b 0 (us (nmb k))) (hs : l.length + 1 ≤ 4398046511104) (hB : B ≤ w.heap.size) :
    ∃ v' w', (Builtin.append_ #[28, 28] ty #[v, .slice (some ⟨b, 0, none⟩) 1 1]).run Try.prog w = .ok v' w' ∧ HOwn w' B v' (l ++ [k]) ∧ Only (fun j => v.ownBlock = some j) w w' ∧ (∀ j, v'.ownBlock = some j → v.ownBlock = some j ∨ w.heap.size ≤ j) := by
  obtain ⟨i0, hi0, hz0, hz1, hz2⟩ := info_parts hzinfo
  have hf : l.length + 1 ≤ maxLen ∧ (l.length + 1) * 32 ≤ 140737488355328 := by unfold maxLen; omega
  have hcell : ∀ j u, (us (nmb k))[j]? = some u → w.cell? ((⟨b, 0, none⟩ : Addr).add j) = some u := fun j u hj => by
    rw [Addr.add_lit]
    exact hu j u hj
  have h1 := fl_one' [k]
  rw [fl_one] at h1
  obtain ⟨v', w', hr, h2, h3, h4, h5⟩ := run_append_own_at (P := Try.prog) (w := w) B 28 ty 27 i0 _ 32 32 Try.underlying28 hi0 hz0 hz1 hz2 rfl (by decide) v l.length (fl l) hown ⟨b, 0, none⟩ 1 1 (us (nmb k)) (by rw [usn_length, hk]) hcell h1 hf.1 hf.2 hB
  refine ⟨v', w', hr, ?_, (Only.refl _ w).grown h3 (fun k _ e => e), fun j hj => ?_⟩
  · unfold HOwn
    rw [List.length_append, fl_app, fl_one]
    exact h2
  · rcases h5 with h5 | h5
    · rw [h5] at hj; exact .inl hj
    · rw [h5] at hj
      injection hj with hj
      exact .inr (by omega)
section
variable {ops : Array Oper} {rest : List Oper} {a : Act} {Q : Exit → Act → World → Prop} {o : Oper} {w : World}
end
/-- The children that have been told: P p h: h stands under p. -/
structure ChI (W : World) (b n₀ : Nat) (G : Gr) (P : Key → Key → Prop) (C : Lx) : Prop where
  mp : MpH W b (kvs C)
  own : ∀ x ∈ C, HOwn W n₀ x.2.1 x.2.2 ∧ H32 x.2.2
  sep : ∀ x ∈ C, ∀ y ∈ C, x.1 ≠ y.1 → ∀ j, x.2.1.ownBlock = some j → y.2.1.ownBlock ≠ some j
  nod : ∀ x ∈ C, x.2.2.Nodup
  mem : ∀ p h, h ∈ adj (gr C) p ↔ P p h
  dom : ∀ x ∈ C, (aget x.1 G).isSome = true
theorem ChI.keep {W W' : World} {b n₀ : Nat} {G : Gr} {P : Key → Key → Prop} {C : Lx} {S : Nat → Prop} (h : ChI W b n₀ G P C) (ho : Only S W W') (hb : ¬ S b) (hs : ∀ x ∈ C, ∀ j, x.2.1.ownBlock = some j → ¬ S j) : ChI W' b n₀ G P C :=
  { h with mp := h.mp.kept ho hb, own := fun x hx => ⟨(h.own x hx).1.step ho (hs x hx), (h.own x hx).2⟩ }
theorem ChI.kb {W W' : World} {b n₀ : Nat} {G : Gr} {P : Key → Key → Prop} {C : Lx} (h : ChI W b n₀ G P C) (k : Below W.heap.size W W') : ChI W' b n₀ G P C := h.keep (S := fun _ => False) (Only.of_below k) (fun h => h) (fun _ _ _ _ h => h)
theorem kvs_asc_gr {C : Lx} (h : AAsc (kvs C)) : AAsc C := List.pairwise_map.1 h
theorem ChI.len {W : World} {b n₀ : Nat} {G : Gr} {P : Key → Key → Prop} {C : Lx} (h : ChI W b n₀ G P C) : C.length ≤ G.length := by
  have hn := h.mp.asc.nodup
  rw [kvs_keys] at hn
  have := nodup_le (U := G.map (·.1)) hn fun x hx => by
    obtain ⟨y, hy, rfl⟩ := List.mem_map.1 hx
    exact mem_keys.2 (h.dom y hy)
  rw [List.length_map, List.length_map] at this
  exact this

theorem mem_aput {α : Type} {M : List (Key × α)} {n : Key} {v : α} {x : Key × α} : x ∈ aput n v M ↔ x = (n, v) ∨ (x ∈ M ∧ x.1 ≠ n) := by
  unfold aput
  rw [ains_mem, adel_mem]
theorem adj_put {C : Lx} (p q : Key) (y : Value × List Key) : adj (gr (aput p y C)) q = if q = p then y.2 else adj (gr C) q := by
  unfold adj
  rw [show gr (aput p y C) = aput p y.2 (gr C) from amap_put _ _ _ _]
  by_cases h : q = p
  · subst h
    rw [aget_put_same, if_pos rfl]; rfl
  · rw [aget_put_other p q _ h, if_neg h]
/-- What stands under a key so far. -/
def oldV (C : Lx) (p : Key) : Value := (aget p (kvs C)).getD (.slice none 0 0)
theorem ChI.old {W : World} {b n₀ : Nat} {G : Gr} {P : Key → Key → Prop} {C : Lx} (h : ChI W b n₀ G P C) (p : Key) : HOwn W n₀ (oldV C p) (adj (gr C) p) ∧ H32 (adj (gr C) p) ∧ (adj (gr C) p).Nodup := by
  unfold oldV adj
  rw [kvs_get, gr_get]
  cases hg : aget p C with
  | none => exact ⟨World.ownsRow_nil _ _ _ _, H32.nil, .nil⟩
  | some y => exact ⟨(h.own _ (aget_mem hg)).1, (h.own _ (aget_mem hg)).2, h.nod _ (aget_mem hg)⟩
theorem ChI.oldsep {W : World} {b n₀ : Nat} {G : Gr} {P : Key → Key → Prop} {C : Lx} (h : ChI W b n₀ G P C) (p : Key) {x : Key × (Value × List Key)} (hx : x ∈ C) (hne : x.1 ≠ p) {j : Nat} (hj : (oldV C p).ownBlock = some j) : x.2.1.ownBlock ≠ some j := by
  unfold oldV at hj
  rw [kvs_get] at hj
  cases hg : aget p C with
  | none => rw [hg] at hj; cases hj
  | some y =>
    rw [hg] at hj
    exact h.sep _ (aget_mem hg) x hx (fun e => hne e.symm) j hj
theorem ChI.push {W W' : World} {b n₀ : Nat} {G : Gr} {P : Key → Key → Prop} {C : Lx} {p k : Key} {v' : Value} (h : ChI W b n₀ G P C) (mp' : MpH W' b (aput p v' (kvs C))) (own' : HOwn W' n₀ v' (adj (gr C) p ++ [k]))
    (oth : Only (fun j => j = b ∨ (oldV C p).ownBlock = some j) W W') (loc : ∀ j, v'.ownBlock = some j → (oldV C p).ownBlock = some j ∨ W.heap.size ≤ j) (hp : (aget p G).isSome = true) (k32 : k.length = 32) (hnew : ¬ P p k) :
    ChI W' b n₀ G (fun q x => P q x ∨ (q = p ∧ x = k)) (aput p (v', adj (gr C) p ++ [k]) C) := by
  have hlt : ∀ x ∈ C, ∀ j, x.2.1.ownBlock = some j → j < W.heap.size := fun x hx j hj => ((h.own x hx).1.lt j hj).2
  refine ⟨?_, fun x hx => ?_, fun x hx y hy hne j hj => ?_, fun x hx => ?_, fun q x => ?_, fun x hx => ?_⟩
  · rw [show kvs (aput p (v', adj (gr C) p ++ [k]) C) = aput p v' (kvs C) from amap_put _ _ _ _]
    exact mp'
  · rcases mem_aput.1 hx with rfl | ⟨hx, hne⟩
    · exact ⟨own', (h.old p).2.1.app (H32.one k32)⟩
    · exact ⟨(h.own x hx).1.step oth (fun j hj e => e.elim (fun e => own_ne_map (h.own x hx).1 h.mp (by rw [hj, e])) (fun e => h.oldsep p hx hne e hj)), (h.own x hx).2⟩
  · rcases mem_aput.1 hx with rfl | ⟨hx, hxn⟩
    · rcases mem_aput.1 hy with rfl | ⟨hy, hyn⟩
      · exact absurd rfl hne
      · rcases loc j hj with e | e
        · exact h.oldsep p hy hyn e
        · intro e2; have := hlt y hy j e2; omega
    · rcases mem_aput.1 hy with rfl | ⟨hy, hyn⟩
      · intro e2
        rcases loc j e2 with e | e
        · exact h.oldsep p hx hxn e hj
        · have := hlt x hx j hj; omega
      · exact h.sep x hx y hy hne j hj
  · rcases mem_aput.1 hx with rfl | ⟨hx, _⟩
    · refine List.nodup_append.2 ⟨(h.old p).2.2, by simp, fun a ha c hc e => ?_⟩
      rw [List.mem_singleton.1 hc] at e
      exact hnew ((h.mem p k).1 (e ▸ ha))
    · exact h.nod x hx
  · rw [adj_put]
    by_cases e : q = p
    · subst e
      rw [if_pos rfl]
      simp only [List.mem_append, List.mem_singleton, h.mem, true_and]
    · rw [if_neg e, h.mem]
      simp [e]
  · rcases mem_aput.1 hx with rfl | ⟨hx, _⟩
    · exact hp
    · exact h.dom x hx
theorem ChI.small {W : World} {b n₀ : Nat} {G : Gr} {P : Key → Key → Prop} {C : Lx} (h : ChI W b n₀ G P C) (hP : ∀ p x, P p x → (aget x G).isSome = true) (p : Key) : (adj (gr C) p).length ≤ G.length := by
  have := nodup_le (U := G.map (·.1)) (h.old p).2.2 fun x hx => mem_keys.2 (hP p x ((h.mem p x).1 hx))
  rwa [List.length_map] at this
/-- What children hands back. -/
def ChPost (w : World) (G : Gr) (e : Ending) (w' : World) : Prop :=
  ∃ b C, e = .returned (.map (some b)) ∧ LAt w' b C ∧ w.heap.size ≤ b ∧ (∀ p h, h ∈ adj (gr C) p ↔ p ∈ adj G h) ∧ (∀ x ∈ C, x.2.2.length ≤ G.length) ∧ Below w.heap.size w w'
theorem adj_has {G : Gr} {p h : Key} (hp : p ∈ adj G h) : (aget h G).isSome = true := by
  unfold adj at hp
  cases hg : aget h G with
  | none => rw [hg] at hp; cases hp
  | some y => rfl
theorem ChI.done {w W : World} {b n₀ : Nat} {G : Gr} {ss : List Key} {C : Lx} (h : ChI W b n₀ G (fun p x => x ∈ ss ∧ p ∈ adj G x) C) (hs : ss.Perm (G.map (·.1))) (hb : w.heap.size ≤ b) (hB : Below w.heap.size w W) : ChPost w G (.returned (.map (some b))) W := by
  refine ⟨b, C, rfl, ⟨h.mp, fun x hx => ⟨HSeen.own (h.own x hx).1, (h.own x hx).2⟩⟩, hb, fun p x => ?_, fun x hx => ?_, hB⟩
  · rw [h.mem]
    exact ⟨fun e => e.2, fun e => ⟨hs.mem_iff.2 (mem_keys.2 (adj_has e)), e⟩⟩
  · have hg : aget x.1 C = some x.2 := aget_of_mem (kvs_asc_gr h.mp.asc) hx
    have := h.small (fun p x hx => adj_has hx.2) x.1
    unfold adj at this
    rw [gr_get, hg] at this
    exact this

end Go.Proofs.Ytnpeahbbcolfmaa
namespace Go.Proofs.Ytnpeahbbcolfmaa
open Go.RowKit
open Go.Maps
def Try.gclone_ren : Go.Shelf.Ren := ⟨fun | 5 => 53 | 7 => 69 | n => n, fun | 23 => 66 | 25 => 27 | 3 => 28 | 4 => 4 | 20 => 20 | n => n, fun | n => n⟩
theorem Try.gclone : Go.Proofs.SlLaysW.n5 Try.prog Try.gclone_ren := {
  mixed := by kernel_rfl
  f5 := ⟨Try.f53.name, by decide, Try.func53.trans (congrArg some (by kernel_rfl))⟩
  f7 := Try.func69.trans (congrArg some (by kernel_rfl))
  t4 := Try.underlying4
  a4 := Try.isAgg4
  z4 := Try.sizeOf4
  v4 := Try.zeroValue4
  t20 := Try.underlying20
  a20 := Try.isAgg20
  z20 := Try.sizeOf20
  v20 := Try.zeroValue20
  t23 := Try.underlying66
  a23 := Try.isAgg66
  z23 := Try.sizeOf66
  v23 := Try.zeroValue66 }

def Dsc (G : Gr) (E : List Key) (x : Key) : Prop := ∃ a ∈ E, (aget a G).isSome = true ∧ Up (adj G) x a
open Classical in
/-- The descendants of some hashes, and they. -/
noncomputable def descs (G : Gr) (E : List Key) : List Key := (G.map (·.1)).filter fun x => decide (Dsc G E x)
theorem dsc_has {G : Gr} {E : List Key} {x : Key} (h : Dsc G E x) : (aget x G).isSome = true := by
  obtain ⟨a, _, ha, hu⟩ := h
  cases hu with
  | refl => exact ha
  | step h1 _ => exact adj_has h1
/-- Copy. -/
theorem copy_to (w : World) (g bm : Nat) (X : Lx) (H : GA w g bm X) : Calls Try.prog 30 #[gp g] w fun e w' => ∃ g', e = .returned (gp g') ∧ w.heap.size ≤ g' ∧ GA w' g' w.heap.size X ∧ Below w.heap.size w w' := by
  have c0 := H.c0
  have HO := Lib.hid (AnyW.maps_Clone_owns Try.gclone 27 rdv bm (kvs X).length (mapV (kvs X)) w H.at_.mp.own)
  have HG := Lib.hid H
  clear H
  go_enter Try.func30, Try.ntmps30
  go_wp2_with fail
  refine HO.out.mono ?_
  rintro e w1 ⟨rfl, o1, o2, b1⟩
  have B1 := Lib.hid b1
  have HN : Hid (GA (w1.alloc (.cells #[.map (some w.heap.size)] 68)) w1.heap.size w.heap.size X) := Lib.hid
    ⟨heap_alloc_last w1 _, (LAt.kb ⟨MpH.of o1 HG.out.at_.mp.asc HG.out.at_.mp.h32, fun x hx => ⟨(HG.out.at_.seen x hx).1.mild (mild_below b1), (HG.out.at_.seen x hx).2⟩⟩ ((Below.refl _ w1).alloc (Nat.le_refl _) _))⟩
  clear o1 o2 b1
  go_wp2
  go_ret
  exact ⟨_, rfl, B1.out.size, HN.out, B1.out.alloc B1.out.size _⟩
end Go.Proofs.Ytnpeahbbcolfmaa
namespace Go.Proofs.Ytnpeahbbcolfmaa
open Go.RowKit Go.Extern.Stop Go.Stop Go.Extern
/-- A type's handle. -/
abbrev hd (t : Nat) : Value := .pointer (some ⟨1, t, none⟩)
theorem nil_iface (t : TypeId) (x : Value) (w : World) : (binOp .eql 34 (.iface t x) .nilIface).run Try.prog w = .ok (.bool false) w := by kernel_rfl
end Go.Proofs.Ytnpeahbbcolfmaa
namespace Go.Proofs.Ytnpeahbbcolfmaa
open Go.RowKit Go.Extern.Stop Go.Stop Go.Extern
theorem cell_obj {w : World} {p : Nat} {cs : Array Value} {T : TypeId} (h : w.heap[p]? = some (.cells cs T (0, 0))) (j : Nat) {u : Value} (hu : cs[j]? = some u) : w.cell? ⟨p, j, none⟩ = some u := by
  rw [cell_of_row w p j cs T (0, 0) h]; exact hu

/-- The error that is the kind k. -/
abbrev kind (k : Int) : Value := .iface 76 (.int .i64 k)

end Go.Proofs.Ytnpeahbbcolfmaa
namespace Go.Proofs.Ytnpeahbbcolfmaa
open Go.RowKit Go.Extern.Stop Go.Stop Go.Extern
theorem fold_get : ∀ (l : List Value) (k : Nat) (z : Array Value) (i : Nat),
    ((l.zipIdx k).foldl (fun (cs : Array Value) (p : Value × Nat) => cs.setIfInBounds (0 + p.2) p.1) z)[i]? = if k ≤ i ∧ i < k + l.length ∧ i < z.size then l[i - k]? else z[i]?
  | [], k, z, i => by
    have : ¬ (k ≤ i ∧ i < k + ([] : List Value).length ∧ i < z.size) := by simp; omega
    rw [if_neg this]; rfl
  | x :: l, k, z, i => by
    rw [List.zipIdx_cons, List.foldl_cons, fold_get l (k + 1)]
    simp only [Array.size_setIfInBounds, List.length_cons, Nat.zero_add]
    by_cases h1 : k = i
    · subst h1
      rw [if_neg (by omega)]
      by_cases h2 : k < z.size
      · rw [if_pos (by omega)]; simp [h2]
      · rw [if_neg (by omega)]; simp [h2]
    · by_cases h2 : k + 1 ≤ i ∧ i < k + 1 + l.length ∧ i < z.size
      · rw [if_pos h2, if_pos (by omega)]
        obtain ⟨j, rfl⟩ : ∃ j, i = k + 1 + j := ⟨i - (k + 1), by omega⟩
        rw [show k + 1 + j - (k + 1) = j from by omega, show k + 1 + j - k = j + 1 from by omega]
        rfl
      · rw [if_neg h2, if_neg (by omega)]
        simp [h1]

/-- A hash put together with an error: 33 cells. -/
theorem built_which (h : Array Value) (u : Value) (hs : h.size = 32) (hu : u.cells = #[u]) : Try.prog.built 120 [(0, .agg h), (1, u)] = some (h.push u) := by
  have hi : (Try.prog.info? 120).map (fun i => i.zero.map (·.cells.size)) = some (some 33) := by kernel_rfl
  have hf : (Try.prog.underlying 120).map (fun d => match d with | .struct fs => fs.toList.mapM (fun f => (Try.prog.info? f.type).map fun i => (f.offset, i.size)) | _ => none) = some (some [(0, 32), (32, 1)]) := by kernel_rfl
  unfold Program.built
  cases hit : Try.prog.info? 120 with
  | none => rw [hit] at hi; cases hi
  | some it =>
    rw [hit] at hi
    cases hun : Try.prog.underlying 120 with
    | none => rw [hun] at hf; cases hf
    | some d =>
      rw [hun] at hf
      cases d with
      | struct fs =>
        simp only [Option.map_some, Option.some.injEq] at hf
        simp only [hf]
        cases hz : it.zero with
        | none => simp [hz] at hi
        | some z =>
          simp only [Option.map_some, Option.some.injEq, hz] at hi
          have hsz : ∀ x : Array Value, (x.zipIdx.foldl (fun (cs : Array Value) (p : Value × Nat) => cs.setIfInBounds (0 + p.2) p.1) z.cells) = (x.toList.zipIdx.foldl (fun (cs : Array Value) (p : Value × Nat) => cs.setIfInBounds (0 + p.2) p.1) z.cells) := fun x => by
            rw [← Array.foldl_toList, Array.toList_zipIdx]
          have hg := fold_get h.toList 0 z.cells
          have hn : (h.toList.zipIdx.foldl (fun (cs : Array Value) (p : Value × Nat) => cs.setIfInBounds (0 + p.2) p.1) z.cells).size = 33 := by
            rw [← hi]
            generalize h.toList.zipIdx = q
            generalize z.cells = y
            induction q generalizing y with
            | nil => rfl
            | cons a q ih => rw [List.foldl_cons, ih]; simp
          simp only [Instr.fill, List.getElem?_toArray, List.getElem?_cons_zero, List.getElem?_cons_succ, show (Value.agg h).cells = h from rfl, hs, hi, hu, hsz]
          generalize h.toList.zipIdx.foldl (fun (cs : Array Value) (p : Value × Nat) => cs.setIfInBounds (0 + p.2) p.1) z.cells = y at hg hn
          simp only [hn]
          simp
          apply Array.ext_getElem?
          intro i
          have := hg i
          simp only [Array.length_toList, hs, hi] at this
          rw [Array.getElem?_setIfInBounds, Array.getElem?_push, hn, hs]
          by_cases h1 : i = 32
          · subst h1; simp
          · rw [if_neg (by omega), if_neg h1, this]
            by_cases h2 : i < 32
            · rw [if_pos (by omega)]; simp
            · rw [if_neg (by omega)]
              rw [Array.getElem?_eq_none (by omega), Array.getElem?_eq_none (by omega)]
      | _ => simp at hf

theorem size_hash (h : Array Value) (hs : h.size = 32) : (Try.prog.info? 27).map (·.size) = some h.size := by rw [hs]; kernel_rfl

theorem size_hash' (h : Array Value) (hs : h.size = 32) : (Try.prog.info? 27).map (·.size) = some h.toList.length := by rw [Array.length_toList]; exact size_hash h hs

set_option maxRecDepth 10000 in
theorem of_any (w : World) (q : Array Value) (hs : q.size = 32) (t : TypeId) (x : Value) : Calls Try.prog 56 #[.agg q, .iface t x] w fun e w' =>
    e = .returned (.iface 118 (.pointer (some ⟨w.heap.size + 1, 0, none⟩))) ∧ w' = (w.alloc (.cells q 27)).alloc (.cells (q.push (.iface t x)) 120) := by
  have hn := nil_iface
  have hb := Lib.hid (built_which q (.iface t x) hs rfl)
  have hl := Lib.hid (range_new w q 27)
  have hz := Lib.hid (size_hash' q hs)
  clear hs
  go_enter Try.func56, Try.ntmps56
  go_wp2_with (refine load_to hl.out Try.underlying27 rfl hz.out ?hx ?_; (case hx => rfl); refine move_to ?_; refine build_to (vals := #[(0, .agg q), (1, .iface t x)]) hb.out ?hv ?_; (case hv => simp [Act.put, Act.eval]))
  go_ret
  exact ⟨rfl, rfl⟩

/-- An error at block p that names the hash q, around the kind k. -/
def Wh (w : World) (p : Nat) (q : Array Value) (k : Int) : Prop := w.heap[p]? = some (.cells (q.push (kind k)) 120 (0, 0)) ∧ q.size = 32
abbrev whv (p : Nat) : Value := .iface 118 (.pointer (some ⟨p, 0, none⟩))
theorem Wh.kb {w w' : World} {p : Nat} {q : Array Value} {k : Int} (h : Wh w p q k) (hb : Below w.heap.size w w') : Wh w' p q k := ⟨(hb.block _ (Array.getElem?_eq_some_iff.1 h.1).1).trans h.1, h.2⟩

end Go.Proofs.Ytnpeahbbcolfmaa
namespace Go.Proofs.Ytnpeahbbcolfmaa
open Go.RowKit
open Go.Maps
abbrev Cm := Key × List Key
def COk (cs : List Cm) : Prop := ∀ c ∈ cs, c.1.length = 32 ∧ H32 c.2
/-- A commit's cells. -/
def cmv (h : Key) (u : Value) : Array Value := (hv h).push u
theorem cmv_size {h : Key} (hh : h.length = 32) (u : Value) : (cmv h u).size = 33 := by simp [cmv, hv_size, hh]
theorem cmv_list (h : Key) (u : Value) : (cmv h u).toList = us (nmb h) ++ [u] := by simp [cmv, hv_list]
def czer : Array Value := #[.int .u8 0, .int .u8 0, .int .u8 0, .int .u8 0, .int .u8 0, .int .u8 0, .int .u8 0, .int .u8 0, .int .u8 0, .int .u8 0, .int .u8 0, .int .u8 0, .int .u8 0, .int .u8 0, .int .u8 0, .int .u8 0, .int .u8 0, .int .u8 0, .int .u8 0, .int .u8 0, .int .u8 0, .int .u8 0, .int .u8 0, .int .u8 0, .int .u8 0, .int .u8 0, .int .u8 0, .int .u8 0, .int .u8 0, .int .u8 0, .int .u8 0, .int .u8 0, .slice none 0 0]
theorem cinfo (q : Array Value) (hs : q.size = 33) : (Try.prog.info? 32).map (·.size) = some q.size := by rw [hs]; kernel_rfl
/-- A commit is loaded: one step. -/
noncomputable def cld (a : Addr) : Sem Value := loadVar 32 a
theorem cld_open (a : Addr) : loadVar 32 a = cld a := rfl
theorem cld_range {w : World} {p o : Nat} {h : Key} {u : Value} (hs : h.length = 32) (hp : w.rangeAt p o (us (nmb h) ++ [u])) : (cld ⟨p, o, none⟩).run Try.prog w = .ok (.agg (cmv h u)) w := by
  have := run_loadVar_mid (P := Try.prog) w p o 32 (us (nmb h) ++ [u]) _ hp Try.underlying32 rfl (by
    rw [← cmv_list, Array.length_toList]; exact cinfo _ (cmv_size hs u))
  unfold cld
  rw [this, ← cmv_list]
theorem cst_cells (h : Key) (u : Value) (hs : h.length = 32) (hu : u.oneCell' = true) (w : World) :
    (storeCells ⟨w.heap.size, 0, none⟩ (cmv h u).toList).run Try.prog (w.alloc (.cells #[.int .u8 0, .int .u8 0, .int .u8 0, .int .u8 0, .int .u8 0, .int .u8 0, .int .u8 0, .int .u8 0, .int .u8 0, .int .u8 0, .int .u8 0, .int .u8 0, .int .u8 0, .int .u8 0, .int .u8 0, .int .u8 0, .int .u8 0, .int .u8 0, .int .u8 0, .int .u8 0, .int .u8 0, .int .u8 0, .int .u8 0, .int .u8 0, .int .u8 0, .int .u8 0, .int .u8 0, .int .u8 0, .int .u8 0, .int .u8 0, .int .u8 0, .int .u8 0, .slice none 0 0] 32)) = .ok () (w.alloc (.cells (cmv h u) 32)) :=
  run_storeCells_new (P := Try.prog) w 32 czer (cmv h u) (cinfo _ (cmv_size hs u)) (by rw [cmv_size hs]; rfl) (by
    unfold cmv
    rw [Array.all_push]
    have := hv_one h
    simp [this, hu])
theorem cm_hld {w : World} {p : Nat} {h : Key} {u : Value} {t : TypeId} (hs : h.length = 32) (hp : w.heap[p]? = some (.cells (cmv h u) t (0, 0))) : (hld ⟨p, 0, none⟩).run Try.prog w = .ok (.agg (hv h)) w :=
  hld_range hs (fun j v hj => by
    have := range_row hp
    rw [cmv_list] at this
    refine this j v ?_
    rw [List.getElem?_append_left (List.getElem?_eq_some_iff.1 hj).1]
    exact hj)
theorem cm_cell {w : World} {p : Nat} {h : Key} {u : Value} {t : TypeId} (hs : h.length = 32) (hp : w.heap[p]? = some (.cells (cmv h u) t (0, 0))) : w.cell? ⟨p, 32, none⟩ = some u := by
  rw [cell_of_row w p 32 _ _ _ hp]
  unfold cmv
  rw [Array.getElem?_push, hv_size, hs, if_pos rfl]
/-- The slice v holds the commits cs. -/
def CSeen (w : World) (v : Value) (cs : List Cm) : Prop :=
  ∃ p cap, v = .slice p cs.length cap ∧ ∀ (i : Nat) (c : Cm), cs[i]? = some c → ∃ b o u, p = some ⟨b, o, none⟩ ∧ w.rangeAt b (o + i * 33) (us (nmb c.1) ++ [u]) ∧ HSeen w u c.2
theorem CSeen.mild {w w' : World} {v : Value} {cs : List Cm} (h : CSeen w v cs) (m : Mild w w') : CSeen w' v cs := by
  obtain ⟨p, cap, e, hc⟩ := h
  refine ⟨p, cap, e, fun i c hi => ?_⟩
  obtain ⟨b, o, u, h1, h2, h3⟩ := hc i c hi
  exact ⟨b, o, u, h1, hsr_kb h2 m, h3.mild m⟩
theorem CSeen.kb {w w' : World} {v : Value} {cs : List Cm} (h : CSeen w v cs) (k : Below w.heap.size w w') : CSeen w' v cs := h.mild (mild_below k)
theorem HSeen.one {w : World} {v : Value} {E : List Key} (h : HSeen w v E) : v.oneCell' = true := by
  rcases h with ⟨rfl, _⟩ | ⟨a, cap, rfl, _⟩ <;> rfl

set_option maxRecDepth 20000 in
set_option maxHeartbeats 2000000 in
attribute [local go_sem ↓] hld_open hne_open in
/-- slices.Equal. -/
theorem equal_to (w : World) (v u : Value) (E F : List Key) (hv' : HSeen w v E) (hu : HSeen w u F) (hE : H32 E) (hF : H32 F) (hEl : E.length ≤ 1000000) :
    Calls Try.prog 57 #[v, u] w fun e w' => e = .returned (.bool (decide (E = F))) ∧ Below w.heap.size w w' := by
  obtain ⟨p1, c1, rfl⟩ := hv'.shape
  obtain ⟨p2, c2, rfl⟩ := hu.shape
  by_cases hl : E.length = F.length
  · obtain ⟨n, hn⟩ : ∃ n, n = E.length := ⟨_, rfl⟩
    rw [← hl, ← hn] at hu ⊢
    rw [← hn] at hv' hEl
    have HV := Lib.hid hv'
    have HU := Lib.hid hu
    have HE := Lib.hid hE
    have HF := Lib.hid hF
    have HN := Lib.hid hn
    have HNF : Hid (n = F.length) := Lib.hid (hn.trans hl)
    have HL := Lib.hid hEl
    have d0 : decide ((n : Int) = n) = true := by simp
    clear hv' hu hE hF hEl hn hl
    go_enter Try.func57, Try.ntmps57
    go_wp2_with fail
    go_loopw [13] (fun s wr => ∃ i : Nat, s = .int .i64 i ∧ i ≤ n ∧ Hid (E.take i = F.take i) ∧ Hid (Below w.heap.size w wr))
      (fun s _ => n - (intOf s).toNat)
    case atStart => exact ⟨0, rfl, Nat.zero_le _, Lib.hid rfl, Lib.hid (Below.refl _ _)⟩
    case round =>
      obtain ⟨i, rfl, hi, T, B⟩ := hrel
      by_cases hlt : i < n
      · obtain ⟨j1, j2, j3⟩ := next_fit hlt HL.out
        have hiE : i < E.length := by rw [← HN.out]; exact hlt
        have hiF : i < F.length := by rw [← HNF.out]; exact hlt
        obtain ⟨b, o, c', e1, hrg⟩ := (HV.out.mild (mild_below B.out)).at HE.out hiE
        injection e1 with e1 e2 e3
        subst e1
        obtain ⟨b', o', c'', e1', hrg'⟩ := (HU.out.mild (mild_below B.out)).at HF.out hiF
        injection e1' with e1' e2' e3'
        subst e1'
        have hx := HE.out.at hiE
        have hy := HF.out.at hiF
        have hTE : E.take (i + 1) = E.take i ++ [E[i]] := by rw [List.take_add_one, List.getElem?_eq_getElem hiE]; rfl
        have hTF : F.take (i + 1) = F.take i ++ [F[i]] := by rw [List.take_add_one, List.getElem?_eq_getElem hiF]; rfl
        have hld1 := fun j => hld_range (w := wr.drewN j) hx hrg
        have hld2 := fun j => hld_range (w := wr.drewN j) hy hrg'
        have hne := fun j => hne_hv hx hy (wr.drewN j)
        have HTE := Lib.hid hTE
        have HTF := Lib.hid hTF
        obtain ⟨x, hxe⟩ : ∃ x, x = E[i] := ⟨_, rfl⟩
        obtain ⟨y, hye⟩ : ∃ y, y = F[i] := ⟨_, rfl⟩
        have HEF : Hid (E = F → x = y) := Lib.hid (fun e => by subst e; rw [hxe, hye])
        rw [← hxe] at hld1 hne HTE
        rw [← hye] at hld2 hne HTF
        clear hrg hrg' hx hy hTE hTF hiE hiF hxe hye e2 e3 e2' e3'
        by_cases he : x = y
        · have HXY := Lib.hid he
          rw [decide_eq_true he] at hne
          generalize hv x = q at *
          generalize hv y = q' at *
          clear he
          go_wp2_with fail
          go_quiet (fail)
          go_wp2_with fail
          refine ⟨⟨i + 1, by rw [j1], hlt, Lib.hid (by rw [HTE.out, HTF.out, T.out, HXY.out]), Lib.hid (B.out.trans ((blw_qt _ _ wr).mono B.out.size))⟩, ?_⟩
          rw [j1]
          simp only [intOf]
          omega
        · have HXY : Hid (¬ E = F) := Lib.hid (fun e => he (HEF.out e))
          rw [decide_eq_false he] at hne
          generalize hv x = q at *
          generalize hv y = q' at *
          clear he
          go_wp2_with fail
          go_quiet (fail)
          go_wp2
          go_ret
          exact ⟨by rw [decide_eq_false HXY.out]; rfl, B.out.trans ((blw_qt _ _ wr).mono B.out.size)⟩
      · obtain rfl : i = n := by omega
        go_wp2
        go_ret
        have hT := T.out
        rw [List.take_of_length_le (by rw [HN.out]; exact Nat.le_refl _), List.take_of_length_le (by rw [HNF.out]; exact Nat.le_refl _)] at hT
        exact ⟨by rw [decide_eq_true hT]; rfl, B.out⟩
  · have HN : Hid (¬ E = F) := Lib.hid (fun e => hl (by rw [e]))
    have d0 : decide ((E.length : Int) = F.length) = false := by simp; omega
    have d1 : ((E.length : Int) != F.length) = true := by simp; omega
    obtain ⟨n, hn⟩ : ∃ n, n = E.length := ⟨_, rfl⟩
    obtain ⟨m, hm⟩ : ∃ m, m = F.length := ⟨_, rfl⟩
    rw [← hn, ← hm] at d0 d1 ⊢
    clear hv' hu hE hF hEl hl hn hm
    go_enter Try.func57, Try.ntmps57
    go_wp2
    go_ret
    exact ⟨by rw [decide_eq_false HN.out]; rfl, Below.refl _ _⟩

theorem rsort_nodup (l : List Key) : (rsort l).Nodup := (rsort_asc l).imp fun {a b} h e => by rw [e, less_irrefl] at h; cases h
theorem rsort_len_eq {l : List Key} (h : l.Nodup) : (rsort l).length = l.length :=
  Nat.le_antisymm (rsort_length l) (nodup_le h fun x hx => (rsort_mem l x).2 hx)
theorem rsort_len_lt {l : List Key} (h : ¬ l.Nodup) : (rsort l).length < l.length := by
  have : ∀ l : List Key, ¬ l.Nodup → ∃ m : List Key, m.length < l.length ∧ ∀ x ∈ l, x ∈ m := fun l => by
    induction l with
    | nil => exact fun h => absurd List.nodup_nil h
    | cons a l ih =>
      intro h
      by_cases ha : a ∈ l
      · exact ⟨l, by simp, fun x hx => (List.mem_cons.1 hx).elim (fun e => e ▸ ha) id⟩
      · obtain ⟨m, h1, h2⟩ := ih (fun hn => h (List.nodup_cons.2 ⟨ha, hn⟩))
        exact ⟨a :: m, by simpa using h1, fun x hx => (List.mem_cons.1 hx).elim (fun e => e ▸ List.mem_cons_self) (fun e => List.mem_cons_of_mem _ (h2 x e))⟩
  obtain ⟨m, h1, h2⟩ := this l h
  exact Nat.lt_of_le_of_lt (nodup_le (rsort_nodup l) fun x hx => h2 x ((rsort_mem l x).1 hx)) h1
/-- What a refusal is: its kind, and whose hash. -/
abbrev Rf := Option (Int × Option Key)
def ErrW (w : World) (v : Value) : Rf → Prop
  | none => v = .nilIface
  | some (k, none) => v = kind k
  | some (k, some h) => h.length = 32 ∧ ∃ p, v = whv p ∧ Wh w p (hv h) k
theorem ErrW.kb {w w' : World} {v : Value} : ∀ {r : Rf}, ErrW w v r → Below w.heap.size w w' → ErrW w' v r
  | none, h, _ => h
  | some (_, none), h, _ => h
  | some (_, some _), h, b => by
    obtain ⟨h1, p, h2, h3⟩ := h
    exact ⟨h1, p, h2, h3.kb b⟩
/-- oops.Of of a kind. -/
theorem of_kind (w : World) (h : Key) (hh : h.length = 32) (k : Int) : Calls Try.prog 56 #[.agg (hv h), kind k] w fun e w' => ∃ v, e = .returned v ∧ (∃ p, v = whv p) ∧ ErrW w' v (some (k, some h)) ∧ Below w.heap.size w w' := by
  refine (of_any w (hv h) (by rw [hv_size, hh]) _ _).mono ?_
  rintro e w' ⟨rfl, rfl⟩
  have b1 : Below w.heap.size w (w.alloc (.cells (hv h) 27)) := (Below.refl _ w).alloc (Nat.le_refl _) _
  have := heap_alloc_last (w.alloc (.cells (hv h) 27)) (.cells ((hv h).push (kind k)) 120)
  rw [show (w.alloc (.cells (hv h) 27)).heap.size = w.heap.size + 1 by simp] at this
  exact ⟨_, rfl, ⟨_, rfl⟩, ⟨hh, _, rfl, this, by rw [hv_size, hh]⟩, b1.alloc b1.size _⟩
/-- The first commit with too many parents, or with one of them twice. -/
def ck2 : List Cm → Rf
  | [] => none
  | c :: cs => if 4 < c.2.length then some (8, some c.1) else if c.2.Nodup then ck2 cs else some (1, some c.1)
theorem drop_at {α : Type} {l : List α} {i : Nat} (hi : i < l.length) : l.drop i = l[i] :: l.drop (i + 1) := List.drop_eq_getElem_cons hi
set_option maxRecDepth 20000 in
set_option maxHeartbeats 4000000 in
attribute [local go_sem ↓] hld_open cld_open in
theorem checkLists_to (w : World) (v : Value) (cs : List Cm) (hv' : CSeen w v cs) (hok : COk cs) (hl : cs.length ≤ 1000000) (hp : ∀ c ∈ cs, c.2.length ≤ 1000000) :
    Calls Try.prog 35 #[v] w fun e w' => ∃ x, e = .returned x ∧ ErrW w' x (ck2 cs) ∧ Below w.heap.size w w' := by
  obtain ⟨p, cap, rfl, hc⟩ := id hv'
  clear hc
  obtain ⟨n, hn⟩ : ∃ n, n = cs.length := ⟨_, rfl⟩
  rw [← hn] at hv' hl ⊢
  have HV := Lib.hid hv'
  have HO := Lib.hid hok
  have HP := Lib.hid hp
  have HN := Lib.hid hn
  have HL := Lib.hid hl
  clear hv' hok hl hp hn
  go_enter Try.func35, Try.ntmps35
  go_wp2_with fail
  go_loopw [7] (fun s wr => ∃ i : Nat, s = .int .i64 i ∧ i ≤ n ∧ Hid (ck2 cs = ck2 (cs.drop i)) ∧ Hid (Below w.heap.size w wr))
    (fun s _ => n - (intOf s).toNat)
  case atStart => exact ⟨0, rfl, Nat.zero_le _, Lib.hid rfl, Lib.hid (Below.refl _ _)⟩
  case round =>
    obtain ⟨i, rfl, hi, T, B⟩ := hrel
    by_cases hlt : i < n
    · obtain ⟨j1, j2, j3⟩ := next_fit hlt HL.out
      have hiE : i < cs.length := by rw [← HN.out]; exact hlt
      obtain ⟨p', cap', e1, hc⟩ := HV.out.mild (mild_below B.out)
      injection e1 with e1 e2 e3
      obtain ⟨b, o, u, rfl, hrg, hsn⟩ := hc i cs[i] (List.getElem?_eq_getElem hiE)
      subst e1
      have hck : ck2 (cs.drop i) = if 4 < cs[i].2.length then some (8, some cs[i].1) else if cs[i].2.Nodup then ck2 (cs.drop (i + 1)) else some (1, some cs[i].1) := by rw [drop_at hiE]; rfl
      have hoki := HO.out _ (List.getElem_mem hiE)
      have hpi := HP.out _ (List.getElem_mem hiE)
      obtain ⟨⟨h, E⟩, hce⟩ : ∃ c : Cm, c = cs[i] := ⟨_, rfl⟩
      rw [← hce] at hrg hsn hck hoki hpi
      dsimp only at hrg hsn hck hoki hpi
      rw [← T.out] at hck
      have hh := hoki.1
      have hld0 := cld_range hh hrg
      have st := cst_cells h u hh hsn.one wr
      have hks : (cmv h u).size = 33 := cmv_size hh u
      have b3 : Below wr.heap.size wr (wr.alloc (.cells (cmv h u) 32)) := (Below.refl _ _).alloc (Nat.le_refl _) _
      have B3 : Hid (Below w.heap.size w (wr.alloc (.cells (cmv h u) 32))) := Lib.hid (B.out.alloc B.out.size _)
      have HV3 := heap_alloc_last wr (.cells (cmv h u) 32)
      have hld3 := cm_hld hh HV3
      have hc3 := cm_cell hh HV3
      have hsn3 := hsn.mild (mild_below b3)
      have hs3 : (wr.alloc (.cells (cmv h u) 32)).heap.size = wr.heap.size + 1 := by simp
      have HOF := Lib.hid (of_kind (wr.alloc (.cells (cmv h u) 32)) h hh)
      obtain ⟨pu, cu, rfl⟩ := hsn3.shape
      have HCK := Lib.hid hck
      have HH3 := Lib.hid HV3
      have HSN := Lib.hid hsn3
      have HOK := Lib.hid hoki
      have HPI := Lib.hid hpi
      obtain ⟨m, hm⟩ : ∃ m, m = E.length := ⟨_, rfl⟩
      rw [← hm] at hld0 st hks hld3 hc3 HH3 HSN HOF hs3 B3
      have HM := Lib.hid hm
      clear hrg hsn hck hoki hpi hh b3 HV3 hsn3 hc e2 e3 hce hm hiE
      generalize hw3 : wr.alloc (.cells (cmv h (.slice pu m cu)) 32) = w3 at *
      by_cases h4 : 4 < m
      · have hi4 : (m : Int) > 4 := by omega
        have H4 := Lib.hid h4
        clear h4
        generalize cmv h (.slice pu m cu) = q33 at *
        go_wp2_with fail
        refine (HOF.out 8).mono ?_
        rintro e w4 ⟨x, rfl, ⟨px, rfl⟩, hx, b4⟩
        go_wp2
        go_ret
        exact ⟨_, rfl, by rw [HCK.out, if_pos (by rw [← HM.out]; exact H4.out)]; exact hx, B3.out.trans (b4.mono B3.out.size)⟩
      · have hi4 : ¬ (m : Int) > 4 := by omega
        have H4 : Hid (¬ 4 < E.length) := Lib.hid (by rw [← HM.out]; exact h4)
        have HSO := Lib.hid (fun W (hW : Below w3.heap.size w3 W) => sort_to W (.slice pu m cu) E HOK.out.2 (srt_fit HPI.out) (HSN.out.mild (mild_below hW)))
        have HLD := Lib.hid (fun W (hW : Below w3.heap.size w3 W) => cm_hld (w := W) HOK.out.1 ((mild_below hW).cells HH3.out))
        have HO5 := Lib.hid (fun W (hW : Below w3.heap.size w3 W) => of_kind W h HOK.out.1)
        obtain ⟨k, hk⟩ : ∃ k, k = (rsort E).length := ⟨_, rfl⟩
        have HRS := Lib.hid hk.symm
        clear h4
        generalize cmv h (.slice pu m cu) = q33 at *
        by_cases hd : E.Nodup
        · have hkm : ¬ (k : Int) < m := by rw [hk, rsort_len_eq hd, ← HM.out]; omega
          have HD := Lib.hid hd
          clear hd hk
          go_wp2_with fail
          try simp only [List.append]
          refine wp_region_noPanic ?_
          refine wp_region_held_drew (S := (fun W => W.cell? ⟨wr.heap.size, 32, none⟩ = some (.slice pu m cu))) (by kernel_rfl) hc3 (fun hHeld => ?_)
          refine wpAnyH_take (i := 0) (v := ?_) (by simp only [List.getElem?_toArray, List.getElem?_cons_zero]; rfl) (by kernel_rfl) (by kernel_rfl) (by kernel_rfl) (fun _ _ _ h => h) (Or.inl ⟨by rfl, ?_⟩) (by assumption) ?_
          rotate_left
          · intro w hSw
            try dsimp only at hSw
            go_simp
            try with_reducible rfl
          try simp only [Act.put, List.setIfInBounds_toArray, List.set_cons_zero, List.set_cons_succ]
          refine wpAnyH_take (i := 1) (v := ?_) (by simp only [List.getElem?_toArray, List.getElem?_cons_succ, List.getElem?_cons_zero]; rfl) (by kernel_rfl) (by kernel_rfl) (by kernel_rfl) (fun _ _ _ h => h) (Or.inl ⟨by rfl, ?_⟩) (by assumption) ?_
          rotate_left
          · intro w hSw
            try dsimp only at hSw
            go_simp
            try with_reducible rfl
          try simp only [Act.put, List.setIfInBounds_toArray, List.set_cons_zero, List.set_cons_succ]
          refine wpAnyH_take (i := 4) (v := ?_) (by simp only [List.getElem?_toArray, List.getElem?_cons_succ, List.getElem?_cons_zero]; rfl) (by kernel_rfl) (by kernel_rfl) (by kernel_rfl) (fun _ _ _ h => h) (Or.inl ⟨by rfl, ?_⟩) (by assumption) ?_
          rotate_left
          · intro w hSw
            try dsimp only at hSw
            go_simp
            try with_reducible rfl
          try simp only [Act.put, List.setIfInBounds_toArray, List.set_cons_zero, List.set_cons_succ]
          refine wpAnyH_take (i := 5) (v := ?_) (by simp only [List.getElem?_toArray, List.getElem?_cons_succ, List.getElem?_cons_zero]; rfl) (by kernel_rfl) (by kernel_rfl) (by kernel_rfl) (fun _ _ _ h => h) (Or.inl ⟨by rfl, ?_⟩) (by assumption) ?_
          rotate_left
          · intro w hSw
            try dsimp only at hSw
            go_simp
            try with_reducible rfl
          try simp only [Act.put, List.setIfInBounds_toArray, List.set_cons_zero, List.set_cons_succ]
          refine wpAnyH_take (i := 6) (v := ?_) (by simp only [List.getElem?_toArray, List.getElem?_cons_succ, List.getElem?_cons_zero]; rfl) (by kernel_rfl) (by kernel_rfl) (by kernel_rfl) (fun _ _ _ h => h) (Or.inl ⟨by rfl, ?_⟩) (by assumption) ?_
          rotate_left
          · intro w hSw
            try dsimp only at hSw
            go_simp
            try with_reducible rfl
          try simp only [Act.put, List.setIfInBounds_toArray, List.set_cons_zero, List.set_cons_succ]
          refine wpAnyH_ready (rs := [2]) (by kernel_rfl) (by simp) ?_
          refine AllReadyH.cons (by simp only [List.getElem?_toArray, List.getElem?_cons_succ, List.getElem?_cons_zero]; rfl) (fun K hK => ?_) AllReadyH.nil
          go_simp
          refine (HSO.out w3.drew (blw_qt _ 1 w3)).mono ?_
          rintro e w5 ⟨v5, rfl, o5, b5⟩
          have b5' := blw_drn (m := 1) b5
          have c5' := (mild_below b5').cell hc3
          have hld5 := HLD.out w5 b5'
          have B5 : Hid (Below w.heap.size w w5) := Lib.hid (B3.out.trans (b5'.mono B3.out.size))
          obtain ⟨p5, q5, hv5⟩ := (HSeen.own o5).shape
          rw [HRS.out] at hv5
          subst hv5
          clear o5 b5 b5'
          go_wp2_with fail
          refine hK.out _ _ c5' (fun hHeld => ?_)
          clear hK K
          try simp only [Act.put, List.setIfInBounds_toArray, List.set_cons_zero, List.set_cons_succ]
          refine wpAnyH_take (i := 3) (v := ?_) (by simp only [List.getElem?_toArray, List.getElem?_cons_succ, List.getElem?_cons_zero]; rfl) (by kernel_rfl) (by kernel_rfl) (by kernel_rfl) (fun _ _ _ h => h) (Or.inl ⟨by rfl, ?_⟩) (by assumption) ?_
          rotate_left
          · intro w hSw
            try dsimp only at hSw
            go_simp
            try with_reducible rfl
          try simp only [Act.put, List.setIfInBounds_toArray, List.set_cons_zero, List.set_cons_succ]
          refine wpAnyH_take (i := 7) (v := ?_) (by simp only [List.getElem?_toArray, List.getElem?_cons_succ, List.getElem?_cons_zero]; rfl) (by kernel_rfl) (by kernel_rfl) (by kernel_rfl) (fun _ _ _ h => h) (Or.inl ⟨by rfl, ?_⟩) (by assumption) ?_
          rotate_left
          · intro w hSw
            try dsimp only at hSw
            go_simp
            try with_reducible rfl
          try simp only [Act.put, List.setIfInBounds_toArray, List.set_cons_zero, List.set_cons_succ]
          refine wpAnyH_done (by kernel_rfl) ?_ _
          refine NoPanic.normal ?_
          go_wp2_with fail
          refine ⟨⟨i + 1, by rw [j1], hlt, Lib.hid (by rw [HCK.out, if_neg H4.out, if_pos HD.out]), B5⟩, ?_⟩
          rw [j1]
          simp only [intOf]
          omega
        · have hkm : (k : Int) < m := by rw [hk]; have := rsort_len_lt hd; have := HM.out; omega
          have HD := Lib.hid hd
          clear hd hk
          go_wp2_with fail
          try simp only [List.append]
          refine wp_region_noPanic ?_
          refine wp_region_held_drew (S := (fun W => W.cell? ⟨wr.heap.size, 32, none⟩ = some (.slice pu m cu))) (by kernel_rfl) hc3 (fun hHeld => ?_)
          refine wpAnyH_take (i := 0) (v := ?_) (by simp only [List.getElem?_toArray, List.getElem?_cons_zero]; rfl) (by kernel_rfl) (by kernel_rfl) (by kernel_rfl) (fun _ _ _ h => h) (Or.inl ⟨by rfl, ?_⟩) (by assumption) ?_
          rotate_left
          · intro w hSw
            try dsimp only at hSw
            go_simp
            try with_reducible rfl
          try simp only [Act.put, List.setIfInBounds_toArray, List.set_cons_zero, List.set_cons_succ]
          refine wpAnyH_take (i := 1) (v := ?_) (by simp only [List.getElem?_toArray, List.getElem?_cons_succ, List.getElem?_cons_zero]; rfl) (by kernel_rfl) (by kernel_rfl) (by kernel_rfl) (fun _ _ _ h => h) (Or.inl ⟨by rfl, ?_⟩) (by assumption) ?_
          rotate_left
          · intro w hSw
            try dsimp only at hSw
            go_simp
            try with_reducible rfl
          try simp only [Act.put, List.setIfInBounds_toArray, List.set_cons_zero, List.set_cons_succ]
          refine wpAnyH_take (i := 4) (v := ?_) (by simp only [List.getElem?_toArray, List.getElem?_cons_succ, List.getElem?_cons_zero]; rfl) (by kernel_rfl) (by kernel_rfl) (by kernel_rfl) (fun _ _ _ h => h) (Or.inl ⟨by rfl, ?_⟩) (by assumption) ?_
          rotate_left
          · intro w hSw
            try dsimp only at hSw
            go_simp
            try with_reducible rfl
          try simp only [Act.put, List.setIfInBounds_toArray, List.set_cons_zero, List.set_cons_succ]
          refine wpAnyH_take (i := 5) (v := ?_) (by simp only [List.getElem?_toArray, List.getElem?_cons_succ, List.getElem?_cons_zero]; rfl) (by kernel_rfl) (by kernel_rfl) (by kernel_rfl) (fun _ _ _ h => h) (Or.inl ⟨by rfl, ?_⟩) (by assumption) ?_
          rotate_left
          · intro w hSw
            try dsimp only at hSw
            go_simp
            try with_reducible rfl
          try simp only [Act.put, List.setIfInBounds_toArray, List.set_cons_zero, List.set_cons_succ]
          refine wpAnyH_take (i := 6) (v := ?_) (by simp only [List.getElem?_toArray, List.getElem?_cons_succ, List.getElem?_cons_zero]; rfl) (by kernel_rfl) (by kernel_rfl) (by kernel_rfl) (fun _ _ _ h => h) (Or.inl ⟨by rfl, ?_⟩) (by assumption) ?_
          rotate_left
          · intro w hSw
            try dsimp only at hSw
            go_simp
            try with_reducible rfl
          try simp only [Act.put, List.setIfInBounds_toArray, List.set_cons_zero, List.set_cons_succ]
          refine wpAnyH_ready (rs := [2]) (by kernel_rfl) (by simp) ?_
          refine AllReadyH.cons (by simp only [List.getElem?_toArray, List.getElem?_cons_succ, List.getElem?_cons_zero]; rfl) (fun K hK => ?_) AllReadyH.nil
          go_simp
          refine (HSO.out w3.drew (blw_qt _ 1 w3)).mono ?_
          rintro e w5 ⟨v5, rfl, o5, b5⟩
          have b5' := blw_drn (m := 1) b5
          have c5' := (mild_below b5').cell hc3
          have hld5 := HLD.out w5 b5'
          have B5 : Hid (Below w.heap.size w w5) := Lib.hid (B3.out.trans (b5'.mono B3.out.size))
          obtain ⟨p5, q5, hv5⟩ := (HSeen.own o5).shape
          rw [HRS.out] at hv5
          subst hv5
          clear o5 b5 b5'
          go_wp2_with fail
          refine hK.out _ _ c5' (fun hHeld => ?_)
          clear hK K
          try simp only [Act.put, List.setIfInBounds_toArray, List.set_cons_zero, List.set_cons_succ]
          refine wpAnyH_take (i := 3) (v := ?_) (by simp only [List.getElem?_toArray, List.getElem?_cons_succ, List.getElem?_cons_zero]; rfl) (by kernel_rfl) (by kernel_rfl) (by kernel_rfl) (fun _ _ _ h => h) (Or.inl ⟨by rfl, ?_⟩) (by assumption) ?_
          rotate_left
          · intro w hSw
            try dsimp only at hSw
            go_simp
            try with_reducible rfl
          try simp only [Act.put, List.setIfInBounds_toArray, List.set_cons_zero, List.set_cons_succ]
          refine wpAnyH_take (i := 7) (v := ?_) (by simp only [List.getElem?_toArray, List.getElem?_cons_succ, List.getElem?_cons_zero]; rfl) (by kernel_rfl) (by kernel_rfl) (by kernel_rfl) (fun _ _ _ h => h) (Or.inl ⟨by rfl, ?_⟩) (by assumption) ?_
          rotate_left
          · intro w hSw
            try dsimp only at hSw
            go_simp
            try with_reducible rfl
          try simp only [Act.put, List.setIfInBounds_toArray, List.set_cons_zero, List.set_cons_succ]
          refine wpAnyH_done (by kernel_rfl) ?_ _
          refine NoPanic.normal ?_
          have HO7 := Lib.hid (of_kind w5 h HOK.out.1 1)
          go_wp2_with fail
          refine HO7.out.mono ?_
          rintro e w6 ⟨x, rfl, ⟨px, rfl⟩, hx, b6⟩
          go_wp2
          go_ret
          exact ⟨_, rfl, by rw [HCK.out, if_neg H4.out, if_neg HD.out]; exact hx, B5.out.trans (b6.mono B5.out.size)⟩
    · obtain rfl : i = n := by omega
      go_wp2
      go_ret
      have hT := T.out
      rw [List.drop_eq_nil_of_le (by rw [HN.out]; exact Nat.le_refl _)] at hT
      exact ⟨_, rfl, by rw [hT]; rfl, B.out⟩
end Go.Proofs.Ytnpeahbbcolfmaa
namespace Go.Proofs.Ytnpeahbbcolfmaa
open Go.RowKit
open Go.Maps
/-- The commits that are to be added, behind A. -/
def addA (G A : Gr) : List Cm → Gr
  | [] => A
  | c :: cs => addA G (if ((aget c.1 G).or (aget c.1 A)).isSome then A else aput c.1 c.2 A) cs
/-- The first commit that has another list of parents. -/
def ck3 (G A : Gr) : List Cm → Rf
  | [] => none
  | c :: cs => match (aget c.1 G).or (aget c.1 A) with
    | some ps => if ps = c.2 then ck3 G A cs else some (9, some c.1)
    | none => ck3 G (aput c.1 c.2 A) cs
/-- What added hands back. -/
def AdPost (w : World) (G : Gr) (cs : List Cm) (e : Ending) (w' : World) : Prop :=
  (∃ ba Y, ck3 G [] cs = none ∧ e = .returned (.tuple #[.map (some ba), .nilIface]) ∧ LAt w' ba Y ∧ gr Y = addA G [] cs ∧ w.heap.size ≤ ba ∧ Below w.heap.size w w') ∨
  (∃ r p, ck3 G [] cs = some r ∧ e = .returned (.tuple #[.map none, whv p]) ∧ ErrW w' (whv p) (some r) ∧ Below w.heap.size w w')
theorem lat_made (w : World) : LAt (w.alloc (.map #[] 0)) w.heap.size [] := ⟨MpH.made w, fun x h => by cases h⟩
theorem LAt.store {w w' : World} {b : Nat} {Y : Lx} {k : Key} {v : Value} {E : List Key} (h : LAt w b Y) (mp' : MpH w' b (aput k v (kvs Y))) (ho : Only (fun j => j = b) w w') (hv' : HSeen w v E) (hE : H32 E) : LAt w' b (aput k (v, E) Y) := by
  have hm := mild_map h.mp ho
  refine ⟨by rw [show kvs (aput k (v, E) Y) = aput k v (kvs Y) from amap_put _ _ _ _]; exact mp', fun x hx => ?_⟩
  rcases mem_aput.1 hx with rfl | ⟨hx, _⟩
  · exact ⟨hv'.mild hm, hE⟩
  · exact ⟨(h.seen x hx).1.mild hm, (h.seen x hx).2⟩
theorem gr_put (k : Key) (v : Value) (E : List Key) (Y : Lx) : gr (aput k (v, E) Y) = aput k E (gr Y) := amap_put _ _ _ _
theorem aput_len {α : Type} (k : Key) (v : α) (M : List (Key × α)) : (aput k v M).length ≤ M.length + 1 := by
  unfold aput
  have h1 : ∀ l : List (Key × α), (ains (k, v) l).length = l.length + 1 := fun l => by
    induction l with
    | nil => rfl
    | cons y l ih => unfold ains; split <;> simp [ih]
  rw [h1]
  have := List.length_filter_le (fun p : Key × α => !(p.1 == k)) M
  unfold adel
  omega
set_option maxRecDepth 20000 in
set_option maxHeartbeats 8000000 in
attribute [local go_sem ↓] hld_open cld_open in
theorem added_to (w : World) (g bm : Nat) (X : Lx) (v : Value) (cs : List Cm) (H : GA w g bm X) (hXp : ∀ x ∈ X, x.2.2.length ≤ 1000000) (hv' : CSeen w v cs) (hok : COk cs) (hl : cs.length ≤ 1000000) (hp : ∀ c ∈ cs, c.2.length ≤ 1000000) :
    Calls Try.prog 36 #[gp g, v] w (AdPost w (gr X) cs) := by
  obtain ⟨p, cap, rfl, hc⟩ := id hv'
  clear hc
  obtain ⟨n, hn⟩ : ∃ n, n = cs.length := ⟨_, rfl⟩
  rw [← hn] at hv' hl ⊢
  have HV := Lib.hid hv'
  have HO := Lib.hid hok
  have HN := Lib.hid hn
  have HL := Lib.hid hl
  have HP := Lib.hid hp
  have hmm := @run_makeMap Try.prog
  have b1 : Below w.heap.size w (w.alloc (.map #[] 0)) := (Below.refl _ w).alloc (Nat.le_refl _) _
  have HG := Lib.hid H
  have HXP := Lib.hid hXp
  have B1 := Lib.hid b1
  have HY0 := Lib.hid (lat_made w)
  clear hv' hok hl hn hp b1 H hXp
  go_enter Try.func36, Try.ntmps36
  go_wp2_with fail
  go_loopw [14] (fun s wr => ∃ (i : Nat) (Y : Lx), s = .int .i64 i ∧ i ≤ n ∧ Hid (ck3 (gr X) [] cs = ck3 (gr X) (gr Y) (cs.drop i)) ∧ Hid (addA (gr X) [] cs = addA (gr X) (gr Y) (cs.drop i)) ∧ Hid (LAt wr w.heap.size Y ∧ Y.length ≤ i ∧ ∀ y ∈ Y, y.2.2.length ≤ 1000000) ∧ Hid (Below w.heap.size w wr))
    (fun s _ => n - (intOf s).toNat)
  case atStart => exact ⟨0, [], rfl, Nat.zero_le _, Lib.hid rfl, Lib.hid rfl, Lib.hid ⟨HY0.out, Nat.le_refl _, fun y hy => by cases hy⟩, B1⟩
  case round =>
    clear HY0 B1
    obtain ⟨i, Y, rfl, hi, T, TA, HY, B⟩ := hrel
    by_cases hlt : i < n
    · obtain ⟨j1, j2, j3⟩ := next_fit hlt HL.out
      have hiE : i < cs.length := by rw [← HN.out]; exact hlt
      obtain ⟨p', cap', e1, hc⟩ := HV.out.mild (mild_below B.out)
      injection e1 with e1 e2 e3
      obtain ⟨b, o, u, rfl, hrg, hsn⟩ := hc i cs[i] (List.getElem?_eq_getElem hiE)
      subst e1
      have hdr : cs.drop i = cs[i] :: cs.drop (i + 1) := drop_at hiE
      have hoki := HO.out _ (List.getElem_mem hiE)
      have hmemi := List.getElem_mem hiE
      obtain ⟨⟨h, E⟩, hce⟩ : ∃ c : Cm, c = cs[i] := ⟨_, rfl⟩
      rw [← hce] at hrg hsn hdr hoki hmemi
      dsimp only at hrg hsn hoki
      have hh := hoki.1
      have hld0 := cld_range hh hrg
      have st := cst_cells h u hh hsn.one wr
      have hks : (cmv h u).size = 33 := cmv_size hh u
      have b3 : Below wr.heap.size wr (wr.alloc (.cells (cmv h u) 32)) := (Below.refl _ _).alloc (Nat.le_refl _) _
      have B3 : Hid (Below w.heap.size w (wr.alloc (.cells (cmv h u) 32))) := Lib.hid (B.out.alloc B.out.size _)
      have HV3 := heap_alloc_last wr (.cells (cmv h u) 32)
      have hsn3 := hsn.mild (mild_below b3)
      have hs3 : (wr.alloc (.cells (cmv h u) 32)).heap.size = wr.heap.size + 1 := by simp
      obtain ⟨pu, cu, rfl⟩ := hsn3.shape
      have HH3 := Lib.hid HV3
      have HSN := Lib.hid hsn3
      have HOK := Lib.hid hoki
      have HDR := Lib.hid hdr
      have HMI := Lib.hid hmemi
      obtain ⟨m, hm⟩ : ∃ m, m = E.length := ⟨_, rfl⟩
      rw [← hm] at hld0 st hks HH3 HSN hs3 B3
      have HB3 := Lib.hid b3
      rw [← hm] at HB3
      have HM := Lib.hid hm
      have HPI : Hid (E.length ≤ 1000000) := Lib.hid (HP.out _ hmemi)
      have HY3 : Hid (LAt (wr.alloc (.cells (cmv h (.slice pu m cu)) 32)) w.heap.size Y) := Lib.hid (HY.out.1.kb HB3.out)
      clear hrg hsn hdr hoki hmemi hh b3 HV3 hsn3 hc e2 e3 hce hm hiE
      generalize hw3 : wr.alloc (.cells (cmv h (.slice pu m cu)) 32) = w3 at *
      have HG3 := Lib.hid (HG.out.kb B3.out)
      have c0 := HG3.out.c0
      have hld3 := fun j => cm_hld (w := w3.drewN j) HOK.out.1 HH3.out
      have hlkA := fun j => (HG3.out.at_.mp.drew j).lookOk Try.underlying66 (lzero _) h HOK.out.1
      have hlkB := fun j => (HY3.out.mp.drew j).lookOk Try.underlying66 (lzero _) h HOK.out.1
      rw [kvs_get] at hlkA hlkB
      have hck : ck3 (gr X) [] cs = ck3 (gr X) (gr Y) ((h, E) :: cs.drop (i + 1)) := by rw [T.out, HDR.out]
      have had : addA (gr X) [] cs = addA (gr X) (gr Y) ((h, E) :: cs.drop (i + 1)) := by rw [TA.out, HDR.out]
      simp only [ck3] at hck
      simp only [addA] at had
      rw [gr_get, gr_get] at hck had
      cases hgX : aget h X with
      | some y =>
        obtain ⟨zv, ps⟩ := y
        rw [hgX] at hlkA hck had
        simp only [Option.map_some, Option.getD_some, Option.isSome_some, Option.some_or, if_true] at hlkA hck had
        have hseen := HG3.out.at_.seen _ (aget_mem hgX)
        dsimp only at hseen
        obtain ⟨pz, cz, rfl⟩ := hseen.1.shape
        have HEQ := Lib.hid (fun W (hW : Below w3.heap.size w3 W) => equal_to W (.slice pz ps.length cz) (.slice pu m cu) ps E (hseen.1.mild (mild_below hW)) (HSN.out.mild (mild_below hW)) hseen.2 HOK.out.2 (HXP.out _ (aget_mem hgX)))
        have HOF := Lib.hid (fun W => of_kind W h HOK.out.1 9)
        have HLD := Lib.hid (fun W (hW : Below w3.heap.size w3 W) => cm_hld (w := W) HOK.out.1 ((mild_below hW).cells HH3.out))
        have HCL := Lib.hid (fun W (hW : Below w3.heap.size w3 W) => cm_cell (w := W) HOK.out.1 ((mild_below hW).cells HH3.out))
        have HCK := Lib.hid hck
        have HAD := Lib.hid had
        obtain ⟨l, hl⟩ : ∃ l, l = ps.length := ⟨_, rfl⟩
        rw [← hl] at hlkA HEQ
        clear hck had hlkB hseen hgX hl
        generalize cmv h (.slice pu m cu) = q33 at *
        go_wp2_with fail
        go_quiet (fail)
        have b4 := blw_qt w3.heap.size nq w3
        clear hlkA hld3 c0
        generalize w3.drewN nq = w4 at *
        have hc4 := HCL.out w4 b4
        have B4 : Hid (Below w.heap.size w w4) := Lib.hid (B3.out.trans (b4.mono B3.out.size))
        have HB4 := Lib.hid b4
        clear b4 HCL
        go_wp2_with fail
        refine (HEQ.out w4 HB4.out).mono ?_
        rintro e w5 ⟨rfl, b5⟩
        have b5' : Below w3.heap.size w3 w5 := HB4.out.trans (b5.mono HB4.out.size)
        have hld5 := HLD.out w5 b5'
        have B5 : Hid (Below w.heap.size w w5) := Lib.hid (B3.out.trans (b5'.mono B3.out.size))
        have HY5 := Lib.hid (HY3.out.kb b5')
        have HOF5 := Lib.hid (HOF.out w5)
        clear b5 b5' hc4
        by_cases hpe : ps = E
        · rw [decide_eq_true hpe]
          have HPE := Lib.hid hpe
          clear hpe
          go_wp2_with fail
          refine ⟨⟨i + 1, Y, by rw [j1], hlt, Lib.hid (by rw [HCK.out, if_pos HPE.out]), HAD, Lib.hid ⟨HY5.out, Nat.le_trans HY.out.2.1 (Nat.le_succ _), HY.out.2.2⟩, B5⟩, ?_⟩
          rw [j1]; simp only [intOf]; omega
        · rw [decide_eq_false hpe]
          have HPE := Lib.hid hpe
          clear hpe
          go_wp2_with fail
          refine HOF5.out.mono ?_
          rintro e w6 ⟨x, rfl, ⟨px, rfl⟩, hx, b6⟩
          go_wp2
          go_ret2
          exact .inr ⟨_, px, by rw [HCK.out, if_neg HPE.out], rfl, hx, B5.out.trans (b6.mono B5.out.size)⟩
      | none =>
        rw [hgX] at hlkA hck had
        simp only [Option.map_none, Option.getD_none, Option.isSome_none, Option.none_or] at hlkA hck had
        cases hgY : aget h Y with
        | some y =>
          obtain ⟨zv, ps⟩ := y
          rw [hgY] at hlkB hck had
          simp only [Option.map_some, Option.getD_some, Option.isSome_some, if_true] at hlkB hck had
          have hseen := HY3.out.seen _ (aget_mem hgY)
          dsimp only at hseen
          obtain ⟨pz, cz, rfl⟩ := hseen.1.shape
          have HEQ := Lib.hid (fun W (hW : Below w3.heap.size w3 W) => equal_to W (.slice pz ps.length cz) (.slice pu m cu) ps E (hseen.1.mild (mild_below hW)) (HSN.out.mild (mild_below hW)) hseen.2 HOK.out.2 (HY.out.2.2 _ (aget_mem hgY)))
          have HOF := Lib.hid (fun W => of_kind W h HOK.out.1 9)
          have HLD := Lib.hid (fun W (hW : Below w3.heap.size w3 W) => cm_hld (w := W) HOK.out.1 ((mild_below hW).cells HH3.out))
          have HCL := Lib.hid (fun W (hW : Below w3.heap.size w3 W) => cm_cell (w := W) HOK.out.1 ((mild_below hW).cells HH3.out))
          have HCK := Lib.hid hck
          have HAD := Lib.hid had
          obtain ⟨l, hl⟩ : ∃ l, l = ps.length := ⟨_, rfl⟩
          rw [← hl] at hlkB HEQ
          clear hck had hseen hgY hgX hl
          generalize cmv h (.slice pu m cu) = q33 at *
          go_wp2_with fail
          go_quiet (fail)
          have b4 := blw_qt w3.heap.size nq w3
          have HLB := Lib.hid (hlkB nq)
          have HLDq := Lib.hid (hld3 nq)
          clear hlkA hlkB hld3 c0
          generalize w3.drewN nq = w4 at *
          have hlk4 := HLB.out
          have hld4 := HLDq.out
          have hc4 := HCL.out w4 b4
          have B4 : Hid (Below w.heap.size w w4) := Lib.hid (B3.out.trans (b4.mono B3.out.size))
          have HB4 := Lib.hid b4
          clear b4 HCL
          go_wp2_with fail
          refine (HEQ.out w4 HB4.out).mono ?_
          rintro e w5 ⟨rfl, b5⟩
          have b5' : Below w3.heap.size w3 w5 := HB4.out.trans (b5.mono HB4.out.size)
          have hld5 := HLD.out w5 b5'
          have B5 : Hid (Below w.heap.size w w5) := Lib.hid (B3.out.trans (b5'.mono B3.out.size))
          have HY5 := Lib.hid (HY3.out.kb b5')
          have HOF5 := Lib.hid (HOF.out w5)
          clear b5 b5' hc4
          by_cases hpe : ps = E
          · rw [decide_eq_true hpe]
            have HPE := Lib.hid hpe
            clear hpe
            go_wp2_with fail
            refine ⟨⟨i + 1, Y, by rw [j1], hlt, Lib.hid (by rw [HCK.out, if_pos HPE.out]), HAD, Lib.hid ⟨HY5.out, Nat.le_trans HY.out.2.1 (Nat.le_succ _), HY.out.2.2⟩, B5⟩, ?_⟩
            rw [j1]; simp only [intOf]; omega
          · rw [decide_eq_false hpe]
            have HPE := Lib.hid hpe
            clear hpe
            go_wp2_with fail
            refine HOF5.out.mono ?_
            rintro e w6 ⟨x, rfl, ⟨px, rfl⟩, hx, b6⟩
            go_wp2
            go_ret2
            exact .inr ⟨_, px, by rw [HCK.out, if_neg HPE.out], rfl, hx, B5.out.trans (b6.mono B5.out.size)⟩
        | none =>
          rw [hgY] at hlkB hck had
          simp only [Option.map_none, Option.getD_none, Option.isSome_none, Bool.false_eq_true, if_false] at hlkB hck had
          have HCL := Lib.hid (fun j => cm_cell (w := w3.drewN j) HOK.out.1 HH3.out)
          have HCK := Lib.hid hck
          have HAD := Lib.hid had
          have hYl : Y.length < maxLen := by have := HY.out.2.1; have := HL.out; unfold maxLen; omega
          clear hck had hgY hgX
          generalize cmv h (.slice pu m cu) = q33 at *
          go_wp2_with fail
          go_quiet (fail)
          have b4 := blw_qt w3.heap.size nq w3
          have HLB := Lib.hid (hlkB nq)
          have HLD := Lib.hid (hld3 nq)
          have HC4 := Lib.hid (HCL.out nq)
          clear hlkA hlkB hld3 c0 HCL
          generalize w3.drewN nq = w4 at *
          have hlk4 := HLB.out
          have hld4 := HLD.out
          have hc4 := HC4.out
          have Y4 := Lib.hid (HY3.out.kb b4)
          obtain ⟨w5, hmu, mp5, o5⟩ := Y4.out.mp.store Try.underlying66 h HOK.out.1 (by rw [kvs_len]; exact hYl) (.slice pu m cu)
          have HY5 := Lib.hid (Y4.out.store mp5 o5 (HSN.out.mild (mild_below b4)) HOK.out.2)
          have B5 : Hid (Below w.heap.size w w5) := Lib.hid (B3.out.trans ((b4.mono B3.out.size).trans (Only.below (S := fun j => j = w.heap.size) o5 (Nat.le_trans B3.out.size b4.size) (fun j hj => by omega))))
          clear b4 mp5 o5 hYl
          go_wp2_with fail
          refine ⟨⟨i + 1, aput h (.slice pu m cu, E) Y, by rw [j1], hlt, Lib.hid (by rw [gr_put]; exact HCK.out), Lib.hid (by rw [gr_put]; exact HAD.out), Lib.hid ⟨HY5.out, Nat.le_trans (aput_len _ _ _) (by have := HY.out.2.1; omega), fun y hy => ?_⟩, B5⟩, ?_⟩
          · rcases mem_aput.1 hy with rfl | ⟨hy, _⟩
            · exact HPI.out
            · exact HY.out.2.2 y hy
          · rw [j1]; simp only [intOf]; omega
    · obtain rfl : i = n := by omega
      go_wp2
      go_ret2
      have hT := T.out
      have hA := TA.out
      rw [List.drop_eq_nil_of_le (by rw [HN.out]; exact Nat.le_refl _)] at hT hA
      exact .inl ⟨_, Y, hT, rfl, HY.out.1, hA.symm, Nat.le_refl _, B.out⟩
end Go.Proofs.Ytnpeahbbcolfmaa
namespace Go.Proofs.Ytnpeahbbcolfmaa
open Go.RowKit
open Go.Maps
/-- The first hash that is nowhere. -/
def miss (G A : Gr) : List Key → Option Key
  | [] => none
  | p :: E => if (aget p G).isSome || (aget p A).isSome then miss G A E else some p
def ck5 (G A : Gr) (hs : List Key) : Rf := match miss G A hs with | some p => some (11, some p) | none => none
def ck4 (G A : Gr) : List Cm → Rf
  | [] => none
  | c :: cs => match miss G A c.2 with | some p => some (10, some p) | none => ck4 G A cs
open Classical in
noncomputable def ck6 (A : Gr) : List Cm → Rf
  | [] => none
  | c :: cs => if ∃ p ∈ c.2, Up (adj A) p c.1 then some (12, some c.1) else ck6 A cs

set_option maxRecDepth 20000 in
set_option maxHeartbeats 8000000 in
attribute [local go_sem ↓] hld_open in
theorem checkHeads_to (w : World) (g bm ba : Nat) (X Y : Lx) (v : Value) (hs : List Key) (H : GA w g bm X) (hY : LAt w ba Y) (hv' : HSeen w v hs) (h32 : H32 hs) (hl : hs.length ≤ 1000000) :
    Calls Try.prog 38 #[gp g, v, .map (some ba)] w fun e w' => ∃ x, e = .returned x ∧ ErrW w' x (ck5 (gr X) (gr Y) hs) ∧ Below w.heap.size w w' := by
  obtain ⟨p, cap, rfl⟩ := hv'.shape
  obtain ⟨n, hn⟩ : ∃ n, n = hs.length := ⟨_, rfl⟩
  rw [← hn] at hv' hl ⊢
  have HG := Lib.hid H
  have HY := Lib.hid hY
  have HV := Lib.hid hv'
  have H3 := Lib.hid h32
  have HN := Lib.hid hn
  have HL := Lib.hid hl
  clear H hY hv' h32 hn hl
  go_enter Try.func38, Try.ntmps38
  go_wp2_with fail
  go_loopw [11] (fun s wr => ∃ i : Nat, s = .int .i64 i ∧ i ≤ n ∧ Hid (miss (gr X) (gr Y) hs = miss (gr X) (gr Y) (hs.drop i)) ∧ Hid (Below w.heap.size w wr))
    (fun s _ => n - (intOf s).toNat)
  case atStart => exact ⟨0, rfl, Nat.zero_le _, Lib.hid rfl, Lib.hid (Below.refl _ _)⟩
  case round =>
    obtain ⟨i, rfl, hi, T, B⟩ := hrel
    by_cases hlt : i < n
    · obtain ⟨j1, j2, j3⟩ := next_fit hlt HL.out
      have hiE : i < hs.length := by rw [← HN.out]; exact hlt
      obtain ⟨b, o, c', e1, hrg⟩ := (HV.out.mild (mild_below B.out)).at H3.out hiE
      injection e1 with e1 e2 e3
      subst e1
      have hdr : hs.drop i = hs[i] :: hs.drop (i + 1) := drop_at hiE
      obtain ⟨x, hx⟩ : ∃ x, x = hs[i] := ⟨_, rfl⟩
      rw [← hx] at hrg hdr
      have hx32 : x.length = 32 := by rw [hx]; exact H3.out.at hiE
      have hld0 := hld_range hx32 hrg
      have st := hst_cells x hx32 wr
      have hks : (hv x).size = 32 := by rw [hv_size, hx32]
      have b3 : Below wr.heap.size wr (wr.alloc (.cells (hv x) 27)) := (Below.refl _ _).alloc (Nat.le_refl _) _
      have HV3 := Lib.hid (heap_alloc_last wr (.cells (hv x) 27))
      have hld3 := hld_row (w := wr.alloc (.cells (hv x) 27)) hx32 HV3.out
      have B3 : Hid (Below w.heap.size w (wr.alloc (.cells (hv x) 27))) := Lib.hid (B.out.alloc B.out.size _)
      have HHS := Lib.hid (has_to (wr.alloc (.cells (hv x) 27)) g bm X x hx32 (HG.out.kb B3.out))
      have HLS := Lib.hid (fun W (hW : Below w.heap.size w W) => lhas_to W ba (kvs Y) x hx32 (HY.out.kb hW).mp)
      have hs3 : (wr.alloc (.cells (hv x) 27)).heap.size = wr.heap.size + 1 := by simp
      have H32x := Lib.hid hx32
      have HDR := Lib.hid hdr
      have HOF := Lib.hid (fun W => of_kind W x hx32 11)
      have hq : (aget x (kvs Y)).isSome = (aget x (gr Y)).isSome := by rw [kvs_get, gr_get]; cases aget x Y <;> rfl
      rw [hq] at HLS
      have hms : miss (gr X) (gr Y) hs = if (aget x (gr X)).isSome || (aget x (gr Y)).isSome then miss (gr X) (gr Y) (hs.drop (i + 1)) else some x := by rw [T.out, hdr]; rfl
      have HMS := Lib.hid hms
      clear hx hrg hx32 b3 e2 e3 hiE hdr hq hms
      generalize hw3 : wr.alloc (.cells (hv x) 27) = w3 at *
      generalize (aget x (gr Y)).isSome = okA at HLS HMS
      cases hokG : (aget x (gr X)).isSome with
      | true =>
        rw [hokG] at HHS HMS
        go_wp2_with fail
        refine HHS.out.mono ?_
        rintro e w4 ⟨rfl, b4⟩
        rw [hs3] at b4
        have B4 : Hid (Below w.heap.size w w4) := Lib.hid (B3.out.trans (b4.mono (by have := B.out.size; omega)))
        skip
        clear b4
        go_wp2_with fail
        refine ⟨⟨i + 1, by rw [j1], hlt, Lib.hid (by rw [HMS.out]; rfl), B4⟩, ?_⟩
        rw [j1]; simp only [intOf]; omega
      | false =>
        rw [hokG] at HHS HMS
        go_wp2_with fail
        refine HHS.out.mono ?_
        rintro e w4 ⟨rfl, b4⟩
        rw [hs3] at b4
        have B4 : Hid (Below w.heap.size w w4) := Lib.hid (B3.out.trans (b4.mono (by have := B.out.size; omega)))
        have HV4 := Lib.hid ((b4.block wr.heap.size (by omega)).trans HV3.out)
        have hld4 := hld_row (w := w4) H32x.out HV4.out
        skip
        clear b4
        go_wp2_with fail
        refine (HLS.out w4 B4.out).mono ?_
        rintro e w5 ⟨rfl, b5⟩
        have HV5 := Lib.hid ((b5.block _ (Array.getElem?_eq_some_iff.1 HV4.out).1).trans HV4.out)
        have hld5 := hld_row (w := w5) H32x.out HV5.out
        have B5 : Hid (Below w.heap.size w w5) := Lib.hid (B4.out.trans (b5.mono B4.out.size))
        skip
        clear b5
        cases okA with
        | true =>
          go_wp2_with fail
          refine ⟨⟨i + 1, by rw [j1], hlt, Lib.hid (by rw [HMS.out]; rfl), B5⟩, ?_⟩
          rw [j1]; simp only [intOf]; omega
        | false =>
          go_wp2_with fail
          refine (HOF.out w5).mono ?_
          rintro e w6 ⟨z, rfl, ⟨pz, rfl⟩, hz, b6⟩
          go_wp2
          go_ret
          refine ⟨_, rfl, ?_, B5.out.trans (b6.mono B5.out.size)⟩
          unfold ck5
          rw [HMS.out]
          exact hz
    · obtain rfl : i = n := by omega
      go_wp2
      go_ret
      have hT := T.out
      rw [List.drop_eq_nil_of_le (by rw [HN.out]; exact Nat.le_refl _)] at hT
      exact ⟨_, rfl, by unfold ck5; rw [hT]; rfl, B.out⟩
set_option maxRecDepth 20000 in
set_option maxHeartbeats 8000000 in
attribute [local go_sem ↓] hld_open cld_open in
theorem checkParents_to (w : World) (g bm ba : Nat) (X Y : Lx) (v : Value) (cs : List Cm) (H : GA w g bm X) (hY : LAt w ba Y) (hv' : CSeen w v cs) (hok : COk cs) (hl : cs.length ≤ 1000000) (hp : ∀ c ∈ cs, c.2.length ≤ 1000000) :
    Calls Try.prog 37 #[gp g, v, .map (some ba)] w fun e w' => ∃ x, e = .returned x ∧ ErrW w' x (ck4 (gr X) (gr Y) cs) ∧ Below w.heap.size w w' := by
  obtain ⟨p, cap, rfl, hc⟩ := id hv'
  clear hc
  obtain ⟨n, hn⟩ : ∃ n, n = cs.length := ⟨_, rfl⟩
  rw [← hn] at hv' hl ⊢
  have HV := Lib.hid hv'
  have HO := Lib.hid hok
  have HN := Lib.hid hn
  have HL := Lib.hid hl
  have HP := Lib.hid hp
  have HG := Lib.hid H
  have HY := Lib.hid hY
  clear hv' hok hl hn hp H hY
  go_enter Try.func37, Try.ntmps37
  go_wp2_with fail
  go_loopw [13] (fun s wr => ∃ i : Nat, s = .int .i64 i ∧ i ≤ n ∧ Hid (ck4 (gr X) (gr Y) cs = ck4 (gr X) (gr Y) (cs.drop i)) ∧ Hid (Below w.heap.size w wr))
    (fun s _ => n - (intOf s).toNat)
  case atStart => exact ⟨0, rfl, Nat.zero_le _, Lib.hid rfl, Lib.hid (Below.refl _ _)⟩
  case round =>
    obtain ⟨i, rfl, hi, T, B⟩ := hrel
    by_cases hlt : i < n
    · obtain ⟨j1, j2, j3⟩ := next_fit hlt HL.out
      have hiE : i < cs.length := by rw [← HN.out]; exact hlt
      obtain ⟨p', cap', e1, hc⟩ := HV.out.mild (mild_below B.out)
      injection e1 with e1 e2 e3
      obtain ⟨b, o, u, rfl, hrg, hsn⟩ := hc i cs[i] (List.getElem?_eq_getElem hiE)
      subst e1
      have hdr : cs.drop i = cs[i] :: cs.drop (i + 1) := drop_at hiE
      have hoki := HO.out _ (List.getElem_mem hiE)
      have hmemi := List.getElem_mem hiE
      obtain ⟨⟨h, E⟩, hce⟩ : ∃ c : Cm, c = cs[i] := ⟨_, rfl⟩
      rw [← hce] at hrg hsn hdr hoki hmemi
      dsimp only at hrg hsn hoki
      have hh := hoki.1
      have hld0 := cld_range hh hrg
      have st := cst_cells h u hh hsn.one wr
      have hks : (cmv h u).size = 33 := cmv_size hh u
      have b3 : Below wr.heap.size wr (wr.alloc (.cells (cmv h u) 32)) := (Below.refl _ _).alloc (Nat.le_refl _) _
      have B3 : Hid (Below w.heap.size w (wr.alloc (.cells (cmv h u) 32))) := Lib.hid (B.out.alloc B.out.size _)
      have HV3 := heap_alloc_last wr (.cells (cmv h u) 32)
      have hsn3 := hsn.mild (mild_below b3)
      have hs3 : (wr.alloc (.cells (cmv h u) 32)).heap.size = wr.heap.size + 1 := by simp
      obtain ⟨pu, cu, rfl⟩ := hsn3.shape
      have HH3 := Lib.hid HV3
      have HSN := Lib.hid hsn3
      have HOK := Lib.hid hoki
      have HDR := Lib.hid hdr
      have HMI := Lib.hid hmemi
      obtain ⟨m, hm⟩ : ∃ m, m = E.length := ⟨_, rfl⟩
      rw [← hm] at hld0 st hks HH3 HSN hs3 B3
      have HB3 := Lib.hid b3
      rw [← hm] at HB3
      have HM := Lib.hid hm
      have HPI : Hid (E.length ≤ 1000000) := Lib.hid (HP.out _ hmemi)
      clear hrg hsn hdr hoki hmemi hh b3 HV3 hsn3 hc e2 e3 hce hm hiE
      generalize hV3 : wr.alloc (.cells (cmv h (.slice pu m cu)) 32) = V3 at *
      have hc3 := cm_cell HOK.out.1 HH3.out
      have HCK : Hid (ck4 (gr X) (gr Y) cs = match miss (gr X) (gr Y) E with | some p => some (10, some p) | none => ck4 (gr X) (gr Y) (cs.drop (i + 1))) := Lib.hid (by rw [T.out, HDR.out]; rfl)
      have HJ1 := Lib.hid j1
      have HLT := Lib.hid hlt
      generalize cmv h (.slice pu m cu) = q33 at *
      clear T
      generalize i = I at *
      have HB0 := Lib.hid B.out.size
      go_wp2_with fail
      go_loopw [20] (fun s wr => ∃ i : Nat, s = .int .i64 i ∧ i ≤ m ∧ Hid (miss (gr X) (gr Y) E = miss (gr X) (gr Y) (E.drop i)) ∧ Hid (Below w.heap.size w wr) ∧ Hid (Below V3.heap.size V3 wr))
        (fun s _ => m - (intOf s).toNat)
      case atStart => exact ⟨0, rfl, Nat.zero_le _, Lib.hid rfl, B3, Lib.hid (Below.refl _ _)⟩
      case round =>
        clear B3 B hld0 st hks
        have hMl : m ≤ 1000000 := by rw [HM.out]; exact HPI.out
        have HML := Lib.hid hMl
        clear hMl
        obtain ⟨i, rfl, hi, T, B, BV⟩ := hrel
        by_cases hlt : i < m
        · obtain ⟨j1, j2, j3⟩ := next_fit hlt HML.out
          have hiE : i < E.length := by rw [← HM.out]; exact hlt
          obtain ⟨b, o, c', e1, hrg⟩ := (HSN.out.mild (mild_below BV.out)).at HOK.out.2 hiE
          injection e1 with e1 e2 e3
          subst e1
          have hdr : E.drop i = E[i] :: E.drop (i + 1) := drop_at hiE
          obtain ⟨x, hx⟩ : ∃ x, x = E[i] := ⟨_, rfl⟩
          rw [← hx] at hrg hdr
          have hx32 : x.length = 32 := by rw [hx]; exact HOK.out.2.at hiE
          have hld0 := hld_range hx32 hrg
          have st := hst_cells x hx32 wr
          have hks : (hv x).size = 32 := by rw [hv_size, hx32]
          have b3 : Below wr.heap.size wr (wr.alloc (.cells (hv x) 27)) := (Below.refl _ _).alloc (Nat.le_refl _) _
          have HV3 := Lib.hid (heap_alloc_last wr (.cells (hv x) 27))
          have hld3 := hld_row (w := wr.alloc (.cells (hv x) 27)) hx32 HV3.out
          have B3 : Hid (Below w.heap.size w (wr.alloc (.cells (hv x) 27))) := Lib.hid (B.out.alloc B.out.size _)
          have BV3 : Hid (Below V3.heap.size V3 (wr.alloc (.cells (hv x) 27))) := Lib.hid (BV.out.alloc BV.out.size _)
          have HHS := Lib.hid (has_to (wr.alloc (.cells (hv x) 27)) g bm X x hx32 (HG.out.kb B3.out))
          have HLS := Lib.hid (fun W (hW : Below w.heap.size w W) => lhas_to W ba (kvs Y) x hx32 (HY.out.kb hW).mp)
          have hs3 : (wr.alloc (.cells (hv x) 27)).heap.size = wr.heap.size + 1 := by simp
          have H32x := Lib.hid hx32
          have HDR := Lib.hid hdr
          have HOF := Lib.hid (fun W => of_kind W x hx32 10)
          have hq : (aget x (kvs Y)).isSome = (aget x (gr Y)).isSome := by rw [kvs_get, gr_get]; cases aget x Y <;> rfl
          rw [hq] at HLS
          have hms : miss (gr X) (gr Y) E = if (aget x (gr X)).isSome || (aget x (gr Y)).isSome then miss (gr X) (gr Y) (E.drop (i + 1)) else some x := by rw [T.out, hdr]; rfl
          have HMS := Lib.hid hms
          clear hx hrg hx32 b3 e2 e3 hiE hdr hq hms
          generalize hw3 : wr.alloc (.cells (hv x) 27) = w3 at *
          generalize (aget x (gr Y)).isSome = okA at HLS HMS
          cases hokG : (aget x (gr X)).isSome with
          | true =>
            rw [hokG] at HHS HMS
            go_wp2_with fail
            refine HHS.out.mono ?_
            rintro e w4 ⟨rfl, b4⟩
            rw [hs3] at b4
            have B4 : Hid (Below w.heap.size w w4) := Lib.hid (B3.out.trans (b4.mono (by have := B.out.size; omega)))
            have BV4 : Hid (Below V3.heap.size V3 w4) := Lib.hid (BV3.out.trans (b4.mono (by have := BV.out.size; omega)))
            clear b4
            go_wp2_with fail
            refine ⟨⟨i + 1, by rw [j1], hlt, Lib.hid (by rw [HMS.out]; rfl), B4, BV4⟩, ?_⟩
            rw [j1]; simp only [intOf]; omega
          | false =>
            rw [hokG] at HHS HMS
            go_wp2_with fail
            refine HHS.out.mono ?_
            rintro e w4 ⟨rfl, b4⟩
            rw [hs3] at b4
            have B4 : Hid (Below w.heap.size w w4) := Lib.hid (B3.out.trans (b4.mono (by have := B.out.size; omega)))
            have HV4 := Lib.hid ((b4.block wr.heap.size (by omega)).trans HV3.out)
            have hld4 := hld_row (w := w4) H32x.out HV4.out
            have BV4 : Hid (Below V3.heap.size V3 w4) := Lib.hid (BV3.out.trans (b4.mono (by have := BV.out.size; omega)))
            clear b4
            go_wp2_with fail
            refine (HLS.out w4 B4.out).mono ?_
            rintro e w5 ⟨rfl, b5⟩
            have HV5 := Lib.hid ((b5.block _ (Array.getElem?_eq_some_iff.1 HV4.out).1).trans HV4.out)
            have hld5 := hld_row (w := w5) H32x.out HV5.out
            have B5 : Hid (Below w.heap.size w w5) := Lib.hid (B4.out.trans (b5.mono B4.out.size))
            have BV5 : Hid (Below V3.heap.size V3 w5) := Lib.hid (BV4.out.trans (b5.mono BV4.out.size))
            clear b5
            cases okA with
            | true =>
              go_wp2_with fail
              refine ⟨⟨i + 1, by rw [j1], hlt, Lib.hid (by rw [HMS.out]; rfl), B5, BV5⟩, ?_⟩
              rw [j1]; simp only [intOf]; omega
            | false =>
              go_wp2_with fail
              refine (HOF.out w5).mono ?_
              rintro e w6 ⟨z, rfl, ⟨pz, rfl⟩, hz, b6⟩
              go_wp2
              go_ret
              refine ⟨_, rfl, ?_, B5.out.trans (b6.mono B5.out.size)⟩
              rw [HCK.out, HMS.out]
              exact hz
        · obtain rfl : i = m := by omega
          have hT := T.out
          rw [List.drop_eq_nil_of_le (by rw [HM.out]; exact Nat.le_refl _)] at hT
          have HT := Lib.hid hT
          clear hT
          go_wp2_with fail
          refine ⟨⟨I + 1, by rw [HJ1.out], HLT.out, Lib.hid (by rw [HCK.out, HT.out]; rfl), B⟩, ?_⟩
          rw [HJ1.out]; simp only [intOf]
          have := HLT.out
          omega
    · obtain rfl : i = n := by omega
      go_wp2
      go_ret
      have hT := T.out
      rw [List.drop_eq_nil_of_le (by rw [HN.out]; exact Nat.le_refl _)] at hT
      exact ⟨_, rfl, by rw [hT]; rfl, B.out⟩
set_option maxRecDepth 20000 in
set_option maxHeartbeats 8000000 in
attribute [local go_sem ↓] hld_open cld_open in
theorem checkCycles_to (w : World) (ba : Nat) (Y : Lx) (v : Value) (cs : List Cm) (U : List Key) (hY : LAt w ba Y) (hv' : CSeen w v cs) (hok : COk cs) (hl : cs.length ≤ 1000000) (hp : ∀ c ∈ cs, c.2.length ≤ 1000)
    (hU : U.length ≤ 4000) (hcU : ∀ c ∈ cs, ∀ p ∈ c.2, p ∈ U) (hYU : ∀ x, ∀ p ∈ adj (gr Y) x, p ∈ U) (hYl : ∀ y ∈ Y, y.2.2.length ≤ 1000) :
    Calls Try.prog 39 #[v, .map (some ba)] w fun e w' => ∃ x, e = .returned x ∧ ErrW w' x (ck6 (gr Y) cs) ∧ Below w.heap.size w w' := by
  obtain ⟨p, cap, rfl, hc⟩ := id hv'
  clear hc
  obtain ⟨n, hn⟩ : ∃ n, n = cs.length := ⟨_, rfl⟩
  rw [← hn] at hv' hl ⊢
  have HV := Lib.hid hv'
  have HO := Lib.hid hok
  have HN := Lib.hid hn
  have HL := Lib.hid hl
  have HP := Lib.hid hp
  have HY := Lib.hid hY
  have HUl := Lib.hid hU
  have HCU := Lib.hid hcU
  have HYU := Lib.hid hYU
  have HYL := Lib.hid hYl
  clear hv' hok hl hn hp hY hU hcU hYU hYl
  go_enter Try.func39, Try.ntmps39
  go_wp2_with fail
  go_loopw [9] (fun s wr => ∃ i : Nat, s = .int .i64 i ∧ i ≤ n ∧ Hid (ck6 (gr Y) cs = ck6 (gr Y) (cs.drop i)) ∧ Hid (Below w.heap.size w wr))
    (fun s _ => n - (intOf s).toNat)
  case atStart => exact ⟨0, rfl, Nat.zero_le _, Lib.hid rfl, Lib.hid (Below.refl _ _)⟩
  case round =>
    obtain ⟨i, rfl, hi, T, B⟩ := hrel
    by_cases hlt : i < n
    · obtain ⟨j1, j2, j3⟩ := next_fit hlt HL.out
      have hiE : i < cs.length := by rw [← HN.out]; exact hlt
      obtain ⟨p', cap', e1, hc⟩ := HV.out.mild (mild_below B.out)
      injection e1 with e1 e2 e3
      obtain ⟨b, o, u, rfl, hrg, hsn⟩ := hc i cs[i] (List.getElem?_eq_getElem hiE)
      subst e1
      have hdr : cs.drop i = cs[i] :: cs.drop (i + 1) := drop_at hiE
      have hoki := HO.out _ (List.getElem_mem hiE)
      have hmemi := List.getElem_mem hiE
      obtain ⟨⟨h, E⟩, hce⟩ : ∃ c : Cm, c = cs[i] := ⟨_, rfl⟩
      rw [← hce] at hrg hsn hdr hoki hmemi
      dsimp only at hrg hsn hoki
      have hh := hoki.1
      have hld0 := cld_range hh hrg
      have st := cst_cells h u hh hsn.one wr
      have hks : (cmv h u).size = 33 := cmv_size hh u
      have b3 : Below wr.heap.size wr (wr.alloc (.cells (cmv h u) 32)) := (Below.refl _ _).alloc (Nat.le_refl _) _
      have B3 : Hid (Below w.heap.size w (wr.alloc (.cells (cmv h u) 32))) := Lib.hid (B.out.alloc B.out.size _)
      have HV3 := heap_alloc_last wr (.cells (cmv h u) 32)
      have hsn3 := hsn.mild (mild_below b3)
      have hs3 : (wr.alloc (.cells (cmv h u) 32)).heap.size = wr.heap.size + 1 := by simp
      obtain ⟨pu, cu, rfl⟩ := hsn3.shape
      have HH3 := Lib.hid HV3
      have HSN := Lib.hid hsn3
      have HOK := Lib.hid hoki
      have HDR := Lib.hid hdr
      have HMI := Lib.hid hmemi
      obtain ⟨m, hm⟩ : ∃ m, m = E.length := ⟨_, rfl⟩
      rw [← hm] at hld0 st hks HH3 HSN hs3 B3
      have HB3 := Lib.hid b3
      rw [← hm] at HB3
      have HM := Lib.hid hm
      have HPI : Hid (E.length ≤ 1000 ∧ ∀ p ∈ E, p ∈ U) := Lib.hid ⟨HP.out _ hmemi, HCU.out _ hmemi⟩
      clear hrg hsn hdr hoki hmemi hh b3 HV3 hsn3 hc e2 e3 hce hm hiE
      generalize hw3 : wr.alloc (.cells (cmv h (.slice pu m cu)) 32) = w3 at *
      have hc3 := cm_cell HOK.out.1 HH3.out
      have hld3 := cm_hld (w := w3.drew) HOK.out.1 HH3.out
      have HCL := Lib.hid (fun W (hW : Below w3.heap.size w3 W) => cm_cell (w := W) HOK.out.1 ((mild_below hW).cells HH3.out))
      have HLD := Lib.hid (fun W (hW : Below w3.heap.size w3 W) => cm_hld (w := W) HOK.out.1 ((mild_below hW).cells HH3.out))
      have HRE := Lib.hid (fun W (hW : Below w3.heap.size w3 W) => reach_to W ba Y (.slice pu m cu) E U (HY.out.kb (B3.out.trans (hW.mono B3.out.size))) (HSN.out.mild (mild_below hW)) HOK.out.2 (by have := HPI.out.1; omega) HUl.out HPI.out.2 HYU.out HYL.out)
      have HCK : Hid (ck6 (gr Y) cs = open Classical in if ∃ p ∈ E, Up (adj (gr Y)) p h then some (12, some h) else ck6 (gr Y) (cs.drop (i + 1))) := Lib.hid (by rw [T.out, HDR.out]; rfl)
      generalize cmv h (.slice pu m cu) = q33 at *
      go_wp2_with fail
      try simp only [List.append]
      refine wp_region_noPanic ?_
      refine wp_region_held_drew (S := (fun W => W.cell? ⟨wr.heap.size, 32, none⟩ = some (.slice pu m cu) ∧ (hld ⟨wr.heap.size, 0, none⟩).run Try.prog W = .ok (.agg (hv h)) W)) (by kernel_rfl) ⟨hc3, hld3⟩ (fun hHeld => ?_)
      refine wpAnyH_take (i := 0) (v := ?_) (by simp only [List.getElem?_toArray, List.getElem?_cons_zero]; rfl) (by kernel_rfl) (by kernel_rfl) (by kernel_rfl) (fun _ _ _ h => h) (Or.inl ⟨by rfl, ?_⟩) (by assumption) ?_
      rotate_left
      · intro w hSw
        try dsimp only at hSw
        go_simp
        try with_reducible rfl
      try simp only [Act.put, List.setIfInBounds_toArray, List.set_cons_zero, List.set_cons_succ]
      refine wpAnyH_take (i := 1) (v := ?_) (by simp only [List.getElem?_toArray, List.getElem?_cons_succ, List.getElem?_cons_zero]; rfl) (by kernel_rfl) (by kernel_rfl) (by kernel_rfl) (fun _ _ _ h => h) (Or.inl ⟨by rfl, ?_⟩) (by assumption) ?_
      rotate_left
      · intro w hSw
        try dsimp only at hSw
        go_simp
        try with_reducible rfl
      try simp only [Act.put, List.setIfInBounds_toArray, List.set_cons_zero, List.set_cons_succ]
      refine wpAnyH_take (i := 2) (v := ?_) (by simp only [List.getElem?_toArray, List.getElem?_cons_succ, List.getElem?_cons_zero]; rfl) (by kernel_rfl) (by kernel_rfl) (by kernel_rfl) (fun _ _ _ h => h) (Or.inl ⟨by rfl, ?_⟩) (by assumption) ?_
      rotate_left
      · intro w hSw
        try dsimp only at hSw
        go_simp
        try with_reducible rfl
      try simp only [Act.put, List.setIfInBounds_toArray, List.set_cons_zero, List.set_cons_succ]
      refine wpAnyH_take (i := 4) (v := ?_) (by simp only [List.getElem?_toArray, List.getElem?_cons_succ, List.getElem?_cons_zero]; rfl) (by kernel_rfl) (by kernel_rfl) (by kernel_rfl) (fun _ _ _ h => h) (Or.inl ⟨by rfl, ?_⟩) (by assumption) ?_
      rotate_left
      · intro w hSw
        try dsimp only at hSw
        go_simp
        try with_reducible rfl
      try simp only [Act.put, List.setIfInBounds_toArray, List.set_cons_zero, List.set_cons_succ]
      refine wpAnyH_take (i := 5) (v := ?_) (by simp only [List.getElem?_toArray, List.getElem?_cons_succ, List.getElem?_cons_zero]; rfl) (by kernel_rfl) (by kernel_rfl) (by kernel_rfl) (fun _ _ _ h => h) (Or.inl ⟨by rfl, ?_⟩) (by assumption) ?_
      rotate_left
      · intro w hSw
        try dsimp only at hSw
        go_simp
        try with_reducible rfl
      try simp only [Act.put, List.setIfInBounds_toArray, List.set_cons_zero, List.set_cons_succ]
      refine wpAnyH_ready (rs := [3]) (by kernel_rfl) (by simp) ?_
      refine AllReadyH.cons (by simp only [List.getElem?_toArray, List.getElem?_cons_succ, List.getElem?_cons_zero]; rfl) (fun K hK => ?_) AllReadyH.nil
      go_simp
      refine (HRE.out w3.drew (blw_qt _ 1 w3)).mono ?_
      rintro e w4 ⟨b4, R, rfl, hS, _, hR, _, bb4⟩
      have b5 := blw_drn (m := 1) bb4
      have c4 := HCL.out w4 b5
      have l4 := HLD.out w4 b5
      have HSH := Lib.hid (shas_to w4 b4 R h HOK.out.1 hS)
      have HR := Lib.hid (hR h)
      have HB5 := Lib.hid b5
      clear hS hR bb4 b5
      go_wp2_with fail
      refine hK.out _ _ ⟨c4, l4⟩ (fun hHeld => ?_)
      clear hK K
      try simp only [Act.put, List.setIfInBounds_toArray, List.set_cons_zero, List.set_cons_succ]
      by_cases hup : h ∈ R
      · rw [decide_eq_true hup] at HSH
        have HUP := Lib.hid (HR.out.1 hup)
        clear hup
        refine wpAnyH_ready (rs := [6]) (by kernel_rfl) (by simp) ?_
        refine AllReadyH.cons (by simp only [List.getElem?_toArray, List.getElem?_cons_succ, List.getElem?_cons_zero]; rfl) (fun K hK => ?_) AllReadyH.nil
        go_simp
        refine HSH.out.mono ?_
        rintro e w6 ⟨rfl, b6⟩
        have b7 := HB5.out.trans (b6.mono HB5.out.size)
        have c6 := HCL.out w6 b7
        have l6 := HLD.out w6 b7
        have B6 : Hid (Below w.heap.size w w6) := Lib.hid (B3.out.trans (b7.mono B3.out.size))
        have HOF := Lib.hid (of_kind w6 h HOK.out.1 12)
        clear b6 b7
        go_wp2_with fail
        refine hK.out _ _ ⟨c6, l6⟩ (fun hHeld => ?_)
        clear hK K
        try simp only [Act.put, List.setIfInBounds_toArray, List.set_cons_zero, List.set_cons_succ]
        refine wpAnyH_done (by kernel_rfl) ?_ _
        refine NoPanic.normal ?_
        go_wp2_with fail
        refine HOF.out.mono ?_
        rintro e w8 ⟨x, rfl, ⟨px, rfl⟩, hx, b8⟩
        go_wp2
        go_ret
        exact ⟨_, rfl, by rw [HCK.out, if_pos HUP.out]; exact hx, B6.out.trans (b8.mono B6.out.size)⟩
      · rw [decide_eq_false hup] at HSH
        have HUP : Hid (¬ ∃ p ∈ E, Up (adj (gr Y)) p h) := Lib.hid (fun e => hup (HR.out.2 e))
        clear hup
        refine wpAnyH_ready (rs := [6]) (by kernel_rfl) (by simp) ?_
        refine AllReadyH.cons (by simp only [List.getElem?_toArray, List.getElem?_cons_succ, List.getElem?_cons_zero]; rfl) (fun K hK => ?_) AllReadyH.nil
        go_simp
        refine HSH.out.mono ?_
        rintro e w6 ⟨rfl, b6⟩
        have b7 := HB5.out.trans (b6.mono HB5.out.size)
        have c6 := HCL.out w6 b7
        have l6 := HLD.out w6 b7
        have B6 : Hid (Below w.heap.size w w6) := Lib.hid (B3.out.trans (b7.mono B3.out.size))
        clear b6 b7
        go_wp2_with fail
        refine hK.out _ _ ⟨c6, l6⟩ (fun hHeld => ?_)
        clear hK K
        try simp only [Act.put, List.setIfInBounds_toArray, List.set_cons_zero, List.set_cons_succ]
        refine wpAnyH_done (by kernel_rfl) ?_ _
        refine NoPanic.normal ?_
        go_wp2_with fail
        refine ⟨⟨i + 1, by rw [j1], hlt, Lib.hid (by rw [HCK.out, if_neg HUP.out]), B6⟩, ?_⟩
        rw [j1]; simp only [intOf]; omega
    · obtain rfl : i = n := by omega
      go_wp2
      go_ret
      have hT := T.out
      rw [List.drop_eq_nil_of_le (by rw [HN.out]; exact Nat.le_refl _)] at hT
      exact ⟨_, rfl, by rw [hT]; rfl, B.out⟩
end Go.Proofs.Ytnpeahbbcolfmaa
namespace Go.Proofs.Ytnpeahbbcolfmaa
open Go.RowKit
open Go.Maps
theorem nn_iface (t : TypeId) (x : Value) (w : World) : (binOp .neq 34 (.iface t x) .nilIface).run Try.prog w = .ok (.bool true) w := by kernel_rfl
theorem nn_nil (w : World) : (binOp .neq 34 .nilIface .nilIface).run Try.prog w = .ok (.bool false) w := by kernel_rfl
/-- A request's bounds. -/
def bnd (grp : Int) (cs : List Cm) (hs : List Key) : Bool := (decide (grp = 1) || decide (grp = 2)) && decide (cs.length ≤ 200) && decide (hs.length ≤ 200)
noncomputable def chk (G : Gr) (grp : Int) (cs : List Cm) (hs : List Key) : Rf :=
  if bnd grp cs hs then
    (ck2 cs).or ((ck3 G [] cs).or ((ck4 G (addA G [] cs) cs).or ((ck5 G (addA G [] cs) hs).or ((ck6 (addA G [] cs) cs).or (if 1000 < G.length + (addA G [] cs).length then some (13, none) else none)))))
  else some (1, none)
theorem ErrW.form {w : World} {v : Value} : ∀ {r : Rf}, ErrW w v r → (r = none ∧ v = .nilIface) ∨ (r.isSome = true ∧ ∃ t x, v = .iface t x)
  | none, h => .inl ⟨rfl, h⟩
  | some (_, none), h => .inr ⟨rfl, _, _, h⟩
  | some (_, some _), h => by
    obtain ⟨_, p, h2, _⟩ := h
    exact .inr ⟨rfl, _, _, h2⟩
theorem or_left {r s : Rf} (h : r.isSome = true) : r.or s = r := by cases r <;> simp at h ⊢
theorem or_none {s : Rf} : (none : Rf).or s = s := rfl
theorem addA_mem {G : Gr} {x : Key} {ps : List Key} : ∀ {cs : List Cm} {A : Gr}, aget x (addA G A cs) = some ps → aget x A = some ps ∨ (x, ps) ∈ cs
  | [], A, h => .inl h
  | c :: cs, A, h => by
    rw [addA] at h
    rcases addA_mem h with h | h
    · split at h
      · exact .inl h
      · by_cases e : x = c.1
        · subst e
          rw [aget_put_same] at h
          injection h with h
          exact .inr (by rw [← h]; exact List.mem_cons_self)
        · rw [aget_put_other _ _ _ e] at h
          exact .inl h
    · exact .inr (List.mem_cons_of_mem _ h)
theorem ck2_none {cs : List Cm} : ck2 cs = none → ∀ c ∈ cs, c.2.length ≤ 4 ∧ c.2.Nodup := by
  induction cs with
  | nil => intro _ c hc; cases hc
  | cons d cs ih =>
    intro h c hc
    rw [ck2] at h
    by_cases h4 : 4 < d.2.length
    · rw [if_pos h4] at h; cases h
    · rw [if_neg h4] at h
      by_cases hn : d.2.Nodup
      · rw [if_pos hn] at h
        rcases List.mem_cons.1 hc with rfl | hc
        · exact ⟨by omega, hn⟩
        · exact ih h c hc
      · rw [if_neg hn] at h; cases h
theorem flat_len {cs : List Cm} (h : ∀ c ∈ cs, c.2.length ≤ 4) : (cs.flatMap (·.2)).length ≤ cs.length * 4 := by
  induction cs with
  | nil => simp
  | cons c cs ih =>
    have h1 := h c List.mem_cons_self
    have h2 := ih fun d hd => h d (List.mem_cons_of_mem _ hd)
    rw [List.flatMap_cons, List.length_append, List.length_cons]
    omega
theorem adj_some {G : Gr} {x p : Key} (h : p ∈ adj G x) : ∃ ps, aget x G = some ps ∧ p ∈ ps := by
  unfold adj at h
  cases hg : aget x G with
  | none => rw [hg] at h; cases h
  | some ps => rw [hg] at h; exact ⟨ps, rfl, h⟩
theorem addA_len {G : Gr} : ∀ (cs : List Cm) (A : Gr), (addA G A cs).length ≤ A.length + cs.length
  | [], A => Nat.le_refl _
  | c :: cs, A => by
    rw [addA, List.length_cons]
    split
    · have := addA_len (G := G) cs A; omega
    · have := addA_len (G := G) cs (aput c.1 c.2 A)
      have := aput_len c.1 c.2 A
      omega
theorem bounded_to (w : World) (grp : Int) (p1 p2 : Option Addr) (c1 c2 : Nat) (cs : List Cm) (hs : List Key) : Calls Try.prog 34 #[.agg #[.slice p1 cs.length c1, .slice p2 hs.length c2, .int .i64 grp]] w fun e w' => e = .returned (.bool (bnd grp cs hs)) ∧ Below w.heap.size w w' := by
  have hb : bnd grp cs hs = ((decide (grp = 1) || decide (grp = 2)) && decide (cs.length ≤ 200) && decide (hs.length ≤ 200)) := rfl
  generalize bnd grp cs hs = b at hb ⊢
  generalize cs.length = n at hb ⊢
  generalize hs.length = m at hb ⊢
  have HB := Lib.hid hb
  have B1 : Hid (Below w.heap.size w (w.alloc (.cells #[.slice p1 n c1, .slice p2 m c2, .int .i64 grp] 44))) := Lib.hid ((Below.refl _ w).alloc (Nat.le_refl _) _)
  clear hb
  by_cases g1 : grp = 1
  · subst g1
    by_cases hn : (n : Int) ≤ 200
    · have hn' : n ≤ 200 := by omega
      by_cases hm : (m : Int) ≤ 200
      · have hm' : m ≤ 200 := by omega
        have HB2 : Hid (b = true) := Lib.hid (by rw [HB.out]; simp [hn', hm'])
        clear HB hn' hm'
        go_enter Try.func34, Try.ntmps34
        go_wp2
        go_ret
        exact ⟨by rw [HB2.out]; rfl, B1.out⟩
      · have hm' : ¬ m ≤ 200 := by omega
        have HB2 : Hid (b = false) := Lib.hid (by rw [HB.out]; simp [hm'])
        clear HB hn' hm'
        go_enter Try.func34, Try.ntmps34
        go_wp2
        go_ret
        exact ⟨by rw [HB2.out]; rfl, B1.out⟩
    · have hn' : ¬ n ≤ 200 := by omega
      have HB2 : Hid (b = false) := Lib.hid (by rw [HB.out]; simp [hn'])
      clear HB hn'
      go_enter Try.func34, Try.ntmps34
      go_wp2
      go_ret
      exact ⟨by rw [HB2.out]; rfl, B1.out⟩
  · by_cases g2 : grp = 2
    · subst g2
      clear g1
      by_cases hn : (n : Int) ≤ 200
      · have hn' : n ≤ 200 := by omega
        by_cases hm : (m : Int) ≤ 200
        · have hm' : m ≤ 200 := by omega
          have HB2 : Hid (b = true) := Lib.hid (by rw [HB.out]; simp [hn', hm'])
          clear HB hn' hm'
          go_enter Try.func34, Try.ntmps34
          go_wp2
          go_ret
          exact ⟨by rw [HB2.out]; rfl, B1.out⟩
        · have hm' : ¬ m ≤ 200 := by omega
          have HB2 : Hid (b = false) := Lib.hid (by rw [HB.out]; simp [hm'])
          clear HB hn' hm'
          go_enter Try.func34, Try.ntmps34
          go_wp2
          go_ret
          exact ⟨by rw [HB2.out]; rfl, B1.out⟩
      · have hn' : ¬ n ≤ 200 := by omega
        have HB2 : Hid (b = false) := Lib.hid (by rw [HB.out]; simp [hn'])
        clear HB hn'
        go_enter Try.func34, Try.ntmps34
        go_wp2
        go_ret
        exact ⟨by rw [HB2.out]; rfl, B1.out⟩
    · have HB2 : Hid (b = false) := Lib.hid (by rw [HB.out]; simp [g1, g2])
      have e1 : (grp != 1) = true := by simp [g1]
      have e2 : (grp != 2) = true := by simp [g2]
      clear HB g1 g2
      go_enter Try.func34, Try.ntmps34
      go_wp2
      go_ret
      exact ⟨by rw [HB2.out]; rfl, B1.out⟩

theorem full_fits {a b : Nat} (ha : a ≤ 1000000) (hb : b ≤ 1000000) : wrap64 ((a : Int) + b) = ((a + b : Nat) : Int) ∧ ((((a + b : Nat) : Int) > 1000) ↔ 1000 < a + b) := by unfold wrap64; omega
set_option maxRecDepth 20000 in
set_option maxHeartbeats 8000000 in
theorem check_to (w : World) (g bm : Nat) (X : Lx) (v u : Value) (grp : Int) (cs : List Cm) (hs : List Key) (H : GA w g bm X) (hXl : X.length ≤ 1000) (hXp : ∀ x ∈ X, x.2.2.length ≤ 1000)
    (hv' : CSeen w v cs) (hu : HSeen w u hs) (hok : COk cs) (h32 : H32 hs) (hl : cs.length ≤ 1000000) (hp : ∀ c ∈ cs, c.2.length ≤ 1000000) (hhl : hs.length ≤ 1000000) :
    Calls Try.prog 14 #[gp g, .agg #[v, u, .int .i64 grp]] w fun e w' => ∃ x, e = .returned x ∧ ErrW w' x (chk (gr X) grp cs hs) ∧ Below w.heap.size w w' := by
  obtain ⟨p1, c1, rfl, hcc⟩ := id hv'
  clear hcc
  obtain ⟨p2, c2, rfl⟩ := hu.shape
  have hne := nn_iface
  have hnn := nn_nil
  have b1 : Below w.heap.size w (w.alloc (.cells #[.slice p1 cs.length c1, .slice p2 hs.length c2, .int .i64 grp] 44)) := (Below.refl _ w).alloc (Nat.le_refl _) _
  have HBD := Lib.hid (bounded_to (w.alloc (.cells #[.slice p1 cs.length c1, .slice p2 hs.length c2, .int .i64 grp] 44)) grp p1 p2 c1 c2 cs hs)
  have HR := Lib.hid (heap_alloc_last w (.cells #[.slice p1 cs.length c1, .slice p2 hs.length c2, .int .i64 grp] 44))
  have B1 := Lib.hid b1
  have HG := Lib.hid H
  have HXL := Lib.hid hXl
  have HXP := Lib.hid hXp
  have HV := Lib.hid hv'
  have HU := Lib.hid hu
  have HO := Lib.hid hok
  have H3 := Lib.hid h32
  have HL := Lib.hid hl
  have HP := Lib.hid hp
  have HHL := Lib.hid hhl
  obtain ⟨n, hn⟩ : ∃ n, n = cs.length := ⟨_, rfl⟩
  obtain ⟨m, hm⟩ : ∃ m, m = hs.length := ⟨_, rfl⟩
  rw [← hn] at HBD HR HV b1 B1 ⊢
  rw [← hm] at HBD HR HU b1 B1 ⊢
  have HN := Lib.hid hn
  clear b1 H hXl hXp hv' hu hok h32 hl hp hhl hn hm
  go_enter Try.func14, Try.ntmps14
  go_wp2_with fail
  generalize hw1 : w.alloc (.cells #[.slice p1 n c1, .slice p2 m c2, .int .i64 grp] 44) = w1 at *
  refine HBD.out.mono ?_
  rintro e w2 ⟨rfl, b2⟩
  have B2 : Hid (Below w.heap.size w w2) := Lib.hid (B1.out.trans (b2.mono B1.out.size))
  have HR2 := Lib.hid ((b2.block _ (Array.getElem?_eq_some_iff.1 HR.out).1).trans HR.out)
  clear b2
  cases hb : bnd grp cs hs with
  | false =>
    have HB := Lib.hid hb
    clear hb
    go_wp2
    go_ret
    exact ⟨_, rfl, by unfold chk; rw [HB.out]; rfl, B2.out⟩
  | true =>
    have hcl : cs.length ≤ 200 := by
      unfold bnd at hb
      simp only [Bool.and_eq_true, decide_eq_true_eq] at hb
      exact hb.1.2
    have HCK : Hid (chk (gr X) grp cs hs = (ck2 cs).or ((ck3 (gr X) [] cs).or ((ck4 (gr X) (addA (gr X) [] cs) cs).or ((ck5 (gr X) (addA (gr X) [] cs) hs).or ((ck6 (addA (gr X) [] cs) cs).or (if 1000 < (gr X).length + (addA (gr X) [] cs).length then some (13, none) else none)))))) := Lib.hid (by unfold chk; rw [if_pos hb])
    have HCL := Lib.hid hcl
    have a0 := cell_obj HR2.out 0 rfl
    have a1 := cell_obj HR2.out 1 rfl
    clear hb hcl
    have HQ2 := Lib.hid (checkLists_to w2 _ cs (HV.out.kb B2.out) HO.out HL.out HP.out)
    go_wp2_with fail
    refine HQ2.out.mono ?_
    rintro e w3 ⟨x3, rfl, e3, b3⟩
    have B3 : Hid (Below w.heap.size w w3) := Lib.hid (B2.out.trans (b3.mono B2.out.size))
    have HR3 := Lib.hid ((b3.block _ (Array.getElem?_eq_some_iff.1 HR2.out).1).trans HR2.out)
    clear b3 a0 a1
    have E3 := Lib.hid e3
    rcases e3.form with ⟨hn3, rfl⟩ | ⟨hs3, t3, y3, rfl⟩
    · have N3 := Lib.hid hn3
      have a0 := cell_obj HR3.out 0 rfl
      have a1 := cell_obj HR3.out 1 rfl
      have H4 := Lib.hid (ck2_none hn3)
      clear e3 hn3 E3
      have HQ3 := Lib.hid (added_to w3 g bm X _ cs (HG.out.kb B3.out) (fun x hx => Nat.le_trans (HXP.out x hx) (by decide)) (HV.out.kb B3.out) HO.out HL.out HP.out)
      go_wp2_with fail
      refine HQ3.out.mono ?_
      rintro e w4 (⟨ba, Y, h3, rfl, hY, hYA, _, b4⟩ | ⟨r, px, h3, rfl, he, b4⟩)
      · have B4 : Hid (Below w.heap.size w w4) := Lib.hid (B3.out.trans (b4.mono B3.out.size))
        have HR4 := Lib.hid ((b4.block _ (Array.getElem?_eq_some_iff.1 HR3.out).1).trans HR3.out)
        have N4 := Lib.hid h3
        have HY := Lib.hid hY
        have HYA := Lib.hid hYA
        clear b4 a0 a1 h3 hY hYA
        have a0 := cell_obj HR4.out 0 rfl
        have a1 := cell_obj HR4.out 1 rfl
        have HQ4 := Lib.hid (checkParents_to w4 g bm ba X Y _ cs (HG.out.kb B4.out) HY.out (HV.out.kb B4.out) HO.out HL.out HP.out)
        go_wp2_with fail
        refine HQ4.out.mono ?_
        rintro e w5 ⟨x5, rfl, e5, b5⟩
        have B5 : Hid (Below w.heap.size w w5) := Lib.hid (B4.out.trans (b5.mono B4.out.size))
        have HR5 := Lib.hid ((b5.block _ (Array.getElem?_eq_some_iff.1 HR4.out).1).trans HR4.out)
        have HY5 := Lib.hid (HY.out.kb b5)
        rw [HYA.out] at e5
        have E5 := Lib.hid e5
        clear b5 a0 a1
        rcases e5.form with ⟨hn5, rfl⟩ | ⟨hs5, t5, y5, rfl⟩
        · have N5 := Lib.hid hn5
          clear e5 hn5 E5
          have a0 := cell_obj HR5.out 0 rfl
          have a1 := cell_obj HR5.out 1 rfl
          have HQ5 := Lib.hid (checkHeads_to w5 g bm ba X Y _ hs (HG.out.kb B5.out) HY5.out (HU.out.mild (mild_below B5.out)) H3.out HHL.out)
          go_wp2_with fail
          refine HQ5.out.mono ?_
          rintro e w6 ⟨x6, rfl, e6, b6⟩
          have B6 : Hid (Below w.heap.size w w6) := Lib.hid (B5.out.trans (b6.mono B5.out.size))
          have HR6 := Lib.hid ((b6.block _ (Array.getElem?_eq_some_iff.1 HR5.out).1).trans HR5.out)
          have HY6 := Lib.hid (HY5.out.kb b6)
          rw [HYA.out] at e6
          have E6 := Lib.hid e6
          clear b6 a0 a1
          rcases e6.form with ⟨hn6, rfl⟩ | ⟨hs6, t6, y6, rfl⟩
          · have N6 := Lib.hid hn6
            clear e6 hn6 E6
            have a0 := cell_obj HR6.out 0 rfl
            have a1 := cell_obj HR6.out 1 rfl
            have hUm : ∀ c ∈ cs, ∀ p ∈ c.2, p ∈ cs.flatMap (·.2) := fun c hc p hp => List.mem_flatMap.2 ⟨c, hc, hp⟩
            have HQ6 := Lib.hid (checkCycles_to w6 ba Y _ cs (cs.flatMap (·.2)) HY6.out (HV.out.kb B6.out) HO.out HL.out (fun c hc => Nat.le_trans (H4.out c hc).1 (by decide))
              (by have := flat_len (fun c hc => (H4.out c hc).1); have := HCL.out; omega) hUm
              (fun x p hx => by
                obtain ⟨ps, h1, h2⟩ := adj_some hx
                rw [HYA.out] at h1
                rcases addA_mem h1 with h1 | h1
                · cases h1
                · exact hUm _ h1 p h2)
              (fun y hy => by
                have h1 : aget y.1 (gr Y) = some y.2.2 := by rw [gr_get, aget_of_mem (kvs_asc_gr HY6.out.mp.asc) hy]; rfl
                rw [HYA.out] at h1
                rcases addA_mem h1 with h1 | h1
                · cases h1
                · exact Nat.le_trans (H4.out _ h1).1 (by decide)))
            clear hUm
            go_wp2_with fail
            refine HQ6.out.mono ?_
            rintro e w7 ⟨x7, rfl, e7, b7⟩
            have B7 : Hid (Below w.heap.size w w7) := Lib.hid (B6.out.trans (b7.mono B6.out.size))
            have HY7 := Lib.hid (HY6.out.kb b7)
            rw [HYA.out] at e7
            have E7 := Lib.hid e7
            clear b7 a0 a1
            rcases e7.form with ⟨hn7, rfl⟩ | ⟨hs7, t7, y7, rfl⟩
            · have N7 := Lib.hid hn7
              clear e7 hn7 E7
              have HQ7 := Lib.hid (count_to w7 g bm X (HG.out.kb B7.out))
              have ho := HY7.out.mp.own
              have hsz : Maps.size (mapV (kvs Y)) = Y.length := by rw [mapV_size, kvs_len]
              have hYl : Y.length ≤ 1000000 := by
                have h1 := addA_len (G := gr X) cs []
                rw [← HYA.out, gr_len] at h1
                have := HCL.out
                simp at h1
                omega
              obtain ⟨f1, f2⟩ := full_fits (a := X.length) (b := Y.length) (by have := HXL.out; omega) hYl
              have HF : Hid (chk (gr X) grp cs hs = if 1000 < X.length + Y.length then some (13, none) else none) := Lib.hid (by
                rw [HCK.out, N3.out, N4.out, N5.out, N6.out, N7.out, ← HYA.out, gr_len, gr_len]; rfl)
              obtain ⟨ly, hly⟩ : ∃ ly, ly = Y.length := ⟨_, rfl⟩
              rw [← hly] at hsz f1 f2 HF
              clear hYl hly
              generalize mapV (kvs Y) = D at ho hsz
              by_cases hf : 1000 < X.length + ly
              · have hf' := f2.2 hf
                have HF2 := Lib.hid hf
                clear f2 hf
                go_wp2_with (first
                  | (go_at_call 40; refine HQ7.out.mono ?_; rintro e w8 ⟨rfl, rfl⟩)
                  | (at_len; refine wpList_len_own _ rfl _ 66 rfl _ _ Try.underlying66 rdv ba (kvs Y).length D rfl ho ?_; rw [hsz]))
                go_ret
                exact ⟨_, rfl, by rw [HF.out, if_pos HF2.out]; rfl, B7.out⟩
              · have hf' : ¬ (((X.length + ly : Nat) : Int) > 1000) := fun h => hf (f2.1 h)
                have HF2 := Lib.hid hf
                clear f2 hf
                go_wp2_with (first
                  | (go_at_call 40; refine HQ7.out.mono ?_; rintro e w8 ⟨rfl, rfl⟩)
                  | (at_len; refine wpList_len_own _ rfl _ 66 rfl _ _ Try.underlying66 rdv ba (kvs Y).length D rfl ho ?_; rw [hsz]))
                go_ret
                exact ⟨_, rfl, by rw [HF.out, if_neg HF2.out]; rfl, B7.out⟩
            · have HS7 := Lib.hid hs7
              clear e7 hs7
              go_wp2
              go_ret
              exact ⟨_, rfl, by rw [HCK.out, N3.out, N4.out, N5.out, N6.out, or_none, or_none, or_none, or_none, or_left HS7.out]; exact E7.out, B7.out⟩
          · have HS6 := Lib.hid hs6
            clear e6 hs6
            go_wp2
            go_ret
            exact ⟨_, rfl, by rw [HCK.out, N3.out, N4.out, N5.out, or_none, or_none, or_none, or_left HS6.out]; exact E6.out, B6.out⟩
        · have HS5 := Lib.hid hs5
          clear e5 hs5
          go_wp2
          go_ret
          exact ⟨_, rfl, by rw [HCK.out, N3.out, N4.out, or_none, or_none, or_left HS5.out]; exact E5.out, B5.out⟩
      · have B4 : Hid (Below w.heap.size w w4) := Lib.hid (B3.out.trans (b4.mono B3.out.size))
        have N4 := Lib.hid h3
        have E4 := Lib.hid he
        clear b4 a0 a1 h3 he
        go_wp2
        go_ret
        exact ⟨_, rfl, by rw [HCK.out, N3.out, N4.out, or_none, or_left rfl]; exact E4.out, B4.out⟩
    · have HS3 := Lib.hid hs3
      clear e3 hs3
      go_wp2
      go_ret
      exact ⟨_, rfl, by rw [HCK.out, or_left HS3.out]; exact E3.out, B3.out⟩
end Go.Proofs.Ytnpeahbbcolfmaa
