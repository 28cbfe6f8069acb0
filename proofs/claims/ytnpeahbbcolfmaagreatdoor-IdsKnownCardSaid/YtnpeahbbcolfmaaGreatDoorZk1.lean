/- A part (1 of 4) of what is needed to prove: IdsKnown returns true, whatever the memory holds and whatever the schedule is. No condition. -/
import Derived.Test.YtnpeahbbcolfmaaGreatDoorChecked
import Derived.WalkKit
import Derived.WalkSpells
import Derived.BigRegion
import Derived.Deep.RegionLaw
import Derived.Deep.DrawnRows
import Derived.Deep.AppendLies
import Derived.KernelRfl
import Derived.Lib.Hide
import Derived.Lib.EndianBits
import Derived.Laws.BitsAllLaws
import Derived.RowKit
import Derived.Maps.OwnSet
import Derived.Laws.Tables
import Derived.Deep.WholeRow
import Derived.Deep.MidRow
import Derived.Laws.BytesArg
import Derived.Lib.Bytealg
import Derived.Lib.Strings
import Derived.Laws.AppendOwnNone
import Derived.Deep.Onto
import Derived.OwnWalk
import Derived.Lib.VarintBits
import Derived.Deep.RegionWith
import Derived.Lib.BytesEntry
import Derived.Deep.QuietTactic
import Derived.BigQuiet
import Derived.ChangeKeysEq
import Derived.IntWalk
import Derived.Lib.SliceRun
import Derived.Laws.Concat
import Derived.Great.BuildSlice
import Derived.Deep.RegionHeld3
import Derived.DeepKeys4
import Derived.ChangeSlices
import Derived.WideKeyEntry
import Derived.Maps.RangeWalk
import Derived.Sort.MapsRangeIn
import Derived.Shelf.SlSortCmp.NoneTotal
import Derived.RangeFuncNested
import Derived.RangeFuncBound
import Derived.RangeFuncCalls
import Derived.RangeFuncLeaves
import Derived.RangeFuncBox
import Derived.Shelf.Abstract
import Derived.Shelf.RegionOpen
import Derived.OwnWalkIn
import Derived.TacticsInMore
import Derived.LoopNIn
import Derived.LoopIn
import Derived.Maps.AppendAt
import Derived.Shelf.SlMaps.Clone
import Derived.Shelf.SlGeneric
import Derived.Shelf.Lay
import Derived.Stop.Asserts
import Derived.LaidEql
import Derived.RowKitTokens
set_option linter.unusedSimpArgs false
set_option linter.unusedVariables false
namespace Go.Proofs.YtnpeahbbcolfmaaGreatDoor
open Go.RowKit
/-- Numbers as bytes in memory. -/
abbrev us (l : List Int) : List Value := l.map (Value.int .u8)

/-- Every number of the list is a byte. -/
def Okb (l : List Int) : Prop := ∀ x ∈ l, 0 ≤ x ∧ x < 256
theorem Okb.nil : Okb [] := by intro x hx; cases hx
theorem Okb.app {l m : List Int} (h : Okb l) (k : Okb m) : Okb (l ++ m) := by
  intro x hx
  rcases List.mem_append.1 hx with hx | hx
  · exact h x hx
  · exact k x hx
theorem Okb.tail {x : Int} {l : List Int} (h : Okb (x :: l)) : Okb l := fun y hy => h y (List.mem_cons_of_mem _ hy)
theorem Okb.drop {l : List Int} (h : Okb l) (n : Nat) : Okb (l.drop n) := fun y hy => h y (List.mem_of_mem_drop hy)
theorem Okb.take {l : List Int} (h : Okb l) (n : Nat) : Okb (l.take n) := fun y hy => h y (List.mem_of_mem_take hy)

/-- Between w and w' nothing has turned but the blocks that S names and new ones. -/
structure Only (S : Nat → Prop) (w w' : World) : Prop where
  os : w'.os = w.os
  tape : w'.tape = w.tape
  output : w'.output = w.output
  size : w.heap.size ≤ w'.heap.size
  block : ∀ k, k < w.heap.size → ¬ S k → w'.heap[k]? = w.heap[k]?

theorem Only.refl (S : Nat → Prop) (w : World) : Only S w w := ⟨rfl, rfl, rfl, Nat.le_refl _, fun _ _ _ => rfl⟩
theorem Only.drew {S : Nat → Prop} {a w : World} (h : Only S a w) : Only S a w.drew := ⟨h.os, h.tape, h.output, h.size, h.block⟩
theorem Only.trans {S T U : Nat → Prop} {a b c : World} (h : Only S a b) (k : Only T b c) (hS : ∀ x, S x → U x) (hT : ∀ x, x < a.heap.size → T x → U x) : Only U a c :=
  ⟨k.os.trans h.os, k.tape.trans h.tape, k.output.trans h.output, Nat.le_trans h.size k.size, fun i hi hu =>
    (k.block i (Nat.lt_of_lt_of_le hi h.size) (fun ht => hu (hT i hi ht))).trans (h.block i hi (fun hs => hu (hS i hs)))⟩
theorem Only.mono {S T : Nat → Prop} {a b : World} (h : Only S a b) (hS : ∀ x, x < a.heap.size → S x → T x) : Only T a b :=
  ⟨h.os, h.tape, h.output, h.size, fun i hi hu => h.block i hi (fun hs => hu (hS i hi hs))⟩
theorem Only.alloc {S : Nat → Prop} {a w : World} (h : Only S a w) (o : Obj) : Only S a (w.alloc o) :=
  h.trans (T := fun _ => False) ⟨rfl, rfl, rfl, by simp, fun k hk _ => Below.heap_alloc _ _ _ hk⟩ (fun _ h => h) (fun _ _ h => h.elim)
theorem Only.setCell {S : Nat → Prop} {a w : World} (h : Only S a w) {p : Addr} (hp : S p.block) (u : Value) : Only S a (w.setCell p u) :=
  h.trans (T := fun k => k = p.block) ⟨rfl, rfl, rfl, by simp [World.setCell], fun k _ hk => Below.heap_setCell _ _ _ _ hk⟩ (fun _ h => h) (fun _ _ h => h ▸ hp)
theorem Only.grown {S : Nat → Prop} {a w w' : World} {row : Option Nat} (h : Only S a w) (hg : w.grownBy w' row) (hr : ∀ k, k < a.heap.size → row = some k → S k) : Only S a w' :=
  h.trans (T := fun k => row = some k) ⟨hg.os, hg.tape, hg.output, hg.size, fun k hk hn => hg.block k hk (fun e => hn e.symm)⟩ (fun _ h => h) (fun k hk e => hr k hk e)
theorem Only.below {S : Nat → Prop} {w w' : World} {B : Nat} (h : Only S w w') (hB : B ≤ w.heap.size) (hS : ∀ k, S k → B ≤ k) : Below B w w' :=
  ⟨h.os, h.tape, h.output, h.size, fun k hk => h.block k (by omega) (fun hs => by have := hS k hs; omega)⟩
theorem Only.of_below {w w' : World} {S : Nat → Prop} (h : Below w.heap.size w w') : Only S w w' :=
  ⟨h.os, h.tape, h.output, h.size, fun k hk _ => h.block k hk⟩

/-- The object at block b: one cell, the slice v, which owns the bytes xs. -/
def Wr (T B : Nat) (w : World) (b : Nat) (v : Value) (xs : List Int) : Prop :=
  B ≤ b ∧ w.heap[b]? = some (.cells #[v] T (0, 0)) ∧ w.ownsRow B 5 1 v xs.length (us xs)

/-- Behind a call that wrote to that object: it holds the bytes ys now, and nothing else has turned. -/
def Wrote (T B : Nat) (w : World) (b : Nat) (v : Value) (ys : List Int) (w' : World) : Prop :=
  ∃ v', Wr T B w' b v' ys ∧ Only (fun k => k = b ∨ v.ownBlock = some k) w w' ∧ (v'.ownBlock = v.ownBlock ∨ ∃ g, v'.ownBlock = some g ∧ w.heap.size ≤ g)

theorem Wr.cell {T B b : Nat} {w : World} {v : Value} {xs : List Int} (h : Wr T B w b v xs) : w.cell? ⟨b, 0, none⟩ = some v := by
  rw [cell_of_row w b 0 _ _ _ h.2.1]; rfl
theorem Wr.apart {T B b : Nat} {w : World} {v : Value} {xs : List Int} (hT : T ≠ 5) (h : Wr T B w b v xs) : some b ≠ v.ownBlock := by
  intro he
  obtain ⟨_, h1, _, h2⟩ := h
  rcases h2 with ⟨rfl, _⟩ | ⟨g, cap, cur, rfl, _, hg, _⟩
  · simp [Value.ownBlock] at he
  · simp [Value.ownBlock] at he
    subst he
    rw [h1] at hg
    simp at hg
    exact hT hg.2
theorem Wr.lt {T B b : Nat} {w : World} {v : Value} {xs : List Int} (h : Wr T B w b v xs) : b < w.heap.size := (Array.getElem?_eq_some_iff.1 h.2.1).1
theorem Wr.ownlt {T B b : Nat} {w : World} {v : Value} {xs : List Int} (h : Wr T B w b v xs) {k : Nat} (hk : v.ownBlock = some k) : k < w.heap.size := (h.2.2.lt k hk).2
theorem Wr.base {T B b : Nat} {w : World} {v : Value} {xs : List Int} (h : Wr T B w b v xs) : B ≤ w.heap.size := Nat.le_trans h.1 (Nat.le_of_lt h.lt)
/-- The object is as it was where neither its block nor its row has turned. -/
theorem Wr.kept {T B b : Nat} {w w' : World} {v : Value} {xs : List Int} {S : Nat → Prop} (h : Wr T B w b v xs) (ho : Only S w w') (hb : ¬ S b) (hv : ∀ k, v.ownBlock = some k → ¬ S k) : Wr T B w' b v xs := by
  refine ⟨h.1, (ho.block b h.lt hb).trans h.2.1, h.2.2.1, ?_⟩
  rcases h.2.2.2 with hn | ⟨g, cap, cur, rfl, hbg, hg, rest⟩
  · exact .inl hn
  · exact .inr ⟨g, cap, cur, rfl, hbg, (ho.block g (h.ownlt rfl) (hv g rfl)).trans hg, rest⟩

theorem Wr.kb {T B b : Nat} {w w' : World} {v : Value} {xs : List Int} (h : Wr T B w b v xs) (hb : Below w.heap.size w w') : Wr T B w' b v xs := h.kept (S := fun _ => False) (Only.of_below hb) (fun h => h) (fun _ _ h => h)
theorem Wr.below {T B b : Nat} {w w' : World} {v : Value} {xs : List Int} (h : Wr T B w b v xs) (o : Only (fun k => k = b ∨ v.ownBlock = some k) w w') : Below B w w' :=
  o.below h.base fun k hk => by
    rcases hk with rfl | hk
    · exact h.1
    · exact (h.2.2.lt k hk).1

theorem Wrote.refl {T B b : Nat} {w : World} {v : Value} {xs : List Int} (h : Wr T B w b v xs) : Wrote T B w b v xs w :=
  ⟨v, h, Only.refl _ _, .inl rfl⟩
theorem Wrote.trans {T B b : Nat} {w w1 w2 : World} {v v1 : Value} {ys zs : List Int} (_h : Wr T B w1 b v1 ys) (ho : Only (fun k => k = b ∨ v.ownBlock = some k) w w1)
    (hv : v1.ownBlock = v.ownBlock ∨ ∃ g, v1.ownBlock = some g ∧ w.heap.size ≤ g) (h2 : Wrote T B w1 b v1 zs w2) : Wrote T B w b v zs w2 := by
  obtain ⟨v2, hw2, ho2, hv2⟩ := h2
  refine ⟨v2, hw2, ho.trans ho2 (fun _ h => h) ?_, ?_⟩
  · intro x hx h
    rcases h with h | h
    · exact .inl h
    · rcases hv with hv | ⟨g, hg, hs⟩
      · exact .inr (hv ▸ h)
      · rw [hg] at h; cases h; omega
  · rcases hv2 with hv2 | ⟨g, hg, hs⟩
    · rw [hv2]; exact hv
    · exact .inr ⟨g, hg, Nat.le_trans ho.size hs⟩

/-- One statement 'o.f = append(o.f, ..)' behind what was written before. -/
theorem Wrote.app {T B b : Nat} {w wr wx w1 : World} {v v' : Value} {zs news : List Int} {g cap H n : Nat} (hT : T ≠ 5) (h : Wr T B wr b v' zs) (ho : Only (fun k => k = b ∨ v.ownBlock = some k) w wr)
    (hv : v'.ownBlock = v.ownBlock ∨ ∃ g, v'.ownBlock = some g ∧ w.heap.size ≤ g) (hx : Below wr.heap.size wr wx)
    (hn : n = zs.length + news.length) (hown : w1.ownsRow B 5 1 (.slice (some ⟨g, 0, none⟩) n cap) n (us zs ++ us news)) (hgrow : wx.grownBy w1 v'.ownBlock)
    (hat : v'.ownBlock = some g ∨ g = H) (hH : wr.heap.size ≤ H) : Wrote T B w b v (zs ++ news) (w1.setCell ⟨b, 0, none⟩ (.slice (some ⟨g, 0, none⟩) n cap)) := by
  have hap := h.apart hT
  have hb1 : w1.heap[b]? = some (.cells #[v'] T (0, 0)) := ((hgrow.block b (Nat.lt_of_lt_of_le h.lt hx.size) hap).trans (hx.block b h.lt)).trans h.2.1
  have hgb : g ≠ b := by
    intro e
    subst e
    rcases hown.2 with ⟨hs, _⟩ | ⟨g', cap', cur, hs, _, hg, _⟩
    · cases hs
    · cases hs
      rw [hb1] at hg
      simp at hg
      exact hT hg.2
  have honly : Only (fun k => k = b ∨ v.ownBlock = some k) w w1 := by
    refine Only.grown (ho.trans (T := fun _ => False) (Only.of_below hx) (fun _ h => h) (fun _ _ h => h.elim)) hgrow ?_
    intro k hk e
    rcases hv with hv | ⟨g2, hg2, hs⟩
    · exact .inr (hv ▸ e)
    · rw [hg2] at e; cases e; omega
  refine ⟨.slice (some ⟨g, 0, none⟩) n cap, ⟨h.1, one_setCell hb1, ?_⟩, honly.setCell (.inl rfl) _, ?_⟩
  · have hl : (zs ++ news).length = n := by rw [List.length_append, hn]
    refine ⟨by simp, ?_⟩
    rcases hown.2 with ⟨hs, _⟩ | ⟨g', cap', cur, hs, hbg, hg, r1, r2, r3, r4⟩
    · cases hs
    · cases hs
      refine .inr ⟨g, cap, cur, by rw [hl], hbg, ?_, by rw [hl]; exact r1, r2, r3, ?_⟩
      · rw [Below.heap_setCell _ _ _ _ hgb]; exact hg
      · rw [hl, r4]; simp [us]
  · rcases hat with hat | hat
    · rcases hv with hv | ⟨g2, hg2, hs⟩
      · exact .inl (by rw [← hv, hat]; rfl)
      · exact .inr ⟨g2, by rw [← hg2, hat]; rfl, hs⟩
    · exact .inr ⟨g, rfl, by have := ho.size; omega⟩

/-- The same value stored anew. -/
theorem Wrote.same {T B b : Nat} {w w1 : World} {v v' : Value} {xs : List Int} (h : Wr T B w b v xs) (hT : T ≠ 5) (hown : w1.ownsRow B 5 1 v' xs.length (us xs)) (hgrow : w.grownBy w1 v.ownBlock)
    (hat : v'.ownBlock = v.ownBlock ∨ v'.ownBlock = some w.heap.size) : Wrote T B w b v xs (w1.setCell ⟨b, 0, none⟩ v') := by
  have hap := h.apart hT
  have hb1 : w1.heap[b]? = some (.cells #[v] T (0, 0)) := (hgrow.block b h.lt hap).trans h.2.1
  have honly : Only (fun k => k = b ∨ v.ownBlock = some k) w w1 := Only.grown (Only.refl _ _) hgrow (fun k _ e => .inr e)
  refine ⟨v', ⟨h.1, one_setCell hb1, hown.1, ?_⟩, honly.setCell (.inl rfl) _, ?_⟩
  · rcases hown.2 with hn | ⟨g, cap, cur, rfl, hbg, hg, rest⟩
    · exact .inl hn
    · refine .inr ⟨g, cap, cur, rfl, hbg, ?_, rest⟩
      rw [Below.heap_setCell _ _ _ _ ?_]
      · exact hg
      · intro e
        simp only at e
        subst e
        rw [hb1] at hg
        simp at hg
        exact hT hg.2
  · rcases hat with hat | hat
    · exact .inl hat
    · exact .inr ⟨_, hat, Nat.le_refl _⟩

theorem Wr.frozen {T B b : Nat} {w : World} {v : Value} {xs : List Int} (h : Wr T B w b v xs) : w.frozen? ⟨b, 0, none⟩ = false := free_of_one h.2.1

/-- Byte j of n, counted from the least significant one. -/
def byteAt (n : Int) (j : Nat) : Int := IntKind.u8.wrap (n / 2 ^ (8 * j))
/-- The m lowest bytes of n, the most significant one first. -/
def be (n : Int) : Nat → List Int
  | 0 => []
  | j + 1 => byteAt n j :: be n j
/-- The slice v holds the bytes l in w. -/
def Seen (w : World) (v : Value) (l : List Int) : Prop :=
  (v = .slice none 0 0 ∧ l = []) ∨ ∃ a cap, v = .slice (some a) l.length cap ∧ l.length ≤ cap ∧ ∀ j u, (us l)[j]? = some u → w.cell? (a.add j) = some u

theorem Addr.add_block (a : Addr) (j : Nat) : (a.add j).block = a.block := by unfold Addr.add; split <;> rfl
theorem Seen.kept {w w' : World} {v : Value} {l : List Int} (h : Seen w v l) (hb : ∀ k, v.ownBlock = some k → w'.heap[k]? = w.heap[k]?) : Seen w' v l := by
  rcases h with h | ⟨a, cap, rfl, hc, hu⟩
  · exact .inl h
  · refine .inr ⟨a, cap, rfl, hc, fun j u hj => ?_⟩
    rw [World.cell?_of_block (w := w) (a := a.add j) (by rw [Addr.add_block]; exact hb _ rfl)]
    exact hu j u hj
theorem Seen.kb {w w' : World} {v : Value} {l : List Int} (h : Seen w v l) (hb : Below w.heap.size w w') : Seen w' v l := by
  rcases h with h | ⟨a, cap, rfl, hc, hu⟩
  · exact .inl h
  · refine .inr ⟨a, cap, rfl, hc, fun j u hj => ?_⟩
    have h1 := hu j u hj
    have h2 := World.block_lt_of_cell? w _ h1
    rw [World.cell?_of_block (w := w) (hb.block _ h2)]
    exact h1
theorem Seen.nil (w : World) : Seen w (.slice none 0 0) [] := .inl ⟨rfl, rfl⟩
theorem Seen.own {w : World} {B : Nat} {v : Value} {l : List Int} (h : w.ownsRow B 5 1 v l.length (us l)) : Seen w v l := by
  have hc : ∀ g, v.ownBlock = some g → _ := fun g hg => h.cells (g := g) hg
  rcases h.2 with ⟨rfl, h0⟩ | ⟨g, cap, cur, rfl, _, _, hn, _⟩
  · exact .inl ⟨rfl, List.eq_nil_of_length_eq_zero h0⟩
  · exact .inr ⟨_, cap, rfl, hn, hc _ rfl⟩

theorem u8info : (Tryz.prog.info? 5).map (fun i => (i.zero, i.size, i.bytes)) = some (some (.int .u8 0), 1, 1) := by kernel_rfl

end Go.Proofs.YtnpeahbbcolfmaaGreatDoor
namespace Go.Proofs.YtnpeahbbcolfmaaGreatDoor
open Go.RowKit
end Go.Proofs.YtnpeahbbcolfmaaGreatDoor
namespace Go.Proofs.YtnpeahbbcolfmaaGreatDoor
open Go.RowKit
theorem wrap64_eq (n : Int) : IntKind.i64.wrap n = wrap64 n := by unfold wrap64; exact IntKind.wrap_i64 n
end Go.Proofs.YtnpeahbbcolfmaaGreatDoor
namespace Go.Proofs.YtnpeahbbcolfmaaGreatDoor
open Go.RowKit
open Go.Maps
abbrev Key := List UInt8

theorem bb_irrefl : ∀ a : Key, bytesBefore a a = false
  | [] => rfl
  | x :: a => by simp [bytesBefore, bb_irrefl a, UInt8.lt_irrefl]
theorem bb_trans : ∀ a b c : Key, bytesBefore a b = true → bytesBefore b c = true → bytesBefore a c = true
  | [], [], _, h, _ => by simp [bytesBefore] at h
  | [], _ :: _, [], _, h => by simp [bytesBefore] at h
  | [], _ :: _, _ :: _, _, _ => rfl
  | _ :: _, [], _, h, _ => by simp [bytesBefore] at h
  | _ :: _, _ :: _, [], _, h => by simp [bytesBefore] at h
  | x :: a, y :: b, z :: c, h1, h2 => by
    simp only [bytesBefore, Bool.or_eq_true, Bool.and_eq_true, decide_eq_true_eq, beq_iff_eq] at h1 h2 ⊢
    rcases h1 with h1 | ⟨rfl, h1⟩
    · rcases h2 with h2 | ⟨rfl, h2⟩
      · exact .inl (UInt8.lt_trans h1 h2)
      · exact .inl h1
    · rcases h2 with h2 | ⟨rfl, h2⟩
      · exact .inl h2
      · exact .inr ⟨rfl, bb_trans a b c h1 h2⟩
theorem bb_total : ∀ a b : Key, bytesBefore a b = true ∨ a = b ∨ bytesBefore b a = true
  | [], [] => .inr (.inl rfl)
  | [], _ :: _ => .inl rfl
  | _ :: _, [] => .inr (.inr rfl)
  | x :: a, y :: b => by
    simp only [bytesBefore, Bool.or_eq_true, Bool.and_eq_true, decide_eq_true_eq, beq_iff_eq]
    by_cases h1 : x < y
    · exact .inl (.inl h1)
    by_cases h2 : y < x
    · exact .inr (.inr (.inl h2))
    obtain rfl : x = y := UInt8.le_antisymm (UInt8.not_lt.1 h2) (UInt8.not_lt.1 h1)
    rcases bb_total a b with h | rfl | h
    · exact .inl (.inr ⟨rfl, h⟩)
    · exact .inr (.inl rfl)
    · exact .inr (.inr (.inr ⟨rfl, h⟩))

section
variable {α β : Type}
/-- A file laid in its place. -/
def ains (x : Key × α) : List (Key × α) → List (Key × α)
  | [] => [x]
  | y :: r => if bytesBefore x.1 y.1 then x :: y :: r else y :: ains x r
def adel (n : Key) (l : List (Key × α)) : List (Key × α) := l.filter fun p => !(p.1 == n)
def aput (n : Key) (a : α) (l : List (Key × α)) : List (Key × α) := ains (n, a) (adel n l)
def aget (n : Key) (l : List (Key × α)) : Option α := (l.find? fun p => p.1 == n).map (·.2)

theorem fpos {m : Key} {y : Key × α} {l : List (Key × α)} (h : (y.1 == m) = true) : (y :: l).find? (fun p => p.1 == m) = some y := List.find?_cons_of_pos (p := fun p : Key × α => p.1 == m) h
theorem fneg {m : Key} {y : Key × α} {l : List (Key × α)} (h : ¬ (y.1 == m) = true) : (y :: l).find? (fun p => p.1 == m) = l.find? (fun p => p.1 == m) := List.find?_cons_of_neg (p := fun p : Key × α => p.1 == m) h
theorem gpos {m : Key} {y : Key × α} {l : List (Key × α)} (h : y.1 = m) : aget m (y :: l) = some y.2 := by unfold aget; rw [fpos (by simpa using h)]; rfl
theorem gneg {m : Key} {y : Key × α} {l : List (Key × α)} (h : ¬ y.1 = m) : aget m (y :: l) = aget m l := by unfold aget; rw [fneg (by simpa using h)]
def AAsc (l : List (Key × α)) : Prop := l.Pairwise fun p q => bytesBefore p.1 q.1 = true
theorem AAsc.nil : AAsc ([] : List (Key × α)) := List.Pairwise.nil
theorem AAsc.del {l : List (Key × α)} (h : AAsc l) (n : Key) : AAsc (adel n l) := h.sublist List.filter_sublist
theorem ains_mem (x : Key × α) : ∀ (l : List (Key × α)) (y : Key × α), y ∈ ains x l ↔ y = x ∨ y ∈ l
  | [], y => by simp [ains]
  | z :: l, y => by
    rw [ains]
    split
    · simp
    · simp only [List.mem_cons, ains_mem x l y]
      constructor
      · rintro (h | h | h) <;> simp [h]
      · rintro (h | h | h) <;> simp [h]
theorem adel_mem (n : Key) (l : List (Key × α)) (y : Key × α) : y ∈ adel n l ↔ y ∈ l ∧ y.1 ≠ n := by
  simp [adel, List.mem_filter]
theorem AAsc.ins {x : Key × α} : ∀ {l : List (Key × α)}, AAsc l → (∀ y ∈ l, y.1 ≠ x.1) → AAsc (ains x l)
  | [], _, _ => List.pairwise_singleton _ _
  | y :: l, h, hx => by
    obtain ⟨h1, h2⟩ := List.pairwise_cons.1 h
    rw [ains]
    split
    · rename_i hb
      refine List.pairwise_cons.2 ⟨fun z hz => ?_, h⟩
      rcases List.mem_cons.1 hz with rfl | hz
      · exact hb
      · exact bb_trans _ _ _ hb (h1 z hz)
    · rename_i hb
      refine List.pairwise_cons.2 ⟨fun z hz => ?_, AAsc.ins h2 (fun z hz => hx z (List.mem_cons_of_mem _ hz))⟩
      rcases (ains_mem _ _ _).1 hz with rfl | hz
      · rcases bb_total y.1 z.1 with h3 | h3 | h3
        · exact h3
        · exact absurd h3 (hx y List.mem_cons_self)
        · exact absurd h3 hb
      · exact h1 z hz
theorem AAsc.put {l : List (Key × α)} (h : AAsc l) (n : Key) (a : α) : AAsc (aput n a l) :=
  (h.del n).ins fun y hy => ((adel_mem n l y).1 hy).2

theorem aget_ins_same (n : Key) (a : α) : ∀ l : List (Key × α), (∀ y ∈ l, y.1 ≠ n) → aget n (ains (n, a) l) = some a
  | [], _ => by simp [ains, aget]
  | y :: l, h => by
    have h1 : y.1 ≠ n := h y List.mem_cons_self
    have ih := aget_ins_same n a l (fun z hz => h z (List.mem_cons_of_mem _ hz))
    rw [ains]
    split
    · simp [aget]
    · rw [gneg h1]; exact ih
theorem aget_ins_other (n m : Key) (a : α) (hne : m ≠ n) : ∀ l : List (Key × α), aget m (ains (n, a) l) = aget m l
  | [] => by simp [ains, aget, Ne.symm hne]
  | y :: l => by
    have ih := aget_ins_other n m a hne l
    rw [ains]
    split
    · simp [aget, Ne.symm hne]
    · by_cases h : y.1 = m
      · rw [gpos h, gpos h]
      · rw [gneg h, gneg h]; exact ih
theorem aget_del_same (n : Key) (l : List (Key × α)) : aget n (adel n l) = none := by
  unfold aget
  rw [List.find?_eq_none.2 (fun y hy => by simpa using ((adel_mem n l y).1 hy).2)]
  rfl
theorem aget_del_other (n m : Key) (hne : m ≠ n) : ∀ l : List (Key × α), aget m (adel n l) = aget m l
  | [] => rfl
  | y :: l => by
    have ih := aget_del_other n m hne l
    unfold adel at ih ⊢
    by_cases h : y.1 = n
    · rw [List.filter_cons_of_neg (by simp [h]), gneg (by rw [h]; exact Ne.symm hne)]
      exact ih
    · rw [List.filter_cons_of_pos (by simpa using h)]
      by_cases h2 : y.1 = m
      · rw [gpos h2, gpos h2]
      · rw [gneg h2, gneg h2]; exact ih
theorem aget_put_same (n : Key) (a : α) (l : List (Key × α)) : aget n (aput n a l) = some a := aget_ins_same n a _ fun y hy => ((adel_mem n l y).1 hy).2
theorem aget_put_other (n m : Key) (a : α) (hne : m ≠ n) (l : List (Key × α)) : aget m (aput n a l) = aget m l := by
  rw [aput, aget_ins_other n m a hne, aget_del_other n m hne]
theorem aget_mem {n : Key} {a : α} {l : List (Key × α)} (h : aget n l = some a) : (n, a) ∈ l := by
  unfold aget at h
  obtain ⟨p, hp, rfl⟩ := Option.map_eq_some_iff.1 h
  have h1 := List.mem_of_find?_eq_some hp
  have h2 := List.find?_some hp
  simp only [beq_iff_eq] at h2
  rw [← h2]; exact h1
theorem aget_of_mem {n : Key} {a : α} : ∀ {l : List (Key × α)}, AAsc l → (n, a) ∈ l → aget n l = some a
  | [], _, h => by cases h
  | y :: l, hs, h => by
    obtain ⟨h1, h2⟩ := List.pairwise_cons.1 hs
    rcases List.mem_cons.1 h with rfl | h
    · simp [aget]
    · have h3 := h1 _ h
      have h4 : y.1 ≠ n := fun e => by rw [e] at h3; rw [bb_irrefl] at h3; cases h3
      rw [gneg h4]; exact aget_of_mem h2 h

/-- What all files come to. -/
def asum (f : α → Nat) (l : List (Key × α)) : Nat := (l.map fun p => f p.2).sum
theorem asum_ins (f : α → Nat) (x : Key × α) : ∀ l, asum f (ains x l) = f x.2 + asum f l
  | [] => by simp [ains, asum]
  | y :: l => by
    have ih := asum_ins f x l
    rw [ains]
    split
    · simp [asum]
    · simp only [asum, List.map_cons, List.sum_cons] at ih ⊢; omega
def olen (f : α → Nat) : Option α → Nat
  | none => 0
  | some a => f a
theorem adel_none {n : Key} : ∀ {l : List (Key × α)}, aget n l = none → adel n l = l
  | [], _ => rfl
  | y :: l, h => by
    by_cases hy : y.1 = n
    · rw [gpos hy] at h; cases h
    · rw [gneg hy] at h
      have ih := adel_none (l := l) h
      unfold adel at ih ⊢
      rw [List.filter_cons_of_pos (by simpa using hy), ih]
theorem asum_del (f : α → Nat) (n : Key) : ∀ {l : List (Key × α)}, AAsc l → asum f (adel n l) + olen f (aget n l) = asum f l
  | [], _ => rfl
  | y :: l, h => by
    obtain ⟨h1, h2⟩ := List.pairwise_cons.1 h
    have ih := asum_del f n h2
    by_cases hy : y.1 = n
    · have a1 : aget n l = none := by
        cases hg : aget n l with
        | none => rfl
        | some a => have := h1 _ (aget_mem hg); rw [hy, bb_irrefl] at this; cases this
      have a2 : adel n (y :: l) = l := by
        have := adel_none a1
        unfold adel at this ⊢
        rw [List.filter_cons_of_neg (by simp [hy]), this]
      have a3 : aget n (y :: l) = some y.2 := gpos hy
      rw [a2, a3]
      simp only [olen, asum, List.map_cons, List.sum_cons]; omega
    · have a2 : adel n (y :: l) = y :: adel n l := by unfold adel; rw [List.filter_cons_of_pos (by simpa using hy)]
      have a3 : aget n (y :: l) = aget n l := gneg hy
      rw [a2, a3]
      simp only [asum, List.map_cons, List.sum_cons] at ih ⊢; omega
theorem asum_put (f : α → Nat) (n : Key) (a : α) {l : List (Key × α)} (h : AAsc l) : asum f (aput n a l) + olen f (aget n l) = f a + asum f l := by
  rw [aput, asum_ins]
  have := asum_del f n h
  simp only; omega

/-- Files of which less is told. -/
def amap (g : α → β) (l : List (Key × α)) : List (Key × β) := l.map fun p => (p.1, g p.2)
theorem amap_ins (g : α → β) (x : Key × α) : ∀ l, amap g (ains x l) = ains (x.1, g x.2) (amap g l)
  | [] => rfl
  | y :: l => by
    have ih := amap_ins g x l
    simp only [ains, amap, List.map_cons] at ih ⊢
    split <;> simp [ih]
theorem amap_del (g : α → β) (n : Key) (l : List (Key × α)) : amap g (adel n l) = adel n (amap g l) := by
  unfold amap adel
  rw [List.filter_map]
  rfl
theorem amap_put (g : α → β) (n : Key) (a : α) (l : List (Key × α)) : amap g (aput n a l) = aput n (g a) (amap g l) := by
  rw [aput, amap_ins, amap_del]; rfl
theorem amap_get (g : α → β) (n : Key) : ∀ l : List (Key × α), aget n (amap g l) = (aget n l).map g
  | [] => rfl
  | y :: l => by
    have ih := amap_get g n l
    unfold amap at ih ⊢
    rw [List.map_cons]
    by_cases hy : y.1 = n
    · rw [gpos hy, gpos (by exact hy)]; rfl
    · rw [gneg hy, gneg (by exact hy)]; exact ih
end
/-- A map's element read as what it is. -/
def rdv (v : Value) : Option (DataW Value × List MemPlace) := some (.held v, [])
theorem same_str (a b : Key) : (Lit.string a).sameKey (.string b) = (a == b) := rfl
end Go.Proofs.YtnpeahbbcolfmaaGreatDoor
namespace Go.Proofs.YtnpeahbbcolfmaaGreatDoor
open Go.RowKit
variable {P : Program} {ops : Array Oper} {rest : List Oper} {a : Act} {w : World} {Q : Exit → Act → World → Prop} {dst : Option Tmp} {T : TypeId} {pos : String} {after : Array Edge}
theorem load_to {ty : TypeId} {x : Operand} {b o : Nat} {cs : List Value} {d : TypeDesc} (hc : w.rangeAt b o cs) (hu : P.underlying ty = some d) (hd : d.isRow = true) (hi : (P.info? ty).map (·.size) = some cs.length)
    (hx : a.eval x = .pointer (some ⟨b, o, none⟩)) (h : wpList P ops Q rest (a.put dst (.agg cs.toArray)) w) : wpList P ops Q (⟨dst, .load ty x, T, pos, after, none⟩ :: rest) a w :=
  wpList_load_mid rfl ty x rfl b o hx cs d hc hu hd hi h

theorem move_to {x : Operand} (h : wpList P ops Q rest (a.put dst (a.eval x)) w) : wpList P ops Q (⟨dst, .move x, T, pos, after, none⟩ :: rest) a w :=
  wpList_plain rfl fun _ hK => by
    unfold Oper.wp execOp
    simp only [Sem.run_pure]
    exact hK _ _ h

theorem build_to {t : TypeId} {parts : Array (Nat × Operand)} {vals : Array (Nat × Value)} {cells : Array Value} (hr : P.built t vals.toList = some cells) (hv : (parts.map fun (i, x) => (i, a.eval x)) = vals)
    (h : wpList P ops Q rest (a.put dst (.agg cells)) w) : wpList P ops Q (⟨dst, .build t parts, T, pos, after, none⟩ :: rest) a w :=
  wpList_plain rfl fun _ hK => wp_build t parts rfl (by rw [hv, hr]; rfl) (by rw [hv, hr]; exact hK _ _ h)

theorem store_to {ty : TypeId} {x y : Operand} {b o : Nat} {cells : Array Value} (ht : w.there b o cells.size) (hi : (P.info? ty).map (·.size) = some cells.size) (h1 : cells.all (·.oneCell') = true)
    (hx : a.eval x = .pointer (some ⟨b, o, none⟩)) (hy : a.eval y = .agg cells) (h : wpList P ops Q rest (a.put dst undef) (w.setCells b o cells.toList)) : wpList P ops Q (⟨dst, .store ty x y, T, pos, after, none⟩ :: rest) a w :=
  wpList_store_mid rfl ty x y rfl b o cells hx hy ht hi h1 h

theorem range_new (w : World) (h : Array Value) (t : TypeId) : (w.alloc (.cells h t)).rangeAt w.heap.size 0 h.toList := fun j v hv => by
  rw [Nat.zero_add, cell_of_row _ _ j h t (0, 0) (heap_alloc_last w _)]
  simpa using hv

theorem range_row {w : World} {p : Nat} {h : Array Value} {t : TypeId} (hp : w.heap[p]? = some (.cells h t (0, 0))) : w.rangeAt p 0 h.toList := fun j v hv => by
  rw [Nat.zero_add, cell_of_row w p j h t (0, 0) hp]
  simpa using hv

theorem Only.setCells {S : Nat → Prop} {b : Nat} (hb : S b) : ∀ (vs : List Value) (o : Nat) {a w : World}, Only S a w → Only S a (w.setCells b o vs)
  | [], _, _, _, h => h
  | v :: vs, o, _, _, h => Only.setCells hb vs (o + 1) (h.setCell (p := ⟨b, o, none⟩) hb v)

theorem there_row {w : World} {p : Nat} {h : Array Value} {t : TypeId} (hp : w.heap[p]? = some (.cells h t (0, 0))) : w.there p 0 h.size := fun j hj => by
  rw [Nat.zero_add]
  constructor
  · rw [cell_of_row w p j h t (0, 0) hp]; simp [hj]
  · have := free_of_one (w := w) (b := p) (v := .bool true) (t := t)
    clear this
    simp [World.frozen?, hp]

/-- The whole array, out of a block that was stored whole. -/
theorem loaded {t : TypeId} {d : TypeDesc} {b : Nat} {q : Array Value} (ht : w.there b 0 q.size) (hu : P.underlying t = some d) (hd : d.isRow = true) (hi : (P.info? t).map (·.size) = some q.size) :
    (loadVar t ⟨b, 0, none⟩).run P (w.setCells b 0 q.toList) = .ok (.agg q) (w.setCells b 0 q.toList) :=
  run_loadVar_mid _ b 0 t q.toList d (World.rangeAt_setCells_same _ _ _ _ (by simpa using ht)) hu hd (by simpa using hi)

end Go.Proofs.YtnpeahbbcolfmaaGreatDoor
namespace Go.Proofs.YtnpeahbbcolfmaaGreatDoor
open Go.Op (bytesLess)
/-- Bytes as numbers. -/
def nmb (l : List UInt8) : List Int := l.map fun b => (b.toNat : Int)
theorem nm_length (l : List UInt8) : (nmb l).length = l.length := List.length_map _
theorem nm_str (l : List UInt8) : strOfNums (nmb l) = ⟨l.toArray⟩ := by
  unfold strOfNums nmb
  rw [List.map_map]
  congr 2
  have : ((fun n : Int => UInt8.ofNat n.toNat) ∘ fun b : UInt8 => (b.toNat : Int)) = id := by
    funext b; simp
  rw [this, List.map_id]

/-- The value of a digit; -1: it is none. -/
def und (c : UInt8) : Int := if 48 ≤ c.toNat ∧ c.toNat ≤ 57 then (c.toNat : Int) - 48 else if 97 ≤ c.toNat ∧ c.toNat ≤ 102 then (c.toNat : Int) - 87 else -1
/-- The bytes of a text, two digits for each. -/
def unh : List UInt8 → List UInt8
  | a :: b :: l => UInt8.ofNat (16 * und a + und b).toNat :: unh l
  | _ => []
/-- All are digits. -/
def digs (l : List UInt8) : Bool := l.all fun c => decide (0 ≤ und c)
/-- 1 to 64 digits. -/
def pre (l : List UInt8) : Bool := decide (1 ≤ l.length) && decide (l.length ≤ 64) && digs l

theorem less_irrefl : ∀ a, bytesLess a a = false
  | [] => rfl
  | x :: a => by simp [bytesLess, less_irrefl a]
theorem less_trans : ∀ a b c, bytesLess a b = true → bytesLess b c = true → bytesLess a c = true
  | _, [], _, h, _ => by cases ‹List UInt8› <;> simp [bytesLess] at h
  | _, _ :: _, [], _, h => by simp [bytesLess] at h
  | [], _ :: _, _ :: _, _, _ => rfl
  | x :: a, y :: b, z :: c, h, k => by
    simp only [bytesLess, Bool.or_eq_true, Bool.and_eq_true, decide_eq_true_eq, beq_iff_eq] at h k ⊢
    rcases h with h | ⟨rfl, h⟩
    · rcases k with k | ⟨rfl, k⟩
      · exact .inl (UInt8.lt_trans h k)
      · exact .inl h
    · rcases k with k | ⟨rfl, k⟩
      · exact .inl k
      · exact .inr ⟨rfl, less_trans a b c h k⟩
theorem less_total : ∀ a b, bytesLess a b = false → bytesLess b a = false → a = b
  | [], [], _, _ => rfl
  | [], _ :: _, h, _ => by simp [bytesLess] at h
  | _ :: _, [], _, h => by simp [bytesLess] at h
  | x :: a, y :: b, h, k => by
    simp only [bytesLess, Bool.or_eq_false_iff, Bool.and_eq_false_iff, decide_eq_false_iff_not] at h k
    have e : x = y := by
      have h1 := h.1; have k1 := k.1
      exact UInt8.le_antisymm (UInt8.not_lt.1 k1) (UInt8.not_lt.1 h1)
    subst e
    rw [less_total a b (by simpa using h.2) (by simpa using k.2)]
theorem less_asymm {a b : List UInt8} (h : bytesLess a b = true) : bytesLess b a = false := by
  cases hb : bytesLess b a with
  | false => rfl
  | true => have := less_trans a b a h hb; rw [less_irrefl] at this; cases this

/-- The comparison of the library is below zero where the order says so. -/
theorem cmp_less : ∀ a b, decide (Lib.compareBytes a b < 0) = bytesLess a b
  | [], [] => rfl
  | [], _ :: _ => rfl
  | _ :: _, [] => rfl
  | x :: a, y :: b => by
    rw [Lib.compareBytes, bytesLess]
    by_cases h : x < y
    · simp [h]
    · rw [if_neg h]
      by_cases k : y < x
      · have : x ≠ y := fun e => by subst e; exact h k
        simp [h, k, this]
      · have e : x = y := UInt8.le_antisymm (UInt8.not_lt.1 k) (UInt8.not_lt.1 h)
        subst e
        rw [if_neg k, cmp_less a b]
        simp

end Go.Proofs.YtnpeahbbcolfmaaGreatDoor
namespace Go.Proofs.YtnpeahbbcolfmaaGreatDoor
open Go.RowKit
/-- A hash's cells. -/
def hv (l : List UInt8) : Array Value := (us (nmb l)).toArray
theorem hv_size (l : List UInt8) : (hv l).size = l.length := by simp [hv, us, nmb]
theorem hv_list (l : List UInt8) : (hv l).toList = us (nmb l) := by simp [hv]
theorem hv_get {l : List UInt8} {j : Nat} (h : j < l.length) : (hv l)[j]? = some (.int .u8 (l[j].toNat : Int)) := by simp [hv, us, nmb, h]
theorem hv_one (l : List UInt8) : (hv l).all (·.oneCell') = true := by simp [hv, us, Value.oneCell']
theorem hinfo (h : Array Value) (hs : h.size = 32) : (Tryz.prog.info? 31).map (·.size) = some h.size := by rw [hs]; kernel_rfl
theorem hinfo' (h : Array Value) (hs : h.size = 32) : (Tryz.prog.info? 31).map (·.size) = some h.toList.length := by rw [Array.length_toList]; exact hinfo h hs
/-- The hash of zeros. -/
def hz : List UInt8 := [0, 0, 0, 0, 0, 0, 0, 0, 0, 0, 0, 0, 0, 0, 0, 0, 0, 0, 0, 0, 0, 0, 0, 0, 0, 0, 0, 0, 0, 0, 0, 0]
def hzer : Array Value := #[.int .u8 0, .int .u8 0, .int .u8 0, .int .u8 0, .int .u8 0, .int .u8 0, .int .u8 0, .int .u8 0, .int .u8 0, .int .u8 0, .int .u8 0, .int .u8 0, .int .u8 0, .int .u8 0, .int .u8 0, .int .u8 0, .int .u8 0, .int .u8 0, .int .u8 0, .int .u8 0, .int .u8 0, .int .u8 0, .int .u8 0, .int .u8 0, .int .u8 0, .int .u8 0, .int .u8 0, .int .u8 0, .int .u8 0, .int .u8 0, .int .u8 0, .int .u8 0]
theorem hz_hv : hv hz = hzer := rfl

/-- A hash is loaded: one step. -/
noncomputable def hld (a : Addr) : Sem Value := loadVar 31 a
theorem hld_open (a : Addr) : loadVar 31 a = hld a := rfl
theorem hld_range {w : World} {p o : Nat} {q : List UInt8} (hs : q.length = 32) (hp : w.rangeAt p o (us (nmb q))) : (hld ⟨p, o, none⟩).run Tryz.prog w = .ok (.agg (hv q)) w := by
  have := run_loadVar_mid (P := Tryz.prog) w p o 31 (us (nmb q)) _ hp Tryz.underlying31 rfl (by rw [← hv_list]; exact hinfo' (hv q) (by rw [hv_size, hs]))
  exact this
theorem hld_row {w : World} {p : Nat} {q : List UInt8} {t : TypeId} (hs : q.length = 32) (hp : w.heap[p]? = some (.cells (hv q) t (0, 0))) : (hld ⟨p, 0, none⟩).run Tryz.prog w = .ok (.agg (hv q)) w :=
  hld_range hs (by have := range_row hp; rwa [hv_list] at this)
theorem hst_cells (q : List UInt8) (hs : q.length = 32) (w : World) :
    (storeCells ⟨w.heap.size, 0, none⟩ (hv q).toList).run Tryz.prog (w.alloc (.cells #[.int .u8 0, .int .u8 0, .int .u8 0, .int .u8 0, .int .u8 0, .int .u8 0, .int .u8 0, .int .u8 0, .int .u8 0, .int .u8 0, .int .u8 0, .int .u8 0, .int .u8 0, .int .u8 0, .int .u8 0, .int .u8 0, .int .u8 0, .int .u8 0, .int .u8 0, .int .u8 0, .int .u8 0, .int .u8 0, .int .u8 0, .int .u8 0, .int .u8 0, .int .u8 0, .int .u8 0, .int .u8 0, .int .u8 0, .int .u8 0, .int .u8 0, .int .u8 0] 31)) = .ok () (w.alloc (.cells (hv q) 31)) :=
  run_storeCells_new (P := Tryz.prog) w 31 hzer (hv q) (hinfo _ (by rw [hv_size, hs])) (by rw [hv_size, hs]; rfl) (hv_one q)

theorem hbuilt : Tryz.prog.built 31 [] = some hzer := by kernel_rfl

section
/-- The first byte of the hash of k. -/
def hsig (k : Int) : Int := [171, 171, 160, 18, 254, 171].getD (k % 6).toNat 0
def u8o (x : Int) : UInt8 := UInt8.ofNat x.toNat
def hkl (k : Int) : List UInt8 := [u8o (hsig k), u8o (k / 6 * 16), u8o (k * 7 % 256), 0, 0, 0, 0, 0, 0, 0, 0, 0, 0, 0, 0, 0, 0, 0, 0, 0, 0, 0, 0, 0, 0, 0, 0, 0, 0, 0, 0, u8o k]
/-- The hash of n, as the hand makes it. -/
def hh (n : Int) : List UInt8 := hkl (n % 60)
end
end Go.Proofs.YtnpeahbbcolfmaaGreatDoor
namespace Go.Proofs.YtnpeahbbcolfmaaGreatDoor
open Go.RowKit
end Go.Proofs.YtnpeahbbcolfmaaGreatDoor
namespace Go.Proofs.YtnpeahbbcolfmaaGreatDoor
open Go.RowKit
/-- The list with vs written from o on. -/
def puts (C : List Value) (o : Nat) (vs : List Value) : List Value := C.take o ++ vs ++ C.drop (o + vs.length)
theorem puts_nil (C : List Value) (o : Nat) : puts C o [] = C := by simp [puts]
theorem puts_cons (C : List Value) (o : Nat) (v : Value) (vs : List Value) (h : o < C.length) : puts (C.set o v) (o + 1) vs = puts C o (v :: vs) := by
  unfold puts
  rw [List.take_succ_eq_append_getElem (by simpa using h), List.getElem_set_self, List.take_set_of_le (by omega), List.drop_set_of_lt (by omega), List.length_cons, show o + 1 + vs.length = o + (vs.length + 1) from by omega]
  simp
theorem cells_set {w : World} {b j : Nat} {row : List Value} {t : TypeId} (h : w.heap[b]? = some (.cells row.toArray t (0, 0))) (v : Value) : (w.setCell ⟨b, j, none⟩ v).heap[b]? = some (.cells (row.set j v).toArray t (0, 0)) := by
  unfold World.setCell
  simp only [Array.getElem?_modify, if_true, h, Option.map_some]
  simp
theorem cells_puts : ∀ (vs : List Value) (o : Nat) (C : List Value) (w : World) {g : Nat} {t : TypeId}, w.heap[g]? = some (.cells C.toArray t (0, 0)) → o + vs.length ≤ C.length → (w.setCells g o vs).heap[g]? = some (.cells (puts C o vs).toArray t (0, 0))
  | [], o, C, w, g, t, h, _ => by rw [puts_nil]; exact h
  | v :: r, o, C, w, g, t, h, hl => by
    have h1 := cells_set (j := o) h v
    have ih := cells_puts r (o + 1) (C.set o v) (w.setCell ⟨g, o, none⟩ v) h1 (by simp at hl ⊢; omega)
    rw [puts_cons C o v r (by simp at hl; omega)] at ih
    exact ih
end Go.Proofs.YtnpeahbbcolfmaaGreatDoor
namespace Go.Proofs.YtnpeahbbcolfmaaGreatDoor
open Go.RowKit Go.Op
/-- The cells of hashes in a row. -/
def fl (E : List (List UInt8)) : List Value := E.flatMap fun h => us (nmb h)
/-- All are hashes. -/
def H32 (E : List (List UInt8)) : Prop := ∀ h ∈ E, h.length = 32
theorem H32.nil : H32 [] := fun _ h => by cases h
theorem H32.app {E F : List (List UInt8)} (h : H32 E) (k : H32 F) : H32 (E ++ F) := fun x hx => by
  rcases List.mem_append.1 hx with hx | hx
  · exact h x hx
  · exact k x hx
theorem H32.one {h : List UInt8} (hh : h.length = 32) : H32 [h] := fun x hx => by rw [List.mem_singleton.1 hx]; exact hh
theorem H32.take {E : List (List UInt8)} (h : H32 E) (k : Nat) : H32 (E.take k) := fun x hx => h x (List.mem_of_mem_take hx)
theorem H32.drop {E : List (List UInt8)} (h : H32 E) (k : Nat) : H32 (E.drop k) := fun x hx => h x (List.mem_of_mem_drop hx)
theorem H32.at {E : List (List UInt8)} (h : H32 E) {i : Nat} (hi : i < E.length) : E[i].length = 32 := h _ (List.getElem_mem hi)
theorem H32.set {E : List (List UInt8)} (h : H32 E) {i : Nat} {x : List UInt8} (hx : x.length = 32) : H32 (E.set i x) := fun y hy => by
  rcases List.mem_or_eq_of_mem_set hy with hy | rfl
  · exact h y hy
  · exact hx
theorem usn_length (h : List UInt8) : (us (nmb h)).length = h.length := by rw [us, List.length_map, nm_length]
theorem fl_cons (h : List UInt8) (E : List (List UInt8)) : fl (h :: E) = us (nmb h) ++ fl E := by simp [fl]
theorem fl_app (E F : List (List UInt8)) : fl (E ++ F) = fl E ++ fl F := by simp [fl]
theorem fl_one (h : List UInt8) : fl [h] = us (nmb h) := by simp [fl]
theorem fl_length : ∀ {E : List (List UInt8)}, H32 E → (fl E).length = E.length * 32
  | [], _ => rfl
  | h :: E, hE => by
    rw [fl_cons, List.length_append, usn_length, fl_length (fun x hx => hE x (List.mem_cons_of_mem _ hx)), hE h (List.mem_cons_self ..), List.length_cons]
    omega
theorem fl_take {E : List (List UInt8)} (hE : H32 E) (i : Nat) : (fl E).take (i * 32) = fl (E.take i) := by
  by_cases hi : i ≤ E.length
  · conv => lhs; rw [← List.take_append_drop i E, fl_app]
    rw [List.take_append_of_le_length (by rw [fl_length (hE.take i), List.length_take]; omega), List.take_of_length_le (by rw [fl_length (hE.take i), List.length_take]; omega)]
  · rw [List.take_of_length_le (by rw [fl_length hE]; omega), List.take_of_length_le (by omega)]
theorem fl_drop {E : List (List UInt8)} (hE : H32 E) (i : Nat) (hi : i ≤ E.length) : (fl E).drop (i * 32) = fl (E.drop i) := by
  conv => lhs; rw [← List.take_append_drop i E, fl_app]
  rw [List.drop_append_of_le_length (by rw [fl_length (hE.take i), List.length_take]; omega), List.drop_of_length_le (by rw [fl_length (hE.take i), List.length_take]; omega), List.nil_append]
theorem fl_at {E : List (List UInt8)} (hE : H32 E) {i c : Nat} (hi : i < E.length) (hc : c < 32) : (fl E)[i * 32 + c]? = (us (nmb E[i]))[c]? := by
  have h1 : ((fl E).drop (i * 32))[c]? = (fl E)[i * 32 + c]? := by rw [List.getElem?_drop]
  rw [← h1, fl_drop hE i (by omega), List.drop_eq_getElem_cons hi, fl_cons, List.getElem?_append_left (by rw [usn_length, hE.at hi]; exact hc)]
theorem fl_one' (E : List (List UInt8)) : ∀ u ∈ fl E, u.oneCell' = true := by
  intro u hu
  simp only [fl, List.mem_flatMap] at hu
  obtain ⟨h, _, hx⟩ := hu
  obtain ⟨x, _, rfl⟩ := List.mem_map.1 hx
  rfl

theorem puts_fl {E : List (List UInt8)} (hE : H32 E) (R : List Value) {i : Nat} (hi : i < E.length) {h : List UInt8} (hh : h.length = 32) : puts (fl E ++ R) (i * 32) (us (nmb h)) = fl (E.set i h) ++ R := by
  unfold puts
  have hl := fl_length hE
  rw [usn_length, hh, show i * 32 + 32 = (i + 1) * 32 from by omega, List.take_append_of_le_length (by omega), fl_take hE, List.drop_append_of_le_length (by omega), fl_drop hE (i + 1) (by omega)]
  rw [List.set_eq_take_append_cons_drop, if_pos hi, fl_app, fl_cons]
  simp
theorem puts_zero {E : List (List UInt8)} (hE : H32 E) (R : List Value) {k m : Nat} (hk : k + m = E.length) : puts (fl E ++ R) (k * 32) (fl (List.replicate m hz)) = fl (E.take k ++ List.replicate m hz) ++ R := by
  unfold puts
  have hl := fl_length hE
  have hz32 : H32 (List.replicate m hz) := fun x hx => by rw [List.eq_of_mem_replicate hx]; rfl
  have hlz := fl_length hz32
  rw [List.length_replicate] at hlz
  rw [hlz, List.take_append_of_le_length (by omega), fl_take hE, show k * 32 + m * 32 = (fl E).length from by omega, List.drop_left, fl_app]

/-- Neighbours that are alike are left out. -/
def cpt : List (List UInt8) → List (List UInt8)
  | [] => []
  | [x] => [x]
  | x :: y :: l => if x = y then cpt (y :: l) else x :: cpt (y :: l)
theorem cpt_snoc : ∀ (l : List (List UInt8)) (z x : List UInt8), cpt (l ++ [z, x]) = cpt (l ++ [z]) ++ (if x = z then [] else [x])
  | [], z, x => by
    by_cases h : z = x
    · subst h; simp [cpt]
    · have h' : ¬ x = z := fun e => h e.symm
      simp [cpt, h, h']
  | [a], z, x => by
    have ih := cpt_snoc [] z x
    simp only [List.nil_append] at ih
    simp only [List.cons_append, List.nil_append, cpt]
    have e : cpt [z, x] = cpt [z] ++ (if x = z then [] else [x]) := ih
    simp only [cpt] at e
    rw [e]
    by_cases h : a = z <;> simp [h]
  | a :: b :: l, z, x => by
    have ih := cpt_snoc (b :: l) z x
    simp only [List.cons_append, cpt] at ih ⊢
    rw [ih]
    by_cases h : a = b <;> simp [h]
theorem cpt_step {d : List (List UInt8)} {m : Nat} (h0 : 0 < m) (hm : m < d.length) : cpt (d.take (m + 1)) = cpt (d.take m) ++ (if d[m] = d[m - 1] then [] else [d[m]]) := by
  have e : d.take m = d.take (m - 1) ++ [d[m - 1]] := by
    conv => lhs; rw [show m = m - 1 + 1 from by omega]
    rw [List.take_succ_eq_append_getElem (by omega)]
  have e2 : d.take (m + 1) = d.take (m - 1) ++ [d[m - 1], d[m]] := by
    rw [List.take_succ_eq_append_getElem hm, e, List.append_assoc]; rfl
  rw [e2, cpt_snoc, ← e]
theorem cpt_mem (a : List UInt8) : ∀ l, a ∈ cpt l ↔ a ∈ l
  | [] => Iff.rfl
  | [_] => Iff.rfl
  | x :: y :: l => by
    have ih := cpt_mem a (y :: l)
    rw [cpt]
    by_cases h : x = y
    · subst h; rw [if_pos rfl, ih]; simp
    · rw [if_neg h, List.mem_cons, ih, List.mem_cons]; simp
theorem cpt_length : ∀ l, (cpt l).length ≤ l.length
  | [] => Nat.le_refl _
  | [_] => Nat.le_refl _
  | x :: y :: l => by
    have ih := cpt_length (y :: l)
    rw [cpt]
    split
    · simp at ih ⊢; omega
    · simp at ih ⊢; omega
theorem cpt_none : ∀ l : List (List UInt8), (∀ i, (h : i + 1 < l.length) → l[i + 1] ≠ l[i]) → cpt l = l
  | [], _ => rfl
  | [_], _ => rfl
  | x :: y :: l, h => by
    have h0 := h 0 (by simp)
    have ih := cpt_none (y :: l) (fun i hi => h (i + 1) (by simpa using hi))
    rw [cpt, if_neg (fun e => h0 e.symm), ih]

/-- Each one comes ahead of all behind it. -/
abbrev Asc (l : List (List UInt8)) : Prop := l.Pairwise fun a b => bytesLess a b = true
theorem cpt_asc : ∀ l : List (List UInt8), l.Pairwise (fun a b => bytesLess b a = false) → Asc (cpt l)
  | [], _ => .nil
  | [_], _ => by simp [cpt, Asc]
  | x :: y :: l, h => by
    have ih := cpt_asc (y :: l) h.tail
    rw [cpt]
    by_cases e : x = y
    · rw [if_pos e]; exact ih
    · rw [if_neg e]
      refine List.pairwise_cons.2 ⟨fun a ha => ?_, ih⟩
      have hxy := (List.pairwise_cons.1 h).1 y (by simp)
      have hlt : bytesLess x y = true := by
        cases hb : bytesLess x y with
        | true => rfl
        | false => exact absurd (less_total x y hb hxy) e
      rcases List.mem_cons.1 ((cpt_mem a (y :: l)).1 ha) with rfl | hm
      · exact hlt
      · have h2 := (List.pairwise_cons.1 h.tail).1 a hm
        cases hb : bytesLess y a with
        | true => exact less_trans x y a hlt hb
        | false => rw [← less_total y a hb h2]; exact hlt
theorem asc_ext : ∀ (l m : List (List UInt8)), Asc l → Asc m → (∀ a, a ∈ l ↔ a ∈ m) → l = m
  | [], [], _, _, _ => rfl
  | [], y :: m, _, _, h => by have := (h y).2 (by simp); cases this
  | x :: l, [], _, _, h => by have := (h x).1 (by simp); cases this
  | x :: l, y :: m, hl, hm, h => by
    have hl1 := List.pairwise_cons.1 hl
    have hm1 := List.pairwise_cons.1 hm
    have e : x = y := by
      rcases List.mem_cons.1 ((h x).1 (by simp)) with e | hx
      · exact e
      · rcases List.mem_cons.1 ((h y).2 (by simp)) with e | hy
        · exact e.symm
        · have h1 := hm1.1 x hx
          have h2 := hl1.1 y hy
          rw [less_asymm h1] at h2; cases h2
    subst e
    rw [asc_ext l m hl1.2 hm1.2 fun a => ?_]
    constructor
    · intro ha
      rcases List.mem_cons.1 ((h a).1 (List.mem_cons_of_mem _ ha)) with rfl | h2
      · have := hl1.1 _ ha; rw [less_irrefl] at this; cases this
      · exact h2
    · intro ha
      rcases List.mem_cons.1 ((h a).2 (List.mem_cons_of_mem _ ha)) with rfl | h2
      · have := hm1.1 _ ha; rw [less_irrefl] at this; cases this
      · exact h2

/-- One more hash, in its place. -/
def rput : List (List UInt8) → List UInt8 → List (List UInt8)
  | [], h => [h]
  | x :: l, h => if bytesLess x h = true then x :: rput l h else if x = h then x :: l else h :: x :: l
theorem rput_mem (a h : List UInt8) : ∀ l, a ∈ rput l h ↔ a = h ∨ a ∈ l
  | [] => by simp [rput]
  | x :: l => by
    rw [rput]
    by_cases h1 : bytesLess x h = true
    · rw [if_pos h1, List.mem_cons, rput_mem a h l, List.mem_cons]
      constructor
      · rintro (h | h | h)
        · exact .inr (.inl h)
        · exact .inl h
        · exact .inr (.inr h)
      · rintro (h | h | h)
        · exact .inr (.inl h)
        · exact .inl h
        · exact .inr (.inr h)
    · rw [if_neg h1]
      by_cases h2 : x = h
      · subst h2; rw [if_pos rfl]; simp
      · rw [if_neg h2]; simp
theorem rput_asc (h : List UInt8) : ∀ l, Asc l → Asc (rput l h)
  | [], _ => by simp [rput, Asc]
  | x :: l, hl => by
    have hl1 := List.pairwise_cons.1 hl
    rw [rput]
    by_cases h1 : bytesLess x h = true
    · rw [if_pos h1]
      refine List.pairwise_cons.2 ⟨fun a ha => ?_, rput_asc h l hl1.2⟩
      rcases (rput_mem a h l).1 ha with rfl | ha
      · exact h1
      · exact hl1.1 a ha
    · rw [if_neg h1]
      by_cases h2 : x = h
      · rw [if_pos h2]; exact hl
      · rw [if_neg h2]
        have hx : bytesLess h x = true := by
          cases hb : bytesLess h x with
          | true => rfl
          | false => exact absurd (less_total x h (by simpa using h1) hb) h2
        refine List.pairwise_cons.2 ⟨fun a ha => ?_, hl⟩
        rcases List.mem_cons.1 ha with rfl | ha
        · exact hx
        · exact less_trans h x a hx (hl1.1 a ha)
/-- Sorted, each once. -/
def rsort (l : List (List UInt8)) : List (List UInt8) := l.foldl rput []
theorem rsort_go (l : List (List UInt8)) : ∀ s, Asc s → Asc (l.foldl rput s) ∧ ∀ a, a ∈ l.foldl rput s ↔ a ∈ s ∨ a ∈ l := by
  induction l with
  | nil => intro s hs; exact ⟨hs, fun a => by simp⟩
  | cons x l ih =>
    intro s hs
    obtain ⟨h1, h2⟩ := ih (rput s x) (rput_asc x s hs)
    refine ⟨h1, fun a => ?_⟩
    rw [List.foldl_cons, h2, rput_mem, List.mem_cons]
    constructor
    · rintro ((h | h) | h)
      · exact .inr (.inl h)
      · exact .inl h
      · exact .inr (.inr h)
    · rintro (h | h | h)
      · exact .inl (.inr h)
      · exact .inl (.inl h)
      · exact .inr h
theorem rsort_asc (l : List (List UInt8)) : Asc (rsort l) := (rsort_go l [] .nil).1
theorem rsort_mem (l : List (List UInt8)) (a : List UInt8) : a ∈ rsort l ↔ a ∈ l := by rw [rsort, (rsort_go l [] .nil).2]; simp
theorem rsort_h32 {l : List (List UInt8)} (h : H32 l) : H32 (rsort l) := fun x hx => h x ((rsort_mem l x).1 hx)
/-- A sorted list's neighbours left out is the list sorted, each once. -/
theorem cpt_rsort {l E : List (List UInt8)} (hs : E.Pairwise fun a b => bytesLess b a = false) (hm : ∀ a, a ∈ E ↔ a ∈ l) : cpt E = rsort l :=
  asc_ext _ _ (cpt_asc E hs) (rsort_asc l) fun a => by rw [cpt_mem, hm, rsort_mem]
end Go.Proofs.YtnpeahbbcolfmaaGreatDoor
namespace Go.Proofs.YtnpeahbbcolfmaaGreatDoor
open Go.RowKit
end Go.Proofs.YtnpeahbbcolfmaaGreatDoor
namespace Go.Proofs.YtnpeahbbcolfmaaGreatDoor
open Go.RowKit
end Go.Proofs.YtnpeahbbcolfmaaGreatDoor
namespace Go.Proofs.YtnpeahbbcolfmaaGreatDoor
open Go.RowKit
theorem nm_bytes (l : List UInt8) : (Lib.bytesOf (nmb l)).toArray = l.toArray := by
  have h := nm_str l
  have h2 : strOfNums (nmb l) = ⟨(Lib.bytesOf (nmb l)).toArray⟩ := by
    apply ByteArray.ext
    show (strOfNums (nmb l)).data = (Lib.bytesOf (nmb l)).toArray
    rfl
  rw [h2] at h
  exact congrArg ByteArray.data h
theorem run_bytes_hv {P : Program} (w : World) (l : List UInt8) (p n c : Nat) (hn : l.length = n) (h : w.rangeAt p 0 (us (nmb l))) : (Extern.Bytes.bytesOf (.slice (some ⟨p, 0, none⟩) n c)).run P w = .ok ⟨l.toArray⟩ w := by
  have hl := Lib.run_loadBytesX (P := P) w (nmb l) ⟨p, 0, none⟩ .empty (fun j x hj => by
    rw [Addr.add_lit]
    exact h j (.int .u8 x) (by simp [us, List.getElem?_map, hj]))
  rw [nm_length, hn, nm_bytes] at hl
  show (Extern.Bytes.loadBytes ⟨p, 0, none⟩ n .empty).run P w = _
  rw [hl, show ByteArray.empty.data = #[] from rfl, Array.empty_append]
theorem run_compare_hv {P : Program} (w : World) (x y : List UInt8) (p q n c m d : Nat) (hx : x.length = n) (hy : y.length = m) (hp : w.rangeAt p 0 (us (nmb x))) (hq : w.rangeAt q 0 (us (nmb y))) :
    (Extern.BytealgCompare.compare #[.slice (some ⟨p, 0, none⟩) n c, .slice (some ⟨q, 0, none⟩) m d]).run P w = .ok (.int .i64 (Lib.compareBytes x y)) w := by
  change Sem.run P (do pure (goInt (Extern.BytealgCompare.cmp (← Extern.Bytes.bytesOf (.slice (some ⟨p, 0, none⟩) n c)) (← Extern.Bytes.bytesOf (.slice (some ⟨q, 0, none⟩) m d))))) w = _
  simp only [Sem.run_bind, Sem.run_pure, Result.andThen, run_bytes_hv w x p n c hx hp, run_bytes_hv w y q m d hy hq, Lib.cmp_eq]
  rfl
set_option maxRecDepth 20000 in
theorem bcmp_any (w : World) (x y : List UInt8) (p q n c m d : Nat) (hx : x.length = n) (hy : y.length = m) (hp : w.rangeAt p 0 (us (nmb x))) (hq : w.rangeAt q 0 (us (nmb y))) :
    Calls Tryz.prog 126 #[.slice (some ⟨p, 0, none⟩) n c, .slice (some ⟨q, 0, none⟩) m d] w fun e w' => e = .returned (.int .i64 (Lib.compareBytes x y)) ∧ w = w' := by
  have hrun := run_compare_hv (P := Tryz.prog) w x y p q n c m d hx hy hp hq
  generalize Lib.compareBytes x y = r at *
  have HRUN := Lib.hid hrun
  clear hrun hp hq hx hy
  go_enter Tryz.func126, Tryz.ntmps126
  go_wp2
  rw [run_callFunc_extern Tryz.func140 (by kernel_rfl) (by kernel_rfl) (by kernel_rfl) (e := Extern.BytealgCompare.compare) (by kernel_rfl), HRUN.out]
  simp only [Result.andThen]
  rw [Oper.upon_value]
  go_wp2
  go_ret
  exact ⟨rfl, rfl⟩

theorem range_new' (w : World) (l : List UInt8) (t : TypeId) : (w.alloc (.cells (hv l) t)).rangeAt w.heap.size 0 (us (nmb l)) := by
  have := range_new w (hv l) t
  rwa [hv_list] at this
theorem range_keep {w w' : World} {p : Nat} {vs : List Value} (h : w.rangeAt p 0 vs) (hb : w'.heap[p]? = w.heap[p]?) : w'.rangeAt p 0 vs := fun j v hj => by
  rw [World.cell?_of_block (w := w) (a := ⟨p, 0 + j, none⟩) hb]; exact h j v hj

theorem range_drew {w : World} {n p : Nat} {vs : List Value} (h : w.rangeAt p 0 vs) : (w.drewN n).rangeAt p 0 vs := h
theorem compare_to (w : World) (x y : List UInt8) (hx : x.length = 32) (hy : y.length = 32) : Calls Tryz.prog 112 #[.agg (hv x), .agg (hv y)] w fun e w' =>
    e = .returned (.int .i64 (Lib.compareBytes x y)) ∧ ∃ q, w' = ((w.alloc (.cells (hv x) 31)).alloc (.cells (hv y) 31)).drewN q := by
  have h1 := range_new' w x 31
  have h2 := range_new' (w.alloc (.cells (hv x) 31)) y 31
  have h3 : ((w.alloc (.cells (hv x) 31)).alloc (.cells (hv y) 31)).rangeAt w.heap.size 0 (us (nmb x)) := range_keep h1 (Below.heap_alloc _ _ _ (by simp))
  rw [show (w.alloc (.cells (hv x) 31)).heap.size = w.heap.size + 1 from by simp] at h2
  have H2 := Lib.hid h2
  have H3 := Lib.hid h3
  have HX := Lib.hid hx
  have HY := Lib.hid hy
  clear h1 h2 h3 hx hy
  go_enter Tryz.func112, Tryz.ntmps112
  go_wp2_with fail
  go_quiet ((go_at_call 126; exact Calls.quiet_of_same ((bcmp_any (World.drewN _ _) x y _ _ _ _ _ _ HX.out HY.out (range_drew H3.out) (range_drew H2.out)).mono fun _ _ h => ⟨h.1, h.2.symm⟩)))
  go_wp2
  go_ret
  exact ⟨rfl, _, rfl⟩

attribute [local go_sem ↓] hld_open
end Go.Proofs.YtnpeahbbcolfmaaGreatDoor
namespace Go.Proofs.YtnpeahbbcolfmaaGreatDoor
open Go.RowKit
/-- Two hashes are compared: one step. -/
noncomputable def heqS (a b : Array Value) : Sem Value := binOp .eql 31 (.agg a) (.agg b)
theorem heq_open (a b : Array Value) : binOp .eql 31 (.agg a) (.agg b) = heqS a b := rfl
noncomputable def hneS (a b : Array Value) : Sem Value := binOp .neq 31 (.agg a) (.agg b)
theorem hne_open (a b : Array Value) : binOp .neq 31 (.agg a) (.agg b) = hneS a b := rfl
theorem heq_guard (x y : Operand) (a b : Array Value) (w : World) : (eqGuard .eql 31 x y (.agg a) (.agg b)).run Tryz.prog w = .ok () w := run_eqGuard_agg _ _ _ _ _ _ _ (by kernel_rfl)
theorem hne_guard (x y : Operand) (a b : Array Value) (w : World) : (eqGuard .neq 31 x y (.agg a) (.agg b)).run Tryz.prog w = .ok () w := run_eqGuard_agg _ _ _ _ _ _ _ (by kernel_rfl)

theorem u8_beq (x y : UInt8) : (((x.toNat : Int)) == ((y.toNat : Int))) = (x == y) := by
  rw [Bool.eq_iff_iff, beq_iff_eq, beq_iff_eq]
  constructor
  · intro h; exact UInt8.toNat_inj.1 (by omega)
  · intro h; rw [h]
theorem items_hv (a b : List UInt8) (ha : a.length = 32) (hb : b.length = 32) (w : World) : ∀ is : List Nat, (∀ j ∈ is, j < 32) →
    (Op.eqItems 9999 5 1 (hv a) (hv b) is).run Tryz.prog w = .ok (is.all fun j => a.getD j 0 == b.getD j 0) w := by
  intro is
  induction is with
  | nil => intro _; simp [Op.eqItems]
  | cons j is ih =>
    intro h
    have hj : j < 32 := h j (List.mem_cons_self ..)
    have hja : j < a.length := by omega
    have hjb : j < b.length := by omega
    have p1 : (part 5 (hv a) (j * 1)).run Tryz.prog w = .ok (.int .u8 (a[j].toNat : Int)) w := run_part_plain w (by kernel_rfl) (by rw [Nat.mul_one]; exact hv_get hja)
    have p2 : (part 5 (hv b) (j * 1)).run Tryz.prog w = .ok (.int .u8 (b[j].toNat : Int)) w := run_part_plain w (by kernel_rfl) (by rw [Nat.mul_one]; exact hv_get hjb)
    have he := run_equalIn_int (P := Tryz.prog) w 9998 5 .u8 .u8 (a[j].toNat : Int) (b[j].toNat : Int) Tryz.underlying5
    simp only [Op.eqItems, Sem.run_bind, p1, p2, Result.andThen_ok, he, u8_beq]
    rw [List.all_cons, show a.getD j 0 = a[j] from by simp [List.getD, hja], show b.getD j 0 = b[j] from by simp [List.getD, hjb]]
    cases hc : a[j] == b[j] with
    | false => simp
    | true => simpa using ih fun k hk => h k (List.mem_cons_of_mem _ hk)
theorem all_eq (a b : List UInt8) (ha : a.length = 32) (hb : b.length = 32) : ((List.range 32).all fun j => a.getD j 0 == b.getD j 0) = decide (a = b) := by
  rw [Bool.eq_iff_iff, decide_eq_true_eq, List.all_eq_true]
  constructor
  · intro h
    refine List.ext_getElem (by omega) fun j h1 h2 => ?_
    have := h j (List.mem_range.2 (by omega))
    rw [beq_iff_eq, show a.getD j 0 = a[j] from by simp [List.getD, h1], show b.getD j 0 = b[j] from by simp [List.getD, h2]] at this
    exact this
  · rintro rfl j _; simp
theorem equal_hv (a b : List UInt8) (ha : a.length = 32) (hb : b.length = 32) (w : World) : (Op.equalIn 10000 31 (.agg (hv a)) (.agg (hv b))).run Tryz.prog w = .ok (decide (a = b)) w := by
  obtain ⟨i, hi⟩ : ∃ i, Tryz.prog.info? 5 = some i := by
    cases h : Tryz.prog.info? 5 with
    | none => have := u8info; rw [h] at this; cases this
    | some i => exact ⟨i, rfl⟩
  have hc : Tryz.prog.cellsOf 5 = 1 := by kernel_rfl
  rw [run_equalIn_array w 9999 (hv a) (hv b) Tryz.underlying31 hi, hc, items_hv a b ha hb w _ (fun j hj => List.mem_range.1 hj), all_eq a b ha hb]
theorem heq_hv {a b : List UInt8} (ha : a.length = 32) (hb : b.length = 32) (w : World) : (heqS (hv a) (hv b)).run Tryz.prog w = .ok (.bool (decide (a = b))) w := by
  show (binOp .eql 31 (.agg (hv a)) (.agg (hv b))).run Tryz.prog w = _
  rw [run_eql_struct, equal_hv a b ha hb]
  rfl
theorem hne_hv {a b : List UInt8} (ha : a.length = 32) (hb : b.length = 32) (w : World) : (hneS (hv a) (hv b)).run Tryz.prog w = .ok (.bool (!decide (a = b))) w := by
  show (binOp .neq 31 (.agg (hv a)) (.agg (hv b))).run Tryz.prog w = _
  rw [run_neq_struct, equal_hv a b ha hb]
  rfl
end Go.Proofs.YtnpeahbbcolfmaaGreatDoor
namespace Go.Proofs.YtnpeahbbcolfmaaGreatDoor
open Go.RowKit
/-- The bytes of the first k pairs, and zeros. -/
def pd (s : List UInt8) (k : Nat) : List Value := us (nmb (unh (s.take (2 * k)))) ++ List.replicate (32 - k) (.int .u8 0)
end Go.Proofs.YtnpeahbbcolfmaaGreatDoor
namespace Go.Proofs.YtnpeahbbcolfmaaGreatDoor
open Go.RowKit
theorem hzinfo : (Tryz.prog.info? 31).map (fun i => (i.zero, i.size, i.bytes)) = some (some (.agg hzer), 32, 32) := by kernel_rfl

/-- The slice v holds the hashes E. -/
def HSeen (w : World) (v : Value) (E : List (List UInt8)) : Prop :=
  (v = .slice none 0 0 ∧ E = []) ∨ ∃ a cap, v = .slice (some a) E.length cap ∧ E.length ≤ cap ∧ ∀ j u, (fl E)[j]? = some u → w.cell? (a.add j) = some u
/-- It owns them. -/
abbrev HOwn (w : World) (B : Nat) (v : Value) (E : List (List UInt8)) : Prop := w.ownsRow B 31 32 v E.length (fl E)
theorem HSeen.own {w : World} {B : Nat} {v : Value} {E : List (List UInt8)} (h : HOwn w B v E) : HSeen w v E := by
  have hc : ∀ g, v.ownBlock = some g → _ := fun g hg => h.cells (g := g) hg
  rcases h.2 with ⟨rfl, h0⟩ | ⟨g, cap, cur, rfl, _, _, hn, _⟩
  · exact .inl ⟨rfl, List.eq_nil_of_length_eq_zero h0⟩
  · exact .inr ⟨_, cap, rfl, hn, hc _ rfl⟩
/-- The block of an owned row. -/
theorem HOwn.row {w : World} {B : Nat} {v : Value} {E : List (List UInt8)} (h : HOwn w B v E) (h0 : 0 < E.length) : ∃ g cap R, v = .slice (some ⟨g, 0, none⟩) E.length cap ∧ B ≤ g ∧ w.heap[g]? = some (.cells (fl E ++ R).toArray 31 (0, 0)) ∧ E.length ≤ cap ∧ cap ≤ maxLen ∧ R.length = (cap - E.length) * 32 := by
  rcases h.2 with ⟨_, hn⟩ | ⟨g, cap, cur, rfl, hb, hg, hn, hm, hs, ht⟩
  · omega
  · refine ⟨g, cap, cur.toList.drop (E.length * 32), rfl, hb, ?_, hn, hm, ?_⟩
    · rw [← ht, List.take_append_drop]; simpa using hg
    · rw [List.length_drop, Array.length_toList, hs, Nat.sub_mul]
theorem hown_mk {w : World} {B g cap n : Nat} {E : List (List UInt8)} {R : List Value} (hE : H32 E) (hn : n = E.length) (hb : B ≤ g) (hg : w.heap[g]? = some (.cells (fl E ++ R).toArray 31 (0, 0))) (hc : E.length ≤ cap) (hm : cap ≤ maxLen) (hR : R.length = (cap - E.length) * 32) : HOwn w B (.slice (some ⟨g, 0, none⟩) n cap) E := by
  subst hn
  refine ⟨fl_length hE, .inr ⟨g, cap, (fl E ++ R).toArray, rfl, hb, hg, hc, hm, ?_, ?_⟩⟩
  · show (fl E ++ R).length = cap * 32
    rw [List.length_append, fl_length hE, hR, ← Nat.add_mul]
    congr 1; omega
  · rw [show (fl E ++ R).toArray.toList = fl E ++ R from rfl, ← fl_length hE, List.take_left]

set_option maxRecDepth 20000 in
set_option maxHeartbeats 800000 in
theorem hclone_any (w : World) (v : Value) (E : List (List UInt8)) (hE : H32 E) (hl : E.length * 32 ≤ 140737488355328) (hs : HSeen w v E) :
    Calls Tryz.prog 37 #[v] w fun e w' => ∃ v', e = .returned v' ∧ HOwn w' w.heap.size v' E ∧ Below w.heap.size w w' := by
  obtain ⟨i0, hi0, hz0, hz1, hz2⟩ := info_parts hzinfo
  rcases hs with ⟨rfl, rfl⟩ | ⟨a, cap, rfl, hc, hu⟩
  · have hn1 : ∀ w : World, (binOp .eql 32 (.slice none 0 0) (.slice none 0 0)).run Tryz.prog w = .ok (.bool true) w := fun w => Lib.run_eql_slice_nil w _ _ none _ _ _ _ Tryz.underlying32
    clear hl hE
    go_enter Tryz.func37, Tryz.ntmps37
    go_wp2
    go_ret
    exact ⟨_, rfl, World.ownsRow_nil _ _ _ _, Below.refl _ _⟩
  · have hown := World.ownsRow_made (base := w.heap.size) (e := 31) (size := 32) w #[] 0 (Nat.le_refl _) (by decide) rfl
    have hn1 : ∀ w : World, (binOp .eql 32 (.slice (some a) E.length cap) (.slice none 0 0)).run Tryz.prog w = .ok (.bool false) w := fun w => Lib.run_eql_slice_nil w _ _ (some a) _ _ _ _ Tryz.underlying32
    have hnews : Hid (∀ j u, (fl E)[j]? = some u → (w.alloc (.cells #[] 31)).cell? (a.add j) = some u) := Lib.hid fun j u hj => by
      have h1 := hu j u hj
      have h2 := World.block_lt_of_cell? w _ h1
      rw [World.cell?_of_block (w := w) (Below.heap_alloc w _ _ h2)]; exact h1
    have HE := Lib.hid (fl_length hE)
    clear hu hE
    go_enter Tryz.func37, Tryz.ntmps37
    go_wp2_with (at_builtin; refine wpList_append_own _ (by rfl) (.tmp 5) (.tmp 6) _ (by rfl) w.heap.size 31 i0 _ 32 32 Tryz.underlying32 hi0 hz0 hz1 hz2 rfl (by omega) (.slice (some ⟨w.heap.size, 0, none⟩) 0 0) 0 [] (by rfl) hown a E.length cap (fl E) (by rfl) HE.out hnews.out (fl_one' E) (by simp [maxLen]; omega) (by omega) (by simp) ?_; intro v' w' hown' hgrow _)
    go_ret
    exact ⟨v', rfl, by simpa using hown', ((Below.refl _ _).alloc (Nat.le_refl _) _).grown hgrow (by simp) (by intro k hk; cases hk; exact Nat.le_refl _)⟩
end Go.Proofs.YtnpeahbbcolfmaaGreatDoor
namespace Go.Proofs.YtnpeahbbcolfmaaGreatDoor
open Go.RowKit
attribute [local go_sem ↓] hld_open heq_open hne_open
theorem hzer_rep : hzer = Array.replicate 32 (.int .u8 0) := rfl
theorem fl_zero : ∀ n, fl (List.replicate n hz) = List.replicate (n * 32) (.int .u8 0)
  | 0 => rfl
  | n + 1 => by
    rw [List.replicate_succ, fl_cons, fl_zero n, show us (nmb hz) = List.replicate 32 (.int .u8 0) from rfl, List.replicate_append_replicate]
    congr 1; omega
theorem clear_hash (w : World) (ty : TypeId) (g o n c : Nat) (hn : 0 < n) (ht : w.there g o (n * 32)) :
    (Builtin.clear_ #[32] ty #[.slice (some ⟨g, o, none⟩) n c]).run Tryz.prog w = .ok (.tuple #[]) (w.setCells g o (fl (List.replicate n hz))) := by
  have hv : ∀ w, (zeroValue 31).run Tryz.prog w = .ok (.agg hzer) w := fun w => by kernel_rfl
  have hzc : (Builtin.zeroCells (Value.agg hzer).cells n).toList = fl (List.replicate n hz) := by
    rw [fl_zero, show (Value.agg hzer).cells = hzer from rfl, hzer_rep]
    apply List.ext_getElem
    · simp [Builtin.zeroCells]
    · intro i h1 h2
      have : i % 32 < 32 := by omega
      simp [Builtin.zeroCells, this]
  have hst := run_storeCells_cells (P := Tryz.prog) g o (fl (List.replicate n hz)) 0 w (fun j hj => by
      rw [fl_zero, List.length_replicate] at hj
      have := (ht j hj).1
      rwa [Nat.add_zero]) (fun j hj => by
      rw [fl_zero, List.length_replicate] at hj
      have := (ht j hj).2
      rwa [Nat.add_zero]) (fl_one' _)
  simp only [Nat.add_zero] at hst
  obtain ⟨m, rfl⟩ : ∃ m, n = m + 1 := ⟨n - 1, by omega⟩
  simp [Builtin.clear_, run_underlying Tryz.underlying32, hv, hzc, hst]

theorem row_range {w : World} {g i : Nat} {E : List (List UInt8)} {R : List Value} {t : TypeId} (hE : H32 E) (hi : i < E.length) (h : w.heap[g]? = some (.cells (fl E ++ R).toArray t (0, 0))) : w.rangeAt g (i * 32) (us (nmb E[i])) := fun j v hv => by
  have hj : j < 32 := by have := (List.getElem?_eq_some_iff.1 hv).1; rwa [usn_length, hE.at hi] at this
  rw [cell_of_row w g _ _ _ _ h, List.getElem?_toArray, List.getElem?_append_left (by rw [fl_length hE]; omega), fl_at hE hi hj]
  exact hv
theorem row_there {w : World} {g o n : Nat} {C : List Value} {t : TypeId} (h : w.heap[g]? = some (.cells C.toArray t (0, 0))) (hl : o + n ≤ C.length) : w.there g o n := fun j hj => by
  constructor
  · rw [cell_of_row w g _ _ _ _ h, List.getElem?_toArray, List.getElem?_eq_getElem (by omega)]; rfl
  · simp [World.frozen?, h]
theorem hld_at {w : World} {g i : Nat} {E : List (List UInt8)} {R : List Value} {t : TypeId} (hE : H32 E) (hi : i < E.length) (h : w.heap[g]? = some (.cells (fl E ++ R).toArray t (0, 0))) (q : Nat) : (hld ⟨g, i * 32, none⟩).run Tryz.prog (w.drewN q) = .ok (.agg (hv E[i])) (w.drewN q) :=
  hld_range (hE.at hi) (w := w.drewN q) (row_range hE hi h)

/-- What Compact leaves. -/
def CPost (w : World) (g cap : Nat) (E : List (List UInt8)) (e : Ending) (w' : World) : Prop :=
  e = .returned (.slice (some ⟨g, 0, none⟩) (cpt E).length cap) ∧ ∃ R', w'.heap[g]? = some (.cells (fl (cpt E) ++ R').toArray 31 (0, 0)) ∧ R'.length = (cap - (cpt E).length) * 32 ∧ Only (fun k => k = g) w w'
theorem cpost_same {w : World} {g cap n : Nat} {E : List (List UInt8)} {R : List Value} (hn : n = E.length) (hc : cpt E = E) (hg : w.heap[g]? = some (.cells (fl E ++ R).toArray 31 (0, 0))) (hR : R.length = (cap - E.length) * 32) (q : Nat) :
    CPost w g cap E (.returned (.slice (some ⟨g, 0, none⟩) n cap)) (w.drewN q) := by
  subst hn
  unfold CPost
  rw [hc]
  exact ⟨rfl, R, hg, hR, rfl, rfl, rfl, Nat.le_refl _, fun _ _ _ => rfl⟩

/-- Behind the first two that are alike: what is written, what is not read yet. -/
structure CInv (w : World) (g : Nat) (E : List (List UInt8)) (R : List Value) (kk m : Nat) (D : List (List UInt8)) (W : World) : Prop where
  h32 : H32 D
  len : D.length = E.length
  done : D.take kk = cpt (E.take m)
  rest : D.drop (m - 1) = E.drop (m - 1)
  row : W.heap[g]? = some (.cells (fl D ++ R).toArray 31 (0, 0))
  only : Only (fun k => k = g) w W
theorem CInv.at {w : World} {g kk m : Nat} {E D : List (List UInt8)} {R : List Value} {W : World} (h : CInv w g E R kk m D W) {i : Nat} (hi : m - 1 ≤ i) (h1 : i < D.length) (h2 : i < E.length) : D[i] = E[i] := by
  have e := congrArg (fun l => l[i - (m - 1)]?) h.rest
  simp only [List.getElem?_drop, show m - 1 + (i - (m - 1)) = i from by omega, List.getElem?_eq_getElem h1, List.getElem?_eq_getElem h2, Option.some.injEq] at e
  exact e
theorem CInv.skip {w : World} {g kk m : Nat} {E D : List (List UInt8)} {R : List Value} {W : World} (h : CInv w g E R kk m D W) (q : Nat) (m0 : 0 < m) (hm : m < E.length) (he : E[m] = E[m - 1]) : CInv w g E R kk (m + 1) D (W.drewN q) := by
  refine ⟨h.h32, h.len, ?_, ?_, h.row, ⟨h.only.os, h.only.tape, h.only.output, h.only.size, h.only.block⟩⟩
  · rw [cpt_step m0 hm, if_pos he, List.append_nil]; exact h.done
  · have := congrArg (List.drop 1) h.rest
    rw [List.drop_drop, List.drop_drop] at this
    rwa [show m - 1 + 1 = m + 1 - 1 from by omega] at this
theorem CInv.keep {w : World} {g kk m : Nat} {E D : List (List UInt8)} {R : List Value} {W : World} (h : CInv w g E R kk m D W) (q : Nat) (m0 : 0 < m) (hm : m < E.length) (hk : kk < m) (hE : H32 E) (he : ¬ E[m] = E[m - 1]) :
    CInv w g E R (kk + 1) (m + 1) (D.set kk E[m]) ((W.drewN q).setCells g (kk * 32) (us (nmb E[m]))) := by
  have hl := h.len
  have h1 := cells_puts (us (nmb E[m])) (kk * 32) (fl D ++ R) (W.drewN q) h.row (by rw [usn_length, hE.at hm, List.length_append, fl_length h.h32]; omega)
  rw [puts_fl h.h32 R (by omega) (hE.at hm)] at h1
  refine ⟨h.h32.set (hE.at hm), by rw [List.length_set, hl], ?_, ?_, h1, Only.setCells (S := fun k => k = g) (b := g) rfl _ _ ⟨h.only.os, h.only.tape, h.only.output, h.only.size, h.only.block⟩⟩
  · rw [cpt_step m0 hm, if_neg he, ← h.done, List.take_succ_eq_append_getElem (by rw [List.length_set]; omega), List.getElem_set_self, List.take_set_of_le (Nat.le_refl _)]
  · have := congrArg (List.drop 1) h.rest
    rw [List.drop_drop, List.drop_drop, show m - 1 + 1 = m + 1 - 1 from by omega] at this
    rw [List.drop_set_of_lt (by omega)]
    exact this
theorem CInv.ended {w : World} {g kk n cap : Nat} {E D : List (List UInt8)} {R : List Value} {W : World} (h : CInv w g E R kk n D W) (hn : n = E.length) (hk : kk < n) (hc : E.length ≤ cap) (hR : R.length = (cap - E.length) * 32) :
    CPost w g cap E (.returned (.slice (some ⟨g, 0, none⟩) kk cap)) (W.setCells g (kk * 32) (fl (List.replicate (n - kk) hz))) := by
  subst hn
  have hl := h.len
  have hd := h.done
  rw [List.take_of_length_le (Nat.le_refl _)] at hd
  have hkl : kk = (cpt E).length := by rw [← hd, List.length_take]; omega
  have hz32 : H32 (List.replicate (E.length - kk) hz) := fun x hx => by rw [List.eq_of_mem_replicate hx]; rfl
  have h1 := cells_puts (fl (List.replicate (E.length - kk) hz)) (kk * 32) (fl D ++ R) W h.row (by rw [fl_length hz32, List.length_replicate, List.length_append, fl_length h.h32]; omega)
  rw [puts_zero h.h32 R (by omega), fl_app, hd, List.append_assoc] at h1
  refine ⟨by rw [← hkl], _, h1, ?_, Only.setCells (S := fun k => k = g) (b := g) rfl _ _ h.only⟩
  rw [List.length_append, fl_length hz32, List.length_replicate, hR, ← Nat.add_mul, ← hkl]
  congr 1; omega

set_option maxRecDepth 20000 in
set_option maxHeartbeats 4000000 in
theorem hcompact_to (w : World) (g cap : Nat) (E : List (List UInt8)) (hE : H32 E) (R : List Value) (hg : w.heap[g]? = some (.cells (fl E ++ R).toArray 31 (0, 0))) (hc : E.length ≤ cap) (hm : cap ≤ maxLen) (hR : R.length = (cap - E.length) * 32) :
    Calls Tryz.prog 113 #[.slice (some ⟨g, 0, none⟩) E.length cap] w (CPost w g cap E) := by
  unfold maxLen at hm
  have HE := Lib.hid hE
  have HG := Lib.hid hg
  have HR := Lib.hid hR
  have hgd := heq_guard
  have hgd2 := hne_guard
  clear hE hg hR
  obtain ⟨n, hn⟩ : ∃ n, n = E.length := ⟨_, rfl⟩
  rw [← hn] at hc ⊢
  have HN := Lib.hid hn
  clear hn
  by_cases h2 : n < 2
  · have hcc : cpt E = E := cpt_none E (fun i hi => by have := HN.out; omega)
    have HCC := Lib.hid hcc
    clear hcc
    go_enter Tryz.func113, Tryz.ntmps113
    go_wp2
    go_ret
    exact cpost_same HN.out HCC.out HG.out HR.out 0
  · go_enter Tryz.func113, Tryz.ntmps113
    go_wp2
    go_loopw [3] (fun i wr => ∃ (k : Nat), 1 ≤ k ∧ k ≤ n ∧ i = .int .i64 k ∧ Hid (∀ i, (h : i + 1 < E.length) → i + 1 < k → E[i + 1] ≠ E[i]) ∧ ∃ q, wr = w.drewN q) (fun i _ => n - (intOf i).toNat)
    case atStart => exact ⟨1, Nat.le_refl _, by omega, rfl, Lib.hid (fun i _ h => by omega), 0, rfl⟩
    case round =>
      obtain ⟨k, k1, k2, rfl, HK, q, rfl⟩ := hrel
      by_cases hlt : k < n
      · have hkE : k < E.length := by rw [← HN.out]; exact hlt
        have hk1E : k - 1 < E.length := by rw [← HN.out]; omega
        have l1 := fun m => hld_at HE.out hkE HG.out m
        have l2 := fun m => hld_at HE.out hk1E HG.out m
        have heq := heq_hv (HE.out.at hkE) (HE.out.at hk1E)
        have hk' : (k : Int) < n := by omega
        have m1 : IntKind.i64.wrap ((k : Int) - 1) = (k : Int) - 1 := IntWalk.i64_in _ (by omega)
        have m2 : (0 : Int) ≤ (k : Int) - 1 := by omega
        have m2' : (1 : Int) ≤ (k : Int) := by omega
        have m3 : ((k : Int) - 1).toNat = k - 1 := by omega
        have m4 : (k : Int) - 1 < n := by omega
        by_cases hdup : E[k]'hkE = E[k - 1]'hk1E
        · rw [decide_eq_true hdup] at heq
          have HD := Lib.hid hdup
          clear hdup
          go_wp2_with fail
          go_quiet (fail)
          go_wp2_with fail
          have hst0 : CInv w g E R k (k + 1) E (w.drewN (q + nq)) := by
            refine ⟨HE.out, rfl, ?_, rfl, HG.out, rfl, rfl, rfl, Nat.le_refl _, fun _ _ _ => rfl⟩
            rw [cpt_step (by omega) hkE, if_pos HD.out, List.append_nil]
            exact (cpt_none _ (fun i hi => by
              rw [List.getElem_take, List.getElem_take]
              rw [List.length_take] at hi
              exact HK.out i (by omega) (by omega))).symm
          have HS0 := Lib.hid hst0
          clear l1 l2 heq m1 m2 m3 m4 m2' hst0
          go_loopw [3, 5] (fun kv jv wr => ∃ (kk j : Nat) (D : List (List UInt8)), kv = .int .i64 kk ∧ jv = .int .i64 j ∧ 1 ≤ j ∧ j ≤ n - k ∧ kk + 1 ≤ k + j ∧ Hid (CInv w g E R kk (k + j) D wr)) (fun _ j _ => n - k - (intOf j).toNat)
          case atStart => exact ⟨k, 1, E, rfl, rfl, Nat.le_refl _, by omega, by omega, HS0⟩
          case round =>
            obtain ⟨kk, j, D, rfl, rfl, j1, j2, j3, HI⟩ := hrel
            by_cases hj : j < n - k
            · have hmE : k + j < E.length := by rw [← HN.out]; omega
              have hmD : k + j < D.length := by rw [HI.out.len]; exact hmE
              have hmE1 : k + j - 1 < E.length := by omega
              have hmD1 : k + (j - 1) < D.length := by omega
              have l1 := fun m => hld_at HI.out.h32 (i := k + j) hmD HI.out.row m
              have l2 := fun m => hld_at HI.out.h32 hmD1 HI.out.row m
              rw [HI.out.at (i := k + j) (by omega) hmD hmE, show (k + j) * 32 = k * 32 + j * 32 from by omega] at l1
              have e1 : D[k + (j - 1)]'hmD1 = E[k + j - 1]'hmE1 := by
                have := HI.out.at (i := k + j - 1) (by omega) (by omega) hmE1
                rw [← this]
                congr 1
                omega
              rw [e1, show (k + (j - 1)) * 32 = k * 32 + (j - 1) * 32 from by omega] at l2
              have hne := hne_hv (HE.out.at hmE) (HE.out.at hmE1)
              have x32 := Lib.hid (HE.out.at hmE)
              have hj' : (j : Int) < (n - k : Nat) := by omega
              have m1 : IntKind.i64.wrap ((j : Int) - 1) = (j : Int) - 1 := IntWalk.i64_in _ (by omega)
              have m2 : (0 : Int) ≤ (j : Int) - 1 := by omega
              have m2' : (1 : Int) ≤ (j : Int) := by omega
              have m3 : ((j : Int) - 1).toNat = j - 1 := by omega
              have m4 : (j : Int) - 1 < (n - k : Nat) := by omega
              by_cases heq2 : E[k + j]'hmE = E[k + j - 1]'hmE1
              · rw [decide_eq_true heq2] at hne
                have HNX := fun q => HI.out.skip q (by omega) hmE heq2
                have HNXX := Lib.hid HNX
                clear heq2 HNX e1
                go_wp2_with fail
                go_quiet (fail)
                go_wp2_with fail
                refine ⟨⟨kk, j + 1, D, rfl, by go_num, by omega, by omega, by omega, Lib.hid (HNXX.out _)⟩, by simp [intOf]; omega⟩
              · rw [decide_eq_false heq2] at hne
                have HNX := fun q => HI.out.keep q (by omega) hmE (by omega) HE.out heq2
                have HNXX := Lib.hid HNX
                have HT : Hid (wr.there g (kk * 32) (hv E[k + j]).size) := Lib.hid (row_there HI.out.row (by rw [hv_size, x32.out, List.length_append, fl_length HI.out.h32]; omega))
                clear heq2 HNX e1
                go_wp2_with fail
                go_quiet (fail)
                go_wp2_with (refine store_to (w := World.drewN wr _) HT.out (hinfo (hv E[k + j]) (by rw [hv_size, x32.out])) (hv_one _) ?hx ?hy ?_; (case hx => rfl); (case hy => simp [Act.eval]))
                refine ⟨⟨kk + 1, j + 1, D.set kk E[k + j], by go_num, by go_num, by omega, by omega, by omega, Lib.hid ?_⟩, by simp [intOf]; omega⟩
                have := HNXX.out nq
                rw [← hv_list] at this
                exact this
            · have hjn : k + j = n := by omega
              have HI2 := Lib.hid (hjn ▸ HI.out : CInv w g E R kk n D wr)
              have hkn : kk < n := by omega
              have hcl : ∀ ty, (Builtin.clear_ #[32] ty #[.slice (some ⟨g, kk * 32, none⟩) (n - kk) (cap - kk)]).run Tryz.prog wr = .ok (.tuple #[]) (wr.setCells g (kk * 32) (fl (List.replicate (n - kk) hz))) :=
                fun ty => clear_hash wr ty g (kk * 32) (n - kk) (cap - kk) (by omega) (row_there HI2.out.row (by rw [List.length_append, fl_length HI2.out.h32, HI2.out.len, ← HN.out]; omega))
              have HJ : Hid (k + j = n) := Lib.hid hjn
              clear hjn HI
              go_wp2_with fail
              go_ret
              exact HI2.out.ended HN.out hkn (by rw [← HN.out]; exact hc) HR.out
        · rw [decide_eq_false hdup] at heq
          have HD := Lib.hid hdup
          clear hdup
          go_wp2_with fail
          go_quiet (fail)
          go_wp2_with fail
          refine ⟨⟨k + 1, by omega, by omega, by go_num, Lib.hid ?_, _, rfl⟩, by simp [intOf]; omega⟩
          intro i hi h
          by_cases hik : i + 1 < k
          · exact HK.out i hi hik
          · obtain rfl : k = i + 1 := by omega
            exact HD.out
      · have : k = n := by omega
        subst this
        have hcc : cpt E = E := cpt_none E (fun i hi => HK.out i hi (by have := HN.out; omega))
        have HCC := Lib.hid hcc
        clear hcc
        go_wp2
        go_ret
        exact cpost_same HN.out HCC.out HG.out HR.out q
end Go.Proofs.YtnpeahbbcolfmaaGreatDoor
namespace Go.Proofs.YtnpeahbbcolfmaaGreatDoor
open Go.RowKit
variable {ops : Array Oper} {rest : List Oper} {a : Act} {w : World} {Q : Exit → Act → World → Prop} {dst : Option Tmp} {T : TypeId} {pos : String} {after : Array Edge}
theorem fl_flat (E : List (List UInt8)) : (E.map fun h => Value.agg (hv h)).flatMap (fun v => v.cells.toList) = fl E := by
  rw [List.flatMap_map]
  unfold fl
  congr 1
end Go.Proofs.YtnpeahbbcolfmaaGreatDoor
namespace Go.Proofs.YtnpeahbbcolfmaaGreatDoor
open Go.RowKit
attribute [local go_sem ↓] hld_open heq_open
end Go.Proofs.YtnpeahbbcolfmaaGreatDoor
namespace Go.Proofs.YtnpeahbbcolfmaaGreatDoor
open Go.RowKit
attribute [local go_sem ↓] hld_open heq_open hne_open
theorem rput_length (h : List UInt8) : ∀ l, (rput l h).length ≤ l.length + 1
  | [] => by simp [rput]
  | x :: l => by
    have ih := rput_length h l
    rw [rput]
    split
    · simp; omega
    · split <;> simp
theorem rsort_length : ∀ l, (rsort l).length ≤ l.length := by
  intro l
  have : ∀ s, (l.foldl rput s).length ≤ s.length + l.length := by
    induction l with
    | nil => intro s; simp
    | cons x l ih => intro s; have h1 := ih (rput s x); have h2 := rput_length x s; simp at h1 ⊢; omega
  simpa [rsort] using this []

end Go.Proofs.YtnpeahbbcolfmaaGreatDoor
namespace Go.Proofs.YtnpeahbbcolfmaaGreatDoor
open Go.RowKit
open Go.Maps
theorem hlaw : WideMaps.KeyLaw Tryz.prog 31 := deep_law (m := 2) (by decide) (by kernel_rfl) (by kernel_rfl) (by rw [Tryz.underlying31])
theorem hkeyed : Keyed Tryz.prog 31 := Keyed.of_law hlaw
theorem bytes_one (b : UInt8) : (Lit.int IntKind.u8 (b.toNat : Int)).keyBytes = [b] := by
  have h : b.toNat < 256 := b.toNat_lt
  simp only [Lit.keyBytes, bytesBE, IntKind.bits, bytesLE]
  have e : ((b.toNat : Int) % 256).toNat % 256 = b.toNat := by omega
  simp [e]
theorem bytes_hash : ∀ h : Key, keyBytes (h.map fun b => Lit.int IntKind.u8 (b.toNat : Int)) = h
  | [] => rfl
  | b :: h => by
    have ih := bytes_hash h
    unfold keyBytes at ih ⊢
    rw [List.map_cons, List.flatMap_cons, ih, bytes_one]; rfl
theorem lits_hash (d : Nat) (h : Key) (hl : h.length = 32) : Tryz.prog.keyLits (d + 2) 31 (us (nmb h)) = some (h.map fun b => Lit.int IntKind.u8 (b.toNat : Int)) := by
  have c1 : Tryz.prog.cellsOf 31 = 32 := by kernel_rfl
  have c2 : Tryz.prog.cellsOf 5 = 1 := by kernel_rfl
  unfold Program.keyLits
  have hlen : (us (nmb h)).length = 32 := by rw [usn_length, hl]
  simp only [Tryz.underlying31, c1, c2, hlen, if_true]
  have hm : (List.range 32).mapM (fun i => Tryz.prog.keyLits (d + 1) 5 (((us (nmb h)).drop (i * 1)).take 1)) = some ((List.range 32).map fun i => [Lit.int IntKind.u8 ((h.getD i 0).toNat : Int)]) := by
    refine ChangeShapes.mapM_range_of 32 fun i hi => ?_
    have hi' : i < h.length := by omega
    have e : ((us (nmb h)).drop (i * 1)).take 1 = [.int .u8 ((h.getD i 0).toNat : Int)] := by
      rw [Nat.mul_one, List.take_one, List.head?_drop]
      simp [us, nmb, hi', List.getD]
    rw [e]
    unfold Program.keyLits
    have hw : (Lit.int IntKind.u8 ((h.getD i 0).toNat : Int)).wf = true := by
      generalize h.getD i 0 = x
      have := x.toNat_lt
      have h1 : (0 : Int) ≤ (x.toNat : Int) := by omega
      have h2 : (x.toNat : Int) ≤ 255 := by omega
      exact Bool.and_eq_true_iff.2 ⟨decide_eq_true h1, decide_eq_true h2⟩
    simp only [Tryz.underlying5]
    rw [if_pos ⟨trivial, hw⟩]
  rw [hm]
  simp only [Option.map_some, Option.some.injEq]
  have e2 : ∀ n, ((List.range n).map fun i => [Lit.int IntKind.u8 ((h.getD i 0).toNat : Int)]).flatten = (List.range n).map fun i => Lit.int IntKind.u8 ((h.getD i 0).toNat : Int) := fun n => by
    induction n with
    | zero => rfl
    | succ n ih => rw [List.range_succ, List.map_append, List.map_append, List.flatten_append, ih]; simp
  rw [e2, ← hl]
  apply List.ext_getElem
  · simp
  · intro i h1 h2
    simp at h1
    simp [List.getD, h1]
theorem hkey (h : Key) (hl : h.length = 32) : keyOf Tryz.prog 31 (.agg (hv h)) = some (.string h) := by
  obtain ⟨n, hn⟩ : ∃ n, Tryz.prog.types.size + 1 = n + 2 := by
    obtain ⟨m, hm⟩ : ∃ m, Tryz.prog.types.size = m + 1 := ⟨Tryz.prog.types.size - 1, by kernel_rfl⟩
    exact ⟨m, by omega⟩
  have hk : Tryz.prog.keyType 31 = true := by kernel_rfl
  have c1 : Tryz.prog.cellsOf 31 = 32 := by kernel_rfl
  have hf : (Value.agg (hv h)).formed Tryz.prog 31 = true := by
    simp [Value.formed, Tryz.underlying31, c1, hv_size, hl]
  unfold keyOf
  simp only [Tryz.underlying31, hk, hf, Bool.and_self, if_true]
  rw [show (Value.agg (hv h)).cells = hv h from rfl, hv_list, hn, lits_hash n h hl]
  simp [bytes_hash]

/-- What a map of values by hash reads as. -/
abbrev Kv := List (Key × Value)
def mapV (M : Kv) : DataW Value := .map (M.map fun e => (.string e.1, .held e.2))
theorem mapV_ins (n : Key) (x : Value) : ∀ M : Kv, DataW.insert (Lit.string n, DataW.held x) (M.map fun e => (Lit.string e.1, DataW.held e.2)) = (ains (n, x) M).map fun e => (Lit.string e.1, DataW.held e.2)
  | [] => rfl
  | y :: L => by
    have ih := mapV_ins n x L
    simp only [ains, List.map_cons, DataW.insert, Lit.before] at ih ⊢
    by_cases hb : bytesBefore n y.1 = true
    · simp [hb]
    · simp [hb, ih]
theorem mapV_del (n : Key) (M : Kv) : (mapV M).del (.string n) = mapV (adel n M) := by
  unfold mapV DataW.del adel
  simp only [List.filter_map]
  rfl
theorem mapV_put (n : Key) (v : Value) (M : Kv) : (mapV M).put (.string n) (.held v) = mapV (aput n v M) := by
  have h := mapV_del n M
  unfold mapV DataW.del at h
  unfold mapV DataW.put
  simp only [DataW.map.injEq] at h ⊢
  rw [h]
  exact mapV_ins n v _
theorem mapV_find (n : Key) : ∀ M : Kv, ((M.map fun e => (Lit.string e.1, (DataW.held e.2 : DataW Value))).find? fun p => p.1.sameKey (.string n)) = (aget n M).map fun x => (Lit.string n, DataW.held x)
  | [] => rfl
  | y :: L => by
    have ih := mapV_find n L
    rw [List.map_cons]
    by_cases hy : (y.1 == n) = true
    · rw [List.find?_cons_of_pos (p := fun p : Lit × DataW Value => p.1.sameKey (.string n)) (by exact hy)]
      simp only [beq_iff_eq] at hy
      rw [gpos hy, hy]; rfl
    · rw [List.find?_cons_of_neg (p := fun p : Lit × DataW Value => p.1.sameKey (.string n)) (by exact hy), ih, gneg (by simpa using hy)]
theorem mapV_at (n : Key) (z : Value) (M : Kv) : (mapV M).atKey (.string n) (.held z) = .held ((aget n M).getD z) := by
  unfold mapV DataW.atKey
  simp only [mapV_find]
  cases aget n M <;> rfl
theorem mapV_has (n : Key) (M : Kv) : Maps.has (mapV M) (.string n) = (aget n M).isSome := by
  unfold mapV Maps.has
  simp only
  rw [← List.isSome_find?]
  rw [mapV_find]
  cases aget n M <;> rfl
theorem mapV_size (M : Kv) : Maps.size (mapV M) = M.length := by simp [mapV, Maps.size]

/-- Block b is the map of the values M by hash. -/
structure MpH (w : World) (b : Nat) (M : Kv) : Prop where
  own : w.ownsMap Tryz.prog 31 rdv b M.length (mapV M)
  asc : AAsc M
  h32 : ∀ p ∈ M, p.1.length = 32
theorem MpH.of {w : World} {b n : Nat} {M : Kv} (h : w.ownsMap Tryz.prog 31 rdv b n (mapV M)) (ha : AAsc M) (hh : ∀ p ∈ M, p.1.length = 32) : MpH w b M := by
  refine ⟨?_, ha, hh⟩
  obtain ⟨es, clock, h1, h2, _, h4⟩ := h
  refine ⟨es, clock, h1, h2, ?_, h4⟩
  have h5 : (mapV M) = _ := h4
  unfold mapV at h5
  have h6 := congrArg List.length (DataW.map.inj h5)
  rw [length_sorted] at h6
  simp at h6
  omega
theorem aput_h32 {M : Kv} (hh : ∀ p ∈ M, p.1.length = 32) {n : Key} (hn : n.length = 32) (v : Value) : ∀ p ∈ aput n v M, p.1.length = 32 := fun p hp => by
  rcases (ains_mem _ _ _).1 hp with rfl | hp
  · exact hn
  · exact hh p ((adel_mem _ _ _).1 hp).1
theorem adel_h32 {M : Kv} (hh : ∀ p ∈ M, p.1.length = 32) (n : Key) : ∀ p ∈ adel n M, p.1.length = 32 := fun p hp => hh p ((adel_mem _ _ _).1 hp).1
section
variable {w w' : World} {b : Nat} {M : Kv}
theorem MpH.made (w : World) : MpH (w.alloc (.map #[] 0)) w.heap.size [] := ⟨World.ownsMap_made w Tryz.prog 31 rdv, .nil, fun _ h => by cases h⟩
theorem MpH.lt (h : MpH w b M) : b < w.heap.size := World.ownsMap.lt h.own
theorem MpH.same (h : MpH w b M) (hb : w'.heap[b]? = w.heap[b]?) : MpH w' b M := by
  obtain ⟨es, clock, h1, h2⟩ := h.own
  exact ⟨⟨es, clock, hb.trans h1, h2⟩, h.asc, h.h32⟩
theorem MpH.kept {S : Nat → Prop} (h : MpH w b M) (ho : Only S w w') (hb : ¬ S b) : MpH w' b M := h.same (ho.block b h.lt hb)
theorem MpH.kb {B : Nat} (h : MpH w b M) (hb : Below B w w') (hB : b < B) : MpH w' b M := h.same (hb.block b hB)
theorem MpH.drew (h : MpH w b M) (n : Nat) : MpH (w.drewN n) b M := h.same rfl
theorem MpH.ismap (h : MpH w b M) : ∃ es clock, w.heap[b]? = some (.map es clock) := by
  obtain ⟨es, clock, h1, _⟩ := h.own
  exact ⟨es, clock, h1⟩
theorem MpH.look {t e : TypeId} {z : Value} (h : MpH w b M) (ht : Tryz.prog.underlying t = some (.map 31 e)) (hz : (zeroValue e).run Tryz.prog w = .ok z w) (n : Key) (hn : n.length = 32) :
    (Instr.lookup t (.map (some b)) (.agg (hv n)) false).run Tryz.prog w = .ok ((aget n M).getD z) w := by
  obtain ⟨v, ps, hrun, hv'⟩ := World.ownsMap.lookup h.own hkeyed ht hz (zd := .held z) (zp := []) rfl (hkey n hn)
  rw [mapV_at] at hv'
  have e' := congrArg Prod.fst (Option.some.inj hv')
  simp only [DataW.held.injEq] at e'
  rw [hrun, e']
theorem MpH.lookOk {t e : TypeId} {z : Value} (h : MpH w b M) (ht : Tryz.prog.underlying t = some (.map 31 e)) (hz : (zeroValue e).run Tryz.prog w = .ok z w) (n : Key) (hn : n.length = 32) :
    (Instr.lookup t (.map (some b)) (.agg (hv n)) true).run Tryz.prog w = .ok (.tuple #[(aget n M).getD z, .bool (aget n M).isSome]) w := by
  obtain ⟨v, ps, hrun, hv'⟩ := World.ownsMap.look_ok h.own hkeyed ht hz (zd := .held z) (zp := []) rfl (hkey n hn)
  rw [mapV_at] at hv'
  rw [mapV_has] at hrun
  have e' := congrArg Prod.fst (Option.some.inj hv')
  simp only [DataW.held.injEq] at e'
  rw [hrun, e']
theorem MpH.store {t e : TypeId} (h : MpH w b M) (ht : Tryz.prog.underlying t = some (.map 31 e)) (n : Key) (hn : n.length = 32) (hl : M.length < maxLen) (v : Value) :
    ∃ w', (Instr.mapUpdate t (.map (some b)) (.agg (hv n)) v).run Tryz.prog w = .ok () w' ∧ MpH w' b (aput n v M) ∧ Only (fun k => k = b) w w' := by
  obtain ⟨w', hrun, h1, h2⟩ := World.ownsMap.update h.own hkeyed ht hl (hkey n hn) (R := rdv) (val := v) rfl
  rw [mapV_put n v] at h1
  exact ⟨w', hrun, MpH.of h1 (h.asc.put n v) (aput_h32 h.h32 hn v), (Only.refl _ w).grown h2 (fun k _ e => by cases e; rfl)⟩
theorem MpH.drop {t e : TypeId} (h : MpH w b M) (ht : Tryz.prog.underlying t = some (.map 31 e)) (n : Key) (hn : n.length = 32) (ty : TypeId) :
    ∃ w', (Builtin.delete_ #[t, 31] ty #[.map (some b), .agg (hv n)]).run Tryz.prog w = .ok (.tuple #[]) w' ∧ MpH w' b (adel n M) ∧ Only (fun k => k = b) w w' := by
  obtain ⟨w', hrun, h1, h2⟩ := World.ownsMap.drop h.own hkeyed ht (hkey n hn) ty
  rw [mapV_del] at h1
  exact ⟨w', hrun, MpH.of h1 (h.asc.del n) (adel_h32 h.h32 n), (Only.refl _ w).grown h2.grown (fun k _ e => by cases e; rfl)⟩
theorem MpH.len {t e : TypeId} (h : MpH w b M) (ht : Tryz.prog.underlying t = some (.map 31 e)) (ty : TypeId) : (Builtin.len_ #[t] ty #[.map (some b)]).run Tryz.prog w = .ok (.int .i64 M.length) w := by
  rw [World.ownsMap.len h.own ht ty, mapV_size]
/-- 'children[p] = append(children[p], h)': what is there is handed out, and a store at this entry is a store at this key. -/
theorem MpH.entry {t e : TypeId} {z : Value} (h : MpH w b M) (ht : Tryz.prog.underlying t = some (.map 31 e)) (hz : ∀ u : World, (zeroValue e).run Tryz.prog u = .ok z u) (n : Key) (hn : n.length = 32) (hl : M.length < maxLen) :
    ∃ st w1, (Instr.mapEntry t (.map (some b)) (.agg (hv n))).run Tryz.prog w = .ok (.tuple #[(aget n M).getD z, st]) w1 ∧ Only (fun k => k = b) w w1 ∧ (∃ es clock, w1.heap[b]? = some (.map es clock)) ∧
      ∀ (w2 : World) (v : Value), w2.heap[b]? = w1.heap[b]? → ∃ w3, (Instr.entryStore t (.map (some b)) st v).run Tryz.prog w2 = .ok () w3 ∧ MpH w3 b (aput n v M) ∧ Only (fun k => k = b) w2 w3 := by
  obtain ⟨es, clock, hb, F, hs, hD⟩ := h.own
  obtain ⟨v0, st, es1, clock1, hrun, hv0, hback⟩ := WideElems.entry_then_store (z := z) hlaw ht hz hb F (hkey n hn)
  have hlk := h.look ht (hz w) n hn
  have hv : v0 = (aget n M).getD z := by
    rcases Maps.fit_look (P := Tryz.prog) false hkeyed ht (hz w) hb F (hkey n hn) with ⟨hr, hno, _⟩ | ⟨e0, y, he0, hk0, hr, _⟩
    · rw [hlk] at hr
      have e1 : (aget n M).getD z = z := by simpa using hr
      rw [e1]
      rcases hv0 with ⟨e0, hm, hk, rfl⟩ | ⟨_, rfl⟩
      · exact absurd hk (hno e0 hm)
      · rfl
    · rw [hlk] at hr
      have e1 : (aget n M).getD z = e0.val := by simpa using hr
      rw [e1]
      rcases hv0 with ⟨e1, hm, hk, rfl⟩ | ⟨hno, rfl⟩
      · rw [entry_eq_of_key ((MapKept.stamped_iff es clock).1 F.stamped).2.2 hm he0 (hk.trans hk0.symm)]
      · exact absurd hk0 (hno e0 he0)
  have hblt : b < w.heap.size := h.lt
  have hon : ∀ (u : World) (o : Obj), Only (fun k => k = b) u (ChangeMaps.setBlock u b o) := fun u o => ⟨rfl, rfl, rfl, by simp [ChangeMaps.setBlock], fun i _ hi => by simp [ChangeMaps.setBlock, Ne.symm hi]⟩
  have hsb : ∀ (u : World) (o : Obj), b < u.heap.size → (ChangeMaps.setBlock u b o).heap[b]? = some o := fun u o hu => by simp [ChangeMaps.setBlock, hu]
  refine ⟨goInt st, _, by rw [← hv]; exact hrun, hon _ _, ⟨es1, clock1, hsb _ _ hblt⟩, fun w2 v hw2 => ?_⟩
  rw [hsb _ _ hblt] at hw2
  obtain ⟨es', clock', hst, hup⟩ := hback w2 v hw2
  obtain ⟨w', hru, h1, _⟩ := h.store ht n hn hl v
  rw [hup] at hru
  have ew : ChangeMaps.setBlock w b (.map es' clock') = w' := by simpa using hru
  refine ⟨_, hst, ?_, hon _ _⟩
  refine h1.same ?_
  rw [← ew, hsb _ _ hblt, hsb _ _ (Array.getElem?_eq_some_iff.1 hw2).1]
end
end Go.Proofs.YtnpeahbbcolfmaaGreatDoor
namespace Go.Proofs.YtnpeahbbcolfmaaGreatDoor
open Go.RowKit
open Go.Maps
attribute [local go_sem ↓] hld_open
theorem lzero (w : World) : (zeroValue 32).run Tryz.prog w = .ok (.slice none 0 0) w := by kernel_rfl
theorem uzero (w : World) : (zeroValue 156).run Tryz.prog w = .ok (.agg #[]) w := by kernel_rfl
theorem cell_nomap {w : World} {a : Addr} {u : Value} {es : Array MapEntry} {c : Nat} (h : w.cell? a = some u) (hm : w.heap[a.block]? = some (.map es c)) : False := by
  simp [World.cell?, hm] at h
/-- A step that turns no cells but in new memory. -/
structure Mild (w w' : World) : Prop where
  only : Only (fun k => ∀ cs t f, w.heap[k]? ≠ some (.cells cs t f)) w w'
theorem mild_below {w w' : World} (h : Below w.heap.size w w') : Mild w w' := ⟨Only.of_below h⟩
theorem mild_map {w w' : World} {b : Nat} {M : Kv} (h : MpH w b M) (ho : Only (fun k => k = b) w w') : Mild w w' := by
  obtain ⟨es, c, hb⟩ := h.ismap
  exact ⟨ho.mono fun k _ e cs t f hk => by rw [e, hb] at hk; cases hk⟩
theorem Mild.cells {w w' : World} (h : Mild w w') {k : Nat} {cs : Array Value} {t : TypeId} {f : Nat × Nat} (hk : w.heap[k]? = some (.cells cs t f)) : w'.heap[k]? = some (.cells cs t f) :=
  (h.only.block k (Array.getElem?_eq_some_iff.1 hk).1 (fun e => e cs t f hk)).trans hk
theorem Mild.cell {w w' : World} (h : Mild w w') {a : Addr} {u : Value} (ha : w.cell? a = some u) : w'.cell? a = some u := by
  have hlt := World.block_lt_of_cell? _ _ ha
  cases hb : w.heap[a.block]? with
  | none => simp [World.cell?, hb] at ha
  | some o =>
    cases o with
    | cells cs t f => rw [World.cell?_of_block (w := w) (a := a) (by rw [h.cells hb, hb])]; exact ha
    | _ => simp [World.cell?, hb] at ha
theorem Mild.trans {a b c : World} (h : Mild a b) (k : Mild b c) : Mild a c := ⟨h.only.trans k.only (fun _ h => h) (fun _ _ hT cs t f e => hT cs t f (h.cells e))⟩
theorem HSeen.mild {w w' : World} {v : Value} {E : List Key} (h : HSeen w v E) (m : Mild w w') : HSeen w' v E := by
  rcases h with h | ⟨a, cap, h1, h2, h3⟩
  · exact .inl h
  · exact .inr ⟨a, cap, h1, h2, fun j u hj => m.cell (h3 j u hj)⟩
theorem HSeen.shape {w : World} {v : Value} {E : List Key} (h : HSeen w v E) : ∃ p cap, v = .slice p E.length cap := by
  rcases h with ⟨rfl, rfl⟩ | ⟨a, cap, h1, _⟩
  · exact ⟨_, _, rfl⟩
  · exact ⟨_, _, h1⟩
/-- A hash of a slice that is read. -/
theorem HSeen.at {w : World} {v : Value} {E : List Key} (h : HSeen w v E) (hE : H32 E) {i : Nat} (hi : i < E.length) : ∃ b o cap, v = .slice (some ⟨b, o, none⟩) E.length cap ∧ w.rangeAt b (o + i * 32) (us (nmb E[i])) := by
  rcases h with ⟨_, rfl⟩ | ⟨⟨b, o, s⟩, cap, h1, h2, h3⟩
  · simp at hi
  · have hs : s = none := by
      have h0 : (fl E)[0]? ≠ none := by
        rw [Ne, List.getElem?_eq_none_iff, fl_length hE]; omega
      obtain ⟨u, hu⟩ := Option.ne_none_iff_exists'.1 h0
      have := h3 0 u hu
      cases s with
      | none => rfl
      | some x => simp only [World.cell?, Addr.add] at this; split at this <;> simp at this
    subst hs
    refine ⟨b, o, cap, h1, fun j u hj => ?_⟩
    have hjl : j < 32 := by
      have := (List.getElem?_eq_some_iff.1 hj).1
      rw [usn_length, hE.at hi] at this; exact this
    have := h3 (i * 32 + j) u (by rw [fl_at hE hi hjl]; exact hj)
    rw [Addr.add_lit] at this
    rw [← Nat.add_assoc] at this
    exact this
theorem hsr_kb {w w' : World} {b o : Nat} {l : List Value} (h : w.rangeAt b o l) (k : Mild w w') : w'.rangeAt b o l := fun j u hj => k.cell (h j u hj)

/-- Commits by hash: the slice of the parents, and the parents. -/
abbrev Lx := List (Key × (Value × List Key))
abbrev Gr := List (Key × List Key)
abbrev gr (X : Lx) : Gr := amap (fun y : Value × List Key => y.2) X
abbrev kvs (X : Lx) : Kv := amap (fun y : Value × List Key => y.1) X
/-- Block b is the map of the lists of hashes X. -/
structure LAt (w : World) (b : Nat) (X : Lx) : Prop where
  mp : MpH w b (kvs X)
  seen : ∀ x ∈ X, HSeen w x.2.1 x.2.2 ∧ H32 x.2.2
/-- Block g is a graph: it leads to the map at block bm. -/
structure GA (w : World) (g bm : Nat) (X : Lx) : Prop where
  cell : w.heap[g]? = some (.cells #[.map (some bm)] 91 (0, 0))
  at_ : LAt w bm X
theorem LAt.mild {w w' : World} {b : Nat} {X : Lx} (h : LAt w b X) (m : Mild w w') (hb : w'.heap[b]? = w.heap[b]?) : LAt w' b X :=
  ⟨h.mp.same hb, fun x hx => ⟨(h.seen x hx).1.mild m, (h.seen x hx).2⟩⟩
theorem LAt.kb {w w' : World} {b : Nat} {X : Lx} (h : LAt w b X) (k : Below w.heap.size w w') : LAt w' b X := h.mild (mild_below k) (k.block b h.mp.lt)
theorem GA.kb {w w' : World} {g bm : Nat} {X : Lx} (h : GA w g bm X) (k : Below w.heap.size w w') : GA w' g bm X := ⟨(k.block g (Array.getElem?_eq_some_iff.1 h.cell).1).trans h.cell, h.at_.kb k⟩
theorem GA.c0 {w : World} {g bm : Nat} {X : Lx} (h : GA w g bm X) : w.cell? ⟨g, 0, none⟩ = some (.map (some bm)) := by rw [cell_of_row w g 0 _ _ _ h.cell]; rfl
/-- Block b is the set of the hashes R. -/
structure SetH (w : World) (b : Nat) (R : List Key) : Prop where
  ex : ∃ M, MpH w b M ∧ (∀ p ∈ M, p.2 = .agg #[]) ∧ R = M.map (·.1)
theorem SetH.kb {w w' : World} {b : Nat} {R : List Key} {B : Nat} (h : SetH w b R) (k : Below B w w') (hB : b < B) : SetH w' b R := by
  obtain ⟨M, h1, h2, h3⟩ := h.ex
  exact ⟨M, h1.kb k hB, h2, h3⟩
theorem aget_isSome {α : Type} {n : Key} : ∀ {M : List (Key × α)}, (aget n M).isSome = decide (n ∈ M.map (·.1))
  | [] => by simp [aget]
  | y :: M => by
    have ih := aget_isSome (n := n) (M := M)
    by_cases hy : y.1 = n
    · rw [gpos hy]; simp [hy]
    · rw [gneg hy, ih]; simp [Ne.symm hy]
theorem set_get {M : Kv} (h : ∀ p ∈ M, p.2 = .agg #[]) (n : Key) : (aget n M).getD (.agg #[]) = .agg #[] := by
  cases hg : aget n M with
  | none => rfl
  | some v => exact h _ (aget_mem hg)
theorem kvs_get (n : Key) (X : Lx) : aget n (kvs X) = (aget n X).map (·.1) := amap_get _ _ _

set_option maxRecDepth 20000 in
/-- Is a hash in a map of lists? -/
theorem lhas_to (w : World) (b : Nat) (M : Kv) (h : Key) (hh : h.length = 32) (H : MpH w b M) : Calls Tryz.prog 77 #[.map (some b), .agg (hv h)] w fun e w' => e = .returned (.bool (aget h M).isSome) ∧ Below w.heap.size w w' := by
  have b1 : Below w.heap.size w (w.alloc (.cells (hv h) 31)) := (Below.refl _ w).alloc (Nat.le_refl _) _
  have hl := Lib.hid (range_new w (hv h) 31)
  have hz := Lib.hid (hinfo' (hv h) (by rw [hv_size, hh]))
  have hlk := (H.kb b1 H.lt).lookOk Tryz.underlying89 (lzero _) h hh
  generalize (aget h M).getD (.slice none 0 0) = zv at hlk
  generalize (aget h M).isSome = ok at hlk ⊢
  have B1 := Lib.hid b1
  clear b1 H hh
  go_enter Tryz.func77, Tryz.ntmps77
  go_wp2_with (refine load_to hl.out Tryz.underlying31 rfl hz.out ?hx ?_; (case hx => rfl))
  go_ret
  exact ⟨rfl, B1.out⟩
set_option maxRecDepth 20000 in
/-- Is a hash in a set? -/
theorem shas_to (w : World) (b : Nat) (R : List Key) (h : Key) (hh : h.length = 32) (H : SetH w b R) : Calls Tryz.prog 54 #[.map (some b), .agg (hv h)] w fun e w' => e = .returned (.bool (decide (h ∈ R))) ∧ Below w.heap.size w w' := by
  obtain ⟨M, HM, hu, rfl⟩ := H.ex
  have b1 : Below w.heap.size w (w.alloc (.cells (hv h) 31)) := (Below.refl _ w).alloc (Nat.le_refl _) _
  have hl := Lib.hid (range_new w (hv h) 31)
  have hz := Lib.hid (hinfo' (hv h) (by rw [hv_size, hh]))
  have hlk := (HM.kb b1 HM.lt).lookOk Tryz.underlying113 (uzero _) h hh
  rw [set_get hu, aget_isSome] at hlk
  generalize decide (h ∈ M.map (·.1)) = ok at hlk ⊢
  have B1 := Lib.hid b1
  clear b1 H HM hh
  go_enter Tryz.func54, Tryz.ntmps54
  go_wp2_with (refine load_to hl.out Tryz.underlying31 rfl hz.out ?hx ?_; (case hx => rfl))
  go_ret
  exact ⟨rfl, B1.out.alloc B1.out.size _⟩
end Go.Proofs.YtnpeahbbcolfmaaGreatDoor
namespace Go.Proofs.YtnpeahbbcolfmaaGreatDoor
open Go.RowKit Go.Shelf
open Go.Sort (HoldsK putRowK flatK grow PermIn SortedIn SWO)
def Tryz.hsortf_ren : Go.Shelf.Ren := ⟨fun | 6 => 111 | 15 => 125 | 14 => 124 | 28 => 138 | 29 => 139 | 20 => 130 | 21 => 131 | 22 => 132 | 23 => 133 | 24 => 134 | 25 => 135 | 26 => 136 | 27 => 137 | 46 => 149 | 47 => 150 | 48 => 151 | 49 => 152 | 50 => 153 | 57 => 157 | n => n, fun | 22 => 32 | 24 => 31 | 25 => 191 | 3 => 3 | 39 => 199 | 0 => 0 | 53 => 212 | 55 => 214 | 4 => 4 | 46 => 206 | 45 => 205 | 50 => 44 | 5 => 5 | 9 => 9 | 66 => 220 | 70 => 224 | 76 => 228 | 77 => 229 | n => n, fun | n => n⟩
theorem Tryz.hsortf : Go.Proofs.SlLaysF0.n6 Tryz.prog Tryz.hsortf_ren := {
  mixed := by kernel_rfl
  f6 := ⟨Tryz.f111.name, by decide, Tryz.func111.trans (congrArg some (by kernel_rfl))⟩
  f14 := ⟨Tryz.f124.name, by decide, Tryz.func124.trans (congrArg some (by kernel_rfl))⟩
  f15 := Tryz.func125.trans (congrArg some (by kernel_rfl))
  f20 := ⟨Tryz.f130.name, by decide, Tryz.func130.trans (congrArg some (by kernel_rfl))⟩
  f21 := ⟨Tryz.f131.name, by decide, Tryz.func131.trans (congrArg some (by kernel_rfl))⟩
  f22 := ⟨Tryz.f132.name, by decide, Tryz.func132.trans (congrArg some (by kernel_rfl))⟩
  f23 := ⟨Tryz.f133.name, by decide, Tryz.func133.trans (congrArg some (by kernel_rfl))⟩
  f24 := ⟨Tryz.f134.name, by decide, Tryz.func134.trans (congrArg some (by kernel_rfl))⟩
  f25 := ⟨Tryz.f135.name, by decide, Tryz.func135.trans (congrArg some (by kernel_rfl))⟩
  f26 := ⟨Tryz.f136.name, by decide, Tryz.func136.trans (congrArg some (by kernel_rfl))⟩
  f27 := ⟨Tryz.f137.name, by decide, Tryz.func137.trans (congrArg some (by kernel_rfl))⟩
  f28 := Tryz.func138.trans (congrArg some (by kernel_rfl))
  f29 := Tryz.func139.trans (congrArg some (by kernel_rfl))
  f46 := ⟨Tryz.f149.name, by decide, Tryz.func149.trans (congrArg some (by kernel_rfl))⟩
  f47 := Tryz.func150.trans (congrArg some (by kernel_rfl))
  f48 := Tryz.func151.trans (congrArg some (by kernel_rfl))
  f49 := ⟨Tryz.f152.name, by decide, Tryz.func152.trans (congrArg some (by kernel_rfl))⟩
  f50 := ⟨Tryz.f153.name, by decide, Tryz.func153.trans (congrArg some (by kernel_rfl))⟩
  f57 := ⟨Tryz.f157.name, by decide, Tryz.func157.trans (congrArg some (by kernel_rfl))⟩
  t0 := Tryz.underlying0
  a0 := Tryz.isAgg0
  z0 := Tryz.sizeOf0
  v0 := Tryz.zeroValue0
  t3 := Tryz.underlying3
  a3 := Tryz.isAgg3
  z3 := Tryz.sizeOf3
  v3 := Tryz.zeroValue3
  t4 := Tryz.underlying4
  a4 := Tryz.isAgg4
  z4 := Tryz.sizeOf4
  v4 := Tryz.zeroValue4
  t5 := Tryz.underlying5
  a5 := Tryz.isAgg5
  z5 := Tryz.sizeOf5
  v5 := Tryz.zeroValue5
  t9 := Tryz.underlying9
  a9 := Tryz.isAgg9
  z9 := Tryz.sizeOf9
  v9 := Tryz.zeroValue9
  t22 := Tryz.underlying32
  a22 := Tryz.isAgg32
  z22 := Tryz.sizeOf32
  v22 := Tryz.zeroValue32
  t25 := Tryz.underlying191
  a25 := Tryz.isAgg191
  z25 := Tryz.sizeOf191
  v25 := Tryz.zeroValue191
  t39 := Tryz.underlying199
  a39 := Tryz.isAgg199
  z39 := Tryz.sizeOf199
  v39 := Tryz.zeroValue199
  t45 := Tryz.underlying205
  a45 := Tryz.isAgg205
  z45 := Tryz.sizeOf205
  v45 := Tryz.zeroValue205
  t46 := Tryz.underlying206
  a46 := Tryz.isAgg206
  z46 := Tryz.sizeOf206
  v46 := Tryz.zeroValue206
  t50 := Tryz.underlying44
  a50 := Tryz.isAgg44
  z50 := Tryz.sizeOf44
  v50 := Tryz.zeroValue44
  t53 := Tryz.underlying212
  a53 := Tryz.isAgg212
  z53 := Tryz.sizeOf212
  v53 := Tryz.zeroValue212
  t55 := Tryz.underlying214
  a55 := Tryz.isAgg214
  z55 := Tryz.sizeOf214
  v55 := Tryz.zeroValue214
  t66 := Tryz.underlying220
  a66 := Tryz.isAgg220
  z66 := Tryz.sizeOf220
  v66 := Tryz.zeroValue220
  t70 := Tryz.underlying224
  a70 := Tryz.isAgg224
  z70 := Tryz.sizeOf224
  v70 := Tryz.zeroValue224
  t76 := Tryz.underlying228
  a76 := Tryz.isAgg228
  z76 := Tryz.sizeOf228
  v76 := Tryz.zeroValue228
  t77 := Tryz.underlying229
  a77 := Tryz.isAgg229
  z77 := Tryz.sizeOf229
  v77 := Tryz.zeroValue229 }

/-- A hash, with its length. -/
abbrev Hs := { l : List UInt8 // l.length = 32 }
instance : Inhabited Hs := ⟨⟨hz, rfl⟩⟩
def encH (x : Hs) : List Value := us (nmb x.1)
def cfH (x y : Hs) : Int := Lib.compareBytes x.1 y.1
theorem encH_length (x : Hs) : (encH x).length = 32 := by unfold encH; rw [usn_length, x.2]
theorem encH_one (x : Hs) : ∀ v ∈ encH x, v.oneCell' = true := fun v hv => by
  obtain ⟨y, _, rfl⟩ := List.mem_map.1 hv
  rfl
theorem ltH (x y : Hs) : ltOf cfH x y = Op.bytesLess x.1 y.1 := cmp_less x.1 y.1
theorem swoH : SWO (ltOf cfH) where
  irrefl x := by rw [ltH]; exact less_irrefl _
  trans x y z h k := by rw [ltH] at *; exact less_trans _ _ _ h k
  ntrans x y z h k := by
    rw [ltH] at *
    cases hb : Op.bytesLess x.1 z.1 with
    | false => rfl
    | true =>
      cases hc : Op.bytesLess y.1 x.1 with
      | true => have := less_trans _ _ _ hc hb; rw [k] at this; cases this
      | false => rw [less_total _ _ h hc] at hb; rw [k] at hb; cases hb
theorem lays_cmp (blk off size : Nat) (w : World) : CmpLays Tryz.prog 112 #[] encH 32 cfH blk off size w := fun m os dk _ x y => by
  have h := compare_to (sortWorldK encH 32 w blk off m dk os) x.1 y.1 x.2 y.2
  refine h.mono ?_
  rintro e w' ⟨he, q, hw⟩
  exact ⟨he, q, _, by rw [hw, Sort.alloc_eq_grow, Sort.alloc_eq_grow, Sort.grow_grow]; rfl⟩

theorem lift_H : ∀ E : List (List UInt8), H32 E → ∃ d : List Hs, d.map (·.1) = E
  | [], _ => ⟨[], rfl⟩
  | h :: E, hE => by
    obtain ⟨d, hd⟩ := lift_H E (fun x hx => hE x (List.mem_cons_of_mem _ hx))
    exact ⟨⟨h, hE h (List.mem_cons_self ..)⟩ :: d, by rw [List.map_cons, hd]⟩
theorem flat_fl (d : Array Hs) : (flatK encH 32 d).toList = fl (d.toList.map (·.1)) := by
  have hE : H32 (d.toList.map (·.1)) := fun x hx => by
    obtain ⟨y, _, rfl⟩ := List.mem_map.1 hx
    exact y.2
  refine List.ext_getElem? fun t => ?_
  by_cases ht : t < d.size * 32
  · have hi : t / 32 < d.size := by omega
    have hg := Sort.get_flatK encH 32 d t ht
    have hs : t < (flatK encH 32 d).size := by rw [Sort.size_flatK]; exact ht
    have e1 : (flatK encH 32 d).toList[t]? = some ((encH d[t / 32]!)[t % 32]!) := by
      rw [Array.getElem?_toList, Array.getElem?_eq_getElem hs, ← hg, getElem!_pos _ t hs]
    have hi2 : t / 32 < (d.toList.map (·.1)).length := by simpa using hi
    have e2 := fl_at hE (i := t / 32) (c := t % 32) hi2 (by omega)
    rw [show t / 32 * 32 + t % 32 = t from by omega] at e2
    have hd : d[t / 32]! = d[t / 32] := getElem!_pos d (t / 32) hi
    rw [e1, e2, hd]
    have hl : t % 32 < (encH d[t / 32]).length := by rw [encH_length]; omega
    rw [getElem!_pos (encH d[t / 32]) (t % 32) hl]
    simp only [List.getElem_map, Array.getElem_toList]
    exact (List.getElem?_eq_getElem hl).symm
  · rw [List.getElem?_eq_none (by rw [Array.length_toList, Sort.size_flatK]; omega), List.getElem?_eq_none (by rw [fl_length hE]; simp; omega)]

theorem put_row (F : Array Value) (C R : List Value) (h : F.size = C.length) : Sort.putCells id 0 F (C ++ R).toArray = (F.toList ++ R).toArray := by
  apply Array.ext_getElem?
  intro t
  unfold Sort.putCells
  rw [Array.getElem?_mapIdx, List.getElem?_toArray, List.getElem?_toArray]
  by_cases ht : t < F.size
  · rw [List.getElem?_append_left (by omega), List.getElem?_append_left (by simpa using ht), List.getElem?_eq_getElem (show t < C.length by omega)]
    simp [ht]
  · rw [List.getElem?_append_right (by omega), List.getElem?_append_right (by simp; omega), show F.toList.length = C.length from by simpa using h]
    generalize R[t - C.length]? = o
    cases o with
    | none => rfl
    | some v => rw [Option.map_some, if_neg (by omega)]

theorem grow_at (X : World) (os : Array Obj) (k : Nat) (hk : k < X.heap.size) : (grow X os).heap[k]? = X.heap[k]? := by
  show (X.heap ++ os)[k]? = _
  rw [Array.getElem?_append_left hk]
theorem putK_at (w : World) (n g : Nat) (d : Array Hs) (k : Nat) : (putRowK encH 32 (Sort.ahead w n) g 0 d).heap[k]? = if g = k then (w.heap[k]?).map (Sort.onCells (Sort.putCells id 0 (flatK encH 32 d))) else w.heap[k]? := by
  show (w.heap.modify g (Sort.onCells (Sort.putCells id 0 (flatK encH 32 d))))[k]? = _
  rw [Array.getElem?_modify]
theorem putK_size (w : World) (n g : Nat) (d : Array Hs) : (putRowK encH 32 (Sort.ahead w n) g 0 d).heap.size = w.heap.size := by
  show (w.heap.modify g (Sort.onCells (Sort.putCells id 0 (flatK encH 32 d)))).size = _
  rw [Array.size_modify]
theorem hsort_none (p : Option Addr) (cap : Nat) (W : World) : Calls Tryz.prog 111 #[.slice p 0 cap, .func (.func 112) #[] #[]] W fun e w' => e = .returned (.tuple #[]) ∧ w' = W := 
  AnyF.slices_SortFunc_none Tryz.hsortf p cap (.func (.func 112) #[] #[]) W
theorem hsort_to (w : World) (g cap : Nat) (E : List (List UInt8)) (hE : H32 E) (R : List Value) (hg : w.heap[g]? = some (.cells (fl E ++ R).toArray 31 (0, 0))) (hn : E.length < 4611686018427387904) :
    Calls Tryz.prog 111 #[.slice (some ⟨g, 0, none⟩) E.length cap, .func (.func 112) #[] #[]] w fun e w' => e = .returned (.tuple #[]) ∧
      ∃ E', H32 E' ∧ E'.length = E.length ∧ (∀ a, a ∈ E' ↔ a ∈ E) ∧ E'.Pairwise (fun a b => Op.bytesLess b a = false) ∧ w'.heap[g]? = some (.cells (fl E' ++ R).toArray 31 (0, 0)) ∧ Only (fun k => k = g) w w' := by
  have eg : ∀ args w, (callFunc 112 args).run Tryz.prog w = .ok (.enter 112 args) w := enters_of Tryz.func112 (by kernel_rfl) rfl
  obtain ⟨dl, hdl⟩ := lift_H E hE
  obtain ⟨d, hdm⟩ : ∃ d : Array Hs, d.toList.map (·.1) = E := ⟨dl.toArray, hdl⟩
  have hds : d.size = E.length := by rw [← hdm]; simp
  have hfl := flat_fl d
  rw [hdm] at hfl
  have hgl := (Array.getElem?_eq_some_iff.1 hg).1
  have hH : HoldsK encH 32 w g 0 d := fun t ht => by
    rw [Nat.zero_add]
    have hs : t < (fl E).length := by rw [← hfl]; simpa using ht
    constructor
    · rw [cell_of_row w g t _ _ _ hg, List.getElem?_toArray, List.getElem?_append_left hs, ← hfl, Array.getElem?_toList, getElem!_pos _ t ht]
      simp
    · simp [World.frozen?, hg]
  have hc := AnyQ.slices_SortFunc Tryz.hsortf 32 Tryz.isAgg31 Tryz.sizeOf31 encH encH_length encH_one cfH swoH 112 #[] g 0 cap d w eg (lays_cmp g 0 d.size w) hH hgl (by omega)
  rw [hds] at hc
  refine Calls.mono hc ?_
  rintro e w' ⟨he, d', n, os, hp, hso, rfl⟩
  refine ⟨he, d'.toList.map (·.1), ?_, ?_, ?_, ?_, ?_, ?_⟩
  · intro x hx
    obtain ⟨y, _, rfl⟩ := List.mem_map.1 hx
    exact y.2
  · rw [List.length_map, Array.length_toList, hp.1, hds]
  · intro a
    have hpm := hp.2.2
    have e1 : d'.extract 0 E.length = d' := by rw [← hds, ← hp.1]; exact Array.extract_size
    have e2 : d.extract 0 E.length = d := by rw [← hds]; exact Array.extract_size
    rw [e1, e2] at hpm
    rw [← hdm]
    exact (hpm.map (·.1)).mem_iff
  · rw [List.pairwise_iff_getElem]
    intro i j hi hj hij
    have hi' : i < d'.size := by simpa using hi
    have hj' : j < d'.size := by simpa using hj
    have h := hso i j (Nat.zero_le _) hij (by rw [← hds, ← hp.1]; exact hj')
    rw [getElem!_pos d' i hi', getElem!_pos d' j hj', ltH] at h
    simpa using h
  · show (grow (putRowK encH 32 (Sort.ahead w n) g 0 d') os).heap[g]? = _
    rw [grow_at _ _ _ (by rw [putK_size]; exact hgl), putK_at, if_pos rfl, hg]
    show some (Obj.cells (Sort.putCells id 0 (flatK encH 32 d') (fl E ++ R).toArray) _ _) = _
    rw [put_row _ _ _ (by rw [Sort.size_flatK, hp.1, hds, fl_length hE]), flat_fl]
  · refine ⟨rfl, rfl, rfl, ?_, fun k hk hn => ?_⟩
    · show _ ≤ ((putRowK encH 32 (Sort.ahead w n) g 0 d').heap ++ os).size
      rw [Array.size_append, putK_size]; omega
    · show (grow (putRowK encH 32 (Sort.ahead w n) g 0 d') os).heap[k]? = _
      rw [grow_at _ _ _ (by rw [putK_size]; exact hk), putK_at, if_neg (fun e => hn e.symm)]
end Go.Proofs.YtnpeahbbcolfmaaGreatDoor
namespace Go.Proofs.YtnpeahbbcolfmaaGreatDoor
open Go.RowKit
theorem hcompact_none (w : World) (p : Option Addr) (cap : Nat) : Calls Tryz.prog 113 #[.slice p 0 cap] w fun e w' => e = .returned (.slice p 0 cap) ∧ w = w' := by
  go_enter Tryz.func113, Tryz.ntmps113
  go_wp2
  go_ret
  exact ⟨rfl, rfl⟩
theorem own_form {w : World} {B : Nat} {v : Value} (h : HOwn w B v []) : ∃ p cap, v = .slice p 0 cap := by
  rcases h.2 with ⟨rfl, _⟩ | ⟨g, cap, cur, rfl, _⟩
  · exact ⟨_, _, rfl⟩
  · exact ⟨_, _, rfl⟩

/-- What Sort leaves. -/
def SoPost (w : World) (E : List (List UInt8)) (e : Ending) (w' : World) : Prop := ∃ v', e = .returned v' ∧ HOwn w' w.heap.size v' (rsort E) ∧ Below w.heap.size w w'

set_option maxRecDepth 20000 in
set_option maxHeartbeats 1000000 in
theorem sort_to (w : World) (v : Value) (E : List (List UInt8)) (hE : H32 E) (hl : E.length * 32 ≤ 140737488355328) (hs : HSeen w v E) : Calls Tryz.prog 93 #[v] w (SoPost w E) := by
  have HC := Lib.hid (hclone_any w v E hE hl hs)
  have HE := Lib.hid hE
  clear hs hE
  by_cases h0 : E.length = 0
  · obtain rfl : E = [] := List.eq_nil_of_length_eq_zero h0
    have hsn : ∀ p cap W, Calls Tryz.prog 111 #[.slice p 0 cap, .func (.func 112) #[] #[]] W fun e w' => e = .returned (.tuple #[]) ∧ w' = W := fun p cap W =>
      hsort_none p cap W
    have HS := Lib.hid hsn
    clear hsn h0 hl
    go_enter Tryz.func93, Tryz.ntmps93
    go_wp2_with fail
    refine HC.out.mono ?_
    rintro e w1 ⟨v1, rfl, o1, b1⟩
    obtain ⟨p, cap, rfl⟩ := own_form o1
    have O1 := Lib.hid o1
    have B1 := Lib.hid b1
    clear o1 b1
    go_wp2_with fail
    refine (HS.out p cap w1).mono ?_
    rintro e w2 ⟨rfl, rfl⟩
    go_wp2_with fail
    refine (hcompact_none w2 p cap).mono ?_
    rintro e w3 ⟨rfl, rfl⟩
    go_wp2_with fail
    go_ret
    exact ⟨_, rfl, O1.out, B1.out⟩
  · go_enter Tryz.func93, Tryz.ntmps93
    go_wp2_with fail
    refine HC.out.mono ?_
    rintro e w1 ⟨v1, rfl, o1, b1⟩
    obtain ⟨g, cap, R, rfl, hb, hg, hc, hm, hR⟩ := o1.row (by omega)
    have HS := Lib.hid (hsort_to w1 g cap E HE.out R hg (by omega))
    have B1 := Lib.hid b1
    have HR := Lib.hid hR
    have HBG := Lib.hid hb
    clear o1 b1 hg hR hb HC
    go_wp2_with fail
    refine HS.out.mono ?_
    rintro e w2 ⟨rfl, E', e32, hlen, hmem, hsort, hg2, on2⟩
    have HK := Lib.hid (hcompact_to w2 g cap E' e32 R hg2 (by rw [hlen]; exact hc) hm (by rw [hlen]; exact HR.out))
    rw [hlen] at HK
    have hcr := cpt_rsort hsort hmem
    have HCR := Lib.hid hcr
    have HX := Lib.hid (show (cpt E').length ≤ E.length from hlen ▸ cpt_length E')
    have ON2 := Lib.hid on2
    clear e32 hlen hmem hsort hg2 on2 hcr HS
    go_wp2_with fail
    refine HK.out.mono ?_
    rintro e w3 hp
    obtain ⟨rfl, R', h1, h2, h3⟩ := hp
    have H1 := Lib.hid h1
    have H2 := Lib.hid h2
    have H3 := Lib.hid h3
    clear h1 h2 h3 HK
    go_wp2_with fail
    go_ret
    have h1 := H1.out
    have h2 := H2.out
    have hx := HX.out
    rw [HCR.out] at h1 h2 hx ⊢
    refine ⟨_, rfl, hown_mk (rsort_h32 HE.out) rfl HBG.out h1 (by omega) hm h2, ?_⟩
    have hon := (ON2.out.trans H3.out (U := fun k => k = g) (fun _ h => h) (fun _ _ h => h))
    have hon2 := (Only.of_below (S := fun k => w.heap.size ≤ k) B1.out).trans (hon.mono (T := fun k => w.heap.size ≤ k) (fun x _ h => by have := HBG.out; omega)) (fun _ h => h) (fun _ _ h => h)
    exact hon2.below (Nat.le_refl _) (fun _ h => h)
end Go.Proofs.YtnpeahbbcolfmaaGreatDoor
namespace Go.Proofs.YtnpeahbbcolfmaaGreatDoor
open Go.RowKit Go.Shelf
open Go.Maps
attribute [local go_sem] Oper.semAt_some
attribute [local go_sem ↓] hld_open
/-- What has come, while some are left. -/
structure Col (M : Kv) (left : Lit → Bool) (ss : List Key) : Prop where
  left : ∀ k, left (.string k) = true ↔ k ∈ M.map (·.1) ∧ k ∉ ss
  nodup : ss.Nodup
  sub : ∀ k ∈ ss, k ∈ M.map (·.1)
theorem Col.start (M : Kv) : Col M (Maps.has (mapV M)) [] := ⟨fun k => by rw [mapV_has, aget_isSome]; simp, .nil, fun k h => by cases h⟩
theorem Col.step {M : Kv} {left : Lit → Bool} {ss : List Key} (h : Col M left ss) {k : Key} (hk : left (.string k) = true) : Col M (fun x => left x && !x.sameKey (.string k)) (ss ++ [k]) := by
  obtain ⟨k1, k2⟩ := (h.left k).1 hk
  refine ⟨fun x => ?_, List.nodup_append.2 ⟨h.nodup, by simp, fun a ha b hb => by rw [List.mem_singleton.1 hb]; exact fun e => k2 (e ▸ ha)⟩, fun x hx => ?_⟩
  · simp only [Bool.and_eq_true, Bool.not_eq_true', same_str, beq_eq_false_iff_ne, h.left, List.mem_append, List.mem_singleton]
    constructor
    · rintro ⟨⟨a, b⟩, c⟩; exact ⟨a, fun e => e.elim b c⟩
    · rintro ⟨a, b⟩; exact ⟨⟨a, fun e => b (.inl e)⟩, fun e => b (.inr e)⟩
  · rcases List.mem_append.1 hx with hx | hx
    · exact h.sub x hx
    · rw [List.mem_singleton.1 hx]; exact k1
theorem AAsc.nodup {α : Type} {M : List (Key × α)} (h : AAsc M) : (M.map (·.1)).Nodup := List.pairwise_map.2 (h.imp fun {a b} hab e => by rw [e, bb_irrefl] at hab; cases hab)
theorem Col.done {M : Kv} {left : Lit → Bool} {ss : List Key} (h : Col M left ss) (ha : AAsc M) (hl : ∀ k, left k = false) : ss.Perm (M.map (·.1)) := by
  refine (List.perm_ext_iff_of_nodup h.nodup ha.nodup).2 fun k => ⟨h.sub k, fun hk => Classical.byContradiction fun hn => ?_⟩
  have := (h.left k).2 ⟨hk, hn⟩
  rw [hl] at this; cases this
theorem ranges_key {w : World} {b r n : Nat} {M : Kv} {left : Lit → Bool} {cnt : Nat} (h : w.ranges Tryz.prog 31 rdv b r n (mapV M) left cnt) {kl : Lit} (hl : left kl = true) : ∃ k ∈ M.map (·.1), kl = .string k := by
  obtain ⟨es, clock, since, seen, c0, hb, F, hs, hD, hr, _, _, _, hl2, _⟩ := h
  obtain ⟨x, hx, rfl⟩ := hl2 kl hl
  have hm : WideElems.rg Tryz.prog 31 rdv x ∈ (es.toList.map (WideElems.rg Tryz.prog 31 rdv)).foldr DataW.insert [] := mem_sorted.2 (List.mem_map.2 ⟨x, hx, rfl⟩)
  unfold mapV at hD
  rw [← DataW.map.inj hD] at hm
  obtain ⟨p, hp, e⟩ := List.mem_map.1 hm
  exact ⟨p.1, List.mem_map.2 ⟨p, hp, rfl⟩, by rw [← e]⟩
/-- The key that has come is a hash of the map. -/
theorem came_key {M : Kv} (h32 : ∀ p ∈ M, p.1.length = 32) {key : Value} {k : Key} (hk : k ∈ M.map (·.1)) (h : keyOf Tryz.prog 31 key = some (.string k)) : k.length = 32 ∧ key = .agg (hv k) := by
  obtain ⟨p, hp, rfl⟩ := List.mem_map.1 hk
  exact ⟨h32 p hp, hkeyed.inj h (hkey p.1 (h32 p hp))⟩
theorem MpH.grown {w w' : World} {b : Nat} {M : Kv} {row : Option Nat} (h : MpH w b M) (hg : w.grownBy w' row) (hne : some b ≠ row) : MpH w' b M := h.same (hg.block b h.lt hne)
/-- Hashes as they are handed to a round. -/
abbrev Hx := { x : Key // x.length = 32 }

set_option maxRecDepth 100000 in
set_option maxHeartbeats 2000000 in
theorem keys1S_in (F : Fence) (n : Nat) (hf : F.fn 117) (hro : F.round = none) (hn : 1 ≤ n) (l Bm b : Nat) (M : Kv) (J Jx : List Hx → World → Prop)
    (W : World) (hJ : AbidesFrom W.heap.size J)
    (hY : ∀ pre x W1, J pre W1 → pre.length < M.length → YieldAt F (n - 1) Tryz.prog l #[.agg (hv x.1)] W1 fun e W' => (e = .returned (.bool true) ∧ J (pre ++ [x]) W' ∧ KeepsWalks W1 W') ∨ (e = .returned (.bool false) ∧ Jx (pre ++ [x]) W'))
    (hm : W.cell? ⟨Bm, 0, none⟩ = some (.map (some b))) (hown : MpH W b M) (h0 : J [] W) :
    CallsIn F n Tryz.prog 117 #[.func (.yield l) #[] #[], .pointer (some ⟨Bm, 0, none⟩)] W fun e W' => (∃ v, e = .returned v) ∧
      ((∃ ss : List Hx, (ss.map (·.1)).Perm (M.map (·.1)) ∧ J ss W') ∨ ∃ pre, Jx pre W') := by
  have ho := hown.own
  have hsz := hown.h32
  have hasc := hown.asc
  refine callsIn_of_wp Tryz.func117 rfl hf ?_ hro
  simp only [Tryz.ntmps117, List.size_toArray, List.length_cons, List.length_nil, Nat.reduceAdd, Nat.reduceSub, Array.replicate_succ, Array.replicate_zero, List.push_toArray, List.append_toArray, List.nil_append, List.cons_append]
  gi_wp2_with (first
    | (gi_at_range; refine wpListIn_range_own _ rfl _ 113 rfl 31 _ hkeyed Tryz.underlying113 _ b M.length _ rfl ho ?_; intro w0 hrg0 hg0 hs0)
    | gi_in)
  go_frame
  gi_loopw [3] (fun _ wr => ∃ (left : Lit → Bool) (cnt : Nat) (ss : List Hx), wr.ranges Tryz.prog 31 rdv b W.heap.size M.length (mapV M) left cnt ∧ ss.length + cnt ≤ M.length ∧ Col M left (ss.map (·.1)) ∧ J ss wr)
    (fun _ wr => wr.rangeLeft b W.heap.size)
  case atStart =>
    exact ⟨_, _, [], hrg0, by simp [mapV_size], Col.start M, hJ [] W w0 none h0 hg0 (fun r e => by cases e)⟩
  case round =>
    obtain ⟨left, cnt, ss, hrg, hcs, hC, hJs⟩ := hrel
    gi_wp2_with (first
      | (gi_at_next; refine wpListIn_next_ranges _ rfl _ rfl 31 hkeyed rdv id id (fun key _ _ => ⟨key, rfl⟩) (fun v _ _ => ⟨v, rfl⟩) b W.heap.size M.length _ _ _ rfl hrg ?_ ?_)
      | gi_in)
    · intro hc0 hl0
      gi_wp2
      go_end0
      exact ⟨⟨_, rfl⟩, .inl ⟨ss, hC.done hasc hl0, hJs⟩⟩
    · intro x c kl yd yp w2 cnt2 hkey hlk hv' hat hrg2 hlt hg2 hs2 hen
      obtain ⟨k, hkM, rfl⟩ := ranges_key hrg hlk
      obtain ⟨k32, rfl⟩ := came_key hsz hkM hkey
      have hJ2 : J ss w2 := hJ ss wr w2 (some W.heap.size) hJs hg2 (fun r e => by cases e; exact ⟨Nat.le_refl _, hrg.iter_walk⟩)
      clear hs2
      have st := hst_cells k k32 w2
      have hks : (hv k).size = 32 := by rw [hv_size, k32]
      have hJ3 : J ss (w2.alloc (.cells (hv k) 31)) := hJ ss w2 _ none hJ2 (World.grownBy_alloc _ _ _) (fun r e => by cases e)
      have hld3 : (hld ⟨w2.heap.size, 0, none⟩).run Tryz.prog (w2.alloc (.cells (hv k) 31)) = .ok (.agg (hv k)) (w2.alloc (.cells (hv k) 31)) := hld_row k32 (heap_alloc_last w2 _)
      have hrg3 := hrg2.alloc (.cells (hv k) 31)
      obtain ⟨fn, tmps, assign, body, hy, hR⟩ := hY ss ⟨k, k32⟩ _ hJ3 (by have := hlt; omega)
      dsimp only at hy
      have HRG := Lib.hid hrg3
      have HL := Lib.hid hrg.left_eq
      clear hrg2 hrg3 hJ2 hJ3 hrg
      generalize hv k = q at st hks hld3 hy hR HRG hen hat hkey
      gi_wp2
      refine hR.mono ?_
      rintro e W3 (⟨rfl, hJ4, hk4⟩ | ⟨rfl, hJx4⟩)
      · gi_wp2
        have hrg4 := HRG.out.of_walks hk4
        go_roundw
        case rel => exact ⟨_, cnt2, ss ++ [⟨k, k32⟩], hrg4, by simp; omega, by rw [List.map_append]; exact hC.step hlk, hJ4⟩
        case measure => rw [hrg4.left_eq, HL.out]; exact hlt
      · gi_wp2
        refine bodyPost_ret (results_none rfl _ _ _) rfl ?_
        exact ⟨⟨_, rfl⟩, .inr ⟨_, hJx4⟩⟩
set_option maxHeartbeats 1000000 in
/-- maps.Keys(m): the map is boxed; the function value captures the box. -/
theorem keysS_in (F : Fence) (n : Nat) (hf : F.fn 101) (hro : F.round = none) (mb : Option Nat) (w : World) :
    CallsIn F n Tryz.prog 101 #[.map mb] w fun e w' => e = .returned (.func (.func 117) #[] #[.pointer (some ⟨w.heap.size, 0, none⟩)]) ∧ w' = w.alloc (.cells #[.map mb] 113) := by
  refine callsIn_of_wp Tryz.func101 rfl hf ?_ hro
  simp only [Tryz.ntmps101, List.size_toArray, List.length_cons, List.length_nil, Nat.reduceAdd, Nat.reduceSub, Array.replicate_succ, Array.replicate_zero, List.push_toArray, List.append_toArray, List.nil_append, List.cons_append]
  gi_wp2
  go_ret
  exact ⟨rfl, rfl⟩
/-- The value that it hands back goes through all the keys, each once. -/
theorem keysS_gives (F : Fence) (n : Nat) (hf : F.fn 117) (hro : F.round = none) (hn : 1 ≤ n) (Bm b : Nat) (M : Kv) (w : World) (hm : w.cell? ⟨Bm, 0, none⟩ = some (.map (some b))) (hown : MpH w b M) :
    SeqStopsK F n Tryz.prog 117 #[.pointer (some ⟨Bm, 0, none⟩)] (fun x : Hx => #[.agg (hv x.1)]) KeepsWalks (fun ys => (ys.map (·.1)).Perm (M.map (·.1))) (fun _ => True) M.length w := fun l J Jx W hW hJ _ hY h0 => by
  have hlt := World.block_lt_of_cell? _ _ hm
  refine (keys1S_in F n hf hro hn l Bm b M J Jx W hJ hY ((hW.cell (p := ⟨Bm, 0, none⟩) hlt).trans hm) (hown.kb hW hown.lt) h0).mono fun e W' h => ⟨h.1, ?_⟩
  rcases h.2 with h | ⟨pre, h⟩
  · exact .inl h
  · exact .inr ⟨pre, trivial, h⟩

theorem coll_fits {k m : Nat} (h : m ≤ 1000000) (hk : k < m) : k + 1 ≤ maxLen ∧ (k + 1) * 32 ≤ 140737488355328 := by unfold maxLen; omega
/-- What has been collected. -/
def hxl (pre : List Hx) : List Key := pre.map (·.1)
theorem hxl_h32 (pre : List Hx) : H32 (hxl pre) := fun h hh => by
  obtain ⟨x, _, rfl⟩ := List.mem_map.1 hh
  exact x.2
theorem hxl_snoc (pre : List Hx) (x : Hx) : hxl (pre ++ [x]) = hxl pre ++ [x.1] := by simp [hxl]
theorem run_build_hash (w : World) (h : Key) (hh : h.length = 32) : (Instr.buildSlice 32 1 #[(0, .agg (hv h))]).run Tryz.prog w = .ok (.slice (some ⟨w.heap.size, 0, none⟩) 1 1) (w.alloc (.cells (hv h) 31)) := by
  obtain ⟨i0, hi0, hz0, hz1, hz2⟩ := info_parts hzinfo
  refine run_buildSlice w 32 31 1 _ (hv h) i0 (.agg hzer) Tryz.underlying32 hi0 hz0 (by rw [hz1]; decide) (by rw [hz1]; decide) ?_
  rw [hz1]
  have := Great.fill_whole (s := 32) (by decide) [Value.agg (hv h)] ((Array.range (1 * 32)).map ((Value.agg hzer).cells[· % (Value.agg hzer).cells.size]!)) (fun v hvm => by
    rw [List.mem_singleton.1 hvm]
    show (hv h).size = 32
    rw [hv_size, hh]) (by simp)
  have e := fl_flat [h]
  rw [fl_one] at e
  rw [List.map_cons, List.map_nil] at e
  rw [e, ← hv_list] at this
  exact this
theorem build_in {F : Fence} {n : Nat} {ops : Array Oper} {rest : List Oper} {a : Act} {w : World} {Q : Exit → Act → World → Prop} {dst : Option Tmp} {T : TypeId} {pos : String} {after : Array Edge} {x : Operand} (h : Key) (hh : h.length = 32) (hx : a.eval x = .agg (hv h))
    (hK : wpListIn F n Tryz.prog ops Q rest (a.put dst (.slice (some ⟨w.heap.size, 0, none⟩) 1 1)) (w.alloc (.cells (hv h) 31))) : wpListIn F n Tryz.prog ops Q (⟨dst, .buildSlice 32 1 #[(0, x)], T, pos, after, none⟩ :: rest) a w := by
  refine wpListIn_plain rfl fun K hK' => ?_
  unfold Oper.wpIn
  refine ⟨?_, ?_⟩
  · simp [Oper.about]
  · rw [Oper.semAt_plain F _ _ (by intro c hc'; cases hc')]
    simp [execOp, hx, run_build_hash w h hh, Result.andThen]
    exact hK' _ _ hK
theorem own_lower {w : World} {B B' : Nat} {v : Value} {E : List Key} (h : HOwn w B v E) (hB : B' ≤ B) : HOwn w B' v E := by
  refine ⟨h.1, ?_⟩
  rcases h.2 with h1 | ⟨g, cap, cur, h1, h2, h3⟩
  · exact .inl h1
  · exact .inr ⟨g, cap, cur, h1, Nat.le_trans hB h2, h3⟩
theorem belowW {n₀ : Nat} (W : World) (l : Nat) (o o' : Obj) (hl : n₀ ≤ l) (h : W.heap[l]? = some o) : Below n₀ W (W.putObj l o') :=
  (Below.refl n₀ W).grown (grownBy_putObj' W l o') (by have := (Array.getElem?_eq_some_iff.1 h).1; omega) (fun k e => by cases e; omega)
theorem own_noWalk {W : World} {B : Nat} {v : Value} {E : List Key} (h : HOwn W B v E) : ∀ (j : Nat) (o : Obj), v.ownBlock = some j → W.heap[j]? = some o → o.isWalk = false := fun j o hj ho => by
  rcases h.2 with ⟨rfl, _⟩ | ⟨g, cap, cur, rfl, _, hgb, _⟩
  · simp [Value.ownBlock] at hj
  · obtain rfl : g = j := by simpa [Value.ownBlock] using hj
    rw [hgb] at ho; cases ho; rfl
theorem own_isCells {W : World} {B : Nat} {v : Value} {E : List Key} (h : HOwn W B v E) : ∀ (j : Nat) (o : Obj), v.ownBlock = some j → W.heap[j]? = some o → o.isCells = true := fun j o hj ho => by
  rcases h.2 with ⟨rfl, _⟩ | ⟨g, cap, cur, rfl, _, hgb, _⟩
  · simp [Value.ownBlock] at hj
  · obtain rfl : g = j := by simpa [Value.ownBlock] using hj
    rw [hgb] at ho; cases ho; rfl
theorem coll_step {W w3 : World} {B n₀ g c : Nat} {u : Value} {E : List Key} {x : Key} {tmp : Obj} (hrow : HOwn W n₀ u E) (hgrow : (W.alloc tmp).grownBy w3 u.ownBlock)
    (hown : w3.ownsRow n₀ 31 32 (.slice (some ⟨g, 0, none⟩) (E.length + 1) c) (E.length + 1) (fl E ++ us (nmb x))) (hv1 : Boxed w3 B 32 u) :
    Boxed (w3.setCell ⟨B, 0, none⟩ (.slice (some ⟨g, 0, none⟩) (E.length + 1) c)) B 32 (.slice (some ⟨g, 0, none⟩) (E.length + 1) c) ∧ HOwn (w3.setCell ⟨B, 0, none⟩ (.slice (some ⟨g, 0, none⟩) (E.length + 1) c)) n₀ (.slice (some ⟨g, 0, none⟩) (E.length + 1) c) (E ++ [x]) ∧
      KeepsOthers W (w3.setCell ⟨B, 0, none⟩ (.slice (some ⟨g, 0, none⟩) (E.length + 1) c)) ∧ KeepsWalks W (w3.setCell ⟨B, 0, none⟩ (.slice (some ⟨g, 0, none⟩) (E.length + 1) c)) ∧ Only (fun k => k = B ∨ n₀ ≤ k) W (w3.setCell ⟨B, 0, none⟩ (.slice (some ⟨g, 0, none⟩) (E.length + 1) c)) := by
  have hk := hown.kept (grownBy_setCell' w3 B (.slice (some ⟨g, 0, none⟩) (E.length + 1) c)) (.inr (hv1.not_row (by decide) hown).symm)
  have hal : HOwn (W.alloc tmp) n₀ u E := World.ownsRow.alloc hrow tmp
  refine ⟨hv1.set _, ?_, ((KeepsOthers.alloc W tmp).trans (KeepsOthers.of_grownBy hgrow (own_isCells hal))).trans (KeepsOthers.setCell _ _ _), ((KeepsWalks.alloc W tmp).trans (KeepsWalks.of_grownBy hgrow (own_noWalk hal))).trans (KeepsWalks.setCell _ _ _), ?_⟩
  · unfold HOwn
    rw [List.length_append, fl_app, fl_one]
    exact hk
  · exact (((Only.refl (fun k => k = B ∨ n₀ ≤ k) W).alloc tmp).grown hgrow (fun k _ e => .inr (hrow.lt k e).1)).setCell (p := ⟨B, 0, none⟩) (.inl rfl) _
set_option maxRecDepth 100000 in
set_option maxHeartbeats 8000000 in
/-- slices.AppendSeq(nil, seq), for any iterator that gives hashes. -/
theorem append_seq (n : Nat) (hn : 2 ≤ n) (gf : Nat) (lb : Array Value) (eg : ∀ args w, (callFunc gf args).run Tryz.prog w = .ok (.enter gf args) w) (S Sp : List Hx → Prop) (N : Nat) (hN : N ≤ 1000000) (w : World)
    (hseq : SeqStopsK Fence.wide (n - 1) Tryz.prog gf lb (fun x : Hx => #[.agg (hv x.1)]) KeepsWalks S Sp N w) :
    CallsIn Fence.wide n Tryz.prog 114 #[.slice none 0 0, .func (.func gf) #[] lb] w fun e w' => ∃ (v : Value) (ss : List Hx), e = .returned v ∧ S ss ∧ HOwn w' w.heap.size v (hxl ss) ∧ Below w.heap.size w w' := by
  obtain ⟨i0, hi0, hz0, hz1, hz2⟩ := info_parts hzinfo
  have b0 := (Below.refl w.heap.size w).alloc (Nat.le_refl _) (.cells #[.slice none 0 0] 32)
  have hs0 : (w.alloc (.cells #[.slice none 0 0] 32)).heap.size = w.heap.size + 1 := by simp
  have bB := Boxed.new w 32 (.slice none 0 0)
  refine callsIn_of_wp_marks Tryz.func114 rfl trivial ?_ rfl
  simp only [Tryz.ntmps114, List.size_toArray, List.length_cons, List.length_nil, Nat.reduceAdd, Nat.reduceSub, Array.replicate_succ, Array.replicate_zero, List.push_toArray, List.append_toArray, List.nil_append, List.cons_append]
  gi_wp2
  generalize w.alloc (.cells #[.slice none 0 0] 32) = w2 at *
  refine wpIn_rangeFunc_ownH rfl (by omega) (gf := gf) (lb := lb) rfl trivial eg hseq KeepsWalks.trans (fun W l o o' h1 h2 h3 h4 => KeepsWalks.putObj _ h2 h4) (b0.mono (Nat.le_refl _)) (fun _ => rfl)
    (fun pre W => (∃ v, Boxed W w.heap.size 32 v ∧ W.ownsRow (w.heap.size + 1) 31 32 v (hxl pre).length (fl (hxl pre)) ∧ True) ∧ Below w.heap.size w W)
    (fun _ _ _ => False)
    (OwnFrom.and (Own.from (holdsRow_own (w.heap.size + 1) w.heap.size 32 31 32 (fun pre : List Hx => (hxl pre).length) (fun pre => fl (hxl pre)) (fun _ _ => True)) _) (ownFrom_below (Nat.le_refl _) (by omega)))
    (fun _ _ _ _ _ hs _ _ => hs)
    ⟨⟨_, bB, World.ownsRow_nil _ _ _ _, trivial⟩, b0⟩
    (fun x a' W => ∃ Bx, w.heap.size + 1 ≤ Bx ∧ W.heap[Bx]? = some (.cells (hv x.1) 31 (0, 0)) ∧ a' = { tmps := #[.slice none 0 0, .func (.func gf) #[] lb, .pointer (some ⟨w.heap.size, 0, none⟩), undef, .slice none 0 0, .pointer (some ⟨Bx, 0, none⟩), .func (.func gf) #[] lb, .agg (hv x.1), undef, undef, undef, undef, undef], defers := [] })
    (by
      rintro x a' _ W W' row ⟨Bx, h1, h2, h3⟩ hg hr
      refine ⟨Bx, h1, (hg.block Bx (Array.getElem?_eq_some_iff.1 h2).1 (fun e => ?_)).trans h2, h3⟩
      obtain ⟨_, o, ho, hoc⟩ := hr Bx e.symm
      rw [h2] at ho
      cases ho
      cases hoc)
    ?assign ?body ?done ?stop
  case assign =>
    rintro l' pre x W K ⟨⟨v, hv', hrow, _⟩, hB⟩ hK
    have hsz : w.heap.size < W.heap.size := (Array.getElem?_eq_some_iff.1 hv').1
    obtain ⟨x, hx⟩ := x
    dsimp only
    have st := hst_cells x hx W
    have hks : (hv x).size = 32 := by rw [hv_size, hx]
    have hK' := hK { tmps := #[.slice none 0 0, .func (.func gf) #[] lb, .pointer (some ⟨w.heap.size, 0, none⟩), undef, .slice none 0 0, .pointer (some ⟨W.heap.size, 0, none⟩), .func (.func gf) #[] lb, .agg (hv x), undef, undef, undef, undef, undef], defers := [] } _
      ((KeepsOthers.alloc W (.cells (hv x) 31)).from _) (KeepsWalks.alloc _ _) ⟨⟨v, hv'.alloc _, hrow.alloc _, trivial⟩, hB.alloc hB.size _⟩ ⟨W.heap.size, by omega, heap_alloc_last W _, rfl⟩
    have HK := Lib.hid hK'
    clear hK hK'
    generalize hv x = q at *
    gi_wp2
    exact HK.out
  case body =>
    rintro l' pre x a' W hl' ⟨r, hr⟩ ⟨⟨v, hv', hrow, _⟩, hB⟩ ⟨Bx, hBx, bX, rfl⟩ hlt
    obtain ⟨x, hx⟩ := x
    dsimp only at bX
    have hlen : (hxl pre).length = pre.length := List.length_map _
    have hft := coll_fits hN (show (hxl pre).length < N by omega)
    have hsn := Lib.hid (hxl_snoc pre ⟨x, hx⟩)
    have hrow' : HOwn W (w.heap.size + 1) v (hxl pre) := hrow
    clear hrow
    generalize hxl pre = E at *
    have hld1 := hld_row hx bX
    have hbs := fun w => run_build_hash w x hx
    have hc := hv'.cell
    have hsz := hB.size
    have hxn : (us (nmb x)).length = 1 * 32 := by rw [usn_length, hx]
    have hxc : ∀ j u, (us (nmb x))[j]? = some u → (W.alloc (.cells (hv x) 31)).cell? ((⟨W.heap.size, 0, none⟩ : Addr).add j) = some u := fun j u hj => by
      rw [Addr.add_lit]
      have := range_new' W x 31 j u hj
      simpa using this
    have hx1 : ∀ u ∈ us (nmb x), u.oneCell' = true := by
      have := fl_one' [x]
      rwa [fl_one] at this
    have HXC := Lib.hid hxc
    clear hxc bX hr hlen hlt
    gi_wp2_with (first | (refine build_in x hx rfl ?_) | (gi_at_builtin; go_must (refine wpListIn_append_own _ rfl _ _ 32 rfl (w.heap.size + 1) 31 i0 (.agg hzer) 32 32 Tryz.underlying32 hi0 hz0 hz1 hz2 rfl (by decide) _ _ _ rfl (World.ownsRow.alloc hrow' _) ⟨W.heap.size, 0, none⟩ 1 1 (us (nmb x)) rfl hxn HXC.out hx1 hft.1 hft.2 (by simp; omega) ?_); intro v' w3 hown' hgrow _; obtain ⟨g', cap', rfl⟩ := ownsRow_succ hown'; have hv1 : Boxed w3 w.heap.size 32 v := (hv'.alloc _).kept hgrow (hv'.not_row (by decide) hrow'); have hc1 := hv1.cell; have hf1 := hv1.frozen))
    obtain ⟨q1, q2, q3, q4, q5⟩ := coll_step (x := x) hrow' hgrow hown' hv1
    refine ⟨q3.from _, q4, ⟨_, q1, ?_⟩, hB.trans (Only.below (S := fun k => k = w.heap.size ∨ w.heap.size + 1 ≤ k) q5 hsz (fun j hj => by omega))⟩
    rw [hsn.out]
    exact q2
  case done =>
    rintro D ys W hD hys ⟨⟨v, hv', hrow, _⟩, hB⟩ hK
    have hc := hv'.cell
    gi_wp2
    refine ⟨by simp, .inl ⟨_, _, rfl, run_takeDeferred hK, ?_⟩⟩
    exact ⟨_, results_tmp rfl _ _ _, v, ys, rfl, hys, ownsRow_putObj (own_lower hrow (by omega)) _ hK rfl, hB.trans (belowW W D _ _ (by omega) hK)⟩
  case stop =>
    rintro D c pre W _ _ h _
    exact h.elim

theorem collect_in (n : Nat) (hn : 3 ≤ n) (gf : Nat) (lb : Array Value) (eg : ∀ args w, (callFunc gf args).run Tryz.prog w = .ok (.enter gf args) w) (S Sp : List Hx → Prop) (N : Nat) (hN : N ≤ 1000000) (w : World)
    (hseq : SeqStopsK Fence.wide (n - 2) Tryz.prog gf lb (fun x : Hx => #[.agg (hv x.1)]) KeepsWalks S Sp N w) :
    CallsIn Fence.wide n Tryz.prog 94 #[.func (.func gf) #[] lb] w fun e w' => ∃ (v : Value) (ss : List Hx), e = .returned v ∧ S ss ∧ HOwn w' w.heap.size v (hxl ss) ∧ Below w.heap.size w w' := by
  have HA := Lib.hid (append_seq (n - 1) (by omega) gf lb eg S Sp N hN w (by rw [show n - 1 - 1 = n - 2 by omega]; exact hseq))
  refine callsIn_of_wp Tryz.func94 rfl trivial ?_ rfl
  simp only [Tryz.ntmps94, List.size_toArray, List.length_cons, List.length_nil, Nat.reduceAdd, Nat.reduceSub, Array.replicate_succ, Array.replicate_zero, List.push_toArray, List.append_toArray, List.nil_append, List.cons_append]
  gi_wp2_with fail
  refine ⟨trivial, fun _ => by omega, ?_⟩
  refine HA.out.mono ?_
  rintro e w1 ⟨v1, ss, rfl, hS, o1, b1⟩
  gi_wp2
  go_ret
  exact ⟨_, ss, rfl, hS, o1, b1⟩

/-- maps.Keys and slices.Collect, one behind the other, as two calls. -/
theorem keysS_to (mb : Option Nat) (w : World) : Calls Tryz.prog 101 #[.map mb] w fun e w' => e = .returned (.func (.func 117) #[] #[.pointer (some ⟨w.heap.size, 0, none⟩)]) ∧ w' = w.alloc (.cells #[.map mb] 113) :=
  (callsIn_wide (n := 6)).1 (keysS_in Fence.wide 6 trivial rfl mb w)
theorem collectS_to (w : World) (b : Nat) (M : Kv) (hM : M.length ≤ 1000000) (hown : MpH w b M) (W : World) (hW : W = w.alloc (.cells #[.map (some b)] 113)) : Calls Tryz.prog 94 #[.func (.func 117) #[] #[.pointer (some ⟨w.heap.size, 0, none⟩)]] W fun e w' =>
    ∃ v E, e = .returned v ∧ H32 E ∧ E.Perm (M.map (·.1)) ∧ HOwn w' w.heap.size v E ∧ Below w.heap.size w w' := by
  subst hW
  have b1 := (Below.refl w.heap.size w).alloc (Nat.le_refl _) (.cells #[.map (some b)] 113)
  refine (callsIn_wide (n := 6)).1 ((collect_in 6 (by decide) 117 _ (enters_of Tryz.func117 (by kernel_rfl) rfl) _ _ M.length hM _
    (keysS_gives Fence.wide 4 trivial rfl (by decide) w.heap.size b M _ (by rw [cell_of_row _ w.heap.size 0 _ _ _ (heap_alloc_last w _)]; rfl) (hown.kb b1 hown.lt))).mono ?_)
  rintro e w' ⟨v, ss, rfl, h1, h2, h3⟩
  exact ⟨v, hxl ss, rfl, hxl_h32 ss, h1, own_lower h2 b1.size, b1.trans (h3.mono b1.size)⟩
end Go.Proofs.YtnpeahbbcolfmaaGreatDoor
namespace Go.Proofs.YtnpeahbbcolfmaaGreatDoor
open Go.RowKit
open Go.Maps
attribute [local go_sem ↓] hld_open
theorem bl_bb : ∀ a b : Key, Op.bytesLess a b = bytesBefore a b
  | [], [] => rfl
  | [], _ :: _ => rfl
  | _ :: _, [] => rfl
  | x :: a, y :: b => by
    have ih := bl_bb a b
    simp only [Op.bytesLess, bytesBefore, ih]
theorem aasc_asc {α : Type} {M : List (Key × α)} (h : AAsc M) : Asc (M.map (·.1)) := List.pairwise_map.2 (h.imp fun {a b} hab => by rw [bl_bb]; exact hab)
theorem rsort_perm {E R : List Key} (h : E.Perm R) (hR : Asc R) : rsort E = R := asc_ext _ _ (rsort_asc E) hR fun a => by rw [rsort_mem, h.mem_iff]
theorem h32_keys {M : Kv} (h : ∀ p ∈ M, p.1.length = 32) : H32 (M.map (·.1)) := fun x hx => by
  obtain ⟨p, hp, rfl⟩ := List.mem_map.1 hx
  exact h p hp
theorem kvs_keys (X : Lx) : (kvs X).map (·.1) = X.map (·.1) := by simp [kvs, amap, Function.comp_def]
theorem gr_keys (X : Lx) : (gr X).map (·.1) = X.map (·.1) := by simp [gr, amap, Function.comp_def]
theorem kvs_len (X : Lx) : (kvs X).length = X.length := by simp [kvs, amap]
theorem gr_len (X : Lx) : (gr X).length = X.length := by simp [gr, amap]
theorem gr_get (n : Key) (X : Lx) : aget n (gr X) = (aget n X).map (·.2) := amap_get _ _ _
theorem srt_fit {n : Nat} (h : n ≤ 1000000) : n * 32 ≤ 140737488355328 := by omega
theorem blw_drn {n m : Nat} {w w' : World} (h : Below n (w.drewN m) w') : Below n w w' := ⟨h.os, h.tape, h.output, h.size, h.block⟩
theorem blw_qt (n m : Nat) (w : World) : Below n w (w.drewN m) := ⟨rfl, rfl, rfl, Nat.le_refl _, fun _ _ => rfl⟩
abbrev gp (g : Nat) : Value := .pointer (some ⟨g, 0, none⟩)

/-- graph.New. -/
theorem new_to (w : World) : Calls Tryz.prog 6 #[] w fun e w' => e = .returned (gp (w.heap.size + 1)) ∧ GA w' (w.heap.size + 1) w.heap.size [] ∧ Below w.heap.size w w' := by
  have h1 := MpH.made w
  have b1 : Below w.heap.size w (w.alloc (.map #[] 0)) := (Below.refl _ w).alloc (Nat.le_refl _) _
  have h2 : GA ((w.alloc (.map #[] 0)).alloc (.cells #[.map (some w.heap.size)] 91)) (w.heap.size + 1) w.heap.size [] :=
    ⟨by have := heap_alloc_last (w.alloc (.map #[] 0)) (.cells #[.map (some w.heap.size)] 91); simpa using this, h1.kb ((Below.refl _ _).alloc (Nat.le_refl _) _) h1.lt, fun x hx => by cases hx⟩
  have B := Lib.hid (b1.alloc b1.size (.cells #[.map (some w.heap.size)] 91))
  have H2 := Lib.hid h2
  have hmm := @run_makeMap Tryz.prog
  clear h1 h2 b1
  go_enter Tryz.func6, Tryz.ntmps6
  go_wp2
  go_ret
  exact ⟨rfl, H2.out, B.out⟩
/-- Count. -/
theorem count_to (w : World) (g bm : Nat) (X : Lx) (H : GA w g bm X) : Calls Tryz.prog 73 #[gp g] w fun e w' => e = .returned (.int .i64 X.length) ∧ w = w' := by
  have hc := H.c0
  have ho := H.at_.mp.own
  have hs : Maps.size (mapV (kvs X)) = X.length := by rw [mapV_size, kvs_len]
  generalize mapV (kvs X) = D at ho hs
  go_enter Tryz.func73, Tryz.ntmps73
  go_wp2_with (at_len; refine wpList_len_own _ rfl _ 89 rfl _ _ Tryz.underlying89 rdv bm (kvs X).length D rfl ho ?_; rw [hs])
  go_ret
  exact ⟨rfl, rfl⟩
set_option maxRecDepth 20000 in
/-- Has. -/
theorem has_to (w : World) (g bm : Nat) (X : Lx) (h : Key) (hh : h.length = 32) (H : GA w g bm X) : Calls Tryz.prog 36 #[gp g, .agg (hv h)] w fun e w' => e = .returned (.bool (aget h (gr X)).isSome) ∧ Below w.heap.size w w' := by
  have b1 : Below w.heap.size w (w.alloc (.cells (hv h) 31)) := (Below.refl _ w).alloc (Nat.le_refl _) _
  have H1 := H.kb b1
  have hq : (aget h (kvs X)).isSome = (aget h (gr X)).isSome := by rw [kvs_get, gr_get]; cases aget h X <;> rfl
  have HC := Lib.hid (fun W (hW : Below (w.alloc (.cells (hv h) 31)).heap.size (w.alloc (.cells (hv h) 31)) W) => lhas_to W bm (kvs X) h hh (H1.at_.mp.kb hW H1.at_.mp.lt))
  rw [hq] at HC
  generalize (aget h (gr X)).isSome = ok at HC ⊢
  have c0 := H1.c0
  have HV := Lib.hid (heap_alloc_last w (.cells (hv h) 31))
  have q0 := hld_row (w := (w.alloc (.cells (hv h) 31)).drew) hh HV.out
  have H1' := Lib.hid H1
  have HH := Lib.hid hh
  have B1 := Lib.hid b1
  clear b1 H H1 hq hh
  go_enter Tryz.func36, Tryz.ntmps36
  go_wp2_with fail
  generalize w.alloc (.cells (hv h) 31) = w1 at *
  try simp only [List.append]
  refine wp_region_noPanic ?_
  refine wp_region_held_drew (S := (fun W => W.cell? ⟨g, 0, none⟩ = some (.map (some bm)) ∧ (hld ⟨w.heap.size, 0, none⟩).run Tryz.prog W = .ok (.agg (hv h)) W)) (by kernel_rfl) ⟨c0, q0⟩ (fun hHeld => ?_)
  refine wpAnyH_take (i := 0) (v := ?_) (by simp only [List.getElem?_toArray, List.getElem?_cons_zero]; rfl) (by kernel_rfl) (by kernel_rfl) (by kernel_rfl) (fun _ _ _ h => h) (Or.inl ⟨by rfl, ?_⟩) (by assumption) ?_
  rotate_left
  · intro w hSw
    try dsimp only at hSw
    go_simp
    try with_reducible rfl
  try simp only [Act.put, List.setIfInBounds_toArray, List.set_cons_zero, List.set_cons_succ]
  refine wpAnyH_take (i := 1) (v := ?_) (by simp only [List.getElem?_toArray, List.getElem?_cons_succ, List.getElem?_cons_zero]; rfl) (by kernel_rfl) (by kernel_rfl) (by kernel_rfl) (fun _ _ _ h => h) (Or.inl ⟨by rfl, ?_⟩) (by assumption) ?_
  rotate_left
  · intro w hSw
    try dsimp only at hSw
    go_simp
    try with_reducible rfl
  try simp only [Act.put, List.setIfInBounds_toArray, List.set_cons_zero, List.set_cons_succ]
  refine wpAnyH_take (i := 2) (v := ?_) (by simp only [List.getElem?_toArray, List.getElem?_cons_succ, List.getElem?_cons_zero]; rfl) (by kernel_rfl) (by kernel_rfl) (by kernel_rfl) (fun _ _ _ h => h) (Or.inl ⟨by rfl, ?_⟩) (by assumption) ?_
  rotate_left
  · intro w hSw
    try dsimp only at hSw
    go_simp
    try with_reducible rfl
  try simp only [Act.put, List.setIfInBounds_toArray, List.set_cons_zero, List.set_cons_succ]
  refine wpAnyH_take (i := 3) (v := ?_) (by simp only [List.getElem?_toArray, List.getElem?_cons_succ, List.getElem?_cons_zero]; rfl) (by kernel_rfl) (by kernel_rfl) (by kernel_rfl) (fun _ _ _ h => h) (Or.inl ⟨by rfl, ?_⟩) (by assumption) ?_
  rotate_left
  · intro w hSw
    try dsimp only at hSw
    go_simp
    try with_reducible rfl
  try simp only [Act.put, List.setIfInBounds_toArray, List.set_cons_zero, List.set_cons_succ]
  refine wpAnyH_take (i := 4) (v := ?_) (by simp only [List.getElem?_toArray, List.getElem?_cons_succ, List.getElem?_cons_zero]; rfl) (by kernel_rfl) (by kernel_rfl) (by kernel_rfl) (fun _ _ _ h => h) (Or.inl ⟨by rfl, ?_⟩) (by assumption) ?_
  rotate_left
  · intro w hSw
    try dsimp only at hSw
    go_simp
    try with_reducible rfl
  try simp only [Act.put, List.setIfInBounds_toArray, List.set_cons_zero, List.set_cons_succ]
  refine wpAnyH_ready (rs := [5]) (by kernel_rfl) (by simp) ?_
  refine AllReadyH.cons (by simp only [List.getElem?_toArray, List.getElem?_cons_succ, List.getElem?_cons_zero]; rfl) (fun K hK => ?_) AllReadyH.nil
  go_simp
  refine (HC.out w1.drew ((Below.refl _ w1).drew)).mono ?_
  rintro e w2 ⟨rfl, b2⟩
  have B2 : Hid (Below w.heap.size w w2) := Lib.hid (B1.out.trans ((blw_drn (m := 1) b2).mono B1.out.size))
  have q2 := hld_row (w := w2) HH.out ((b2.block _ (Array.getElem?_eq_some_iff.1 HV.out).1).trans HV.out)
  have c2 := (H1'.out.kb (blw_drn (m := 1) b2)).c0
  go_wp2_with fail
  refine hK.out _ _ ⟨c2, q2⟩ (fun hHeld => ?_)
  clear hK K
  try simp only [Act.put, List.setIfInBounds_toArray, List.set_cons_zero, List.set_cons_succ]
  refine wpAnyH_take (i := 6) (v := ?_) (by simp only [List.getElem?_toArray, List.getElem?_cons_succ, List.getElem?_cons_zero]; rfl) (by kernel_rfl) (by kernel_rfl) (by kernel_rfl) (fun _ _ _ h => h) (Or.inl ⟨by rfl, ?_⟩) (by assumption) ?_
  rotate_left
  · intro w hSw
    try dsimp only at hSw
    go_simp
    try with_reducible rfl
  try simp only [Act.put, List.setIfInBounds_toArray, List.set_cons_zero, List.set_cons_succ]
  refine wpAnyH_done (by kernel_rfl) ?_ _
  refine NoPanic.normal ?_
  go_wp2
  go_ret
  exact ⟨rfl, B2.out⟩

set_option maxRecDepth 20000 in
/-- Parents. -/
theorem parents_to (w : World) (g bm : Nat) (X : Lx) (h : Key) (hh : h.length = 32) (H : GA w g bm X) (hl : ∀ x ∈ X, x.2.2.length ≤ 1000000) : Calls Tryz.prog 120 #[gp g, .agg (hv h)] w fun e w' =>
    ∃ v, e = .returned (.tuple #[v, .bool (aget h (gr X)).isSome]) ∧ HOwn w' w.heap.size v ((aget h (gr X)).getD []) ∧ Below w.heap.size w w' := by
  have b1 : Below w.heap.size w (w.alloc (.cells (hv h) 31)) := (Below.refl _ w).alloc (Nat.le_refl _) _
  have H1 := H.kb b1
  have hlk := fun j => (H1.at_.mp.drew j).lookOk Tryz.underlying89 (lzero _) h hh
  have hq : (aget h (kvs X)).isSome = (aget h (gr X)).isSome := by rw [kvs_get, gr_get]; cases aget h X <;> rfl
  rw [hq] at hlk
  have hs : HSeen (w.alloc (.cells (hv h) 31)) ((aget h (kvs X)).getD (.slice none 0 0)) ((aget h (gr X)).getD []) ∧ H32 ((aget h (gr X)).getD []) ∧ ((aget h (gr X)).getD []).length ≤ 1000000 := by
    rw [kvs_get, gr_get]
    cases hg : aget h X with
    | none => exact ⟨.inl ⟨rfl, rfl⟩, H32.nil, Nat.zero_le _⟩
    | some y => exact ⟨(H1.at_.seen _ (aget_mem hg)).1, (H1.at_.seen _ (aget_mem hg)).2, hl _ (aget_mem hg)⟩
  generalize (aget h (gr X)).isSome = ok at hlk ⊢
  generalize (aget h (gr X)).getD [] = E at hs ⊢
  generalize (aget h (kvs X)).getD (.slice none 0 0) = zv at hlk hs
  have HCL := Lib.hid (fun W (hW : Below (w.alloc (.cells (hv h) 31)).heap.size (w.alloc (.cells (hv h) 31)) W) => hclone_any W zv E hs.2.1 (srt_fit hs.2.2) (hs.1.mild (mild_below hW)))
  have c0 := H1.c0
  have HV := Lib.hid (heap_alloc_last w (.cells (hv h) 31))
  have hld0 := fun j => hld_row (w := (w.alloc (.cells (hv h) 31)).drewN j) hh HV.out
  have B1 := Lib.hid b1
  clear b1 H H1 hq hh hs hl
  go_enter Tryz.func120, Tryz.ntmps120
  go_wp2_with fail
  generalize w.alloc (.cells (hv h) 31) = w1 at *
  generalize hv h = q at *
  go_quiet (fail)
  go_wp2_with (first
    | (go_at_call 37; refine (HCL.out (w1.drewN _) (blw_qt _ _ w1)).mono ?_; rintro e w2 ⟨v2, rfl, o2, b2⟩))
  go_ret2
  have b3 := blw_drn b2
  exact ⟨_, rfl, own_lower o2 B1.out.size, B1.out.trans (b3.mono B1.out.size)⟩
/-- The sorted hashes of a set. -/
theorem sorted_to (w : World) (b : Nat) (R : List Key) (hR : R.length ≤ 1000000) (H : SetH w b R) : Calls Tryz.prog 76 #[.map (some b)] w fun e w' => ∃ v, e = .returned v ∧ HOwn w' w.heap.size v R ∧ Below w.heap.size w w' := by
  obtain ⟨M, HM, hu, rfl⟩ := H.ex
  rw [List.length_map] at hR
  have HC := Lib.hid (collectS_to w b M hR HM _ rfl)
  have ha := aasc_asc HM.asc
  have hb1 := ((Below.refl w.heap.size w).alloc (Nat.le_refl _) (.cells #[.map (some b)] 113))
  have HS := Lib.hid (fun (W : World) (v : Value) (E : List Key) (h32 : H32 E) (hp : E.Perm (M.map (·.1))) (ho : HOwn W w.heap.size v E) => (sort_to W v E h32 (srt_fit (by rw [hp.length_eq, List.length_map]; exact hR)) (HSeen.own ho)).mono fun e w' h => by unfold SoPost at h; rw [rsort_perm hp ha] at h; exact h)
  clear HM hu hR ha H
  go_enter Tryz.func76, Tryz.ntmps76
  go_wp2_with (first
    | (go_at_call 101; refine (keysS_to _ _).mono ?_; rintro e w1 ⟨rfl, rfl⟩)
    | (go_at_call 94; refine HC.out.mono ?_; rintro e w2 ⟨v2, E, rfl, h1, h2, h3, h4⟩)
    | (go_at_call 93; refine (HS.out _ _ E h1 h2 h3).mono ?_; rintro e w3 ⟨v3, rfl, h5, h6⟩))
  go_ret
  exact ⟨_, rfl, own_lower h5 h4.size, h4.trans (h6.mono h4.size)⟩
end Go.Proofs.YtnpeahbbcolfmaaGreatDoor
namespace Go.Proofs.YtnpeahbbcolfmaaGreatDoor
open Go.RowKit
open Go.Maps
attribute [local go_sem ↓] hld_open
/-- b comes of a by steps along f. -/
inductive Up (f : Key → List Key) : Key → Key → Prop
  | refl (a : Key) : Up f a a
  | step {a b c : Key} (h : b ∈ f a) (k : Up f b c) : Up f a c
theorem Up.one {f : Key → List Key} {a b : Key} (h : b ∈ f a) : Up f a b := .step h (.refl b)
theorem Up.trans {f : Key → List Key} {a b c : Key} (h : Up f a b) (k : Up f b c) : Up f a c := by
  induction h with
  | refl => exact k
  | step h1 _ ih => exact .step h1 (ih k)
theorem Up.snoc {f : Key → List Key} {a b c : Key} (h : Up f a b) (k : c ∈ f b) : Up f a c := h.trans (.one k)
/-- What has been reached, R, and what is to be gone through, T. -/
structure RInv (f : Key → List Key) (E R T : List Key) : Prop where
  up : ∀ x, x ∈ R ∨ x ∈ T → ∃ a ∈ E, Up f a x
  src : ∀ a ∈ E, a ∈ R ∨ a ∈ T
  clo : ∀ x ∈ R, ∀ p ∈ f x, p ∈ R ∨ p ∈ T
theorem RInv.start (f : Key → List Key) (E : List Key) : RInv f E [] E := ⟨fun x h => h.elim (fun h => by cases h) fun h => ⟨x, h, .refl x⟩, fun _ h => .inr h, fun _ h => by cases h⟩
theorem RInv.old {f : Key → List Key} {E R T : List Key} {x : Key} (h : RInv f E R (T ++ [x])) (hx : x ∈ R) : RInv f E R T := by
  have g : ∀ y, y ∈ R ∨ y ∈ T ++ [x] → y ∈ R ∨ y ∈ T := fun y hy => by
    rcases hy with hy | hy
    · exact .inl hy
    · rcases List.mem_append.1 hy with hy | hy
      · exact .inr hy
      · rw [List.mem_singleton.1 hy]; exact .inl hx
  exact ⟨fun y hy => h.up y (hy.imp id fun e => List.mem_append_left _ e), fun a ha => g a (h.src a ha), fun y hy p hp => g p (h.clo y hy p hp)⟩
theorem RInv.new {f : Key → List Key} {E R R' T : List Key} {x : Key} (h : RInv f E R (T ++ [x])) (hR : ∀ y, y ∈ R' ↔ y = x ∨ y ∈ R) : RInv f E R' (T ++ f x) := by
  obtain ⟨a, ha, hax⟩ := h.up x (.inr (List.mem_append_right _ List.mem_cons_self))
  have g : ∀ y, y ∈ R ∨ y ∈ T ++ [x] → y ∈ R' ∨ y ∈ T ++ f x := fun y hy => by
    rcases hy with hy | hy
    · exact .inl ((hR y).2 (.inr hy))
    · rcases List.mem_append.1 hy with hy | hy
      · exact .inr (List.mem_append_left _ hy)
      · exact .inl ((hR y).2 (.inl (List.mem_singleton.1 hy)))
  refine ⟨fun y hy => ?_, fun b hb => g b (h.src b hb), fun y hy p hp => ?_⟩
  · rcases hy with hy | hy
    · rcases (hR y).1 hy with rfl | hy
      · exact ⟨a, ha, hax⟩
      · exact h.up y (.inl hy)
    · rcases List.mem_append.1 hy with hy | hy
      · exact h.up y (.inr (List.mem_append_left _ hy))
      · exact ⟨a, ha, hax.snoc hy⟩
  · rcases (hR y).1 hy with rfl | hy
    · exact .inr (List.mem_append_right _ hp)
    · exact g p (h.clo y hy p hp)
theorem up_mem {f : Key → List Key} {R : List Key} (hc : ∀ x ∈ R, ∀ p ∈ f x, p ∈ R) {a x : Key} (h : Up f a x) : a ∈ R → x ∈ R := by
  induction h with
  | refl => exact id
  | step h1 _ ih => exact fun h0 => ih (hc _ h0 _ h1)
theorem RInv.done {f : Key → List Key} {E R : List Key} (h : RInv f E R []) (x : Key) : x ∈ R ↔ ∃ a ∈ E, Up f a x := by
  have n : ∀ y, y ∈ R ∨ y ∈ ([] : List Key) → y ∈ R := fun y hy => hy.elim (fun h => h) (fun h => by cases h)
  exact ⟨fun hx => h.up x (.inl hx), fun ⟨a, ha, hax⟩ => up_mem (fun x hx p hp => n p (h.clo x hx p hp)) hax (n a (h.src a ha))⟩
theorem nodup_le {α : Type} [DecidableEq α] : ∀ {R U : List α}, R.Nodup → (∀ x ∈ R, x ∈ U) → R.length ≤ U.length
  | [], _, _, _ => Nat.zero_le _
  | x :: R, U, h, hs => by
    obtain ⟨h1, h2⟩ := List.nodup_cons.1 h
    have hx := hs x List.mem_cons_self
    have := nodup_le (U := U.erase x) h2 fun y hy => (List.mem_erase_of_ne (by rintro rfl; exact h1 hy)).2 (hs y (List.mem_cons_of_mem _ hy))
    rw [List.length_erase_of_mem hx] at this
    have := List.length_pos_of_mem hx
    rw [List.length_cons]; omega
theorem up_in {f : Key → List Key} {E U : List Key} (hE : ∀ x ∈ E, x ∈ U) (hf : ∀ x, ∀ p ∈ f x, p ∈ U) {a x : Key} (ha : a ∈ E) (h : Up f a x) : x ∈ U := by
  have h0 := hE a ha
  clear ha
  induction h with
  | refl => exact h0
  | step h1 _ ih => exact ih (hf _ _ h1)
/-- The parents of a commit. -/
def adj (G : Gr) (h : Key) : List Key := (aget h G).getD []
/-- How many entries a map has. -/
def msz (w : World) (b : Nat) : Nat := match w.heap[b]? with | some (.map es _) => es.size | _ => 0
theorem MpH.msz {w : World} {b : Nat} {M : Kv} (h : MpH w b M) : msz w b = M.length := by
  obtain ⟨es, clock, h1, h2, _, h4⟩ := h.own
  unfold mapV at h4
  have h6 := congrArg List.length (DataW.map.inj h4)
  rw [length_sorted] at h6
  simp at h6
  simp only [Go.Proofs.YtnpeahbbcolfmaaGreatDoor.msz, h1]
  exact h6.symm
def slen : Value → Nat | .slice _ n _ => n | _ => 0
theorem HOwn.cut {w : World} {B n : Nat} {p : Option Addr} {c : Nat} {T : List Key} {x : Key} (h : HOwn w B (.slice p n c) (T ++ [x])) (hT : H32 T) : HOwn w B (.slice p T.length c) T := by
  obtain ⟨g, cap, R, e, hb, hg, hc, hm, hR⟩ := h.row (by simp)
  simp only [Value.slice.injEq] at e
  obtain ⟨rfl, _, rfl⟩ := e
  rw [List.length_append, List.length_singleton] at hc hR
  rw [fl_app, fl_one, List.append_assoc] at hg
  have hx : (us (nmb x)).length = 32 := by
    have := h.1
    rw [fl_app, fl_one, List.length_append, fl_length hT, List.length_append, List.length_singleton] at this
    omega
  exact hown_mk hT rfl hb hg (by omega) hm (by rw [List.length_append, hx, hR]; omega)
theorem HOwn.last {w : World} {B n : Nat} {p : Option Addr} {c : Nat} {T : List Key} {x : Key} (h : HOwn w B (.slice p n c) (T ++ [x])) (hT : H32 (T ++ [x])) : ∃ g, p = some ⟨g, 0, none⟩ ∧ n = T.length + 1 ∧ T.length < c ∧ w.rangeAt g (T.length * 32) (us (nmb x)) := by
  obtain ⟨g, cap, R, e, hb, hg, hc, hm, hR⟩ := h.row (by simp)
  simp only [Value.slice.injEq] at e
  obtain ⟨rfl, rfl, rfl⟩ := e
  rw [List.length_append, List.length_singleton] at hc
  have := row_range hT (i := T.length) (by simp) hg
  refine ⟨g, rfl, by simp, by omega, ?_⟩
  simpa using this
theorem own_ne_map {w : World} {B b : Nat} {v : Value} {E : List Key} {M : Kv} (h : HOwn w B v E) (hm : MpH w b M) : v.ownBlock ≠ some b := fun e => by
  obtain ⟨es, c, hb⟩ := hm.ismap
  have := own_isCells h b _ e hb
  cases this
theorem HOwn.step {w w' : World} {B : Nat} {v : Value} {E : List Key} {S : Nat → Prop} (h : HOwn w B v E) (ho : Only S w w') (hs : ∀ j, v.ownBlock = some j → ¬ S j) : HOwn w' B v E := by
  refine ⟨h.1, ?_⟩
  rcases h.2 with h1 | ⟨g, cap, cur, rfl, hb, hg, h3⟩
  · exact .inl h1
  · exact .inr ⟨g, cap, cur, rfl, hb, (ho.block g (Array.getElem?_eq_some_iff.1 hg).1 (hs g rfl)).trans hg, h3⟩
theorem SetH.step {w w' : World} {b : Nat} {R : List Key} {S : Nat → Prop} (h : SetH w b R) (ho : Only S w w') (hs : ¬ S b) : SetH w' b R := by
  obtain ⟨M, h1, h2, h3⟩ := h.ex
  exact ⟨M, h1.kept ho hs, h2, h3⟩
theorem run_append_nil_h {w : World} (base : Nat) (t ty e : TypeId) (i : TypeInfo) (size : Nat) (ht : Tryz.prog.underlying t = some (.slice e)) (hi : Tryz.prog.info? e = some i)
    (v : Value) (n : Nat) (xs : List Value) (hown : w.ownsRow base e size v n xs) : (Builtin.append_ #[t, t] ty #[v, .slice none 0 0]).run Tryz.prog w = .ok v w := by
  rcases hown.2 with ⟨rfl, rfl⟩ | ⟨g, cap, cur, rfl, _, _, hnc, _⟩
  · simp [Builtin.append_, run_underlying ht, sizeOf, typeInfo, hi, Builtin.lenOf, Builtin.firstCells]
  · simp [Builtin.append_, run_underlying ht, sizeOf, typeInfo, hi, Builtin.lenOf, Builtin.firstCells, hnc, storeCells]
/-- What append does with a slice of the call's own and one that is read. -/
theorem run_push_hash (w : World) (ty : TypeId) (B : Nat) (v u : Value) (l m : List Key) (hown : HOwn w B v l) (hu : HSeen w u m) (hm : H32 m) (hs : l.length + m.length ≤ 4398046511104) (hB : B ≤ w.heap.size) :
    ∃ v' w', (Builtin.append_ #[32, 32] ty #[v, u]).run Tryz.prog w = .ok v' w' ∧ HOwn w' B v' (l ++ m) ∧ Only (fun j => v.ownBlock = some j) w w' := by
  obtain ⟨i0, hi0, hz0, hz1, hz2⟩ := info_parts hzinfo
  have hf : l.length + m.length ≤ maxLen ∧ (l.length + m.length) * 32 ≤ 140737488355328 := by unfold maxLen; omega
  rcases hu with ⟨rfl, rfl⟩ | ⟨a, cap, rfl, hc, hcell⟩
  · obtain ⟨v', w', hr, h1, h2⟩ : ∃ v' w', (Builtin.append_ #[32, 32] ty #[v, .slice none 0 0]).run Tryz.prog w = .ok v' w' ∧ v' = v ∧ w' = w :=
      ⟨v, w, run_append_nil_h B _ ty 31 i0 32 Tryz.underlying32 hi0 v _ _ hown, rfl, rfl⟩
    subst h1 h2
    exact ⟨_, _, hr, by simpa using hown, Only.refl _ _⟩
  · obtain ⟨v', w', hr, h2, h3, h4, h5⟩ := run_append_own_at (P := Tryz.prog) (w := w) B 32 ty 31 i0 _ 32 32 Tryz.underlying32 hi0 hz0 hz1 hz2 rfl (by decide) v l.length (fl l) hown a m.length cap (fl m) (fl_length hm) hcell (fl_one' m) hf.1 hf.2 hB
    refine ⟨v', w', hr, ?_, (Only.refl _ w).grown h3 (fun k _ e => e)⟩
    unfold HOwn
    rw [List.length_append, fl_app]
    exact h2
section
variable {ops : Array Oper} {rest : List Oper} {a : Act} {Q : Exit → Act → World → Prop} {o : Oper} {w : World}
theorem push_hash (hgd : o.guard = none) (s x : Operand) (ho : o.op = .call { callee := .builtin .append, args := #[s, x], argTypes := #[32, 32] })
    (B : Nat) (v u : Value) (l m : List Key) (hs : a.eval s = v) (hown : HOwn w B v l) (hx : a.eval x = u) (hu : HSeen w u m) (h32m : H32 m) (hl : l.length + m.length ≤ 4398046511104) (hB : B ≤ w.heap.size)
    (h : ∀ v' w', HOwn w' B v' (l ++ m) → Only (fun j => v.ownBlock = some j) w w' → wpList Tryz.prog ops Q rest (a.put o.dst v') w') :
    wpList Tryz.prog ops Q (o :: rest) a w := by
  refine wpList_plain hgd fun K hK => ?_
  obtain ⟨v', w', hr, h1, h2⟩ := run_push_hash w o.type B v u l m hown hu h32m hl hB
  unfold Oper.wp execOp
  simp only [ho, resolve, invoke, builtin, Sem.run_bind, Sem.run_pure, Result.andThen_ok, List.map_toArray, List.map_cons, List.map_nil, hs, hx, hr]
  exact hK _ _ (h v' w' h1 h2)
end
theorem reach_fits {t r n m : Nat} (ht : t + 1 ≤ 4000 + r * 1000) (hr : r ≤ n) (hn : n ≤ 4000) (hm : m ≤ 1000) : t + m ≤ 4398046511104 ∧ t + m ≤ 4000 + (r + 1) * 1000 := by omega
theorem idx_fits {t r : Nat} (ht : t + 1 ≤ 4000 + r * 1000) (hr : r ≤ 4000) : wrap64 (t : Int) = (t : Int) ∧ (0 : Int) ≤ (t : Int) ∧ (t : Int) < (t : Int) + 1 ∧ (t : Int) + 1 > 0 := by
  unfold wrap64; omega
theorem meas_new {n r t m : Nat} (hr : r + 1 ≤ n) (hm : m ≤ 1000) : (n - (r + 1)) * 1001 + (t + m) < (n - r) * 1001 + (t + 1) := by omega
theorem lzs (p : Option Addr) (n c : Nat) : slen (.slice p n c) = n := rfl
theorem setH_made (w : World) : SetH (w.alloc (.map #[] 0)) w.heap.size [] := ⟨⟨[], MpH.made w, fun p h => by simp at h, rfl⟩⟩
theorem setH_nodup {w : World} {b : Nat} {R : List Key} (h : SetH w b R) : R.Nodup := by
  obtain ⟨M, h1, _, rfl⟩ := h.ex
  exact h1.asc.nodup
theorem setH_msz {w : World} {b : Nat} {R : List Key} (h : SetH w b R) : msz w b = R.length := by
  obtain ⟨M, h1, _, rfl⟩ := h.ex
  rw [h1.msz, List.length_map]
theorem asum_one {α : Type} : ∀ M : List (Key × α), asum (fun _ => 1) M = M.length
  | [] => rfl
  | a :: M => by
    have ih := asum_one M
    simp only [asum, List.map_cons, List.sum_cons, List.length_cons] at ih ⊢
    omega
/-- A hash more in a set. -/
theorem setH_store {w : World} {b : Nat} {R : List Key} (h : SetH w b R) (n : Key) (hn : n.length = 32) (hl : R.length ≤ 1000000) :
    ∃ w', (Instr.mapUpdate 113 (.map (some b)) (.agg (hv n)) (.agg #[])).run Tryz.prog w = .ok () w' ∧ (∃ R', SetH w' b R' ∧ (∀ y, y ∈ R' ↔ y = n ∨ y ∈ R) ∧ (n ∉ R → R'.length = R.length + 1)) ∧ Only (fun k => k = b) w w' := by
  obtain ⟨M, h1, hu, rfl⟩ := h.ex
  rw [List.length_map] at hl
  obtain ⟨w', hr, h2, h3⟩ := h1.store Tryz.underlying113 n hn (by unfold maxLen; omega) (.agg #[])
  have hm : ∀ y, y ∈ (aput n (Value.agg #[]) M).map (·.1) ↔ y = n ∨ y ∈ M.map (·.1) := fun y => by
    simp only [List.mem_map]
    constructor
    · rintro ⟨p, hp, rfl⟩
      rcases (ains_mem _ _ _).1 hp with rfl | hp
      · exact .inl rfl
      · exact .inr ⟨p, ((adel_mem _ _ _).1 hp).1, rfl⟩
    · rintro (rfl | ⟨p, hp, rfl⟩)
      · exact ⟨_, (ains_mem _ _ _).2 (.inl rfl), rfl⟩
      · by_cases e : p.1 = n
        · exact ⟨_, (ains_mem _ _ _).2 (.inl rfl), e.symm⟩
        · exact ⟨p, (ains_mem _ _ _).2 (.inr ((adel_mem _ _ _).2 ⟨hp, e⟩)), rfl⟩
  refine ⟨w', hr, ⟨_, ⟨⟨_, h2, fun p hp => ?_, rfl⟩⟩, hm, fun hno => ?_⟩, h3⟩
  · rcases (ains_mem _ _ _).1 hp with rfl | hp
    · rfl
    · exact hu p ((adel_mem _ _ _).1 hp).1
  · have hg : aget n M = none := by
      have := aget_isSome (n := n) (M := M)
      rw [decide_eq_false hno] at this
      cases hgg : aget n M with
      | none => rfl
      | some v => rw [hgg] at this; cases this
    have hs := asum_put (fun _ => 1) n (Value.agg #[]) h1.asc
    rw [hg] at hs
    simp only [asum_one, olen] at hs
    rw [List.length_map, List.length_map]; omega
theorem SetH.lt' {w : World} {b : Nat} {R : List Key} (h : SetH w b R) : b + 1 ≤ w.heap.size := by
  obtain ⟨M, h1, _⟩ := h.ex
  exact h1.lt
/-- What reach hands back. -/
def RePost (w : World) (f : Key → List Key) (E U : List Key) (e : Ending) (w' : World) : Prop :=
  ∃ b R, e = .returned (.map (some b)) ∧ SetH w' b R ∧ w.heap.size ≤ b ∧ (∀ x, x ∈ R ↔ ∃ a ∈ E, Up f a x) ∧ R.length ≤ U.length ∧ Below w.heap.size w w'
set_option maxRecDepth 20000 in
set_option maxHeartbeats 4000000 in
theorem reach_to (w : World) (bl : Nat) (X : Lx) (v : Value) (E U : List Key) (H : LAt w bl X) (hE : HSeen w v E) (h32 : H32 E) (hEl : E.length ≤ 4000) (hU : U.length ≤ 4000) (hEU : ∀ x ∈ E, x ∈ U) (hfU : ∀ x, ∀ p ∈ adj (gr X) x, p ∈ U) (hf : ∀ x ∈ X, x.2.2.length ≤ 1000) :
    Calls Tryz.prog 75 #[.map (some bl), v] w (RePost w (adj (gr X)) E U) := by
  have hu32 : ∀ a ∈ E, ∀ x, Up (adj (gr X)) a x → x.length = 32 := fun a ha x hx => by
    have hc : ∀ y ∈ E ++ U.filter (fun u => u.length = 32), ∀ p ∈ adj (gr X) y, p ∈ E ++ U.filter (fun u => u.length = 32) := fun y _ p hp => by
      refine List.mem_append_right _ (List.mem_filter.2 ⟨hfU y p hp, ?_⟩)
      unfold adj at hp
      rw [gr_get] at hp
      cases hg : aget y X with
      | none => rw [hg] at hp; cases hp
      | some z => rw [hg] at hp; exact decide_eq_true ((H.seen _ (aget_mem hg)).2 p hp)
    rcases List.mem_append.1 (up_mem hc hx (List.mem_append_left _ ha)) with h | h
    · exact h32 x h
    · exact of_decide_eq_true (List.mem_filter.1 h).2
  have hmm := @run_makeMap Tryz.prog
  have b1 : Below w.heap.size w (w.alloc (.map #[] 0)) := (Below.refl _ w).alloc (Nat.le_refl _) _
  have HCL := Lib.hid (hclone_any (w.alloc (.map #[] 0)) v E h32 (by omega) (hE.mild (mild_below b1)))
  have HS0 := Lib.hid (setH_made w)
  have hs0 : (w.alloc (.map #[] 0)).heap.size = w.heap.size + 1 := by simp
  have B1 := Lib.hid b1
  have HL := Lib.hid H
  have HU := Lib.hid hu32
  have HEU := Lib.hid hEU
  have HFU := Lib.hid hfU
  have HF := Lib.hid hf
  have HEl := Lib.hid hEl
  have HUl := Lib.hid hU
  have H3 := Lib.hid h32
  clear hu32 b1 H hE h32 hEl hU hEU hfU hf
  go_enter Tryz.func75, Tryz.ntmps75
  go_wp2_with fail
  refine HCL.out.mono ?_
  rintro e w1 ⟨v1, rfl, o1, b2⟩
  rw [hs0] at o1 b2
  have HS1 := Lib.hid (HS0.out.kb b2 (Nat.lt_succ_self _))
  have B2 := Lib.hid (B1.out.trans (b2.mono (Nat.le_succ _)))
  obtain ⟨p1, c1, rfl⟩ := (HSeen.own o1).shape
  have O1 := Lib.hid o1
  clear o1 b2
  go_wp2_with fail
  go_loopw [6] (fun s wr => ∃ T R p n c, s = .slice p n c ∧ n = T.length ∧ Hid (HOwn wr (w.heap.size + 1) (.slice p n c) T) ∧ Hid (SetH wr w.heap.size R) ∧ Hid (RInv (adj (gr X)) E R T) ∧ Hid (H32 T ∧ T.length ≤ 4000 + R.length * 1000 ∧ R.length ≤ U.length) ∧ Hid (Below w.heap.size w wr))
    (fun s wr => (U.length - msz wr w.heap.size) * 1001 + slen s)
  case atStart => exact ⟨E, [], p1, E.length, c1, rfl, rfl, O1, HS1, Lib.hid (RInv.start _ _), Lib.hid ⟨H3.out, by have := HEl.out; simp; omega, Nat.zero_le _⟩, B2⟩
  case round =>
    obtain ⟨T, R, p, n, c, rfl, hn, O, S, I, L, B⟩ := hrel
    clear HS0 HS1 B1 B2 O1
    cases hT : T.reverse with
    | nil =>
      obtain rfl : T = [] := by simpa using hT
      obtain rfl : n = 0 := hn
      clear hT
      go_wp2
      go_ret
      exact ⟨_, R, rfl, S.out, Nat.le_refl _, I.out.done, L.out.2.2, B.out⟩
    | cons x T' =>
      obtain ⟨T1, rfl⟩ : ∃ T1, T = T1 ++ [x] := ⟨T'.reverse, by rw [← List.reverse_reverse T, hT, List.reverse_cons]⟩
      clear hT T'
      obtain ⟨h32T, hTl, hRl⟩ := L.out
      have hx : x.length = 32 := h32T x (List.mem_append_right _ List.mem_cons_self)
      have h32T1 : H32 T1 := fun y hy => h32T y (List.mem_append_left _ hy)
      obtain ⟨g, rfl, hn', hcap, hrg⟩ := O.out.last h32T
      obtain ⟨m, hm⟩ : ∃ m, m = T1.length := ⟨_, rfl⟩
      rw [List.length_append, List.length_singleton, ← hm] at hTl
      rw [← hm] at hn' hcap hrg
      clear hn
      subst hn'
      obtain ⟨i1, i2, i3, i4⟩ := idx_fits hTl (Nat.le_trans hRl HUl.out)
      have hcm : (m : Int) ≤ (c : Int) := by omega
      have OC := Lib.hid (HOwn.cut O.out h32T1)
      have hld0 := hld_range hx hrg
      have st := hst_cells x hx wr
      have hks : (hv x).size = 32 := by rw [hv_size, hx]
      have b3 : Below wr.heap.size wr (wr.alloc (.cells (hv x) 31)) := (Below.refl _ _).alloc (Nat.le_refl _) _
      have hwr : w.heap.size + 1 ≤ wr.heap.size := by
        have hlt : w.heap.size < wr.heap.size := by
          obtain ⟨M, h1, _⟩ := S.out.ex
          exact h1.lt
        exact hlt
      have S3 := Lib.hid (S.out.kb b3 hwr)
      have HV3 := Lib.hid (heap_alloc_last wr (.cells (hv x) 31))
      have hld3 := hld_row (w := wr.alloc (.cells (hv x) 31)) hx HV3.out
      have HSH := Lib.hid (shas_to (wr.alloc (.cells (hv x) 31)) w.heap.size R x hx S3.out)
      have O3 := Lib.hid (OC.out.step (Only.of_below (S := fun _ => False) b3) (fun _ _ h => h))
      have B3 : Hid (Below w.heap.size w (wr.alloc (.cells (hv x) 31))) := Lib.hid (B.out.alloc B.out.size _)
      have hs3 : (wr.alloc (.cells (hv x) 31)).heap.size = wr.heap.size + 1 := by simp
      have MZ := Lib.hid (setH_msz S.out)
      have HM := Lib.hid hm
      have HTL := Lib.hid hTl
      have HRL := Lib.hid hRl
      have HX := Lib.hid hx
      have H32T1 := Lib.hid h32T1
      have HWR := Lib.hid hwr
      clear hrg b3 hm hTl hRl h32T h32T1 O OC S L
      generalize hw3 : wr.alloc (.cells (hv x) 31) = w3 at *
      by_cases hxR : x ∈ R
      · have HXR := Lib.hid hxR
        rw [decide_eq_true hxR] at HSH
        clear hxR
        go_wp2_with fail
        refine HSH.out.mono ?_
        rintro e w4 ⟨rfl, b4⟩
        rw [hs3] at b4
        have S4 := Lib.hid (S3.out.kb b4 (by omega))
        have O4 := Lib.hid (O3.out.step (Only.of_below (S := fun _ => False) (by rw [hs3]; exact b4)) (fun _ _ h => h))
        have B4 : Hid (Below w.heap.size w w4) := Lib.hid (B3.out.trans (b4.mono (by omega)))
        clear b4
        go_wp2_with fail
        rw [MZ.out, setH_msz S4.out, lzs, lzs]
        exact ⟨⟨T1, R, _, m, c, rfl, HM.out, by rw [HM.out]; exact O4, S4, Lib.hid (RInv.old I.out HXR.out), Lib.hid ⟨H32T1.out, by rw [← HM.out]; have := HTL.out; omega, HRL.out⟩, B4⟩, by omega⟩
      · have HXR := Lib.hid hxR
        rw [decide_eq_false hxR] at HSH
        clear hxR
        go_wp2_with fail
        refine HSH.out.mono ?_
        rintro e w4 ⟨rfl, b4⟩
        rw [hs3] at b4
        have S4 := Lib.hid (S3.out.kb b4 (by omega))
        have O4 := Lib.hid (O3.out.step (Only.of_below (S := fun _ => False) (by rw [hs3]; exact b4)) (fun _ _ h => h))
        have B4 : Hid (Below w.heap.size w w4) := Lib.hid (B3.out.trans (b4.mono (by omega)))
        have HV4 := Lib.hid ((b4.block wr.heap.size (by omega)).trans HV3.out)
        have hld4 := hld_row (w := w4) HX.out HV4.out
        obtain ⟨w5, hmu, ⟨R', s5, hR', hlen⟩, o5⟩ := setH_store S4.out x HX.out (by have := HRL.out; have := HUl.out; omega)
        have hne : wr.heap.size ≠ w.heap.size := by have := HWR.out; omega
        have HV5 := Lib.hid ((o5.block wr.heap.size (Array.getElem?_eq_some_iff.1 HV4.out).1 hne).trans HV4.out)
        have hld5 := hld_row (w := w5) HX.out HV5.out
        have B5 : Hid (Below w.heap.size w w5) := Lib.hid (B4.out.trans (Only.below (S := fun k => k = w.heap.size) o5 B4.out.size (fun k hk => by omega)))
        have O5 := Lib.hid (O4.out.step o5 (fun j hj e => by have := (O4.out.lt j hj).1; omega))
        have L5 := HL.out.kb B5.out
        have hlk := L5.mp.look Tryz.underlying89 (lzero _) x HX.out
        have hsn : HSeen w5 ((aget x (kvs X)).getD (.slice none 0 0)) (adj (gr X) x) ∧ H32 (adj (gr X) x) ∧ (adj (gr X) x).length ≤ 1000 := by
          unfold adj
          rw [kvs_get, gr_get]
          cases hg : aget x X with
          | none => exact ⟨.inl ⟨rfl, rfl⟩, H32.nil, Nat.zero_le _⟩
          | some y => exact ⟨(L5.seen _ (aget_mem hg)).1, (L5.seen _ (aget_mem hg)).2, HF.out _ (aget_mem hg)⟩
        have S5 := Lib.hid s5
        have HR5 := Lib.hid hR'
        have HLN := Lib.hid (hlen HXR.out)
        have HSN := Lib.hid hsn
        have HFL := Lib.hid hsn.2.2
        have hrf := reach_fits HTL.out HRL.out HUl.out hsn.2.2
        have HRF := Lib.hid hrf
        have hsz5 := B5.out.size
        have hwb : w.heap.size + 1 ≤ w5.heap.size := s5.lt'
        have HPL : Hid (T1.length + (adj (gr X) x).length ≤ 4398046511104) := Lib.hid (by rw [← HM.out]; exact hrf.1)
        generalize hzv : (aget x (kvs X)).getD (.slice none 0 0) = zv at hlk HSN
        generalize hF : adj (gr X) x = F at *
        have HOM := Lib.hid HM.out
        clear b4 o5 L5 s5 hR' hlen hsn hrf hsz5 hzv
        have hO5' : HOwn w5 (w.heap.size + 1) (.slice (some ⟨g, 0, none⟩) m c) T1 := by rw [HOM.out]; exact O5.out
        have HO5 := Lib.hid hO5'
        clear hO5' O5
        go_wp2_with (at_builtin; refine push_hash rfl _ _ rfl (w.heap.size + 1) _ zv T1 F rfl HO5.out rfl HSN.out.1 HSN.out.2.1 HPL.out hwb ?_; intro v6 w6 o6 n6; have O6 := Lib.hid o6; obtain ⟨p6, c6, rfl⟩ := (HSeen.own o6).shape; have N6 := Lib.hid n6; clear o6 n6)
        rw [MZ.out]
        have hb6 : ∀ j, (Value.slice (some ⟨g, 0, none⟩) m c).ownBlock = some j → w.heap.size + 1 ≤ j := fun j hj => (HO5.out.lt j hj).1
        have S6 := S5.out.step N6.out (fun e => by have := hb6 _ e; omega)
        rw [setH_msz S6, lzs, lzs, HLN.out]
        have hR6 : R'.length ≤ U.length := nodup_le (setH_nodup S6) fun y hy => by
          obtain ⟨a, ha, hay⟩ := (RInv.new I.out HR5.out).up y (.inl hy)
          exact up_in HEU.out HFU.out ha hay
        rw [HLN.out] at hR6
        refine ⟨⟨T1 ++ F, R', p6, _, c6, rfl, (List.length_append ..).symm, by rw [← List.length_append]; exact O6, Lib.hid S6, Lib.hid (by rw [← hF]; exact RInv.new I.out HR5.out), Lib.hid ⟨H32T1.out.app HSN.out.2.1, ?_, by rw [HLN.out]; exact hR6⟩, Lib.hid (B5.out.trans (Only.below N6.out B5.out.size (fun k hk => by have := hb6 k hk; omega)))⟩, ?_⟩
        · rw [List.length_append, HLN.out, ← HM.out]
          exact HRF.out.2
        · rw [← HM.out]
          exact meas_new hR6 HFL.out
end Go.Proofs.YtnpeahbbcolfmaaGreatDoor
namespace Go.Proofs.YtnpeahbbcolfmaaGreatDoor
open Go.RowKit
open Go.Maps
attribute [local go_sem ↓] hld_open
theorem mem_take_succ {E : List Key} {i : Nat} (hi : i < E.length) (y : Key) : y ∈ E.take (i + 1) ↔ y ∈ E.take i ∨ y = E[i] := by
  rw [List.take_add_one, List.getElem?_eq_getElem hi]
  simp only [Option.toList_some, List.mem_append, List.mem_singleton]
theorem next_fit {i n : Nat} (hi : i < n) (hn : n ≤ 1000000) : wrap64 ((i : Int) + 1) = ((i + 1 : Nat) : Int) ∧ (0 : Int) ≤ (i : Int) ∧ (i : Int) < (n : Int) := by unfold wrap64; omega
/-- What existing hands back. -/
def ExPost (w : World) (G : Gr) (E : List Key) (e : Ending) (w' : World) : Prop :=
  ∃ b R, e = .returned (.map (some b)) ∧ SetH w' b R ∧ w.heap.size ≤ b ∧ (∀ x, x ∈ R ↔ x ∈ E ∧ (aget x G).isSome) ∧ R.length ≤ G.length ∧ Below w.heap.size w w'
theorem ex_len {R E : List Key} {G : Gr} (hn : R.Nodup) (h : ∀ x, x ∈ R ↔ x ∈ E ∧ (aget x G).isSome) : R.length ≤ G.length := by
  rw [← List.length_map (f := fun p : Key × List Key => p.1)]
  refine nodup_le hn fun x hx => ?_
  have := ((h x).1 hx).2
  rw [aget_isSome] at this
  exact of_decide_eq_true this
set_option maxRecDepth 20000 in
set_option maxHeartbeats 4000000 in
theorem existing_to (w : World) (g bm : Nat) (X : Lx) (v : Value) (E : List Key) (H : GA w g bm X) (hE : HSeen w v E) (h32 : H32 E) (hEl : E.length ≤ 1000000) (hX : X.length ≤ 4000) :
    Calls Tryz.prog 52 #[gp g, v] w (ExPost w (gr X) E) := by
  have hmm := @run_makeMap Tryz.prog
  have b1 : Below w.heap.size w (w.alloc (.map #[] 0)) := (Below.refl _ w).alloc (Nat.le_refl _) _
  obtain ⟨p, cap, rfl⟩ := hE.shape
  have HS0 := Lib.hid (setH_made w)
  have B1 := Lib.hid b1
  have HG := Lib.hid H
  have HE := Lib.hid hE
  have HEl := Lib.hid hEl
  have HXl : Hid ((gr X).length ≤ 4000) := Lib.hid (by rw [gr_len]; exact hX)
  have H3 := Lib.hid h32
  obtain ⟨nE, hnE⟩ : ∃ nE, nE = E.length := ⟨_, rfl⟩
  rw [← hnE] at HE HEl ⊢
  have HN := Lib.hid hnE
  clear b1 H hE h32 hEl hX hnE
  go_enter Tryz.func52, Tryz.ntmps52
  go_wp2_with fail
  go_loopw [11] (fun s wr => ∃ (i : Nat) (R : List Key), s = .int .i64 i ∧ i ≤ nE ∧ Hid (SetH wr w.heap.size R) ∧ Hid (∀ x, x ∈ R ↔ x ∈ E.take i ∧ (aget x (gr X)).isSome) ∧ Hid (Below w.heap.size w wr))
    (fun s _ => nE - (intOf s).toNat)
  case atStart => exact ⟨0, [], rfl, Nat.zero_le _, HS0, Lib.hid (fun x => by simp), B1⟩
  case round =>
    obtain ⟨i, R, rfl, hi, S, I, B⟩ := hrel
    clear HS0 B1
    by_cases hlt : i < nE
    · obtain ⟨j1, j2, j3⟩ := next_fit hlt HEl.out
      have hiE : i < E.length := by rw [← HN.out]; exact hlt
      obtain ⟨b, o, c', e1, hrg⟩ := (HE.out.mild (mild_below (B.out))).at H3.out hiE
      injection e1 with e1 e2 e3
      subst e1
      obtain ⟨x, hx⟩ : ∃ x, x = E[i] := ⟨_, rfl⟩
      rw [← hx] at hrg
      have hx32 : x.length = 32 := by rw [hx]; exact H3.out.at hiE
      have HMT : Hid (∀ y, y ∈ E.take (i + 1) ↔ y ∈ E.take i ∨ y = x) := Lib.hid (fun y => by rw [hx]; exact mem_take_succ hiE y)
      have hld0 := hld_range hx32 hrg
      have st := hst_cells x hx32 wr
      have hks : (hv x).size = 32 := by rw [hv_size, hx32]
      have b3 : Below wr.heap.size wr (wr.alloc (.cells (hv x) 31)) := (Below.refl _ _).alloc (Nat.le_refl _) _
      have hwr := S.out.lt'
      have S3 := Lib.hid (S.out.kb b3 hwr)
      have HV3 := Lib.hid (heap_alloc_last wr (.cells (hv x) 31))
      have hld3 := hld_row (w := wr.alloc (.cells (hv x) 31)) hx32 HV3.out
      have B3 : Hid (Below w.heap.size w (wr.alloc (.cells (hv x) 31))) := Lib.hid (B.out.alloc B.out.size _)
      have HHS := Lib.hid (has_to (wr.alloc (.cells (hv x) 31)) g bm X x hx32 (HG.out.kb B3.out))
      have hs3 : (wr.alloc (.cells (hv x) 31)).heap.size = wr.heap.size + 1 := by simp
      have HWR := Lib.hid hwr
      have H32x := Lib.hid hx32
      have HLT := Lib.hid hlt
      clear hx hrg hx32 b3 hwr e2 e3 hiE S hi
      generalize hw3 : wr.alloc (.cells (hv x) 31) = w3 at *
      go_wp2_with fail
      refine HHS.out.mono ?_
      rintro e w4 ⟨rfl, b4⟩
      rw [hs3] at b4
      have S4 := Lib.hid (S3.out.kb b4 (by have := HWR.out; omega))
      have B4 : Hid (Below w.heap.size w w4) := Lib.hid (B3.out.trans (b4.mono (by have := HWR.out; omega)))
      have HV4 := Lib.hid ((b4.block wr.heap.size (by omega)).trans HV3.out)
      have hld4 := hld_row (w := w4) H32x.out HV4.out
      have hm4 : (U : Nat) → nE - ((i + 1 : Nat) : Int).toNat < nE - ((i : Nat) : Int).toNat := fun _ => by have := HLT.out; omega
      clear b4
      cases hhas : (aget x (gr X)).isSome with
      | false =>
        go_wp2_with fail
        refine ⟨⟨i + 1, R, by rw [j1], HLT.out, S4, Lib.hid (fun y => ?_), B4⟩, by rw [j1]; exact hm4 0⟩
        rw [I.out, HMT.out]
        constructor
        · rintro ⟨h1, h2⟩; exact ⟨.inl h1, h2⟩
        · rintro ⟨h1 | rfl, h2⟩
          · exact ⟨h1, h2⟩
          · rw [hhas] at h2; cases h2
      | true =>
        obtain ⟨w5, hmu, ⟨R', s5, hR', _⟩, o5⟩ := setH_store S4.out x H32x.out (by
          have := ex_len (setH_nodup S4.out) I.out
          have := HXl.out
          omega)
        have S5 := Lib.hid s5
        have B5 : Hid (Below w.heap.size w w5) := Lib.hid (B4.out.trans (Only.below (S := fun k => k = w.heap.size) o5 B4.out.size (fun k hk => by omega)))
        have HR5 := Lib.hid hR'
        have HH := Lib.hid hhas
        clear s5 hR' o5 hhas
        go_wp2_with fail
        refine ⟨⟨i + 1, R', by rw [j1], HLT.out, S5, Lib.hid (fun y => ?_), B5⟩, by rw [j1]; exact hm4 0⟩
        rw [HR5.out, I.out, HMT.out]
        constructor
        · rintro (rfl | ⟨h1, h2⟩)
          · exact ⟨.inr rfl, HH.out⟩
          · exact ⟨.inl h1, h2⟩
        · rintro ⟨h1 | rfl, h2⟩
          · exact .inr ⟨h1, h2⟩
          · exact .inl rfl
    · obtain rfl : i = nE := by omega
      go_wp2
      go_ret
      have hI := I.out
      rw [List.take_of_length_le (by rw [HN.out]; exact Nat.le_refl _)] at hI
      exact ⟨_, R, rfl, S.out, Nat.le_refl _, hI, ex_len (setH_nodup S.out) hI, B.out⟩

theorem setH_asc {w : World} {b : Nat} {R : List Key} (h : SetH w b R) : Asc R := by
  obtain ⟨M, h1, _, rfl⟩ := h.ex
  exact aasc_asc h1.asc
/-- All parents are there. -/
def Clo (G : Gr) : Prop := ∀ h, ∀ p ∈ adj G h, (aget p G).isSome = true
def Anc (G : Gr) (E : List Key) (x : Key) : Prop := ∃ a ∈ E, (aget a G).isSome = true ∧ Up (adj G) a x
open Classical in
/-- The ancestors of some hashes, and they. -/
noncomputable def ancs (G : Gr) (E : List Key) : List Key := (G.map (·.1)).filter fun x => decide (Anc G E x)
theorem up_has {G : Gr} (hc : Clo G) {a x : Key} (h : Up (adj G) a x) (ha : (aget a G).isSome = true) : (aget x G).isSome = true := by
  induction h with
  | refl => exact ha
  | step h1 _ ih => exact ih (hc _ _ h1)
theorem mem_keys {G : Gr} {x : Key} : x ∈ G.map (·.1) ↔ (aget x G).isSome = true := by rw [aget_isSome]; simp
theorem ancs_mem {G : Gr} (hc : Clo G) {E : List Key} {x : Key} : x ∈ ancs G E ↔ Anc G E x := by
  unfold ancs
  simp only [List.mem_filter, mem_keys, decide_eq_true_eq]
  exact ⟨fun h => h.2, fun h => ⟨by obtain ⟨a, _, ha, hu⟩ := h; exact up_has hc hu ha, h⟩⟩
theorem ancs_asc {G : Gr} (ha : AAsc G) (E : List Key) : Asc (ancs G E) := List.Pairwise.filter _ (aasc_asc ha)
theorem gr_asc {X : Lx} (h : AAsc (kvs X)) : AAsc (gr X) := by
  have h' := List.pairwise_map.1 h
  exact List.pairwise_map.2 h'
theorem ancs_len (G : Gr) (E : List Key) : (ancs G E).length ≤ G.length := by
  unfold ancs
  exact Nat.le_trans (List.length_filter_le _ _) (by simp)
theorem h32_set {w : World} {b : Nat} {R : List Key} (h : SetH w b R) : H32 R := by
  obtain ⟨M, h1, _, rfl⟩ := h.ex
  exact h32_keys h1.h32
end Go.Proofs.YtnpeahbbcolfmaaGreatDoor
namespace Go.Proofs.YtnpeahbbcolfmaaGreatDoor
open Go.RowKit
open Go.Maps
attribute [local go_sem ↓] hld_open
/-- append, and where the new slice lies. -/
theorem run_push_loc (w : World) (ty : TypeId) (B : Nat) (v : Value) (l : List Key) (b : Nat) (k : Key) (hk : k.length = 32) (hown : HOwn w B v l) (hu : w.rangeAt b 0 (us (nmb k))) (hs : l.length + 1 ≤ 4398046511104) (hB : B ≤ w.heap.size) :
    ∃ v' w', (Builtin.append_ #[32, 32] ty #[v, .slice (some ⟨b, 0, none⟩) 1 1]).run Tryz.prog w = .ok v' w' ∧ HOwn w' B v' (l ++ [k]) ∧ Only (fun j => v.ownBlock = some j) w w' ∧ (∀ j, v'.ownBlock = some j → v.ownBlock = some j ∨ w.heap.size ≤ j) := by
  obtain ⟨i0, hi0, hz0, hz1, hz2⟩ := info_parts hzinfo
  have hf : l.length + 1 ≤ maxLen ∧ (l.length + 1) * 32 ≤ 140737488355328 := by unfold maxLen; omega
  have hcell : ∀ j u, (us (nmb k))[j]? = some u → w.cell? ((⟨b, 0, none⟩ : Addr).add j) = some u := fun j u hj => by
    rw [Addr.add_lit]
    exact hu j u hj
  have h1 := fl_one' [k]
  rw [fl_one] at h1
  obtain ⟨v', w', hr, h2, h3, h4, h5⟩ := run_append_own_at (P := Tryz.prog) (w := w) B 32 ty 31 i0 _ 32 32 Tryz.underlying32 hi0 hz0 hz1 hz2 rfl (by decide) v l.length (fl l) hown ⟨b, 0, none⟩ 1 1 (us (nmb k)) (by rw [usn_length, hk]) hcell h1 hf.1 hf.2 hB
  refine ⟨v', w', hr, ?_, (Only.refl _ w).grown h3 (fun k _ e => e), fun j hj => ?_⟩
  · unfold HOwn
    rw [List.length_append, fl_app, fl_one]
    exact h2
  · rcases h5 with h5 | h5
    · rw [h5] at hj; exact .inl hj
    · rw [h5] at hj
      injection hj with hj
      exact .inr (by omega)
section
variable {ops : Array Oper} {rest : List Oper} {a : Act} {Q : Exit → Act → World → Prop} {o : Oper} {w : World}
theorem push_loc (hgd : o.guard = none) (s x : Operand) (ho : o.op = .call { callee := .builtin .append, args := #[s, x], argTypes := #[32, 32] })
    (B : Nat) (v : Value) (l : List Key) (b : Nat) (k : Key) (hk : k.length = 32) (hs : a.eval s = v) (hown : HOwn w B v l) (hx : a.eval x = .slice (some ⟨b, 0, none⟩) 1 1) (hu : w.rangeAt b 0 (us (nmb k))) (hl : l.length + 1 ≤ 4398046511104) (hB : B ≤ w.heap.size)
    (h : ∀ v' w', HOwn w' B v' (l ++ [k]) → Only (fun j => v.ownBlock = some j) w w' → (∀ j, v'.ownBlock = some j → v.ownBlock = some j ∨ w.heap.size ≤ j) → wpList Tryz.prog ops Q rest (a.put o.dst v') w') :
    wpList Tryz.prog ops Q (o :: rest) a w := by
  refine wpList_plain hgd fun K hK => ?_
  obtain ⟨v', w', hr, h1, h2, h3⟩ := run_push_loc w o.type B v l b k hk hown hu hl hB
  unfold Oper.wp execOp
  simp only [ho, resolve, invoke, builtin, Sem.run_bind, Sem.run_pure, Result.andThen_ok, List.map_toArray, List.map_cons, List.map_nil, hs, hx, hr]
  exact hK _ _ (h v' w' h1 h2 h3)
theorem build_one {dst : Option Tmp} {T : TypeId} {pos : String} {after : Array Edge} {x : Operand} (h : Key) (hh : h.length = 32) (hx : a.eval x = .agg (hv h))
    (hK : wpList Tryz.prog ops Q rest (a.put dst (.slice (some ⟨w.heap.size, 0, none⟩) 1 1)) (w.alloc (.cells (hv h) 31))) : wpList Tryz.prog ops Q (⟨dst, .buildSlice 32 1 #[(0, x)], T, pos, after, none⟩ :: rest) a w := by
  refine wpList_plain rfl fun K hK' => ?_
  unfold Oper.wp execOp
  simp only [Sem.run_bind, Sem.run_pure, Result.andThen_ok, List.map_toArray, List.map_cons, List.map_nil, hx, run_build_hash w h hh]
  exact hK' _ _ hK
end
/-- The children that have been told: P p h: h stands under p. -/
structure ChI (W : World) (b n₀ : Nat) (G : Gr) (P : Key → Key → Prop) (C : Lx) : Prop where
  mp : MpH W b (kvs C)
  own : ∀ x ∈ C, HOwn W n₀ x.2.1 x.2.2 ∧ H32 x.2.2
  sep : ∀ x ∈ C, ∀ y ∈ C, x.1 ≠ y.1 → ∀ j, x.2.1.ownBlock = some j → y.2.1.ownBlock ≠ some j
  nod : ∀ x ∈ C, x.2.2.Nodup
  mem : ∀ p h, h ∈ adj (gr C) p ↔ P p h
  dom : ∀ x ∈ C, (aget x.1 G).isSome = true
theorem ChI.iff {W : World} {b n₀ : Nat} {G : Gr} {P Q : Key → Key → Prop} {C : Lx} (h : ChI W b n₀ G P C) (hq : ∀ p x, P p x ↔ Q p x) : ChI W b n₀ G Q C := { h with mem := fun p x => (h.mem p x).trans (hq p x) }
theorem ChI.keep {W W' : World} {b n₀ : Nat} {G : Gr} {P : Key → Key → Prop} {C : Lx} {S : Nat → Prop} (h : ChI W b n₀ G P C) (ho : Only S W W') (hb : ¬ S b) (hs : ∀ x ∈ C, ∀ j, x.2.1.ownBlock = some j → ¬ S j) : ChI W' b n₀ G P C :=
  { h with mp := h.mp.kept ho hb, own := fun x hx => ⟨(h.own x hx).1.step ho (hs x hx), (h.own x hx).2⟩ }
theorem ChI.kb {W W' : World} {b n₀ : Nat} {G : Gr} {P : Key → Key → Prop} {C : Lx} (h : ChI W b n₀ G P C) (k : Below W.heap.size W W') : ChI W' b n₀ G P C := h.keep (S := fun _ => False) (Only.of_below k) (fun h => h) (fun _ _ _ _ h => h)
theorem kvs_asc_gr {C : Lx} (h : AAsc (kvs C)) : AAsc C := List.pairwise_map.1 h
theorem ChI.len {W : World} {b n₀ : Nat} {G : Gr} {P : Key → Key → Prop} {C : Lx} (h : ChI W b n₀ G P C) : C.length ≤ G.length := by
  have hn := h.mp.asc.nodup
  rw [kvs_keys] at hn
  have := nodup_le (U := G.map (·.1)) hn fun x hx => by
    obtain ⟨y, hy, rfl⟩ := List.mem_map.1 hx
    exact mem_keys.2 (h.dom y hy)
  rw [List.length_map, List.length_map] at this
  exact this

theorem mem_aput {α : Type} {M : List (Key × α)} {n : Key} {v : α} {x : Key × α} : x ∈ aput n v M ↔ x = (n, v) ∨ (x ∈ M ∧ x.1 ≠ n) := by
  unfold aput
  rw [ains_mem, adel_mem]
theorem adj_put {C : Lx} (p q : Key) (y : Value × List Key) : adj (gr (aput p y C)) q = if q = p then y.2 else adj (gr C) q := by
  unfold adj
  rw [show gr (aput p y C) = aput p y.2 (gr C) from amap_put _ _ _ _]
  by_cases h : q = p
  · subst h
    rw [aget_put_same, if_pos rfl]; rfl
  · rw [aget_put_other p q _ h, if_neg h]
/-- What stands under a key so far. -/
def oldV (C : Lx) (p : Key) : Value := (aget p (kvs C)).getD (.slice none 0 0)
theorem ChI.old {W : World} {b n₀ : Nat} {G : Gr} {P : Key → Key → Prop} {C : Lx} (h : ChI W b n₀ G P C) (p : Key) : HOwn W n₀ (oldV C p) (adj (gr C) p) ∧ H32 (adj (gr C) p) ∧ (adj (gr C) p).Nodup := by
  unfold oldV adj
  rw [kvs_get, gr_get]
  cases hg : aget p C with
  | none => exact ⟨World.ownsRow_nil _ _ _ _, H32.nil, .nil⟩
  | some y => exact ⟨(h.own _ (aget_mem hg)).1, (h.own _ (aget_mem hg)).2, h.nod _ (aget_mem hg)⟩
theorem ChI.oldsep {W : World} {b n₀ : Nat} {G : Gr} {P : Key → Key → Prop} {C : Lx} (h : ChI W b n₀ G P C) (p : Key) {x : Key × (Value × List Key)} (hx : x ∈ C) (hne : x.1 ≠ p) {j : Nat} (hj : (oldV C p).ownBlock = some j) : x.2.1.ownBlock ≠ some j := by
  unfold oldV at hj
  rw [kvs_get] at hj
  cases hg : aget p C with
  | none => rw [hg] at hj; cases hj
  | some y =>
    rw [hg] at hj
    exact h.sep _ (aget_mem hg) x hx (fun e => hne e.symm) j hj
theorem ChI.push {W W' : World} {b n₀ : Nat} {G : Gr} {P : Key → Key → Prop} {C : Lx} {p k : Key} {v' : Value} (h : ChI W b n₀ G P C) (mp' : MpH W' b (aput p v' (kvs C))) (own' : HOwn W' n₀ v' (adj (gr C) p ++ [k]))
    (oth : Only (fun j => j = b ∨ (oldV C p).ownBlock = some j) W W') (loc : ∀ j, v'.ownBlock = some j → (oldV C p).ownBlock = some j ∨ W.heap.size ≤ j) (hp : (aget p G).isSome = true) (k32 : k.length = 32) (hnew : ¬ P p k) :
    ChI W' b n₀ G (fun q x => P q x ∨ (q = p ∧ x = k)) (aput p (v', adj (gr C) p ++ [k]) C) := by
  have hlt : ∀ x ∈ C, ∀ j, x.2.1.ownBlock = some j → j < W.heap.size := fun x hx j hj => ((h.own x hx).1.lt j hj).2
  refine ⟨?_, fun x hx => ?_, fun x hx y hy hne j hj => ?_, fun x hx => ?_, fun q x => ?_, fun x hx => ?_⟩
  · rw [show kvs (aput p (v', adj (gr C) p ++ [k]) C) = aput p v' (kvs C) from amap_put _ _ _ _]
    exact mp'
  · rcases mem_aput.1 hx with rfl | ⟨hx, hne⟩
    · exact ⟨own', (h.old p).2.1.app (H32.one k32)⟩
    · exact ⟨(h.own x hx).1.step oth (fun j hj e => e.elim (fun e => own_ne_map (h.own x hx).1 h.mp (by rw [hj, e])) (fun e => h.oldsep p hx hne e hj)), (h.own x hx).2⟩
  · rcases mem_aput.1 hx with rfl | ⟨hx, hxn⟩
    · rcases mem_aput.1 hy with rfl | ⟨hy, hyn⟩
      · exact absurd rfl hne
      · rcases loc j hj with e | e
        · exact h.oldsep p hy hyn e
        · intro e2; have := hlt y hy j e2; omega
    · rcases mem_aput.1 hy with rfl | ⟨hy, hyn⟩
      · intro e2
        rcases loc j e2 with e | e
        · exact h.oldsep p hx hxn e hj
        · have := hlt x hx j hj; omega
      · exact h.sep x hx y hy hne j hj
  · rcases mem_aput.1 hx with rfl | ⟨hx, _⟩
    · refine List.nodup_append.2 ⟨(h.old p).2.2, by simp, fun a ha c hc e => ?_⟩
      rw [List.mem_singleton.1 hc] at e
      exact hnew ((h.mem p k).1 (e ▸ ha))
    · exact h.nod x hx
  · rw [adj_put]
    by_cases e : q = p
    · subst e
      rw [if_pos rfl]
      simp only [List.mem_append, List.mem_singleton, h.mem, true_and]
    · rw [if_neg e, h.mem]
      simp [e]
  · rcases mem_aput.1 hx with rfl | ⟨hx, _⟩
    · exact hp
    · exact h.dom x hx
theorem ChI.small {W : World} {b n₀ : Nat} {G : Gr} {P : Key → Key → Prop} {C : Lx} (h : ChI W b n₀ G P C) (hP : ∀ p x, P p x → (aget x G).isSome = true) (p : Key) : (adj (gr C) p).length ≤ G.length := by
  have := nodup_le (U := G.map (·.1)) (h.old p).2.2 fun x hx => mem_keys.2 (hP p x ((h.mem p x).1 hx))
  rwa [List.length_map] at this
/-- What children hands back. -/
def ChPost (w : World) (G : Gr) (e : Ending) (w' : World) : Prop :=
  ∃ b C, e = .returned (.map (some b)) ∧ LAt w' b C ∧ w.heap.size ≤ b ∧ (∀ p h, h ∈ adj (gr C) p ↔ p ∈ adj G h) ∧ (∀ x ∈ C, x.2.2.length ≤ G.length) ∧ Below w.heap.size w w'
theorem adj_has {G : Gr} {p h : Key} (hp : p ∈ adj G h) : (aget h G).isSome = true := by
  unfold adj at hp
  cases hg : aget h G with
  | none => rw [hg] at hp; cases hp
  | some y => rfl
theorem ChI.done {w W : World} {b n₀ : Nat} {G : Gr} {ss : List Key} {C : Lx} (h : ChI W b n₀ G (fun p x => x ∈ ss ∧ p ∈ adj G x) C) (hs : ss.Perm (G.map (·.1))) (hb : w.heap.size ≤ b) (hB : Below w.heap.size w W) : ChPost w G (.returned (.map (some b))) W := by
  refine ⟨b, C, rfl, ⟨h.mp, fun x hx => ⟨HSeen.own (h.own x hx).1, (h.own x hx).2⟩⟩, hb, fun p x => ?_, fun x hx => ?_, hB⟩
  · rw [h.mem]
    exact ⟨fun e => e.2, fun e => ⟨hs.mem_iff.2 (mem_keys.2 (adj_has e)), e⟩⟩
  · have hg : aget x.1 C = some x.2 := aget_of_mem (kvs_asc_gr h.mp.asc) hx
    have := h.small (fun p x hx => adj_has hx.2) x.1
    unfold adj at this
    rw [gr_get, hg] at this
    exact this

theorem ranges_get {M : Kv} {k : Key} {c : Value} {y : DataW Value × List MemPlace} (hv : rdv c = some y) (hat : ∀ zd, (mapV M).atKey (.string k) zd = y.1) (hk : k ∈ M.map (·.1)) : aget k M = some c := by
  have h1 := hat (.held (.slice none 0 0))
  rw [mapV_at] at h1
  have h2 : y = (.held c, []) := (Option.some.inj hv).symm
  rw [h2] at h1
  simp only [DataW.held.injEq] at h1
  cases hg : aget k M with
  | none =>
    have := aget_isSome (n := k) (M := M)
    rw [hg, decide_eq_true hk] at this
    cases this
  | some v => rw [hg] at h1; exact congrArg some h1
theorem ranges_keep {w w' : World} {b r n : Nat} {D : DataW Value} {left : Lit → Bool} {cnt : Nat} (h : w.ranges Tryz.prog 31 rdv b r n D left cnt) (hb : w'.heap[b]? = w.heap[b]?) (hr : w'.heap[r]? = w.heap[r]?) : w'.ranges Tryz.prog 31 rdv b r n D left cnt := by
  obtain ⟨es, clock, since, seen, c0, h1, F, hs, hD, h2, rest⟩ := h
  exact ⟨es, clock, since, seen, c0, hb.trans h1, F, hs, hD, hr.trans h2, rest⟩
theorem ent_fits {m : Nat} (h : m ≤ 1000) : m + 1 ≤ 4398046511104 ∧ m < maxLen := by unfold maxLen; omega
theorem stop_ch {G : Gr} {ss : List Key} {k : Key} {E : List Key} (hk : adj G k = E) (hs : k ∉ ss) (p x : Key) : ((x ∈ ss ∧ p ∈ adj G x) ∨ (x = k ∧ p ∈ E)) ↔ (x ∈ ss ++ [k] ∧ p ∈ adj G x) := by
  simp only [List.mem_append, List.mem_singleton]
  constructor
  · rintro (⟨h1, h2⟩ | ⟨rfl, h2⟩)
    · exact ⟨.inl h1, h2⟩
    · exact ⟨.inr rfl, by rw [hk]; exact h2⟩
  · rintro ⟨h1 | rfl, h2⟩
    · exact .inl ⟨h1, h2⟩
    · exact .inr ⟨rfl, by rw [hk] at h2; exact h2⟩
set_option maxRecDepth 20000 in
set_option maxHeartbeats 8000000 in
theorem children_to (w : World) (g bm : Nat) (X : Lx) (H : GA w g bm X) (hX : X.length ≤ 1000) (hc : Clo (gr X)) (hn : ∀ x ∈ X, x.2.2.Nodup ∧ x.2.2.length ≤ 1000) :
    Calls Tryz.prog 74 #[gp g] w (ChPost w (gr X)) := by
  have hmm := @run_makeMap Tryz.prog
  have b1 : Below w.heap.size w (w.alloc (.map #[] 0)) := (Below.refl _ w).alloc (Nat.le_refl _) _
  have hs1 : (w.alloc (.map #[] 0)).heap.size = w.heap.size + 1 := by simp
  have H1 := H.kb b1
  have c0 := H1.c0
  have ho := H1.at_.mp.own
  have hI : ChI (w.alloc (.map #[] 0)) w.heap.size (w.heap.size + 2) (gr X) (fun p x => x ∈ ([] : List Key) ∧ p ∈ adj (gr X) x) [] :=
    ⟨MpH.made w, (by simp), (by simp), (by simp), (fun p h => by unfold adj; simp [aget, gr, amap]), (by simp)⟩
  have HI := Lib.hid hI
  have HG := Lib.hid H
  have HX := Lib.hid hX
  have HC := Lib.hid hc
  have HN := Lib.hid hn
  have B1 := Lib.hid b1
  have hbm : bm < w.heap.size := H.at_.mp.lt
  have HBM := Lib.hid hbm
  clear b1 H H1 hI hX hc hn hbm
  go_enter Tryz.func74, Tryz.ntmps74
  generalize hw1 : w.alloc (.map #[] 0) = w1 at *
  go_wp2_with (at_range; refine wpList_range_own _ rfl _ 89 rfl _ _ hkeyed Tryz.underlying89 rdv bm (kvs X).length _ rfl ho ?_; intro w2 hrg0 hg0 hs0)
  have HRG0 := Lib.hid hrg0
  have HI2 : Hid (ChI w2 w.heap.size (w.heap.size + 2) (gr X) (fun p x => x ∈ ([] : List Key) ∧ p ∈ adj (gr X) x) []) := Lib.hid (HI.out.keep (S := fun _ => False) ((Only.refl _ w1).grown hg0 (fun _ _ e => by cases e)) (fun h => h) (fun x hx => by cases hx))
  have B2 : Hid (Below w.heap.size w w2) := Lib.hid (B1.out.trans (Only.below (S := fun _ => False) ((Only.refl _ w1).grown hg0 (fun _ _ e => by cases e)) B1.out.size (fun _ h => h.elim)))
  have HS2 : Hid (w.heap.size + 2 ≤ w2.heap.size) := Lib.hid (by rw [hs0, hs1]; exact Nat.le_refl _)
  clear hrg0 hg0 hs0 ho c0
  rw [hs1] at HRG0
  go_frame
  rw [hs1]
  go_loopw [4] (fun _ wr => ∃ (left : Lit → Bool) (cnt : Nat) (ss : List Key) (C : Lx), Hid (wr.ranges Tryz.prog 31 rdv bm (w.heap.size + 1) (kvs X).length (mapV (kvs X)) left cnt) ∧ Hid (Col (kvs X) left ss) ∧ Hid (ChI wr w.heap.size (w.heap.size + 2) (gr X) (fun p x => x ∈ ss ∧ p ∈ adj (gr X) x) C) ∧ Hid (Below w.heap.size w wr) ∧ Hid (w.heap.size + 2 ≤ wr.heap.size))
    (fun _ wr => wr.rangeLeft bm (w.heap.size + 1))
  case atStart => exact ⟨_, _, [], [], HRG0, Lib.hid (Col.start _), HI2, B2, HS2⟩
  case round =>
    obtain ⟨left, cnt, ss, C, RG, CL, CH, B, HSZ⟩ := hrel
    clear HRG0 HI2 B2 HS2 HI
    go_wp2_with (at_next; refine wpList_next_ranges _ rfl _ rfl 31 hkeyed rdv id id (fun key _ _ => ⟨key, rfl⟩) (fun v _ _ => ⟨v, rfl⟩) bm (w.heap.size + 1) (kvs X).length _ _ _ rfl RG.out ?_ ?_)
    · intro hc0 hl0
      go_wp2
      go_ret
      exact CH.out.done (by rw [gr_keys, ← kvs_keys]; exact CL.out.done HG.out.at_.mp.asc hl0) (Nat.le_refl _) B.out
    · intro x c kl yd yp wn cnt2 hkey hlk hv' hat hrg2 hlt hg2 hs2 hen
      obtain ⟨k, hkM, rfl⟩ := ranges_key RG.out hlk
      obtain ⟨k32, rfl⟩ := came_key HG.out.at_.mp.h32 hkM hkey
      have hgk := ranges_get hv' hat hkM
      rw [kvs_get] at hgk
      obtain ⟨⟨c', E⟩, hgX, rfl⟩ := Option.map_eq_some_iff.1 hgk
      have hkss : k ∉ ss := ((CL.out.left k).1 hlk).2
      have hadj : adj (gr X) k = E := by unfold adj; rw [gr_get, hgX]; rfl
      have hon : Only (fun j => j = w.heap.size + 1) wr wn := (Only.refl _ wr).grown hg2 (fun j _ e => by cases e; rfl)
      have CHn := Lib.hid (CH.out.keep hon (by omega) (fun x hx j hj => by have := ((CH.out.own x hx).1.lt j hj).1; omega))
      have Bn : Hid (Below w.heap.size w wn) := Lib.hid (B.out.trans (Only.below hon B.out.size (fun j hj => by omega)))
      have hsn := (HG.out.at_.seen _ (aget_mem hgX))
      have hen2 := HN.out _ (aget_mem hgX)
      have CL2 := Lib.hid (CL.out.step hlk)
      have HGn : Hid (HSeen wn c' E ∧ H32 E ∧ E.Nodup ∧ E.length ≤ 1000) := Lib.hid ⟨hsn.1.mild (mild_below Bn.out), hsn.2, hen2.1, hen2.2⟩
      obtain ⟨q, cap, rfl⟩ := HGn.out.1.shape
      have st := hst_cells k k32 wn
      have hks : (hv k).size = 32 := by rw [hv_size, k32]
      have b3 : Below wn.heap.size wn (wn.alloc (.cells (hv k) 31)) := (Below.refl _ _).alloc (Nat.le_refl _) _
      have CH3 := Lib.hid (CHn.out.kb b3)
      have B3 : Hid (Below w.heap.size w (wn.alloc (.cells (hv k) 31))) := Lib.hid (Bn.out.alloc Bn.out.size _)
      have HV3 := Lib.hid (heap_alloc_last wn (.cells (hv k) 31))
      have RG3 := Lib.hid (hrg2.alloc (.cells (hv k) 31))
      have hs3 : (wn.alloc (.cells (hv k) 31)).heap.size = wn.heap.size + 1 := by simp
      have hsn' : w.heap.size + 2 ≤ wn.heap.size := by rw [hs2]; exact HSZ.out
      have HSN := Lib.hid hsn'
      have K32 := Lib.hid k32
      have HKS := Lib.hid hkss
      have HAD := Lib.hid hadj
      have HRL := Lib.hid RG.out.left_eq
      have HLT := Lib.hid hlt
      have HSE : Hid (HSeen w (.slice q E.length cap) E) := Lib.hid hsn.1
      have NB3 : Hid (∀ x ∈ C, ∀ j, x.2.1.ownBlock = some j → j ≠ wn.heap.size) := Lib.hid (fun x hx j hj => by have := ((CHn.out.own x hx).1.lt j hj).2; omega)
      obtain ⟨nE, hnE⟩ : ∃ nE, nE = E.length := ⟨_, rfl⟩
      rw [← hnE] at HSE hen
      have HNE := Lib.hid hnE
      have HE3 := Lib.hid HGn.out.2
      clear hkM hkey hlk hv' hat hrg2 hlt hg2 hs2 hgk hgX hkss hadj hon CHn Bn hsn hen2 HGn b3 hnE hsn' k32 CH RG CL
      generalize hw3 : wn.alloc (.cells (hv k) 31) = w3 at *
      go_wp2_with fail
      go_loopw [21] (fun s wr => ∃ (i : Nat) (C : Lx), s = .int .i64 i ∧ i ≤ nE ∧ Hid (ChI wr w.heap.size (w.heap.size + 2) (gr X) (fun p x => (x ∈ ss ∧ p ∈ adj (gr X) x) ∨ (x = k ∧ p ∈ E.take i)) C) ∧ Hid (Below w.heap.size w wr) ∧ Hid (wr.ranges Tryz.prog 31 rdv bm (w.heap.size + 1) (kvs X).length (mapV (kvs X)) (fun x => left x && !x.sameKey (.string k)) cnt2) ∧ Hid (wr.heap[wn.heap.size]? = some (.cells (hv k) 31 (0, 0))) ∧ Hid (∀ x ∈ C, ∀ j, x.2.1.ownBlock = some j → j ≠ wn.heap.size))
        (fun s _ => nE - (intOf s).toNat)
      case atStart => exact ⟨0, C, rfl, Nat.zero_le _, Lib.hid (CH3.out.iff fun p x => by simp), B3, RG3, HV3, NB3⟩
      case round =>
        clear CH3 B3 RG3 NB3 HV3
        obtain ⟨i, C, rfl, hi, CH, B, RG, HV, NB⟩ := hrel
        by_cases hlt : i < nE
        · obtain ⟨j1, j2, j3⟩ := next_fit hlt (Nat.le_trans (Nat.le_of_eq HNE.out) (Nat.le_trans HE3.out.2.2 (by decide)))
          have hiE : i < E.length := by rw [← HNE.out]; exact hlt
          obtain ⟨b, o, c', e1, hrg⟩ := (HSE.out.mild (mild_below B.out)).at HE3.out.1 hiE
          injection e1 with e1 e2 e3
          subst e1
          obtain ⟨p, hp⟩ : ∃ p, p = E[i] := ⟨_, rfl⟩
          rw [← hp] at hrg
          have hp32 : p.length = 32 := by rw [hp]; exact HE3.out.1.at hiE
          have hpE : p ∈ E := by rw [hp]; exact List.getElem_mem hiE
          have hpn : p ∉ E.take i := fun hm => by
            obtain ⟨j, hj, e⟩ := List.mem_take_iff_getElem.1 hm
            have := (List.nodup_iff_pairwise_ne.1 HE3.out.2.1)
            rw [hp] at e
            exact absurd e (List.pairwise_iff_getElem.1 this j i (by omega) hiE (by omega))
          have HMT : Hid (∀ y, y ∈ E.take (i + 1) ↔ y ∈ E.take i ∨ y = p) := Lib.hid (fun y => by rw [hp]; exact mem_take_succ hiE y)
          have hph : (aget p (gr X)).isSome = true := HC.out k p (by rw [HAD.out]; exact hpE)
          have hld0 := hld_range hp32 hrg
          have st := hst_cells p hp32 wr
          have hks : (hv p).size = 32 := by rw [hv_size, hp32]
          have ba : Below wr.heap.size wr (wr.alloc (.cells (hv p) 31)) := (Below.refl _ _).alloc (Nat.le_refl _) _
          have bb : Below wr.heap.size wr ((wr.alloc (.cells (hv p) 31)).alloc (.cells (hv k) 31)) := ba.alloc ba.size _
          have hldp := hld_row (w := wr.alloc (.cells (hv p) 31)) hp32 (heap_alloc_last wr _)
          have hldk := hld_row (w := wr.alloc (.cells (hv p) 31)) K32.out ((ba.block _ (Array.getElem?_eq_some_iff.1 HV.out).1).trans HV.out)
          have CHb := Lib.hid (CH.out.kb bb)
          have hszb : ((wr.alloc (.cells (hv p) 31)).alloc (.cells (hv k) 31)).heap.size = wr.heap.size + 2 := by simp
          have hsza : (wr.alloc (.cells (hv p) 31)).heap.size = wr.heap.size + 1 := by simp
          have hkr : ((wr.alloc (.cells (hv p) 31)).alloc (.cells (hv k) 31)).rangeAt (wr.heap.size + 1) 0 (us (nmb k)) := by
            have := range_new' (wr.alloc (.cells (hv p) 31)) k 31
            rw [hsza] at this
            exact this
          have hCl := Nat.le_trans CHb.out.len (by rw [gr_len]; exact HX.out)
          have hof := ent_fits hCl
          obtain ⟨stm, wc, hme, oc, hmc, hback⟩ := CHb.out.mp.entry Tryz.underlying89 lzero p hp32 (by rw [kvs_len]; exact hof.2)
          have hold := CHb.out.old p
          have hsmall := CHb.out.small (fun p' x hx => by
            rcases hx with hx | ⟨rfl, hx⟩
            · exact adj_has hx.2
            · refine adj_has (G := gr X) (p := p') ?_
              rw [HAD.out]
              exact List.mem_of_mem_take hx) p
          have hsl : (adj (gr C) p).length + 1 ≤ 4398046511104 := (ent_fits (Nat.le_trans hsmall (by rw [gr_len]; exact HX.out))).1
          have hownc := hold.1.step oc (fun j hj e => own_ne_map hold.1 CHb.out.mp (by rw [hj, e]))
          have hkrc : wc.rangeAt (wr.heap.size + 1) 0 (us (nmb k)) := hsr_kb hkr (mild_map CHb.out.mp oc)
          rw [show (aget p (kvs C)).getD (.slice none 0 0) = oldV C p from rfl] at hme
          obtain ⟨po, co, hov⟩ := (HSeen.own hold.1).shape
          have HOW := Lib.hid hownc
          have HKR := Lib.hid hkrc
          have HBK := Lib.hid hback
          have HOC := Lib.hid oc
          have HSL := Lib.hid hsl
          have hszc : w.heap.size + 2 ≤ wc.heap.size := by have := oc.size; rw [hszb] at this; have := (Array.getElem?_eq_some_iff.1 HV.out).1; have := HSN.out; omega
          have HPH := Lib.hid hph
          have HPN := Lib.hid hpn
          have HP32 := Lib.hid hp32
          have HOL := Lib.hid hold
          have HBB := Lib.hid bb
          have HWS : Hid (w.heap.size + 2 ≤ wr.heap.size) := Lib.hid (by have := (Array.getElem?_eq_some_iff.1 HV.out).1; have := HSN.out; omega)
          clear hrg ba bb hkr hCl hof oc hmc hback hold hsmall hsl hownc hkrc hp hpE hpn hph hp32 hiE e2 e3 CH
          generalize hov' : oldV C p = ov at *
          generalize hFE : adj (gr C) p = F at *
          subst hov
          have hbo : ∀ j, (Value.slice po F.length co).ownBlock = some j → w.heap.size + 2 ≤ j ∧ j < wc.heap.size := fun j hj => HOW.out.lt j hj
          have HBO := Lib.hid hbo
          clear hbo
          go_wp2_with (first
            | (refine build_one k K32.out rfl ?_)
            | (at_builtin; go_must (refine push_loc rfl _ _ rfl (w.heap.size + 2) _ F (wr.heap.size + 1) k K32.out rfl HOW.out rfl HKR.out HSL.out hszc ?_); intro vd wd od nd ld; obtain ⟨pd, cd, rfl⟩ := (HSeen.own od).shape; obtain ⟨we, hes, mpe, oe⟩ := HBK.out wd (.slice pd (F ++ [k]).length cd) (nd.block w.heap.size (by omega) (fun e => by have := HBO.out _ e; omega)); rw [List.length_append, List.length_singleton] at hes; have OD := Lib.hid od; have ND := Lib.hid nd; have LD := Lib.hid ld; have ME := Lib.hid mpe; have OE := Lib.hid oe; clear od nd ld mpe oe))
          have oth : Only (fun j => j = w.heap.size ∨ (Value.slice po F.length co).ownBlock = some j) ((wr.alloc (.cells (hv p) 31)).alloc (.cells (hv k) 31)) we :=
            (HOC.out.trans ND.out (fun _ h => .inl h) (fun _ _ h => .inr h)).trans OE.out (fun _ h => h) (fun _ _ h => .inl h)
          have hall : Only (fun j => j = w.heap.size ∨ (Value.slice po F.length co).ownBlock = some j) wr we := (Only.of_below (S := fun j => j = w.heap.size ∨ (Value.slice po F.length co).ownBlock = some j) HBB.out).trans oth (fun _ h => h) (fun _ _ h => h)
          have hnb : ∀ j, (Value.slice po F.length co).ownBlock = some j → j ≠ wn.heap.size := fun j hj => by
            rw [← hov'] at hj
            unfold oldV at hj
            rw [kvs_get] at hj
            cases hg : aget p C with
            | none => rw [hg] at hj; cases hj
            | some y => rw [hg] at hj; exact NB.out _ (aget_mem hg) j hj
          have hwc : ∀ j, wc.heap.size ≤ j → wn.heap.size < j := fun j hj => by
            have h1 := (Array.getElem?_eq_some_iff.1 HV.out).1
            have h2 := HOC.out.size
            rw [hszb] at h2
            omega
          have hpush := ChI.push (v' := .slice pd (F ++ [k]).length cd) CHb.out ME.out (by rw [hFE]; exact OD.out.step OE.out (fun j hj e => by have := (OD.out.lt j hj).1; omega))
            (by rw [hov']; exact oth) (by rw [hov']; exact fun j hj => (LD.out j hj).imp (fun h => h) (fun h => Nat.le_trans HOC.out.size h)) HPH.out K32.out (fun h => h.elim (fun h => HKS.out h.1) (fun h => HPN.out h.2))
          rw [hFE] at hpush
          have hi' := hpush.iff (Q := fun p' x => (x ∈ ss ∧ p' ∈ adj (gr X) x) ∨ (x = k ∧ p' ∈ E.take (i + 1))) (fun p' x => by
            rw [HMT.out]
            constructor
            · rintro ((h | ⟨h1, h2⟩) | ⟨h1, h2⟩)
              · exact .inl h
              · exact .inr ⟨h1, .inl h2⟩
              · exact .inr ⟨h2, .inr h1⟩
            · rintro (h | ⟨h1, h2 | h2⟩)
              · exact .inl (.inl h)
              · exact .inl (.inr ⟨h1, h2⟩)
              · exact .inr ⟨h2, h1⟩)
          have hnv : ∀ j, (Value.slice pd (F ++ [k]).length cd).ownBlock = some j → j ≠ wn.heap.size := fun j hj => by
            rcases LD.out j hj with h | h
            · exact hnb j h
            · have := hwc j h; omega
          refine ⟨⟨i + 1, aput p (.slice pd (F ++ [k]).length cd, F ++ [k]) C, by rw [j1], hlt, Lib.hid hi', Lib.hid (B.out.trans (Only.below hall B.out.size (fun j hj => by
              rcases hj with rfl | hj
              · exact Nat.le_refl _
              · have := HBO.out j hj; omega))), Lib.hid (ranges_keep RG.out (hall.block bm RG.out.owns.lt (fun e => by
              rcases e with e | e
              · have := HBM.out; omega
              · have := HBO.out _ e; have := HBM.out; omega)) (hall.block _ RG.out.lt (fun e => by
              rcases e with e | e
              · omega
              · have := HBO.out _ e; omega))), Lib.hid ((hall.block _ (Array.getElem?_eq_some_iff.1 HV.out).1 (fun e => by
              rcases e with e | e
              · have := HSN.out; omega
              · exact hnb _ e rfl)).trans HV.out), Lib.hid (fun x hx j hj => by
              rcases mem_aput.1 hx with rfl | ⟨hx, _⟩
              · exact hnv j hj
              · exact NB.out x hx j hj)⟩, ?_⟩
          rw [j1]
          simp only [intOf]
          omega
        · obtain rfl : i = nE := by omega
          go_wp2_with fail
          have CHs := CH.out.iff (Q := fun p x => x ∈ ss ++ [k] ∧ p ∈ adj (gr X) x) (fun p x => (by rw [List.take_of_length_le (by rw [HNE.out]; exact Nat.le_refl _)]; exact stop_ch HAD.out HKS.out p x))
          refine ⟨⟨_, cnt2, ss ++ [k], C, RG, CL2, Lib.hid CHs, B, Lib.hid (by have := HV.out; have := (Array.getElem?_eq_some_iff.1 this).1; have := HSN.out; omega)⟩, ?_⟩
          rw [RG.out.left_eq, HRL.out]
          exact HLT.out
end Go.Proofs.YtnpeahbbcolfmaaGreatDoor
namespace Go.Proofs.YtnpeahbbcolfmaaGreatDoor
open Go.RowKit
open Go.Maps
def Tryz.gclone_ren : Go.Shelf.Ren := ⟨fun | 5 => 102 | 7 => 97 | n => n, fun | 23 => 89 | 25 => 31 | 3 => 32 | 4 => 4 | 20 => 20 | n => n, fun | n => n⟩
theorem Tryz.gclone : Go.Proofs.SlLaysW.n5 Tryz.prog Tryz.gclone_ren := {
  mixed := by kernel_rfl
  f5 := ⟨Tryz.f102.name, by decide, Tryz.func102.trans (congrArg some (by kernel_rfl))⟩
  f7 := Tryz.func97.trans (congrArg some (by kernel_rfl))
  t4 := Tryz.underlying4
  a4 := Tryz.isAgg4
  z4 := Tryz.sizeOf4
  v4 := Tryz.zeroValue4
  t20 := Tryz.underlying20
  a20 := Tryz.isAgg20
  z20 := Tryz.sizeOf20
  v20 := Tryz.zeroValue20
  t23 := Tryz.underlying89
  a23 := Tryz.isAgg89
  z23 := Tryz.sizeOf89
  v23 := Tryz.zeroValue89 }

theorem up_rev {f g : Key → List Key} (h : ∀ p x, x ∈ f p ↔ p ∈ g x) {a b : Key} (k : Up f a b) : Up g b a := by
  induction k with
  | refl => exact .refl _
  | step h1 _ ih => exact ih.snoc ((h _ _).1 h1)
def Dsc (G : Gr) (E : List Key) (x : Key) : Prop := ∃ a ∈ E, (aget a G).isSome = true ∧ Up (adj G) x a
open Classical in
/-- The descendants of some hashes, and they. -/
noncomputable def descs (G : Gr) (E : List Key) : List Key := (G.map (·.1)).filter fun x => decide (Dsc G E x)
theorem dsc_has {G : Gr} {E : List Key} {x : Key} (h : Dsc G E x) : (aget x G).isSome = true := by
  obtain ⟨a, _, ha, hu⟩ := h
  cases hu with
  | refl => exact ha
  | step h1 _ => exact adj_has h1
theorem descs_mem {G : Gr} {E : List Key} {x : Key} : x ∈ descs G E ↔ Dsc G E x := by
  unfold descs
  simp only [List.mem_filter, mem_keys, decide_eq_true_eq]
  exact ⟨fun h => h.2, fun h => ⟨dsc_has h, h⟩⟩
theorem descs_asc {G : Gr} (ha : AAsc G) (E : List Key) : Asc (descs G E) := List.Pairwise.filter _ (aasc_asc ha)
theorem descs_len (G : Gr) (E : List Key) : (descs G E).length ≤ G.length := by
  unfold descs
  exact Nat.le_trans (List.length_filter_le _ _) (by simp)
set_option maxRecDepth 20000 in
set_option maxHeartbeats 4000000 in
theorem descendants_to (w : World) (g bm : Nat) (X : Lx) (v : Value) (E : List Key) (H : GA w g bm X) (hE : HSeen w v E) (h32 : H32 E) (hEl : E.length ≤ 1000000) (hX : X.length ≤ 1000) (hc : Clo (gr X)) (hn : ∀ x ∈ X, x.2.2.Nodup ∧ x.2.2.length ≤ 1000) :
    Calls Tryz.prog 33 #[gp g, v] w fun e w' => ∃ v', e = .returned v' ∧ HOwn w' w.heap.size v' (descs (gr X) E) ∧ Below w.heap.size w w' := by
  have HCh := Lib.hid (children_to w g bm X H hX hc hn)
  have HG := Lib.hid H
  have HE := Lib.hid hE
  have H3 := Lib.hid h32
  have HEl := Lib.hid hEl
  have HXl := Lib.hid hX
  have HA := Lib.hid (gr_asc H.at_.mp.asc)
  have HUl : Hid (((gr X).map (·.1)).length ≤ 1000) := Lib.hid (by rw [List.length_map, gr_len]; exact hX)
  obtain ⟨p, cap, rfl⟩ := hE.shape
  clear H hE h32 hEl hX hc hn
  go_enter Tryz.func33, Tryz.ntmps33
  go_wp2_with fail
  refine HCh.out.mono ?_
  rintro e w1 ⟨b, C, rfl, hC, hb, hm, hl, b1⟩
  have B1 := Lib.hid b1
  have HC := Lib.hid hC
  have HM := Lib.hid hm
  have HL : Hid (∀ x ∈ C, x.2.2.length ≤ 1000) := Lib.hid (fun x hx => Nat.le_trans (hl x hx) (by rw [gr_len]; exact HXl.out))
  have HX1 := Lib.hid (existing_to w1 g bm X _ E (HG.out.kb b1) (HE.out.mild (mild_below b1)) H3.out HEl.out (Nat.le_trans HXl.out (by decide)))
  clear hC hb hm hl b1
  go_wp2_with fail
  refine HX1.out.mono ?_
  rintro e w2 ⟨b2, R, rfl, hS, _, hR, hRl, bb2⟩
  have B2 : Hid (Below w.heap.size w w2) := Lib.hid (B1.out.trans (bb2.mono B1.out.size))
  have HC2 := Lib.hid (HC.out.kb bb2)
  have HR := Lib.hid hR
  have HRl : Hid (R.length ≤ 1000) := Lib.hid (by have := HUl.out; rw [List.length_map] at this; omega)
  have H32R := Lib.hid (h32_set hS)
  have HS2 := Lib.hid (sorted_to w2 b2 R (by have := HRl.out; omega) hS)
  clear hS hR hRl bb2
  go_wp2_with fail
  refine HS2.out.mono ?_
  rintro e w3 ⟨v3, rfl, o3, b3⟩
  have B3 : Hid (Below w.heap.size w w3) := Lib.hid (B2.out.trans (b3.mono B2.out.size))
  have HRe := Lib.hid (reach_to w3 b C v3 R ((gr X).map (·.1)) (HC2.out.kb b3) (HSeen.own o3) H32R.out (Nat.le_trans HRl.out (by decide)) (Nat.le_trans HUl.out (by decide))
    (fun x hx => mem_keys.2 ((HR.out x).1 hx).2) (fun x p hp => mem_keys.2 (adj_has ((HM.out x p).1 hp))) HL.out)
  obtain ⟨p3, c3, rfl⟩ := (HSeen.own o3).shape
  clear o3 b3
  go_wp2_with fail
  refine HRe.out.mono ?_
  rintro e w4 ⟨b4, R', rfl, hS, _, hR, hRl, bb4⟩
  have B4 : Hid (Below w.heap.size w w4) := Lib.hid (B3.out.trans (bb4.mono B3.out.size))
  have HR' : Hid (R' = descs (gr X) E) := Lib.hid (by
    refine asc_ext _ _ (setH_asc hS) (descs_asc HA.out E) fun x => ?_
    rw [hR, descs_mem]
    constructor
    · rintro ⟨a, h1, h2⟩; exact ⟨a, ((HR.out a).1 h1).1, ((HR.out a).1 h1).2, up_rev HM.out h2⟩
    · rintro ⟨a, h1, h2, h3⟩; exact ⟨a, (HR.out a).2 ⟨h1, h2⟩, up_rev (fun p x => (HM.out x p).symm) h3⟩)
  have HS4 := Lib.hid (sorted_to w4 b4 R' (by have := HUl.out; omega) hS)
  clear hS hR hRl bb4
  go_wp2_with fail
  refine HS4.out.mono ?_
  rintro e w5 ⟨v5, rfl, o5, b5⟩
  rw [HR'.out] at o5
  have B5 : Hid (Below w.heap.size w w5) := Lib.hid (B4.out.trans (b5.mono B4.out.size))
  have O5 := Lib.hid (own_lower o5 B4.out.size)
  clear o5 b5
  go_wp2
  go_ret
  exact ⟨_, rfl, O5.out, B5.out⟩

/-- Copy. -/
theorem copy_to (w : World) (g bm : Nat) (X : Lx) (H : GA w g bm X) : Calls Tryz.prog 80 #[gp g] w fun e w' => ∃ g', e = .returned (gp g') ∧ w.heap.size ≤ g' ∧ GA w' g' w.heap.size X ∧ Below w.heap.size w w' := by
  have c0 := H.c0
  have HO := Lib.hid (AnyW.maps_Clone_owns Tryz.gclone 31 rdv bm (kvs X).length (mapV (kvs X)) w H.at_.mp.own)
  have HG := Lib.hid H
  clear H
  go_enter Tryz.func80, Tryz.ntmps80
  go_wp2_with fail
  refine HO.out.mono ?_
  rintro e w1 ⟨rfl, o1, o2, b1⟩
  have B1 := Lib.hid b1
  have HN : Hid (GA (w1.alloc (.cells #[.map (some w.heap.size)] 91)) w1.heap.size w.heap.size X) := Lib.hid
    ⟨heap_alloc_last w1 _, (LAt.kb ⟨MpH.of o1 HG.out.at_.mp.asc HG.out.at_.mp.h32, fun x hx => ⟨(HG.out.at_.seen x hx).1.mild (mild_below b1), (HG.out.at_.seen x hx).2⟩⟩ ((Below.refl _ w1).alloc (Nat.le_refl _) _))⟩
  clear o1 o2 b1
  go_wp2
  go_ret
  exact ⟨_, rfl, B1.out.size, HN.out, B1.out.alloc B1.out.size _⟩
end Go.Proofs.YtnpeahbbcolfmaaGreatDoor
namespace Go.Proofs.YtnpeahbbcolfmaaGreatDoor
open Go.RowKit Go.Extern.Stop Go.Stop Go.Extern
/-- A type's handle. -/
abbrev hd (t : Nat) : Value := .pointer (some ⟨2, t, none⟩)
theorem toE (v : Value) (w : World) : (ReflectliteType.typeOf #[.iface 48 v]).run Tryz.prog w = .ok (.iface 174 (.agg #[hd 48])) w := by kernel_rfl
theorem noAsE (v : Value) (xT : TypeId) (w : World) : (Instr.typeAssert (.iface 48 v) xT 179 true).run Tryz.prog w = .ok (.tuple #[.nilIface, .bool false]) w := run_typeAssert_lacksB Tryz.underlying179 (by kernel_rfl) (by kernel_rfl) v xT w
theorem noUE (v : Value) (xT : TypeId) (w : World) : (Instr.typeAssert (.iface 48 v) xT 182 true).run Tryz.prog w = .ok (.tuple #[.nilIface, .bool false]) w := run_typeAssert_lacksB Tryz.underlying182 (by kernel_rfl) (by kernel_rfl) v xT w
theorem noUsE (v : Value) (xT : TypeId) (w : World) : (Instr.typeAssert (.iface 48 v) xT 184 true).run Tryz.prog w = .ok (.tuple #[.nilIface, .bool false]) w := run_typeAssert_lacksB Tryz.underlying184 (by kernel_rfl) (by kernel_rfl) v xT w
theorem m_kind (h : Value) (w : World) : (Go.method 360 174 (.agg #[h]) "Kind").run Tryz.prog w = .ok (173, h) w := by kernel_rfl
theorem m_elem (h : Value) (w : World) : (Go.method 360 174 (.agg #[h]) "Elem").run Tryz.prog w = .ok (185, .agg #[h]) w := by kernel_rfl
theorem m_impl (h : Value) (w : World) : (Go.method 360 174 (.agg #[h]) "Implements").run Tryz.prog w = .ok (186, .agg #[h]) w := by kernel_rfl
theorem m_asg (h : Value) (w : World) : (Go.method 360 174 (.agg #[h]) "AssignableTo").run Tryz.prog w = .ok (183, .agg #[h]) w := by kernel_rfl
theorem rlm (z : Sem Value) (f : TypeId → Addr → Nat → Nat → Sem Value) (v : Value) :
    ReflectliteValue.method z f #[v] = (do match ← ReflectliteValue.parts v with | none => z | some (t, a, fl) => f t a fl (fl % 32)) := rfl
theorem rls (v x : Value) : ReflectliteValue.set #[v, x] = (do
    let (some (dst, a, fl), some (src, b, _)) := (← ReflectliteValue.parts v, ← ReflectliteValue.parts x)
      | unsupported (.noEntry "extern/(internal/reflectlite.Value).Set.zeroValue")
    if fl / ReflectliteValue.flagAddr % 2 == 0 then unsupported (.noEntry "extern/(internal/reflectlite.Value).Set.unaddressable")
    let val ← loadVar src b
    if ← Rtype.directlyAssignable dst src then storeVar dst a val
    else if ← Rtype.implements dst src then
      if (← Rtype.kind src) == 20 then
        match val with
        | .nilIface => unsupported (.noEntry "extern/reflectlite: a nil value of one interface type handed on as a value of another")
        | _ => storeVar dst a val
      else storeVar dst a (.iface src val)
    else panicString ("reflectlite.Set: value of type " ++ (← Rtype.spelt src) ++ " is not assignable to type " ++ (← Rtype.spelt dst))
    pure (.tuple #[])) := rfl
theorem partsE1 (a : Addr) (w : World) : (ReflectliteValue.parts (.agg #[hd 110, .pointer (some a), .int .u64 150])).run Tryz.prog w = .ok (some (110, a, 150)) w := by kernel_rfl
theorem partsE2 (a : Addr) (w : World) : (ReflectliteValue.parts (.agg #[hd 48, .pointer (some a), .int .u64 386])).run Tryz.prog w = .ok (some (48, a, 386)) w := by kernel_rfl
theorem partsE3 (a : Addr) (w : World) : (ReflectliteValue.parts (.agg #[hd 48, .pointer (some a), .int .u64 130])).run Tryz.prog w = .ok (some (48, a, 130)) w := by kernel_rfl
theorem eoE (w : World) : (Rtype.elem? 110).run Tryz.prog w = .ok (some 48) w := by kernel_rfl
theorem mkE (p : Addr) (w : World) : (ReflectliteValue.mk 48 p ReflectliteValue.flagAddr).run Tryz.prog w = .ok (.agg #[hd 48, .pointer (some p), .int .u64 386]) w := by kernel_rfl
theorem diE (w : World) : (Rtype.directlyAssignable 48 48).run Tryz.prog w = .ok true w := by kernel_rfl
theorem voE (a : Addr) (w : World) : (ReflectliteValue.unpack (.iface 110 (.pointer (some a)))).run Tryz.prog w = .ok (.agg #[hd 110, .pointer (some ⟨w.heap.size, 0, none⟩), .int .u64 150]) (w.alloc (.cells #[.pointer (some a)] 110)) := by kernel_rfl
theorem tyE (a : Addr) (w : World) : (ReflectliteValue.methodAny (ReflectliteValue.valueError "reflectlite.Value.Type" 0) (fun t _ _ _ => ReflectliteType.toType t) #[.agg #[hd 110, .pointer (some a), .int .u64 150]]).run Tryz.prog w = .ok (.iface 174 (.agg #[hd 110])) w := by kernel_rfl
theorem k1E (w : World) : ((ReflectliteType.abiMethod fun t => (fun a : Nat => Value.int IntKind.u8 (a : Int)) <$> Rtype.kind t) #[hd 110]).run Tryz.prog w = .ok (.int .u8 22) w := by kernel_rfl
theorem k2E (w : World) : ((ReflectliteType.abiMethod fun t => (fun a : Nat => Value.int IntKind.u8 (a : Int)) <$> Rtype.kind t) #[hd 48]).run Tryz.prog w = .ok (.int .u8 2) w := by kernel_rfl
theorem nilE (a p : Addr) (W : World) (ha : W.cell? a = some (.pointer (some p))) : (ReflectliteValue.method (ReflectliteValue.valueError "reflectlite.Value.IsNil" 0) ReflectliteValue.isNil #[.agg #[hd 110, .pointer (some a), .int .u64 150]]).run Tryz.prog W = .ok (.bool false) W := by
  rw [rlm]
  simp only [Sem.run_bind, partsE1, Result.andThen]
  simp [ReflectliteValue.isNil, loadVar, isAgg, underlying, Tryz.underlying110, ha, Result.andThen]
theorem meE (w : World) : (ReflectliteType.method ReflectliteType.elem #[.agg #[hd 110]]).run Tryz.prog w = .ok (.iface 174 (.agg #[hd 48])) w := by kernel_rfl
theorem imE (w : World) : (ReflectliteType.relation "Implements" ReflectliteType.implements_ #[.agg #[hd 48], .iface 174 (.agg #[hd 26])]).run Tryz.prog w = .ok (.bool true) w := by kernel_rfl
theorem vsE (e : Int) (w : World) : (ReflectliteValue.unpack (.iface 48 (.int .i64 e))).run Tryz.prog w = .ok (.agg #[hd 48, .pointer (some ⟨w.heap.size, 0, none⟩), .int .u64 130]) (w.alloc (.cells #[.int .i64 e] 48)) := by kernel_rfl
theorem elE (a p : Addr) (W : World) (ha : W.cell? a = some (.pointer (some p))) : (ReflectliteValue.method (ReflectliteValue.valueError "reflectlite.Value.Elem" 0) ReflectliteValue.elem #[.agg #[hd 110, .pointer (some a), .int .u64 150]]).run Tryz.prog W = .ok (.agg #[hd 48, .pointer (some p), .int .u64 386]) W := by
  rw [rlm]
  simp only [Sem.run_bind, partsE1, Result.andThen]
  simp [ReflectliteValue.elem, loadVar, isAgg, underlying, Tryz.underlying110, ha, Result.andThen, eoE, mkE]
theorem stE (ta b : Addr) (e : Int) (old : Value) (W : World) (hb : W.cell? b = some (.int .i64 e)) (ht : W.cell? ta = some old) (hf : W.frozen? ta = false) :
    (ReflectliteValue.set #[.agg #[hd 48, .pointer (some ta), .int .u64 386], .agg #[hd 48, .pointer (some b), .int .u64 130]]).run Tryz.prog W = .ok (.tuple #[]) (W.setCell ta (.int .i64 e)) := by
  rw [rls]
  simp only [Sem.run_bind, partsE2, partsE3, Result.andThen]
  simp [ReflectliteValue.flagAddr, loadVar, isAgg, underlying, Tryz.underlying48, hb, Result.andThen, diE, storeVar, Value.cells, storeCells, Addr.add]
  rw [run_store Tryz.prog W ta _ _ (by rfl)]
  simp [ht, hf]
theorem asgE (w : World) : (ReflectliteType.relation "AssignableTo" ReflectliteType.assignableTo #[.agg #[hd 48], .iface 174 (.agg #[hd 48])]).run Tryz.prog w = .ok (.bool true) w := by kernel_rfl
theorem nil_iface (t : TypeId) (x : Value) (w : World) : (binOp .eql 26 (.iface t x) .nilIface).run Tryz.prog w = .ok (.bool false) w := by kernel_rfl
theorem nil_nil (w : World) : (binOp .eql 26 .nilIface .nilIface).run Tryz.prog w = .ok (.bool true) w := by kernel_rfl
end Go.Proofs.YtnpeahbbcolfmaaGreatDoor
namespace Go.Proofs.YtnpeahbbcolfmaaGreatDoor
open Go.RowKit Go.Extern.Stop Go.Stop Go.Extern
/-- The variable errors.errorType holds the handle of the type error. -/
def Glob (w : World) : Prop := w.cell? ⟨0, 0, none⟩ = some (.iface 174 (.agg #[hd 26]))
theorem Glob.kb {w w' : World} (h : Glob w) (hb : Below w.heap.size w w') : Glob w' := by
  have h2 := World.block_lt_of_cell? w _ h
  unfold Glob
  rw [World.cell?_of_block (w := w) (hb.block _ h2)]
  exact h

/-- Behind errors.As: the target at block tb holds what was found, or what it held. -/
def AsPost (w : World) (tb : Nat) (t : TypeId) (old : Value) (r : Option Value) (e : Ending) (w' : World) : Prop :=
  e = .returned (.bool r.isSome) ∧ Only (fun k => k = tb) w w' ∧ w'.heap[tb]? = some (.cells #[r.getD old] t (0, 0))

theorem cell_obj {w : World} {p : Nat} {cs : Array Value} {T : TypeId} (h : w.heap[p]? = some (.cells cs T (0, 0))) (j : Nat) {u : Value} (hu : cs[j]? = some u) : w.cell? ⟨p, j, none⟩ = some u := by
  rw [cell_of_row w p j cs T (0, 0) h]; exact hu

theorem post_hit {t : TypeId} {w : World} {tb a : Nat} {old x : Value} {r : Option Value} {o1 o2 : Obj} (hr : r = some x) (htb : w.heap[tb]? = some (.cells #[old] t (0, 0))) (ha : a = tb) :
    AsPost w tb t old r (.returned (.bool true)) (((w.alloc o1).alloc o2).setCell ⟨a, 0, none⟩ x) := by
  subst hr
  subst ha
  have hlt := (Array.getElem?_eq_some_iff.1 htb).1
  refine ⟨rfl, Only.setCell (S := fun k => k = a) (((Only.refl _ _).alloc _).alloc _) rfl _, ?_⟩
  refine one_setCell (v := old) ?_
  rw [Below.heap_alloc _ _ _ (by simp; omega), Below.heap_alloc _ _ _ hlt]
  exact htb

/-- The error that is the kind k. -/
abbrev kind (k : Int) : Value := .iface 48 (.int .i64 k)

set_option maxHeartbeats 4000000 in
theorem asE_walk (w : World) (k : Int) (a tb : Nat) (old : Value)
    (ha : w.cell? ⟨a, 0, none⟩ = some (.pointer (some ⟨tb, 0, none⟩))) (htb : w.heap[tb]? = some (.cells #[old] 48 (0, 0))) :
    Calls Tryz.prog 88 #[kind k, .iface 110 (.pointer (some ⟨tb, 0, none⟩)), .agg #[hd 110, .pointer (some ⟨a, 0, none⟩), .int .u64 150], .iface 174 (.agg #[hd 48])] w fun e w' => AsPost w tb 48 old (some (.int .i64 k)) e w' := by
  have xT := @run_callFunc_extern Tryz.prog 105 _ ReflectliteType.typeOf Tryz.func105 (by kernel_rfl) (by kernel_rfl) (by kernel_rfl) (by kernel_rfl)
  have xV := @run_callFunc_extern Tryz.prog 85 _ (fun args => ReflectliteValue.unpack (args.getD 0 (.tuple #[]))) Tryz.func85 (by kernel_rfl) (by kernel_rfl) (by kernel_rfl) (by kernel_rfl)
  have xA := @run_callFunc_extern Tryz.prog 183 _ (ReflectliteType.relation "AssignableTo" ReflectliteType.assignableTo) Tryz.func183 (by kernel_rfl) (by kernel_rfl) (by kernel_rfl) (by kernel_rfl)
  have xE := @run_callFunc_extern Tryz.prog 106 _ (ReflectliteValue.method (ReflectliteValue.valueError "reflectlite.Value.Elem" 0) ReflectliteValue.elem) Tryz.func106 (by kernel_rfl) (by kernel_rfl) (by kernel_rfl) (by kernel_rfl)
  have xS := @run_callFunc_extern Tryz.prog 107 _ ReflectliteValue.set Tryz.func107 (by kernel_rfl) (by kernel_rfl) (by kernel_rfl) (by kernel_rfl)
  have mA := m_asg
  have hlt : a < w.heap.size := World.block_lt_of_cell? w _ ha
  have htl := (Array.getElem?_eq_some_iff.1 htb).1
  have el := elE ⟨a, 0, none⟩ ⟨tb, 0, none⟩ (w.alloc (.cells #[hd 110, .pointer (some ⟨a, 0, none⟩), .int .u64 150] 142)) (by rw [World.cell?_alloc_lt _ _ ⟨a, 0, none⟩ hlt]; exact ha)
  have hst := stE ⟨tb, 0, none⟩ ⟨w.heap.size + 1, 0, none⟩ k old ((w.alloc (.cells #[hd 110, .pointer (some ⟨a, 0, none⟩), .int .u64 150] 142)).alloc (.cells #[.int .i64 k] 48))
    (by rw [World.cell?_alloc_at _ _ _ _ (by simp)]; rfl)
    (by rw [World.cell?_alloc_lt _ _ ⟨tb, 0, none⟩ (by simp; omega), World.cell?_alloc_lt _ _ ⟨tb, 0, none⟩ htl]; exact cell_obj htb 0 rfl)
    (by rw [World.frozen?_alloc_old _ _ ⟨tb, 0, none⟩ (by simp; omega), World.frozen?_alloc_old _ _ ⟨tb, 0, none⟩ (Nat.ne_of_lt htl)]; exact free_of_one htb)
  have HTB := Lib.hid htb
  have hto := toE
  have hA := asgE
  have hvs := fun w => vsE k w
  clear htb ha hlt htl
  go_enter Tryz.func88, Tryz.ntmps88
  go_wp2
  refine wp_loop_rounds 1 ?_; rw [rounds_succ]; go_wp2
  go_ret
  exact post_hit rfl HTB.out rfl

theorem postE_up {t : TypeId} {w : World} {tb : Nat} {old : Value} {r : Option Value} {o1 o2 : Obj} {e : Ending} {w' : World} (h : AsPost ((w.alloc o1).alloc o2) tb t old r e w') : AsPost w tb t old r e w' :=
  ⟨h.1, (((Only.refl (fun k => k = tb) w).alloc o1).alloc o2).trans h.2.1 (fun _ h => h) (fun _ _ h => h), h.2.2⟩

set_option maxHeartbeats 4000000 in
theorem asE_any (w : World) (k : Int) (hg : Glob w) (tb : Nat) (old : Value) (htb : w.heap[tb]? = some (.cells #[old] 48 (0, 0))) :
    Calls Tryz.prog 48 #[kind k, .iface 110 (.pointer (some ⟨tb, 0, none⟩))] w fun e w' => AsPost w tb 48 old (some (.int .i64 k)) e w' := by
  have xV := @run_callFunc_extern Tryz.prog 85 _ (fun args => ReflectliteValue.unpack (args.getD 0 (.tuple #[]))) Tryz.func85 (by kernel_rfl) (by kernel_rfl) (by kernel_rfl) (by kernel_rfl)
  have xY := @run_callFunc_extern Tryz.prog 86 _ (ReflectliteValue.methodAny (ReflectliteValue.valueError "reflectlite.Value.Type" 0) (fun t _ _ _ => ReflectliteType.toType t)) Tryz.func86 (by kernel_rfl) (by kernel_rfl) (by kernel_rfl) (by kernel_rfl)
  have xN := @run_callFunc_extern Tryz.prog 87 _ (ReflectliteValue.method (ReflectliteValue.valueError "reflectlite.Value.IsNil" 0) ReflectliteValue.isNil) Tryz.func87 (by kernel_rfl) (by kernel_rfl) (by kernel_rfl) (by kernel_rfl)
  have xK := @run_callFunc_extern Tryz.prog 173 _ (ReflectliteType.abiMethod fun t => do pure (.int .u8 (← Rtype.kind t))) Tryz.func173 (by kernel_rfl) (by kernel_rfl) (by kernel_rfl) (by kernel_rfl)
  have xE := @run_callFunc_extern Tryz.prog 185 _ (ReflectliteType.method ReflectliteType.elem) Tryz.func185 (by kernel_rfl) (by kernel_rfl) (by kernel_rfl) (by kernel_rfl)
  have xI := @run_callFunc_extern Tryz.prog 186 _ (ReflectliteType.relation "Implements" ReflectliteType.implements_) Tryz.func186 (by kernel_rfl) (by kernel_rfl) (by kernel_rfl) (by kernel_rfl)
  have mK := m_kind
  have mE := m_elem
  have mI := m_impl
  have vo := voE
  have ty := tyE
  have k1 := k1E
  have k2 := k2E
  have me := meE
  have im := imE
  have hlt := World.block_lt_of_cell? w _ hg
  have htl := (Array.getElem?_eq_some_iff.1 htb).1
  have n8 := nilE ⟨w.heap.size, 0, none⟩ ⟨tb, 0, none⟩ ((w.alloc (.cells #[.pointer (some ⟨tb, 0, none⟩)] 110)).alloc (.cells #[hd 110, .pointer (some ⟨w.heap.size, 0, none⟩), .int .u64 150] 142)) (by simp)
  have hg2 : ((w.alloc (.cells #[.pointer (some ⟨tb, 0, none⟩)] 110)).alloc (.cells #[hd 110, .pointer (some ⟨w.heap.size, 0, none⟩), .int .u64 150] 142)).cell? ⟨0, 0, none⟩ = some (.iface 174 (.agg #[hd 26])) := by
    rw [World.cell?_alloc_lt _ _ ⟨0, 0, none⟩ (Nat.lt_of_lt_of_le hlt (by simp)), World.cell?_alloc_lt _ _ ⟨0, 0, none⟩ hlt]; exact hg
  have HW := Lib.hid (asE_walk ((w.alloc (.cells #[.pointer (some ⟨tb, 0, none⟩)] 110)).alloc (.cells #[hd 110, .pointer (some ⟨w.heap.size, 0, none⟩), .int .u64 150] 142)) k w.heap.size tb old (by simp)
    (by rw [Below.heap_alloc _ _ _ (by simp; omega), Below.heap_alloc _ _ _ htl]; exact htb))
  have hnn := nil_iface 48 (.int .i64 k)
  have hn2 : ∀ w : World, (binOp .eql 20 (.iface 110 (.pointer (some ⟨tb, 0, none⟩))) .nilIface).run Tryz.prog w = .ok (.bool false) w := fun w => by kernel_rfl
  clear hg hlt htl htb
  go_enter Tryz.func48, Tryz.ntmps48
  go_wp2_with (go_at_call 88; refine HW.out.mono ?_; rintro e w' R; have HR := Lib.hid R; clear R; obtain rfl := HR.out.1)
  go_ret
  exact postE_up HR.out

/-- An error or none, by its number: none for 0. -/
def errOf (k : Int) : Value := if k = 0 then .nilIface else kind k

set_option maxHeartbeats 800000 in
theorem khand_any (w : World) (k : Int) (hg : Glob w) : Calls Tryz.prog 17 #[errOf k] w fun e w' => e = .returned (.int .i64 k) ∧ Below w.heap.size w w' := by
  unfold errOf
  by_cases h0 : k = 0
  · subst h0
    have hn := nil_nil
    rw [if_pos rfl]
    go_enter Tryz.func17, Tryz.ntmps17
    go_wp2
    go_ret
    exact ⟨rfl, Below.refl _ _⟩
  · rw [if_neg h0]
    have hn := nil_iface 48 (.int .i64 k)
    have hH := heap_alloc_new w (.cells #[.int .i64 0] 48)
    have hA := Lib.hid (asE_any (w.alloc (.cells #[.int .i64 0] 48)) k (hg.kb ((Below.refl _ _).alloc (Nat.le_refl _) _)) w.heap.size _ hH)
    clear h0 hH hg
    go_enter Tryz.func17, Tryz.ntmps17
    go_wp2_with (go_at_call 48; refine hA.out.mono ?_; rintro e w' ⟨rfl, R1, R2⟩; have HR := Lib.hid R1; have hc := cell_obj R2 0 rfl; clear R1 R2; simp only [Option.isSome, Option.getD] at hc ⊢)
    go_ret
    exact ⟨rfl, ((Below.refl _ _).alloc (Nat.le_refl _) _).trans (HR.out.below (by simp) (fun k hk => hk ▸ Nat.le_refl _))⟩
end Go.Proofs.YtnpeahbbcolfmaaGreatDoor
namespace Go.Proofs.YtnpeahbbcolfmaaGreatDoor
open Go.RowKit Go.Extern.Stop Go.Stop Go.Extern
theorem fold_get : ∀ (l : List Value) (k : Nat) (z : Array Value) (i : Nat),
    ((l.zipIdx k).foldl (fun (cs : Array Value) (p : Value × Nat) => cs.setIfInBounds (0 + p.2) p.1) z)[i]? = if k ≤ i ∧ i < k + l.length ∧ i < z.size then l[i - k]? else z[i]?
  | [], k, z, i => by
    have : ¬ (k ≤ i ∧ i < k + ([] : List Value).length ∧ i < z.size) := by simp; omega
    rw [if_neg this]; rfl
  | x :: l, k, z, i => by
    rw [List.zipIdx_cons, List.foldl_cons, fold_get l (k + 1)]
    simp only [Array.size_setIfInBounds, List.length_cons, Nat.zero_add]
    by_cases h1 : k = i
    · subst h1
      rw [if_neg (by omega)]
      by_cases h2 : k < z.size
      · rw [if_pos (by omega)]; simp [h2]
      · rw [if_neg (by omega)]; simp [h2]
    · by_cases h2 : k + 1 ≤ i ∧ i < k + 1 + l.length ∧ i < z.size
      · rw [if_pos h2, if_pos (by omega)]
        obtain ⟨j, rfl⟩ : ∃ j, i = k + 1 + j := ⟨i - (k + 1), by omega⟩
        rw [show k + 1 + j - (k + 1) = j from by omega, show k + 1 + j - k = j + 1 from by omega]
        rfl
      · rw [if_neg h2, if_neg (by omega)]
        simp [h1]

/-- A hash put together with an error: 33 cells. -/
theorem built_which (h : Array Value) (u : Value) (hs : h.size = 32) (hu : u.cells = #[u]) : Tryz.prog.built 107 [(0, .agg h), (1, u)] = some (h.push u) := by
  have hi : (Tryz.prog.info? 107).map (fun i => i.zero.map (·.cells.size)) = some (some 33) := by kernel_rfl
  have hf : (Tryz.prog.underlying 107).map (fun d => match d with | .struct fs => fs.toList.mapM (fun f => (Tryz.prog.info? f.type).map fun i => (f.offset, i.size)) | _ => none) = some (some [(0, 32), (32, 1)]) := by kernel_rfl
  unfold Program.built
  cases hit : Tryz.prog.info? 107 with
  | none => rw [hit] at hi; cases hi
  | some it =>
    rw [hit] at hi
    cases hun : Tryz.prog.underlying 107 with
    | none => rw [hun] at hf; cases hf
    | some d =>
      rw [hun] at hf
      cases d with
      | struct fs =>
        simp only [Option.map_some, Option.some.injEq] at hf
        simp only [hf]
        cases hz : it.zero with
        | none => simp [hz] at hi
        | some z =>
          simp only [Option.map_some, Option.some.injEq, hz] at hi
          have hsz : ∀ x : Array Value, (x.zipIdx.foldl (fun (cs : Array Value) (p : Value × Nat) => cs.setIfInBounds (0 + p.2) p.1) z.cells) = (x.toList.zipIdx.foldl (fun (cs : Array Value) (p : Value × Nat) => cs.setIfInBounds (0 + p.2) p.1) z.cells) := fun x => by
            rw [← Array.foldl_toList, Array.toList_zipIdx]
          have hg := fold_get h.toList 0 z.cells
          have hn : (h.toList.zipIdx.foldl (fun (cs : Array Value) (p : Value × Nat) => cs.setIfInBounds (0 + p.2) p.1) z.cells).size = 33 := by
            rw [← hi]
            generalize h.toList.zipIdx = q
            generalize z.cells = y
            induction q generalizing y with
            | nil => rfl
            | cons a q ih => rw [List.foldl_cons, ih]; simp
          simp only [Instr.fill, List.getElem?_toArray, List.getElem?_cons_zero, List.getElem?_cons_succ, show (Value.agg h).cells = h from rfl, hs, hi, hu, hsz]
          generalize h.toList.zipIdx.foldl (fun (cs : Array Value) (p : Value × Nat) => cs.setIfInBounds (0 + p.2) p.1) z.cells = y at hg hn
          simp only [hn]
          simp
          apply Array.ext_getElem?
          intro i
          have := hg i
          simp only [Array.length_toList, hs, hi] at this
          rw [Array.getElem?_setIfInBounds, Array.getElem?_push, hn, hs]
          by_cases h1 : i = 32
          · subst h1; simp
          · rw [if_neg (by omega), if_neg h1, this]
            by_cases h2 : i < 32
            · rw [if_pos (by omega)]; simp
            · rw [if_neg (by omega)]
              rw [Array.getElem?_eq_none (by omega), Array.getElem?_eq_none (by omega)]
      | _ => simp at hf

theorem size_hash (h : Array Value) (hs : h.size = 32) : (Tryz.prog.info? 31).map (·.size) = some h.size := by rw [hs]; kernel_rfl

theorem size_hash' (h : Array Value) (hs : h.size = 32) : (Tryz.prog.info? 31).map (·.size) = some h.toList.length := by rw [Array.length_toList]; exact size_hash h hs

set_option maxRecDepth 10000 in
theorem of_any (w : World) (q : Array Value) (hs : q.size = 32) (t : TypeId) (x : Value) : Calls Tryz.prog 45 #[.agg q, .iface t x] w fun e w' =>
    e = .returned (.iface 103 (.pointer (some ⟨w.heap.size + 1, 0, none⟩))) ∧ w' = (w.alloc (.cells q 31)).alloc (.cells (q.push (.iface t x)) 107) := by
  have hn := nil_iface
  have hb := Lib.hid (built_which q (.iface t x) hs rfl)
  have hl := Lib.hid (range_new w q 31)
  have hz := Lib.hid (size_hash' q hs)
  clear hs
  go_enter Tryz.func45, Tryz.ntmps45
  go_wp2_with (refine load_to hl.out Tryz.underlying31 rfl hz.out ?hx ?_; (case hx => rfl); refine move_to ?_; refine build_to (vals := #[(0, .agg q), (1, .iface t x)]) hb.out ?hv ?_; (case hv => simp [Act.put, Act.eval]))
  go_ret
  exact ⟨rfl, rfl⟩

theorem toW (v : Value) (w : World) : (ReflectliteType.typeOf #[.iface 103 v]).run Tryz.prog w = .ok (.iface 174 (.agg #[hd 103])) w := by kernel_rfl

theorem noAsW (v : Value) (xT : TypeId) (w : World) : (Instr.typeAssert (.iface 103 v) xT 179 true).run Tryz.prog w = .ok (.tuple #[.nilIface, .bool false]) w := run_typeAssert_lacksB Tryz.underlying179 (by kernel_rfl) (by kernel_rfl) v xT w

theorem hasUW (v : Value) (xT : TypeId) (w : World) : (Instr.typeAssert (.iface 103 v) xT 182 true).run Tryz.prog w = .ok (.tuple #[.iface 103 v, .bool true]) w := run_typeAssert_hasB Tryz.underlying182 (by kernel_rfl) v xT w

theorem mUW (v : Value) (w : World) : (Go.method 360 103 v "Unwrap").run Tryz.prog w = .ok (178, v) w := by kernel_rfl

/-- What errors.As asks of its target: tt points to a variable of type t. -/
structure Tgt (tt t : TypeId) (kd f0 f1 : Int) (ok : Value → Prop) : Prop where
  vo : ∀ (a : Addr) (w : World), (ReflectliteValue.unpack (.iface tt (.pointer (some a)))).run Tryz.prog w = .ok (.agg #[hd tt, .pointer (some ⟨w.heap.size, 0, none⟩), .int .u64 150]) (w.alloc (.cells #[.pointer (some a)] tt))
  ty : ∀ (a : Addr) (w : World), (ReflectliteValue.methodAny (ReflectliteValue.valueError "reflectlite.Value.Type" 0) (fun t _ _ _ => ReflectliteType.toType t) #[.agg #[hd tt, .pointer (some a), .int .u64 150]]).run Tryz.prog w = .ok (.iface 174 (.agg #[hd tt])) w
  k1 : ∀ w : World, ((ReflectliteType.abiMethod fun t => (fun a : Nat => Value.int IntKind.u8 (a : Int)) <$> Rtype.kind t) #[hd tt]).run Tryz.prog w = .ok (.int .u8 22) w
  k2 : ∀ w : World, ((ReflectliteType.abiMethod fun t => (fun a : Nat => Value.int IntKind.u8 (a : Int)) <$> Rtype.kind t) #[hd t]).run Tryz.prog w = .ok (.int .u8 kd) w
  kn : (kd != 20) = true
  nil : ∀ (a p : Addr) (W : World), W.cell? a = some (.pointer (some p)) → (ReflectliteValue.method (ReflectliteValue.valueError "reflectlite.Value.IsNil" 0) ReflectliteValue.isNil #[.agg #[hd tt, .pointer (some a), .int .u64 150]]).run Tryz.prog W = .ok (.bool false) W
  me : ∀ w : World, (ReflectliteType.method ReflectliteType.elem #[.agg #[hd tt]]).run Tryz.prog w = .ok (.iface 174 (.agg #[hd t])) w
  im : ∀ w : World, (ReflectliteType.relation "Implements" ReflectliteType.implements_ #[.agg #[hd t], .iface 174 (.agg #[hd 26])]).run Tryz.prog w = .ok (.bool true) w
  vs : ∀ (x : Value) (w : World), ok x → (ReflectliteValue.unpack (.iface t x)).run Tryz.prog w = .ok (.agg #[hd t, .pointer (some ⟨w.heap.size, 0, none⟩), .int .u64 f0]) (w.alloc (.cells #[x] t))
  el : ∀ (a p : Addr) (W : World), W.cell? a = some (.pointer (some p)) → (ReflectliteValue.method (ReflectliteValue.valueError "reflectlite.Value.Elem" 0) ReflectliteValue.elem #[.agg #[hd tt, .pointer (some a), .int .u64 150]]).run Tryz.prog W = .ok (.agg #[hd t, .pointer (some p), .int .u64 f1]) W
  st : ∀ (ta b : Addr) (x old : Value) (W : World), ok x → W.cell? b = some x → W.cell? ta = some old → W.frozen? ta = false →
    (ReflectliteValue.set #[.agg #[hd t, .pointer (some ta), .int .u64 f1], .agg #[hd t, .pointer (some b), .int .u64 f0]]).run Tryz.prog W = .ok (.tuple #[]) (W.setCell ta x)
  asg : ∀ s, s ∈ [103, 48] → ∀ w : World, (ReflectliteType.relation "AssignableTo" ReflectliteType.assignableTo #[.agg #[hd s], .iface 174 (.agg #[hd t])]).run Tryz.prog w = .ok (.bool (decide (s = t))) w


theorem partsW1 (a : Addr) (w : World) : (ReflectliteValue.parts (.agg #[hd 105, .pointer (some a), .int .u64 150])).run Tryz.prog w = .ok (some (105, a, 150)) w := by kernel_rfl
theorem partsW2 (a : Addr) (w : World) : (ReflectliteValue.parts (.agg #[hd 103, .pointer (some a), .int .u64 406])).run Tryz.prog w = .ok (some (103, a, 406)) w := by kernel_rfl
theorem partsW3 (a : Addr) (w : World) : (ReflectliteValue.parts (.agg #[hd 103, .pointer (some a), .int .u64 150])).run Tryz.prog w = .ok (some (103, a, 150)) w := by kernel_rfl
theorem eoW (w : World) : (Rtype.elem? 105).run Tryz.prog w = .ok (some 103) w := by kernel_rfl
theorem mkW (p : Addr) (w : World) : (ReflectliteValue.mk 103 p ReflectliteValue.flagAddr).run Tryz.prog w = .ok (.agg #[hd 103, .pointer (some p), .int .u64 406]) w := by kernel_rfl
theorem diW (w : World) : (Rtype.directlyAssignable 103 103).run Tryz.prog w = .ok true w := by kernel_rfl
theorem tgtW : Tgt 105 103 22 150 406 (fun x => ∃ e, x = .pointer (some e)) where
  vo := fun a w => by kernel_rfl
  ty := fun a w => by kernel_rfl
  k1 := fun w => by kernel_rfl
  k2 := fun w => by kernel_rfl
  kn := by decide
  nil := fun a p W ha => by
    rw [rlm]
    simp only [Sem.run_bind, partsW1, Result.andThen]
    simp [ReflectliteValue.isNil, loadVar, isAgg, underlying, Tryz.underlying105, ha, Result.andThen]
  me := fun w => by kernel_rfl
  im := fun w => by kernel_rfl
  vs := fun x w ⟨e, he⟩ => by subst he; kernel_rfl
  el := fun a p W ha => by
    rw [rlm]
    simp only [Sem.run_bind, partsW1, Result.andThen]
    simp [ReflectliteValue.elem, loadVar, isAgg, underlying, Tryz.underlying105, ha, Result.andThen, eoW, mkW]
  st := fun ta b x old W ⟨e, he⟩ hb ht hf => by
    subst he
    rw [rls]
    simp only [Sem.run_bind, partsW2, partsW3, Result.andThen]
    simp [ReflectliteValue.flagAddr, loadVar, isAgg, underlying, Tryz.underlying103, hb, Result.andThen, diW, storeVar, Value.cells, storeCells, Addr.add]
    rw [run_store Tryz.prog W ta _ _ (by rfl)]
    simp [ht, hf]
  asg := fun s hs w => by
    simp only [List.mem_cons, List.not_mem_nil, or_false] at hs
    rcases hs with rfl | rfl
    · kernel_rfl
    · kernel_rfl


theorem tgtE : Tgt 110 48 2 130 386 (fun x => ∃ e, x = .int .i64 e) where
  vo := fun a w => by kernel_rfl
  ty := fun a w => by kernel_rfl
  k1 := fun w => by kernel_rfl
  k2 := fun w => by kernel_rfl
  kn := by decide
  nil := fun a p W ha => by
    rw [rlm]
    simp only [Sem.run_bind, partsE1, Result.andThen]
    simp [ReflectliteValue.isNil, loadVar, isAgg, underlying, Tryz.underlying110, ha, Result.andThen]
  me := fun w => by kernel_rfl
  im := fun w => by kernel_rfl
  vs := fun x w ⟨e, he⟩ => by subst he; kernel_rfl
  el := fun a p W ha => by
    rw [rlm]
    simp only [Sem.run_bind, partsE1, Result.andThen]
    simp [ReflectliteValue.elem, loadVar, isAgg, underlying, Tryz.underlying110, ha, Result.andThen, eoE, mkE]
  st := fun ta b x old W ⟨e, he⟩ hb ht hf => by
    subst he
    rw [rls]
    simp only [Sem.run_bind, partsE2, partsE3, Result.andThen]
    simp [ReflectliteValue.flagAddr, loadVar, isAgg, underlying, Tryz.underlying48, hb, Result.andThen, diE, storeVar, Value.cells, storeCells, Addr.add]
    rw [run_store Tryz.prog W ta _ _ (by rfl)]
    simp [ht, hf]
  asg := fun s hs w => by
    simp only [List.mem_cons, List.not_mem_nil, or_false] at hs
    rcases hs with rfl | rfl
    · kernel_rfl
    · kernel_rfl


theorem unwrapW (w : World) (p : Nat) (x : Array Value) (u : Value) (hx : x.size = 32) (h : w.heap[p]? = some (.cells (x.push u) 107 (0, 0))) : Calls Tryz.prog 178 #[.pointer (some ⟨p, 0, none⟩)] w fun e w' => e = .returned u ∧ w = w' := by
  have hc := cell_obj h 32 (u := u) (by rw [Array.getElem?_push, if_pos hx.symm])
  go_enter Tryz.func178, Tryz.ntmps178
  go_wp2
  go_ret
  exact ⟨rfl, rfl⟩

theorem post_miss {t : TypeId} {w : World} {tb : Nat} {old : Value} {r : Option Value} {o1 : Obj} (hr : r = none) (htb : w.heap[tb]? = some (.cells #[old] t (0, 0))) :
    AsPost w tb t old r (.returned (.bool false)) (w.alloc o1) := by
  subst hr
  have hlt := (Array.getElem?_eq_some_iff.1 htb).1
  refine ⟨rfl, (Only.refl _ _).alloc _, ?_⟩
  rw [Below.heap_alloc _ _ _ hlt]
  exact htb


/-- An error at block p that names the hash q, around the kind k. -/
def Wh (w : World) (p : Nat) (q : Array Value) (k : Int) : Prop := w.heap[p]? = some (.cells (q.push (kind k)) 107 (0, 0)) ∧ q.size = 32
abbrev whv (p : Nat) : Value := .iface 103 (.pointer (some ⟨p, 0, none⟩))
theorem Wh.kb {w w' : World} {p : Nat} {q : Array Value} {k : Int} (h : Wh w p q k) (hb : Below w.heap.size w w') : Wh w' p q k := ⟨(hb.block _ (Array.getElem?_eq_some_iff.1 h.1).1).trans h.1, h.2⟩

set_option maxHeartbeats 4000000 in
theorem asEW (w : World) (p : Nat) (q : Array Value) (k : Int) (hc : Wh w p q k) (a tb : Nat) (old : Value)
    (ha : w.cell? ⟨a, 0, none⟩ = some (.pointer (some ⟨tb, 0, none⟩))) (htb : w.heap[tb]? = some (.cells #[old] 48 (0, 0))) :
    Calls Tryz.prog 88 #[whv p, .iface 110 (.pointer (some ⟨tb, 0, none⟩)), .agg #[hd 110, .pointer (some ⟨a, 0, none⟩), .int .u64 150], .iface 174 (.agg #[hd 48])] w fun e w' => AsPost w tb 48 old (some (.int .i64 k)) e w' := by
  have xT := @run_callFunc_extern Tryz.prog 105 _ ReflectliteType.typeOf Tryz.func105 (by kernel_rfl) (by kernel_rfl) (by kernel_rfl) (by kernel_rfl)
  have xV := @run_callFunc_extern Tryz.prog 85 _ (fun args => ReflectliteValue.unpack (args.getD 0 (.tuple #[]))) Tryz.func85 (by kernel_rfl) (by kernel_rfl) (by kernel_rfl) (by kernel_rfl)
  have xA := @run_callFunc_extern Tryz.prog 183 _ (ReflectliteType.relation "AssignableTo" ReflectliteType.assignableTo) Tryz.func183 (by kernel_rfl) (by kernel_rfl) (by kernel_rfl) (by kernel_rfl)
  have xE := @run_callFunc_extern Tryz.prog 106 _ (ReflectliteValue.method (ReflectliteValue.valueError "reflectlite.Value.Elem" 0) ReflectliteValue.elem) Tryz.func106 (by kernel_rfl) (by kernel_rfl) (by kernel_rfl) (by kernel_rfl)
  have xS := @run_callFunc_extern Tryz.prog 107 _ ReflectliteValue.set Tryz.func107 (by kernel_rfl) (by kernel_rfl) (by kernel_rfl) (by kernel_rfl)
  have mA := m_asg
  have hlt : a < w.heap.size := World.block_lt_of_cell? w _ ha
  have htl := (Array.getElem?_eq_some_iff.1 htb).1
  have el := tgtE.el ⟨a, 0, none⟩ ⟨tb, 0, none⟩ (w.alloc (.cells #[hd 110, .pointer (some ⟨a, 0, none⟩), .int .u64 150] 142)) (by rw [World.cell?_alloc_lt _ _ ⟨a, 0, none⟩ hlt]; exact ha)
  have st := fun x (hx : ∃ e, x = .int .i64 e) => tgtE.st ⟨tb, 0, none⟩ ⟨w.heap.size + 1, 0, none⟩ x old ((w.alloc (.cells #[hd 110, .pointer (some ⟨a, 0, none⟩), .int .u64 150] 142)).alloc (.cells #[x] 48)) hx
    (by rw [World.cell?_alloc_at _ _ _ _ (by simp)]; rfl)
    (by rw [World.cell?_alloc_lt _ _ ⟨tb, 0, none⟩ (by simp; omega), World.cell?_alloc_lt _ _ ⟨tb, 0, none⟩ htl]; exact cell_obj htb 0 rfl)
    (by rw [World.frozen?_alloc_old _ _ ⟨tb, 0, none⟩ (by simp; omega), World.frozen?_alloc_old _ _ ⟨tb, 0, none⟩ (Nat.ne_of_lt htl)]; exact free_of_one htb)
  have HST := Lib.hid st
  have HVS := Lib.hid tgtE.vs
  have HAS := Lib.hid tgtE.asg
  have HTB := Lib.hid htb
  have HH := Lib.hid (Wh.kb hc ((Below.refl _ _).alloc (Nat.le_refl _) (.cells #[hd 110, .pointer (some ⟨a, 0, none⟩), .int .u64 150] 142))).1
  have HX := Lib.hid hc.2
  have hto := toW
  have hto' := toE
  have hna := noAsW
  have hna' := noAsE
  have hhu := hasUW
  have hmu := mUW
  have hnu := noUE
  have hnus := noUsE
  have hnn := nil_iface
  have hA := HAS.out 103 (by simp)
  have hA' := HAS.out 48 (by simp)
  simp only [show ¬ 103 = 48 from by decide, decide_true, decide_false] at hA hA' 
  clear st htb ha hlt htl hc
  have hvs := fun w => HVS.out (.int .i64 k) w ⟨_, rfl⟩
  have hst := HST.out (.int .i64 k) ⟨_, rfl⟩
  go_enter Tryz.func88, Tryz.ntmps88
  go_wp2
  refine wp_loop_rounds 2 ?_; rw [rounds_succ]
  go_wp2_with (go_at_call 178; refine (unwrapW _ _ _ _ HX.out HH.out).mono ?_; rintro e w' ⟨rfl, rfl⟩)
  rw [rounds_succ]
  go_wp2
  go_ret
  exact post_hit rfl HTB.out rfl

set_option maxHeartbeats 4000000 in
theorem asWW (w : World) (p : Nat) (q : Array Value) (k : Int) (hc : Wh w p q k) (a tb : Nat) (old : Value)
    (ha : w.cell? ⟨a, 0, none⟩ = some (.pointer (some ⟨tb, 0, none⟩))) (htb : w.heap[tb]? = some (.cells #[old] 103 (0, 0))) :
    Calls Tryz.prog 88 #[whv p, .iface 105 (.pointer (some ⟨tb, 0, none⟩)), .agg #[hd 105, .pointer (some ⟨a, 0, none⟩), .int .u64 150], .iface 174 (.agg #[hd 103])] w fun e w' => AsPost w tb 103 old (some (.pointer (some ⟨p, 0, none⟩))) e w' := by
  have xT := @run_callFunc_extern Tryz.prog 105 _ ReflectliteType.typeOf Tryz.func105 (by kernel_rfl) (by kernel_rfl) (by kernel_rfl) (by kernel_rfl)
  have xV := @run_callFunc_extern Tryz.prog 85 _ (fun args => ReflectliteValue.unpack (args.getD 0 (.tuple #[]))) Tryz.func85 (by kernel_rfl) (by kernel_rfl) (by kernel_rfl) (by kernel_rfl)
  have xA := @run_callFunc_extern Tryz.prog 183 _ (ReflectliteType.relation "AssignableTo" ReflectliteType.assignableTo) Tryz.func183 (by kernel_rfl) (by kernel_rfl) (by kernel_rfl) (by kernel_rfl)
  have xE := @run_callFunc_extern Tryz.prog 106 _ (ReflectliteValue.method (ReflectliteValue.valueError "reflectlite.Value.Elem" 0) ReflectliteValue.elem) Tryz.func106 (by kernel_rfl) (by kernel_rfl) (by kernel_rfl) (by kernel_rfl)
  have xS := @run_callFunc_extern Tryz.prog 107 _ ReflectliteValue.set Tryz.func107 (by kernel_rfl) (by kernel_rfl) (by kernel_rfl) (by kernel_rfl)
  have mA := m_asg
  have hlt : a < w.heap.size := World.block_lt_of_cell? w _ ha
  have htl := (Array.getElem?_eq_some_iff.1 htb).1
  have el := tgtW.el ⟨a, 0, none⟩ ⟨tb, 0, none⟩ (w.alloc (.cells #[hd 105, .pointer (some ⟨a, 0, none⟩), .int .u64 150] 142)) (by rw [World.cell?_alloc_lt _ _ ⟨a, 0, none⟩ hlt]; exact ha)
  have st := fun x (hx : ∃ e, x = .pointer (some e)) => tgtW.st ⟨tb, 0, none⟩ ⟨w.heap.size + 1, 0, none⟩ x old ((w.alloc (.cells #[hd 105, .pointer (some ⟨a, 0, none⟩), .int .u64 150] 142)).alloc (.cells #[x] 103)) hx
    (by rw [World.cell?_alloc_at _ _ _ _ (by simp)]; rfl)
    (by rw [World.cell?_alloc_lt _ _ ⟨tb, 0, none⟩ (by simp; omega), World.cell?_alloc_lt _ _ ⟨tb, 0, none⟩ htl]; exact cell_obj htb 0 rfl)
    (by rw [World.frozen?_alloc_old _ _ ⟨tb, 0, none⟩ (by simp; omega), World.frozen?_alloc_old _ _ ⟨tb, 0, none⟩ (Nat.ne_of_lt htl)]; exact free_of_one htb)
  have HST := Lib.hid st
  have HVS := Lib.hid tgtW.vs
  have HAS := Lib.hid tgtW.asg
  have HTB := Lib.hid htb
  have HH := Lib.hid (Wh.kb hc ((Below.refl _ _).alloc (Nat.le_refl _) (.cells #[hd 105, .pointer (some ⟨a, 0, none⟩), .int .u64 150] 142))).1
  have HX := Lib.hid hc.2
  have hto := toW
  have hto' := toE
  have hna := noAsW
  have hna' := noAsE
  have hhu := hasUW
  have hmu := mUW
  have hnu := noUE
  have hnus := noUsE
  have hnn := nil_iface
  have hA := HAS.out 103 (by simp)
  have hA' := HAS.out 48 (by simp)
  simp only [show ¬ 48 = 103 from by decide, decide_true, decide_false] at hA hA' 
  clear st htb ha hlt htl hc
  have hvs := fun w => HVS.out (.pointer (some ⟨p, 0, none⟩)) w ⟨_, rfl⟩
  have hst := HST.out (.pointer (some ⟨p, 0, none⟩)) ⟨_, rfl⟩
  go_enter Tryz.func88, Tryz.ntmps88
  go_wp2
  refine wp_loop_rounds 1 ?_; rw [rounds_succ]; go_wp2
  go_ret
  exact post_hit rfl HTB.out rfl

set_option maxHeartbeats 4000000 in
theorem asWE (w : World) (k : Int) (a tb : Nat) (old : Value)
    (ha : w.cell? ⟨a, 0, none⟩ = some (.pointer (some ⟨tb, 0, none⟩))) (htb : w.heap[tb]? = some (.cells #[old] 103 (0, 0))) :
    Calls Tryz.prog 88 #[kind k, .iface 105 (.pointer (some ⟨tb, 0, none⟩)), .agg #[hd 105, .pointer (some ⟨a, 0, none⟩), .int .u64 150], .iface 174 (.agg #[hd 103])] w fun e w' => AsPost w tb 103 old (none) e w' := by
  have xT := @run_callFunc_extern Tryz.prog 105 _ ReflectliteType.typeOf Tryz.func105 (by kernel_rfl) (by kernel_rfl) (by kernel_rfl) (by kernel_rfl)
  have xV := @run_callFunc_extern Tryz.prog 85 _ (fun args => ReflectliteValue.unpack (args.getD 0 (.tuple #[]))) Tryz.func85 (by kernel_rfl) (by kernel_rfl) (by kernel_rfl) (by kernel_rfl)
  have xA := @run_callFunc_extern Tryz.prog 183 _ (ReflectliteType.relation "AssignableTo" ReflectliteType.assignableTo) Tryz.func183 (by kernel_rfl) (by kernel_rfl) (by kernel_rfl) (by kernel_rfl)
  have xE := @run_callFunc_extern Tryz.prog 106 _ (ReflectliteValue.method (ReflectliteValue.valueError "reflectlite.Value.Elem" 0) ReflectliteValue.elem) Tryz.func106 (by kernel_rfl) (by kernel_rfl) (by kernel_rfl) (by kernel_rfl)
  have xS := @run_callFunc_extern Tryz.prog 107 _ ReflectliteValue.set Tryz.func107 (by kernel_rfl) (by kernel_rfl) (by kernel_rfl) (by kernel_rfl)
  have mA := m_asg
  have hlt : a < w.heap.size := World.block_lt_of_cell? w _ ha
  have htl := (Array.getElem?_eq_some_iff.1 htb).1
  have el := tgtW.el ⟨a, 0, none⟩ ⟨tb, 0, none⟩ (w.alloc (.cells #[hd 105, .pointer (some ⟨a, 0, none⟩), .int .u64 150] 142)) (by rw [World.cell?_alloc_lt _ _ ⟨a, 0, none⟩ hlt]; exact ha)
  have st := fun x (hx : ∃ e, x = .pointer (some e)) => tgtW.st ⟨tb, 0, none⟩ ⟨w.heap.size + 1, 0, none⟩ x old ((w.alloc (.cells #[hd 105, .pointer (some ⟨a, 0, none⟩), .int .u64 150] 142)).alloc (.cells #[x] 103)) hx
    (by rw [World.cell?_alloc_at _ _ _ _ (by simp)]; rfl)
    (by rw [World.cell?_alloc_lt _ _ ⟨tb, 0, none⟩ (by simp; omega), World.cell?_alloc_lt _ _ ⟨tb, 0, none⟩ htl]; exact cell_obj htb 0 rfl)
    (by rw [World.frozen?_alloc_old _ _ ⟨tb, 0, none⟩ (by simp; omega), World.frozen?_alloc_old _ _ ⟨tb, 0, none⟩ (Nat.ne_of_lt htl)]; exact free_of_one htb)
  have HST := Lib.hid st
  have HVS := Lib.hid tgtW.vs
  have HAS := Lib.hid tgtW.asg
  have HTB := Lib.hid htb
  have hto := toW
  have hto' := toE
  have hna := noAsW
  have hna' := noAsE
  have hhu := hasUW
  have hmu := mUW
  have hnu := noUE
  have hnus := noUsE
  have hnn := nil_iface
  have hA := HAS.out 103 (by simp)
  have hA' := HAS.out 48 (by simp)
  simp only [show ¬ 48 = 103 from by decide, decide_true, decide_false] at hA hA'
  clear st htb ha hlt htl
  clear HST HVS
  go_enter Tryz.func88, Tryz.ntmps88
  go_wp2
  refine wp_loop_rounds 1 ?_; rw [rounds_succ]; go_wp2
  go_ret
  exact post_miss rfl HTB.out

theorem as_nil (x : Value) (w : World) : Calls Tryz.prog 48 #[.nilIface, x] w fun e w' => e = .returned (.bool false) ∧ w = w' := by
  go_enter Tryz.func48, Tryz.ntmps48
  go_wp2
  go_ret
  exact ⟨rfl, rfl⟩

theorem post_up {t : TypeId} {w : World} {tb : Nat} {old : Value} {r : Option Value} {o1 o2 : Obj} {e : Ending} {w' : World} (h : AsPost ((w.alloc o1).alloc o2) tb t old r e w') : AsPost w tb t old r e w' :=
  ⟨h.1, (((Only.refl (fun k => k = tb) w).alloc o1).alloc o2).trans h.2.1 (fun _ h => h) (fun _ _ h => h), h.2.2⟩

set_option maxHeartbeats 4000000 in
theorem as_any11 {tt t : TypeId} {kd f0 f1 : Int} {ok : Value → Prop} (TG : Tgt tt t kd f0 f1 ok) (w : World) (sv : TypeId) (xv : Value) (r : Option Value) (hg : Glob w) (tb : Nat) (old : Value)
    (htb : w.heap[tb]? = some (.cells #[old] t (0, 0)))
    (hW : ∀ W : World, Below w.heap.size w W → ∀ a, W.cell? ⟨a, 0, none⟩ = some (.pointer (some ⟨tb, 0, none⟩)) → W.heap[tb]? = some (.cells #[old] t (0, 0)) →
      Calls Tryz.prog 88 #[.iface sv xv, .iface tt (.pointer (some ⟨tb, 0, none⟩)), .agg #[hd tt, .pointer (some ⟨a, 0, none⟩), .int .u64 150], .iface 174 (.agg #[hd t])] W fun e w' => AsPost W tb t old r e w') :
    Calls Tryz.prog 48 #[.iface sv xv, .iface tt (.pointer (some ⟨tb, 0, none⟩))] w fun e w' => AsPost w tb t old r e w' := by
  have xV := @run_callFunc_extern Tryz.prog 85 _ (fun args => ReflectliteValue.unpack (args.getD 0 (.tuple #[]))) Tryz.func85 (by kernel_rfl) (by kernel_rfl) (by kernel_rfl) (by kernel_rfl)
  have xY := @run_callFunc_extern Tryz.prog 86 _ (ReflectliteValue.methodAny (ReflectliteValue.valueError "reflectlite.Value.Type" 0) (fun t _ _ _ => ReflectliteType.toType t)) Tryz.func86 (by kernel_rfl) (by kernel_rfl) (by kernel_rfl) (by kernel_rfl)
  have xN := @run_callFunc_extern Tryz.prog 87 _ (ReflectliteValue.method (ReflectliteValue.valueError "reflectlite.Value.IsNil" 0) ReflectliteValue.isNil) Tryz.func87 (by kernel_rfl) (by kernel_rfl) (by kernel_rfl) (by kernel_rfl)
  have xK := @run_callFunc_extern Tryz.prog 173 _ (ReflectliteType.abiMethod fun t => do pure (.int .u8 (← Rtype.kind t))) Tryz.func173 (by kernel_rfl) (by kernel_rfl) (by kernel_rfl) (by kernel_rfl)
  have xE := @run_callFunc_extern Tryz.prog 185 _ (ReflectliteType.method ReflectliteType.elem) Tryz.func185 (by kernel_rfl) (by kernel_rfl) (by kernel_rfl) (by kernel_rfl)
  have xI := @run_callFunc_extern Tryz.prog 186 _ (ReflectliteType.relation "Implements" ReflectliteType.implements_) Tryz.func186 (by kernel_rfl) (by kernel_rfl) (by kernel_rfl) (by kernel_rfl)
  have mK := m_kind
  have mE := m_elem
  have mI := m_impl
  have vo := TG.vo
  have ty := TG.ty
  have k1 := TG.k1
  have k2 := TG.k2
  have kn := TG.kn
  have me := TG.me
  have im := TG.im
  have hlt := World.block_lt_of_cell? w _ hg
  have htl := (Array.getElem?_eq_some_iff.1 htb).1
  have n8 := TG.nil ⟨w.heap.size, 0, none⟩ ⟨tb, 0, none⟩ ((w.alloc (.cells #[.pointer (some ⟨tb, 0, none⟩)] tt)).alloc (.cells #[hd tt, .pointer (some ⟨w.heap.size, 0, none⟩), .int .u64 150] 142)) (by simp)
  have hg2 : ((w.alloc (.cells #[.pointer (some ⟨tb, 0, none⟩)] tt)).alloc (.cells #[hd tt, .pointer (some ⟨w.heap.size, 0, none⟩), .int .u64 150] 142)).cell? ⟨0, 0, none⟩ = some (.iface 174 (.agg #[hd 26])) := by
    rw [World.cell?_alloc_lt _ _ ⟨0, 0, none⟩ (Nat.lt_of_lt_of_le hlt (by simp)), World.cell?_alloc_lt _ _ ⟨0, 0, none⟩ hlt]; exact hg
  have HW := Lib.hid (hW ((w.alloc (.cells #[.pointer (some ⟨tb, 0, none⟩)] tt)).alloc (.cells #[hd tt, .pointer (some ⟨w.heap.size, 0, none⟩), .int .u64 150] 142))
    (((Below.refl _ _).alloc (Nat.le_refl _) _).alloc (by simp) _) w.heap.size (by simp)
    (by rw [Below.heap_alloc _ _ _ (by simp; omega), Below.heap_alloc _ _ _ htl]; exact htb))
  have hnn := nil_iface sv xv
  have hn2 : ∀ w : World, (binOp .eql 20 (.iface tt (.pointer (some ⟨tb, 0, none⟩))) .nilIface).run Tryz.prog w = .ok (.bool false) w := fun w => by kernel_rfl
  clear hW hg hlt htl htb TG
  go_enter Tryz.func48, Tryz.ntmps48
  go_wp2_with (go_at_call 88; refine HW.out.mono ?_; rintro e w' R; have HR := Lib.hid R; clear R; obtain rfl := HR.out.1)
  go_ret
  exact post_up HR.out


end Go.Proofs.YtnpeahbbcolfmaaGreatDoor
