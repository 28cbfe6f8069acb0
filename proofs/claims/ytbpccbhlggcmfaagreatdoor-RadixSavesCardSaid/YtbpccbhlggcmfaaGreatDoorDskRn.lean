/- DiskRenames returns true and makes new memory alone. Condition: the arguments are within what a slice may take up. -/
import Derived.Test.YtbpccbhlggcmfaaGreatDoorDskE
import Derived.Test.YtbpccbhlggcmfaaGreatDoorDskK
import Derived.Test.YtbpccbhlggcmfaaGreatDoorGenFew3
import Derived.Test.YtbpccbhlggcmfaaGreatDoorGenPick
namespace Go.Proofs.YtbpccbhlggcmfaaGreatDoor
open Go.RowKit
open Go.Maps

def rA (a : List Int) : St := ⟨10000, [], [⟨0, [102], [], a, 0⟩], -1, false, 1⟩
def rB (a : List Int) : St := ⟨10000, [([102], a)], [], -1, false, 2⟩
def rC (a b : List Int) : St := ⟨10000, [([102], a)], [⟨0, [103], [], b, 0⟩], -1, false, 3⟩
def rD (a b : List Int) : St := ⟨10000, [([102], a), ([103], b)], [], -1, false, 4⟩
def rE (a b : List Int) : St := ⟨10000, [([102], a), ([103], b)], [⟨2, [103], [102], [], 0⟩], -1, false, 5⟩
def rF (a b : List Int) (d : Nat) : St := ⟨10000, if d = 0 then [([102], a), ([103], b)] else [([102], b)], [], -1, false, 5⟩
theorem r0 : St.new 10000 = ⟨10000, [], [], -1, false, 0⟩ := by
  unfold St.new
  rw [show max 0 (min (10000 : Int) 16777216) = 10000 from by decide]
theorem r1 (a : List Int) (h : a.length ≤ 1000) : (St.new 10000).append [102] a = (0, rA a) := by
  rw [r0]
  unfold St.append
  rw [if_neg (by decide), if_neg (by decide), if_neg (by show ¬ ((10000 : Int) - ((0 : Nat) : Int) < (a.length : Int)); omega)]
  rfl
theorem r2 (a : List Int) : (rA a).sync = (0, rB a) := rfl
theorem r3 (a b : List Int) (h : a.length ≤ 1000) (hb : b.length ≤ 1000) : (rB a).append [103] b = (0, rC a b) := by
  have hu : (rB a).used = a.length := by show (a.length + 0) = a.length; rfl
  unfold St.append
  rw [if_neg (by decide), if_neg (by show ¬ false = true; decide), if_neg (by rw [hu]; show ¬ ((10000 : Int) - ((a.length : Nat) : Int) < (b.length : Int)); omega)]
  rfl
theorem r4 (a b : List Int) : (rC a b).sync = (0, rD a b) := rfl
theorem r5 (a b : List Int) : (rD a b).rename [103] [102] = (0, rE a b) := by
  unfold St.rename
  rw [if_neg (by decide), if_neg (by show ¬ false = true; decide), if_neg (by show ¬ (true = false); decide)]
  rfl
theorem r6 (a b : List Int) (done cut : Int) (d : Nat) (hd : (d : Int) = done % 2) : (rE a b).crash done cut = rF a b d := by
  have h : (done % (((rE a b).pend.length : Int) + 1)).toNat = d := by show (done % (((1 : Nat) : Int) + 1)).toNat = d; omega
  unfold St.crash
  rw [h]
  have h2 : d = 0 ∨ d = 1 := by omega
  rcases h2 with rfl | rfl <;> rfl
theorem r7 (a b : List Int) : fbytes [102] (rF a b 0).files = a ∧ (aget [102] (rF a b 0).files).isSome = true ∧ (aget [103] (rF a b 0).files).isSome = true := ⟨rfl, rfl, rfl⟩
theorem r8 (a b : List Int) : fbytes [102] (rF a b 1).files = b ∧ (aget [102] (rF a b 1).files).isSome = true ∧ (aget [103] (rF a b 1).files).isSome = false := ⟨rfl, rfl, rfl⟩
theorem str_eq_self (x : ByteArray) (W : World) : (binOp .eql 9 (.string x) (.string x)).run Tryz.prog W = .ok (.bool true) W := by
  show (Op.stringOp .eql x x).run Tryz.prog W = _
  unfold Op.stringOp
  simp
/-- A disk of the caller's own in memory. -/
structure Cl (w W : World) (B b : Nat) (S : Nat → Prop) (s : St) : Prop where
  ds : DS W B b S s
  bel : Below w.heap.size w W
  ge : ∀ k, S k → w.heap.size ≤ k
section
variable {w W W' : World} {B b : Nat} {S S' : Nat → Prop} {s s' : St}
theorem Cl.kb (h : Cl w W B b S s) (hb : Below W.heap.size W W') : Cl w W' B b S s := ⟨h.ds.kb hb, h.bel.trans (hb.mono h.bel.size), h.ge⟩
theorem Cl.step (h : Cl w W B b S s) (hd : DS W' B b S' s') (ho : Only S W W') (hs : ∀ k, S' k → S k ∨ W.heap.size ≤ k) : Cl w W' B b S' s' :=
  ⟨hd, h.bel.trans (ho.below h.bel.size h.ge), fun k hk => (hs k hk).elim (h.ge k) (fun e => Nat.le_trans h.bel.size e)⟩
/-- A slice of the caller's beside the disk. -/
structure Beside (W : World) (S : Nat → Prop) (B : Nat) (v : Value) (l : List Int) : Prop where
  own : BOwn W B v l
  out : ∀ k, v.ownBlock = some k → ¬ S k
theorem Beside.step {v : Value} {l : List Int} {B' : Nat} (h : Beside W S B' v l) (ho : Only S W W') (hs : ∀ k, S' k → S k ∨ W.heap.size ≤ k) : Beside W' S' B' v l :=
  ⟨own_kept h.own ho h.out, fun k hk hs' => (hs k hs').elim (h.out k hk) (fun e => by have := (h.own.lt k hk).2; omega)⟩
theorem Beside.kb {v : Value} {l : List Int} {B' : Nat} (h : Beside W S B' v l) (hb : Below W.heap.size W W') : Beside W' S B' v l :=
  ⟨own_kept h.own (S := fun _ => False) (Only.of_below hb) (fun _ _ h => h), h.out⟩
theorem Beside.new {v : Value} {l : List Int} (hv : BOwn W' W.heap.size v l) (h : Cl w W B b S s) : Beside W' S W.heap.size v l :=
  ⟨hv, fun k hk hs => by have h1 := (hv.lt k hk).1; have h2 := h.ds.lt k hs; omega⟩
end
end Go.Proofs.YtbpccbhlggcmfaaGreatDoor
