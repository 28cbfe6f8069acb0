/- A row of the caller's beside a disk. No condition. -/
import Derived.Test.YtfneadlknieppaaGreatDoorDskRn
namespace Go.Proofs.YtfneadlknieppaaGreatDoor
open Go.RowKit
open Go.Maps

/-- A row of the caller's beside the disk. -/
structure RBes (W : World) (S : Nat → Prop) (B e : Nat) (v : Value) (n : Nat) (xs : List Value) : Prop where
  own : W.ownsRow B e 1 v n xs
  out : ∀ k, v.ownBlock = some k → ¬ S k
theorem RBes.step {W W' : World} {S S' : Nat → Prop} {B e n : Nat} {v : Value} {xs : List Value} (h : RBes W S B e v n xs) (ho : Only S W W') (hs : ∀ k, S' k → S k ∨ W.heap.size ≤ k) : RBes W' S' B e v n xs :=
  ⟨own_kept h.own ho h.out, fun k hk hs' => (hs k hs').elim (h.out k hk) (fun e => by have := (h.own.lt k hk).2; omega)⟩
theorem RBes.kb {W W' : World} {S : Nat → Prop} {B e n : Nat} {v : Value} {xs : List Value} (h : RBes W S B e v n xs) (hb : Below W.heap.size W W') : RBes W' S B e v n xs := ⟨own_kept h.own (S := fun _ => False) (Only.of_below hb) (fun _ _ h => h), h.out⟩
theorem RBes.new {w W W' : World} {B b e n : Nat} {S : Nat → Prop} {s : St} {v : Value} {xs : List Value} (hv : W'.ownsRow W.heap.size e 1 v n xs) (h : Cl w W B b S s) : RBes W' S W.heap.size e v n xs :=
  ⟨hv, fun k hk hs => by have h1 := (hv.lt k hk).1; have h2 := h.ds.lt k hs; omega⟩
end Go.Proofs.YtfneadlknieppaaGreatDoor
