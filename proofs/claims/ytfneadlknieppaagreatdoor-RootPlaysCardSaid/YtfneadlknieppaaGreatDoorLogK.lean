/- A log of the caller's own; the chapter's example returns true. No condition. -/
import Derived.Test.YtfneadlknieppaaGreatDoorLogE
import Derived.Test.YtfneadlknieppaaGreatDoorDskRn
namespace Go.Proofs.YtfneadlknieppaaGreatDoor
open Go.RowKit
open Go.Maps

section
variable {w W W' : World} {B d l : Nat} {S S' : Nat → Prop} {s s' : St} {nm : Key} {R R' : List Rc}
end
def kl0 : St := St.new 1000
def kl1 : St := (openS kl0 [102] 0).2.1
def kr1 : List Rc := (openS kl0 [102] 0).2.2
def kl2 : St := (addS kl1 [102] kr1 1 [97]).2.1
def kr2 : List Rc := (addS kl1 [102] kr1 1 [97]).2.2
def kl3 : St := (addS kl2 [102] kr2 2 [98]).2.1
def kr3 : List Rc := (addS kl2 [102] kr2 2 [98]).2.2
theorem kl_a : (openS kl0 [102] 0).1 = 0 ∧ kl0.works ≤ 900000000 ∧ kl0.fuse < 9223372036854775808 ∧ fbytes [102] kl0.files = [] := by decide +kernel
theorem kl_b : (addS kl1 [102] kr1 1 [97]).1 = 0 ∧ kl1.works ≤ 900000000 ∧ kl1.fuse < 9223372036854775808 ∧ ends kr1 ≤ 900000000 := by decide +kernel
theorem kl_c : ends kr2 = 10 := by decide +kernel
theorem kl_d : (addS kl2 [102] kr2 2 [98]).1 = 0 ∧ kl2.works ≤ 900000000 ∧ kl2.fuse < 9223372036854775808 ∧ ends kr2 ≤ 900000000 := by decide +kernel
theorem kl_e : kr3.length = 2 := by decide +kernel
theorem kl_f : (openS kl3 [102] 10).1 = 0 ∧ kl3.works ≤ 900000000 ∧ kl3.fuse < 9223372036854775808 := by decide +kernel
theorem kl_g : fbytes [102] kl3.files = frm 1 [97] ++ frm 2 [98] := by decide +kernel
theorem kl_h : (openS kl3 [102] 10).2.2.length = 1 := by decide +kernel
theorem okb_one {x : Int} (h : 0 ≤ x ∧ x < 256) : Okb [x] := fun y hy => by rw [List.mem_singleton.1 hy]; exact h
theorem seen_one (w : World) (x : Int) (c : Nat) (fr : Nat × Nat) (hc : 1 ≤ c) : Seen (w.alloc (.cells #[.int .u8 x] 5 fr)) (.slice (some ⟨w.heap.size, 0, none⟩) 1 c) [x] := by
  refine .inr ⟨⟨w.heap.size, 0, none⟩, c, rfl, hc, fun j u h => ?_⟩
  rw [Addr.add_lit, Nat.zero_add, World.cell?_alloc_mark w _ _ fr j]
  simpa using h
end Go.Proofs.YtfneadlknieppaaGreatDoor
