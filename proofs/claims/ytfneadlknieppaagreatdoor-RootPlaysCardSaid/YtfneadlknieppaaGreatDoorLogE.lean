/- Open. Conditions: the numbers are no greater than a program's may be; the file's bytes are bytes. -/
import Derived.Test.YtfneadlknieppaaGreatDoorLogC
import Derived.Test.YtfneadlknieppaaGreatDoorDskN
import Derived.Test.YtfneadlknieppaaGreatDoorDskE
import Derived.Test.YtfneadlknieppaaGreatDoorDskC
namespace Go.Proofs.YtfneadlknieppaaGreatDoor
open Go.RowKit
open Go.Maps

/-- The file as Read tells it. -/
def St.rd (s : St) (nm : Key) : List Int := if s.dead = true then [] else fbytes nm s.files
def openS (s : St) (nm : Key) (n : Int) : Int × St × List Rc :=
  if n < 0 then (1, s, []) else if ((s.rd nm).length : Int) < n then (3, s, []) else
  if ¬ (dec ((s.rd nm).take n.toNat)).2 = 0 then ((dec ((s.rd nm).take n.toNat)).2, s, []) else
  if n < (s.rd nm).length then (if (s.truncate nm n).1 = 0 then (0, (s.truncate nm n).2, (dec ((s.rd nm).take n.toNat)).1) else ((s.truncate nm n).1, (s.truncate nm n).2, [])) else (0, s, (dec ((s.rd nm).take n.toNat)).1)
/-- The text "log". -/
abbrev slog : ByteArray := ⟨#[108, 111, 103]⟩
/-- An error of number c: itself, or in a Step "log". -/
def OpErr (w : World) (B : Nat) (c : Int) (v : Value) : Prop := v = eno c ∨ ∃ g, v = .iface 128 (.pointer (some ⟨g, 0, none⟩)) ∧ B ≤ g ∧ w.heap[g]? = some (.cells #[.string slog, eno c] 130 (0, 0))
theorem owrap_to (w : World) (c : Int) : Calls Tryz.prog 44 #[.string slog, eno c] w fun e w' => e = .returned (.iface 128 (.pointer (some ⟨w.heap.size, 0, none⟩))) ∧ w' = w.alloc (.cells #[.string slog, eno c] 130) := by
  have hn : ∀ w : World, (binOp .eql 41 (eno c) .nilIface).run Tryz.prog w = .ok (.bool false) w := fun w => by kernel_rfl
  go_enter Tryz.func44, Tryz.ntmps44
  go_wp2
  go_ret
  exact ⟨rfl, rfl⟩
theorem slice_upto {w : World} {p : Option Addr} {n cap : Nat} {j : Nat} (h : j ≤ n) (hc : n ≤ cap) (hp : p = none → n = 0 ∧ cap = 0) :
    (Instr.slice 37 (.slice p n cap) none (some (.int .i64 j)) none).run Tryz.prog w = .ok (.slice p j cap) w := by
  cases p with
  | none =>
    obtain ⟨rfl, rfl⟩ := hp rfl
    obtain rfl : j = 0 := by omega
    simp [Instr.slice, run_underlying Tryz.underlying37, go_sem]
  | some a => 
    have hj : (j : Int) ≤ cap := by omega
    simp [Instr.slice, run_underlying Tryz.underlying37, go_sem, hj]
theorem DS.flen {w : World} {B b : Nat} {S : Nat → Prop} {s : St} (h : DS w B b S s) (nm : Key) : (fbytes nm s.files).length ≤ 16777216 := by
  obtain ⟨c, L, P, hx⟩ := h
  have h1 := bytesAt_le nm L
  have h2 := hx.hist.last.tot
  rw [← hx.fb, fb_tot] at h2
  have h3 : s.files = fb L := hx.fb.symm
  rw [h3, fb_bytes]
  omega
theorem DS.base {w : World} {B b : Nat} {S : Nat → Prop} {s : St} (h : DS w B b S s) : B ≤ w.heap.size := by
  obtain ⟨c, L, P, hx⟩ := h
  exact hx.dc.base
theorem DS.slt {w : World} {B b : Nat} {S : Nat → Prop} {s : St} (h : DS w B b S s) : ∀ k, S k → k < w.heap.size := by
  obtain ⟨c, L, P, h⟩ := h
  exact h.lt
end Go.Proofs.YtfneadlknieppaaGreatDoor
