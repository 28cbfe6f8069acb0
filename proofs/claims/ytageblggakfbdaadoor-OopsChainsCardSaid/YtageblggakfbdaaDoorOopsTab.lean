/- The table of powers of ten holds twenty integers in every world that a claim begins in. No condition. -/
import Derived.Test.YtageblggakfbdaaDoorOopsItoa
import Derived.Test.YtageblggakfbdaaDoorGenLaid
namespace Go.Proofs.YtageblggakfbdaaDoor
open Go.RowKit

/-- A variable of an array of integers holds integers. -/
theorem cells_of_shaped {P : Program} {w : World} {g : Nat} {t u : TypeId} {k : IntKind} {m : Nat} (h : w.ShapedOpen P) (hg : g < P.globals.size)
    (h0 : (((begin P (fun _ _ => 0) default).world.heap[g]?).bind Obj.row?).map (fun x => (x.1.size, x.2)) = some (m, t)) (hb : P.buildable t = true) (hc : P.cellTypes P.depth t = some (List.replicate m u)) (hu : P.underlying u = some (.int k)) (n : Nat) (hn : n < m) :
    ∃ z, w.cell? ⟨g, n, none⟩ = some (.int k z) := by
  obtain ⟨⟨zero, t'⟩, h00, hz⟩ := Option.map_eq_some_iff.1 h0
  simp only [Prod.mk.injEq] at hz
  obtain ⟨hz1, rfl⟩ := hz
  obtain ⟨cs, hh, hs, hr⟩ := h.1 g zero _ hg h00
  obtain ⟨ts, hts, _, hall⟩ := hr hb
  rw [hc] at hts
  cases hts
  have h1 : n < cs.size := by omega
  obtain ⟨u', hu', hok⟩ := hall n cs[n] (by simp [h1])
  have : u' = u := (List.mem_replicate.1 (List.mem_of_getElem? hu')).2
  subst this
  have hcell : w.cell? ⟨g, n, none⟩ = some cs[n] := by simp [World.cell?, hh, h1]
  rw [hcell]
  unfold Cell.ok at hok
  rw [hu] at hok
  cases hv : cs[n] <;> rw [hv] at hok <;> simp at hok
  case int k' n => exact ⟨n, by rw [hok.1]⟩

theorem tab_of_shaped {w : World} (h : w.ShapedOpen Tryd.prog) : Tab w := fun n hn =>
  cells_of_shaped (t := 156) (u := 149) (k := .u64) (m := 20) h (of_decide_eq_true (by kernel_rfl)) (by kernel_rfl) (by kernel_rfl) (by kernel_rfl) Tryd.underlying149 n hn
end Go.Proofs.YtageblggakfbdaaDoor
