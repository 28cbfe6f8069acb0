/- What quietly and spend do. No condition but on the call that is made quietly. -/
import Derived.Test.YtageblggakfbdaaDoorOopsDef
import Derived.Conc.MuLone
import Derived.Defers
import Derived.Recover
import Derived.BigQuiet
namespace Go.Proofs.YtageblggakfbdaaDoor
open Go.RowKit Go.Extern.Stop Go.Stop Go.Extern

theorem idleQ (w : World) :
    CallsD Tryd.prog 100 #[] .returning w fun e u' w' => e = .returned (.tuple #[]) ∧ u' = .returning ∧ w' = w := by
  refine callsD_of_wpS Tryd.func100 rfl fun c₀ cs hu => ?_
  apply wpS_region
  simp [wpOpsS, go_sem, recoverD, hu, Tryd.ntmps100]
  cases c₀
  simp_all [bodyPostS, results, Tryd.results100]

theorem quietly_any (g : FuncId) (cap : Array Value) (hf : ∀ args w, (callFunc g args).run Tryd.prog w = .ok (.enter g args) w) (w : World) (R : World → Prop)
    (h : Calls Tryd.prog g cap w fun e w' => e = .returned (.tuple #[]) ∧ R w') : Calls Tryd.prog 96 #[.func (.func g) #[] cap] w fun e w' => e = .returned (.tuple #[]) ∧ R w' := by
  have H := Lib.hid h
  clear h
  go_enter_defers Tryd.func96, Tryd.ntmps96
  go_wp2_with (refine H.out.mono ?_; rintro e w' ⟨rfl, hr⟩; have HR := Lib.hid hr; clear hr)
  refine leaves_cons (f := 100) (args := #[]) (by simp) (by simp [go_sem]) ?_
  refine (idleQ _).mono ?_
  rintro e u' w'' ⟨rfl, rfl, rfl⟩
  simp [Leaves, settle, results, Tryd.results96, go_sem]
  exact HR.out

/-- What a search holds at block s: which errors suit, and how much it has spent. -/
def Srch (w : World) (s : Nat) (f : Value) (n : Nat) : Prop := ∃ mv, w.heap[s]? = some (.cells #[f, .int .i64 n, .int .i64 268435456, mv, .int .i64 0] 125 (0, 0))

theorem Srch.lt {w : World} {s : Nat} {f : Value} {n : Nat} (h : Srch w s f n) : s < w.heap.size := by
  obtain ⟨mv, h⟩ := h
  exact (Array.getElem?_eq_some_iff.1 h).1
theorem five_set1 {w : World} {b : Nat} {x y z m r u : Value} {t : TypeId} (h : w.heap[b]? = some (.cells #[x, y, z, m, r] t (0, 0))) : (w.setCell ⟨b, 1, none⟩ u).heap[b]? = some (.cells #[x, u, z, m, r] t (0, 0)) := by
  have hlt := lt_of_block h
  have h' : w.heap[b] = .cells #[x, y, z, m, r] t (0, 0) := by simpa [Array.getElem?_eq_getElem hlt] using h
  show (w.heap.modify b _)[b]? = _
  rw [Array.getElem?_eq_getElem (by simpa using hlt), Array.getElem_modify_self, h']
  rfl

theorem spend_any (w : World) (s : Nat) (f : Value) (n k : Nat) (hn : n + k ≤ 268435456) (h : Srch w s f n) :
    Calls Tryd.prog 92 #[.pointer (some ⟨s, 0, none⟩), .int .i64 k] w fun e w' => e = .returned (.bool true) ∧ Srch w' s f (n + k) ∧ Only (fun j => j = s) w w' := by
  obtain ⟨mv, h⟩ := h
  have c1 := cell_obj h 1 (u := .int .i64 n) rfl
  have f1 := frozen_of_row w s 1 _ _ h
  obtain ⟨q, hq⟩ : ∃ q, q = n + k := ⟨_, rfl⟩
  have hh := five_set1 (u := .int .i64 ((q : Nat) : Int)) h
  have e1 := cell_obj hh 1 (u := .int .i64 q) rfl
  have e2 := cell_obj hh 2 (u := .int .i64 268435456) rfl
  have hadd : (n : Int) + (k : Int) = (q : Int) := by omega
  have hw1 : IntKind.i64.wrap ((n : Int) + (k : Int)) = (q : Int) := by rw [hadd]; exact IntWalk.i64_in _ (by omega)
  have hw2 : IntKind.i64.wrap (q : Int) = (q : Int) := IntWalk.i64_in _ (by omega)
  have hle : (q : Int) ≤ 268435456 := by omega
  have HH := Lib.hid hh
  have HO : Hid (Only (fun j => j = s) w (w.setCell ⟨s, 1, none⟩ (.int .i64 q))) := Lib.hid ((Only.refl (fun j => j = s) w).setCell (p := ⟨s, 1, none⟩) rfl _)
  rw [← hq]
  clear h hh hq hn
  go_enter Tryd.func92, Tryd.ntmps92
  go_wp2_with fail
  generalize w.setCell ⟨s, 1, none⟩ (.int .i64 q) = w1 at *
  go_quiet (fail)
  go_wp2_with fail
  go_ret
  exact ⟨rfl, ⟨mv, HH.out⟩, ⟨HO.out.os, HO.out.tape, HO.out.output, HO.out.size, HO.out.block⟩⟩
end Go.Proofs.YtageblggakfbdaaDoor
