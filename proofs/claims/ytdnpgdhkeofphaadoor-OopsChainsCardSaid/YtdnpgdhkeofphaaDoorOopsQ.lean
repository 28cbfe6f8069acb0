/- What quietly and enter do. No condition but on the call that is made quietly. -/
import Derived.Test.YtdnpgdhkeofphaaDoorOopsDef
import Derived.Conc.MuLone
import Derived.Defers
import Derived.Recover
namespace Go.Proofs.YtdnpgdhkeofphaaDoor
open Go.RowKit Go.Extern.Stop Go.Stop Go.Extern

theorem idleQ (w : World) :
    CallsD Tryd.prog 129 #[] .returning w fun e u' w' => e = .returned (.tuple #[]) ∧ u' = .returning ∧ w' = w := by
  refine callsD_of_wpS Tryd.func129 rfl fun c₀ cs hu => ?_
  apply wpS_region
  simp [wpOpsS, go_sem, recoverD, hu, Tryd.ntmps129]
  cases c₀
  simp_all [bodyPostS, results, Tryd.results129]

theorem quietly_any (g : FuncId) (cap : Array Value) (hf : ∀ args w, (callFunc g args).run Tryd.prog w = .ok (.enter g args) w) (w : World) (R : World → Prop)
    (h : Calls Tryd.prog g cap w fun e w' => e = .returned (.tuple #[]) ∧ R w') : Calls Tryd.prog 125 #[.func (.func g) #[] cap] w fun e w' => e = .returned (.tuple #[]) ∧ R w' := by
  have H := Lib.hid h
  clear h
  go_enter_defers Tryd.func125, Tryd.ntmps125
  go_wp2_with (refine H.out.mono ?_; rintro e w' ⟨rfl, hr⟩; have HR := Lib.hid hr; clear hr)
  refine leaves_cons (f := 129) (args := #[]) (by simp) (by simp [go_sem]) ?_
  refine (idleQ _).mono ?_
  rintro e u' w'' ⟨rfl, rfl, rfl⟩
  simp [Leaves, settle, results, Tryd.results125, go_sem]
  exact HR.out

/-- What a search holds at block s: which errors suit, and how many may be examined yet. -/
def Srch (w : World) (s : Nat) (f : Value) (n : Nat) : Prop := w.heap[s]? = some (.cells #[f, .int .i64 n] 127 (0, 0))

theorem pair_set1 {w : World} {b : Nat} {x y u : Value} {t : TypeId} (h : w.heap[b]? = some (.cells #[x, y] t (0, 0))) : (w.setCell ⟨b, 1, none⟩ u).heap[b]? = some (.cells #[x, u] t (0, 0)) := by
  have hlt := lt_of_block h
  have h' : w.heap[b] = .cells #[x, y] t (0, 0) := by simpa [Array.getElem?_eq_getElem hlt] using h
  show (w.heap.modify b _)[b]? = _
  rw [Array.getElem?_eq_getElem (by simpa using hlt), Array.getElem_modify_self, h']
  rfl

theorem enter_any (w : World) (s : Nat) (f : Value) (n : Nat) (d : Int) (hn : 0 < n) (hn2 : n ≤ 134217728) (hd : d ≤ 131072) (h : Srch w s f n) :
    Calls Tryd.prog 121 #[.pointer (some ⟨s, 0, none⟩), .int .i64 d] w fun e w' => e = .returned (.bool true) ∧ Srch w' s f (n - 1) ∧ Only (fun k => k = s) w w' := by
  have c1 := cell_obj h 1 (u := .int .i64 n) rfl
  have f1 := frozen_of_row w s 1 _ _ h
  have hb : ((n : Int) == 0) = false := by simp; omega
  have HH := Lib.hid h
  clear h
  go_enter Tryd.func121, Tryd.ntmps121
  go_wp2
  go_ret
  refine ⟨rfl, ?_, (Only.refl (fun k => k = s) w).setCell (p := ⟨s, 1, none⟩) rfl _⟩
  unfold Srch
  rw [show ((n - 1 : Nat) : Int) = (n : Int) - 1 from by omega]
  exact pair_set1 HH.out
end Go.Proofs.YtdnpgdhkeofphaaDoor
