/- Steps as a whole. Condition: at most 131072 layers. -/
import Derived.Test.YtnepdkelnpengaaDoorOopsSteps
namespace Go.Proofs.YtnepdkelnpengaaDoor
open Go.RowKit Go.Extern.Stop Go.Stop Go.Extern

theorem Ch.low {B : Nat} {w w' : World} (hb : Below B w w') : ∀ {L b}, Ch w L b → (∀ l ∈ L, l.blk < B) → Ch w' L b
  | [], _, _, _ => trivial
  | l :: _, _, ⟨h1, h2, h3, h4⟩, hs => ⟨(hb.block _ (hs l (List.mem_cons_self ..))).trans h1, h2, h3, Ch.low hb h4 (fun x hx => hs x (List.mem_cons_of_mem _ hx))⟩

theorem enterT (args : Array Value) (w : World) : (callFunc 28 args).run Tryd.prog w = .ok (.enter 28 args) w := by kernel_rfl

theorem walk_steps (b : Value) (hb : Base b) (L : List Lnk) (B c : Nat) (w : World) (v : Value) (hl : L.length ≤ 131072) (hc : Ch w L b) (hlow : ∀ l ∈ L, l.blk < B) (h : Ws B w c v []) :
    Calls Tryd.prog 27 #[val L b, .int .i64 0, .func (.func 28) #[] #[.pointer (some ⟨c, 0, none⟩)]] w fun e w' => e = .returned (.bool true) ∧ Below B w w' ∧ ∃ v', Ws B w' c v' (names L) := by
  refine walk_any b hb 28 #[.pointer (some ⟨c, 0, none⟩)] (fun M u => Ch u M b ∧ Below B w u ∧ (∀ l ∈ M, l.blk < B) ∧ ∃ sv xs, Ws B u c sv xs ∧ xs ++ names M = names L)
    (fun u => Below B w u ∧ ∃ sv, Ws B u c sv (names L)) enterT (fun _ _ h => h.1) ?_ ?_ L w 0 (by omega) (by omega) ⟨hc, Below.refl _ _, hlow, v, [], h, rfl⟩
  · rintro l M u ⟨h1, h2, h3, sv, xs, h4, h5⟩
    have hn : xs.length ≤ 131072 := by
      have := names_length L
      rw [← h5, List.length_append] at this
      omega
    have hlb := h3 l (List.mem_cons_self ..)
    cases l with
    | step p s =>
      refine (visit_step u B c sv xs s (val M b) p h4 hn h1.1).mono ?_
      rintro e w' ⟨rfl, ⟨v', hv⟩, hbel⟩
      exact ⟨rfl, ⟨Ch.low hbel h1.2.2.2 (fun x hx => h3 x (List.mem_cons_of_mem _ hx)), h2.trans hbel, fun x hx => h3 x (List.mem_cons_of_mem _ hx), v', _, hv, by rw [← h5]; simp [names, nm]⟩, hbel.block _ hlb⟩
    | place p n =>
      refine (visitP u B c sv xs _ h4).mono ?_
      rintro e w' ⟨rfl, ⟨v', hv⟩, hbel⟩
      exact ⟨rfl, ⟨Ch.low hbel h1.2.2.2 (fun x hx => h3 x (List.mem_cons_of_mem _ hx)), h2.trans hbel, fun x hx => h3 x (List.mem_cons_of_mem _ hx), v', _, hv, by rw [← h5]; simp [names, nm]⟩, hbel.block _ hlb⟩
    | which p n =>
      refine (visitW u B c sv xs _ h4).mono ?_
      rintro e w' ⟨rfl, ⟨v', hv⟩, hbel⟩
      exact ⟨rfl, ⟨Ch.low hbel h1.2.2.2 (fun x hx => h3 x (List.mem_cons_of_mem _ hx)), h2.trans hbel, fun x hx => h3 x (List.mem_cons_of_mem _ hx), v', _, hv, by rw [← h5]; simp [names, nm]⟩, hbel.block _ hlb⟩
  · rintro u ⟨h1, h2, h3, sv, xs, h4, h5⟩
    obtain rfl : xs = names L := by rw [← h5]; simp [names]
    rcases hb with ⟨k, rfl⟩ | rfl | ⟨p, rfl⟩
    · refine (visitE u B c sv _ _ h4).mono ?_
      rintro e w' ⟨rfl, hv, hbel⟩
      exact ⟨rfl, h2.trans hbel, hv⟩
    · refine (visitX u B c sv _ _ h4).mono ?_
      rintro e w' ⟨rfl, hv, hbel⟩
      exact ⟨rfl, h2.trans hbel, hv⟩
    · refine (visitN u B c sv _ _ h4).mono ?_
      rintro e w' ⟨rfl, hv, hbel⟩
      exact ⟨rfl, h2.trans hbel, hv⟩

theorem idleT (p : Addr) (w : World) :
    CallsD Tryd.prog 26 #[.pointer (some p)] .returning w fun e u' w' => e = .returned (.tuple #[]) ∧ u' = .returning ∧ w' = w := by
  refine callsD_of_wpS Tryd.func26 rfl fun c₀ cs hu => ?_
  apply wpS_seq
  apply wpS_region
  simp [wpOpsS, go_sem, recoverD, hu, Tryd.ntmps26, Exit.thenS]
  refine wpS_cond (t := false) (by simp [Act.eval, Array.replicate]) ?_
  simp only [Bool.false_eq_true, if_false]
  refine wpS_of_wp (wp_skip ?_)
  cases c₀
  simp_all [bodyPostS, results, Tryd.results26]

set_option maxHeartbeats 1000000 in
theorem steps_any (w : World) (L : List Lnk) (b : Value) (hb : Base b) (hc : Ch w L b) (hl : L.length ≤ 131072) :
    Calls Tryd.prog 11 #[val L b] w fun e w' => ∃ v, e = .returned v ∧ w'.ownsRow w.heap.size 9 1 v (names L).length (strs (names L)) ∧ Below w.heap.size w w' := by
  have hmf : ∀ (fn : Fn) (first cap : Array Value) (w : World), (Instr.makeFunc fn first cap).run Tryd.prog w = .ok (.func fn first cap) w := fun _ _ _ _ => rfl
  have b1 := (Below.refl w.heap.size w).alloc (Nat.le_refl _) (.cells #[.slice none 0 0] 31)
  have HW := Lib.hid (walk_steps b hb L w.heap.size w.heap.size (w.alloc (.cells #[.slice none 0 0] 31)) (.slice none 0 0) hl (Ch.kb b1 hc) hc.lt ⟨Nat.le_refl _, heap_alloc_last w _, by simp, .inl ⟨rfl, rfl⟩⟩)
  have HB := Lib.hid b1
  clear hc hl b1
  go_enter_defers Tryd.func11, Tryd.ntmps11
  go_wp2_with (go_at_call 27; refine HW.out.mono ?_; rintro e w' ⟨rfl, R1, v', R2⟩; have H1 := Lib.hid R1; have H2 := Lib.hid R2; have hx := cell_obj R2.2.1 0 (u := v') rfl; have hxf := free_of_one R2.2.1
               obtain ⟨a1, n1, c1, rfl⟩ : ∃ a n c, v' = .slice a n c := (by rcases R2.2.2.2 with ⟨rfl, _⟩ | ⟨_, _, _, rfl, _⟩ <;> exact ⟨_, _, _, rfl⟩); clear R1 R2)
  refine leaves_cons (f := 26) (args := #[.pointer (some ⟨w.heap.size, 0, none⟩)]) (by simp) (by simp [go_sem]) ?_
  refine (idleT _ _).mono ?_
  rintro e u' w'' ⟨rfl, rfl, rfl⟩
  simp [Leaves, settle, results, Tryd.results11, go_sem, hx]
  have o1 : Only (fun k => w.heap.size ≤ k) w w' := (Only.of_below HB.out).trans (T := fun k => w.heap.size ≤ k) ⟨H1.out.os, H1.out.tape, H1.out.output, H1.out.size, fun k hk hn => H1.out.block k (by omega)⟩ (fun _ h => h) (fun _ _ h => h)
  refine ⟨?_, (o1.setCell (p := ⟨w.heap.size, 0, none⟩) (Nat.le_refl _) _).below (Nat.le_refl _) (fun _ h => h)⟩
  refine ⟨by simp, ?_⟩
  rcases H2.out.2.2.2 with hh | ⟨g, cap, cur, he, hbg, hg, rest⟩
  · exact .inl hh
  · refine .inr ⟨g, cap, cur, he, hbg, ?_, rest⟩
    rw [Below.heap_setCell]
    · exact hg
    · intro e
      simp only at e
      subst e
      rw [H2.out.2.1] at hg
      simp at hg
end Go.Proofs.YtnepdkelnpengaaDoor
