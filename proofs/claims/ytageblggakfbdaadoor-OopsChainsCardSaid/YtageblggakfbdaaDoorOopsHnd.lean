/- The kind and the place that the statements' own hands tell of a chain; the text of a chain of layers. Conditions: errors.errorType holds what its text lays; for the text the table's cells are there. -/
import Derived.Test.YtageblggakfbdaaDoorOopsChD
namespace Go.Proofs.YtageblggakfbdaaDoor
open Go.RowKit

set_option maxHeartbeats 1600000 in
theorem khand_ch (w : World) (L : List Lnk) (k : Int) (hg : Glob w) (hc : Ch w L (kind k)) : Calls Tryd.prog 21 #[val L (kind k)] w fun e w' => e = .returned (.int .i64 k) ∧ Below w.heap.size w w' := by
  have b1 := (Below.refl w.heap.size w).alloc (Nat.le_refl _) (.cells #[.int .i64 0] 29)
  have hA := as_any tgtE (w.alloc (.cells #[.int .i64 0] 29)) L (kind k) (base_kind k) (hg.kb b1) (hc.kb b1) w.heap.size (.int .i64 0) (heap_alloc_new w _) (by rw [fnd_kind]; intro x hx; cases hx; exact ⟨k, rfl⟩)
  rw [fnd_kind] at hA
  obtain ⟨t, x, hv⟩ := val_iface (base_kind k) L
  rw [hv] at hA ⊢
  have hn := nil_iface t x
  have HA := Lib.hid hA
  clear hA hg hc b1 hv
  go_enter Tryd.func21, Tryd.ntmps21
  go_wp2_with (go_at_call 14; refine HA.out.mono ?_; rintro e w' ⟨rfl, R1, R2⟩; have HR := Lib.hid R1; have hc := cell_obj R2 0 rfl; clear R1 R2; simp only [Option.isSome, Option.getD] at hc ⊢)
  go_ret
  exact ⟨rfl, ((Below.refl _ _).alloc (Nat.le_refl _) _).trans (HR.out.below (by simp) (fun k hk => hk ▸ Nat.le_refl _))⟩

set_option maxHeartbeats 1600000 in
theorem athand_ch (w : World) (L : List Lnk) (k : Int) (hg : Glob w) (hc : Ch w L (kind k)) : Calls Tryd.prog 22 #[val L (kind k)] w fun e w' => e = .returned (.int .i64 ((fplace L).getD (-1))) ∧ Below w.heap.size w w' := by
  have b1 := (Below.refl w.heap.size w).alloc (Nat.le_refl _) (.cells #[.pointer none] 55)
  have hA := as_any tgtP (w.alloc (.cells #[.pointer none] 55)) L (kind k) (base_kind k) (hg.kb b1) (hc.kb b1) w.heap.size (.pointer none) (heap_alloc_new w _) (ok_ptr _ (by decide) (by decide) L _ (base_kind k))
  have hkey := fnd_place w L (kind k) (base_kind k) hc
  obtain ⟨t, x, hv⟩ := val_iface (base_kind k) L
  clear hg hc
  rcases hkey with ⟨h1, h2⟩ | ⟨p, n, u, h1, h2, h3⟩
  · rw [h2] at hA
    rw [hv] at hA ⊢
    rw [h1]
    have HA := Lib.hid hA
    clear hA b1 hv h1 h2
    go_enter Tryd.func22, Tryd.ntmps22
    go_wp2_with (go_at_call 14; refine HA.out.mono ?_; rintro e w' ⟨rfl, R1, R2⟩; have HR := Lib.hid R1; have hc := cell_obj R2 0 rfl; clear R1 R2; simp only [Option.isSome, Option.getD] at hc ⊢)
    go_ret
    exact ⟨rfl, ((Below.refl _ _).alloc (Nat.le_refl _) _).trans (HR.out.below (by simp) (fun k hk => hk ▸ Nat.le_refl _))⟩
  · rw [h2] at hA
    rw [hv] at hA ⊢
    rw [h1]
    have HA := Lib.hid hA
    have hp := (Array.getElem?_eq_some_iff.1 h3).1
    have H3 := Lib.hid ((b1.block p hp).trans h3)
    clear hA b1 hv h1 h2 h3
    go_enter Tryd.func22, Tryd.ntmps22
    go_wp2_with (go_at_call 14; refine HA.out.mono ?_; rintro e w' ⟨rfl, R1, R2⟩; have HR := Lib.hid R1; have hc := cell_obj R2 0 rfl; have hx := cell_obj ((R1.block p (by simp; omega) (by omega)).trans H3.out) 0 (u := .int .i64 n) rfl; clear R1 R2; simp only [Option.isSome, Option.getD] at hc ⊢)
    go_ret
    exact ⟨rfl, ((Below.refl _ _).alloc (Nat.le_refl _) _).trans (HR.out.below (by simp) (fun k hk => hk ▸ Nat.le_refl _))⟩

theorem sig_rng (k : Int) : 0 ≤ sig k ∧ sig k < 256 := by
  unfold sig
  have h0 := Int.emod_nonneg k (show (6 : Int) ≠ 0 by decide)
  have h1 := Int.emod_lt_of_pos k (show (0 : Int) < 6 by decide)
  generalize k % 6 = m at *
  have : m = 0 ∨ m = 1 ∨ m = 2 ∨ m = 3 ∨ m = 4 ∨ m = 5 := by omega
  rcases this with rfl | rfl | rfl | rfl | rfl | rfl <;> decide
theorem hsh_byts (n : Int) : Byts (hsh n) := by
  intro j hj
  unfold hsh hshk
  have h0 := Int.emod_nonneg n (show (60 : Int) ≠ 0 by decide)
  have h1 := Int.emod_lt_of_pos n (show (0 : Int) < 60 by decide)
  have hs := sig_rng (n % 60)
  generalize n % 60 = m at *
  match j, hj with
  | 0, _ => exact ⟨_, rfl, hs.1, hs.2⟩
  | 1, _ => exact ⟨_, rfl, by omega, by omega⟩
  | 2, _ => exact ⟨_, rfl, by omega, by omega⟩
  | 3, _ => exact ⟨_, rfl, by decide, by decide⟩
  | 4, _ => exact ⟨_, rfl, by decide, by decide⟩
  | 5, _ => exact ⟨_, rfl, by decide, by decide⟩
  | 6, _ => exact ⟨_, rfl, by decide, by decide⟩
  | 7, _ => exact ⟨_, rfl, by decide, by decide⟩
  | 8, _ => exact ⟨_, rfl, by decide, by decide⟩
  | 9, _ => exact ⟨_, rfl, by decide, by decide⟩
  | 10, _ => exact ⟨_, rfl, by decide, by decide⟩
  | 11, _ => exact ⟨_, rfl, by decide, by decide⟩
  | 12, _ => exact ⟨_, rfl, by decide, by decide⟩
  | 13, _ => exact ⟨_, rfl, by decide, by decide⟩
  | 14, _ => exact ⟨_, rfl, by decide, by decide⟩
  | 15, _ => exact ⟨_, rfl, by decide, by decide⟩
  | 16, _ => exact ⟨_, rfl, by decide, by decide⟩
  | 17, _ => exact ⟨_, rfl, by decide, by decide⟩
  | 18, _ => exact ⟨_, rfl, by decide, by decide⟩
  | 19, _ => exact ⟨_, rfl, by decide, by decide⟩
  | 20, _ => exact ⟨_, rfl, by decide, by decide⟩
  | 21, _ => exact ⟨_, rfl, by decide, by decide⟩
  | 22, _ => exact ⟨_, rfl, by decide, by decide⟩
  | 23, _ => exact ⟨_, rfl, by decide, by decide⟩
  | 24, _ => exact ⟨_, rfl, by decide, by decide⟩
  | 25, _ => exact ⟨_, rfl, by decide, by decide⟩
  | 26, _ => exact ⟨_, rfl, by decide, by decide⟩
  | 27, _ => exact ⟨_, rfl, by decide, by decide⟩
  | 28, _ => exact ⟨_, rfl, by decide, by decide⟩
  | 29, _ => exact ⟨_, rfl, by decide, by decide⟩
  | 30, _ => exact ⟨_, rfl, by decide, by decide⟩
  | 31, _ => exact ⟨_, rfl, by omega, by omega⟩
  | j + 32, h => omega
theorem Byts.byt {q : Array Value} (h : Byts q) : Byt q := fun j hj => let ⟨x, hx, _⟩ := h j hj; ⟨x, hx⟩

theorem methE (v : Value) (w : World) : (Go.method 284 29 v "Error").run Tryd.prog w = .ok (67, v) w := by kernel_rfl
theorem methS (v : Value) (w : World) : (Go.method 284 54 v "Error").run Tryd.prog w = .ok (71, v) w := by kernel_rfl
theorem methP (v : Value) (w : World) : (Go.method 284 55 v "Error").run Tryd.prog w = .ok (72, v) w := by kernel_rfl
theorem methW (v : Value) (w : World) : (Go.method 284 37 v "Error").run Tryd.prog w = .ok (68, v) w := by kernel_rfl

theorem enterE' (args : Array Value) (w : World) : (callFunc 67 args).run Tryd.prog w = .ok (.enter 67 args) w := by kernel_rfl
theorem enterS' (args : Array Value) (w : World) : (callFunc 71 args).run Tryd.prog w = .ok (.enter 71 args) w := by kernel_rfl
theorem enterP' (args : Array Value) (w : World) : (callFunc 72 args).run Tryd.prog w = .ok (.enter 72 args) w := by kernel_rfl
theorem enterW' (args : Array Value) (w : World) : (callFunc 68 args).run Tryd.prog w = .ok (.enter 68 args) w := by kernel_rfl

/-- The text of a chain: which method it is, and that it answers a text that is not empty. -/
theorem text_of (C : Ctr) (L : List Lnk) (k : Int) (k1 : 1 ≤ k) (k2 : k ≤ 19) (hgood : Good L) (hl : L.length ≤ 131072) :
    ∃ (t : TypeId) (x : Value) (f : FuncId) (rv : Value), val L (kind k) = .iface t x ∧ (∀ w, (Go.method 284 t x "Error").run Tryd.prog w = .ok (f, rv) w) ∧ (∀ args w, (callFunc f args).run Tryd.prog w = .ok (.enter f args) w) ∧
      ∀ W, Glob W → Tab W → Ch W L (kind k) → Calls Tryd.prog f #[rv] W fun e w' => (∃ s : ByteArray, e = .returned (.string s) ∧ 0 < s.size) ∧ Below W.heap.size W w' := by
  cases L with
  | nil =>
    refine ⟨_, _, _, _, rfl, methE _, enterE', fun W _ _ _ => (errno_error W k k1 k2).mono ?_⟩
    rintro e w' ⟨⟨s, rfl, h, _⟩, rfl⟩
    exact ⟨⟨s, rfl, h⟩, Below.refl _ _⟩
  | cons l L =>
    have hll : L.length ≤ 131072 := by simp only [List.length_cons] at hl; omega
    cases l with
    | step p s =>
      have hs : s.size ≤ 140737488351232 := hgood _ (List.mem_cons_self ..)
      exact ⟨_, _, _, _, rfl, methS _, enterS', fun W hg _ hc => stepErr C W p s (by omega) L k k1 k2 hg hc hll⟩
    | place p n =>
      have hn : 0 ≤ n ∧ n ≤ 999 := hgood _ (List.mem_cons_self ..)
      exact ⟨_, _, _, _, rfl, methP _, enterP', fun W hg ht hc => placeErr C W p n hn.1 hn.2 L k k1 k2 hg ht hc hll⟩
    | which p q =>
      obtain ⟨n, rfl⟩ : ∃ n, q = hsh n := hgood _ (List.mem_cons_self ..)
      exact ⟨_, _, _, _, rfl, methW _, enterW', fun W hg _ hc => whichErr C W p _ (hsh_byts n) L k k1 k2 hg hc hll⟩
end Go.Proofs.YtageblggakfbdaaDoor
