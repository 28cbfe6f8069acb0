/- What Lay answers for a root. No condition. -/
import Derived.Test.YtfneadlknieppaaDoorRootI
namespace Go.Proofs.YtfneadlknieppaaDoor
open Go.RowKit
open Go.Maps

theorem wvar_to (w : World) (b : Nat) (v : Value) (xs : List Int) (n : Int) (B : Nat) (hn : xs.length < 1000000000) (h : Wr 95 B w b v xs) :
    Calls Tryd.prog 26 #[.pointer (some ⟨b,0,none⟩), .int .i64 n] w fun e w' => e = .returned (.tuple #[]) ∧ Wrote 95 B w b v (xs ++ vr n) w' := wvar_any w b v xs n B hn h
/-- A Writer of the caller's own. -/
structure Wro (T : Nat) (w W : World) (b : Nat) (xs : List Int) : Prop where
  wr : ∃ v, Wr T w.heap.size W b v xs
  bel : Below w.heap.size w W
theorem Wro.kb {T : Nat} {w W W' : World} {b : Nat} {xs : List Int} (h : Wro T w W b xs) (hb : Below W.heap.size W W') : Wro T w W' b xs := ⟨let ⟨v, hv⟩ := h.wr; ⟨v, hv.kb hb⟩, h.bel.trans (hb.mono h.bel.size)⟩
theorem Wro.step {T : Nat} {w W W' : World} {b : Nat} {v : Value} {xs ys : List Int} (h : Below w.heap.size w W) (hv : Wr T w.heap.size W b v xs) (hw : Wrote T w.heap.size W b v ys W') : Wro T w W' b ys := by
  obtain ⟨v', h1, h2, _⟩ := hw
  exact ⟨⟨v', h1⟩, h.trans (hv.below h2)⟩
theorem wvar_wro (w W : World) (b : Nat) (xs : List Int) (n : Int) (hn : xs.length < 1000000000) (h : Wro 95 w W b xs) :
    Calls Tryd.prog 26 #[.pointer (some ⟨b,0,none⟩), .int .i64 n] W fun e w' => e = .returned (.tuple #[]) ∧ Wro 95 w w' b (xs ++ vr n) := by
  obtain ⟨v, hv⟩ := h.wr
  refine (wvar_to W b v xs n _ hn hv).mono ?_
  rintro e w' ⟨rfl, h2⟩
  exact ⟨rfl, Wro.step h.bel hv h2⟩
theorem wbytes_wro (w W : World) (b : Nat) (xs : List Int) (hn : xs.length < 1000000000) (h : Wro 95 w W b xs) :
    Calls Tryd.prog 28 #[.pointer (some ⟨b,0,none⟩)] W fun e w' => ∃ v', e = .returned v' ∧ w'.ownsRow W.heap.size 5 1 v' xs.length (us xs) ∧ Below w.heap.size w w' := by
  obtain ⟨v, hv⟩ := h.wr
  refine (wbytes_any W b v xs _ hn hv).mono ?_
  rintro e w' ⟨v', rfl, h2, h3⟩
  exact ⟨v', rfl, h2, h.bel.trans (h3.mono h.bel.size)⟩
theorem lay_frm (w : World) (v : Value) (l : List Int) (ok : Okb l) (hl : l.length ≤ 1048576) (hs : Seen w v l) :
    Calls Tryd.prog 27 #[.int .i64 1, v] w fun e w' => ∃ u, e = .returned (.tuple #[u, .nilIface]) ∧ w'.ownsRow w.heap.size 5 1 u (frm 1 l).length (us (frm 1 l)) ∧ Below w.heap.size w w' := lay_yes w 1 v l (by decide) (by decide) ok hl hs
theorem vrs_snoc (l : List Int) (x : Int) : vrs (l ++ [x]) = vrs l ++ vr x := by rw [vrs_app]; simp [vrs]
/-- What is ahead of the lengths. -/
def hdR (g i : Int) (n : Nat) : List Int := vr g ++ (vr i ++ vr n)
theorem hdR_len (g i : Int) (n : Nat) : (hdR g i n).length ≤ 30 := by
  have h1 := vr_len g
  have h2 := vr_len i
  have h3 := vr_len n
  unfold hdR
  simp only [List.length_append]
  omega
theorem bodyR_hd (g i : Int) (ls : List Int) : bodyR ⟨g, ls, i⟩ = hdR g i ls.length ++ vrs ls := by simp [bodyR, hdR]
/-- What Lay answers. -/
def LayPost (w : World) (r : Rt) (e : Ending) (w' : World) : Prop := ∃ v, e = .returned (.tuple #[v, enoOf (layR r).1]) ∧ BOwn w' w.heap.size v (layR r).2 ∧ Below w.heap.size w w'
set_option maxRecDepth 20000 in
set_option maxHeartbeats 4000000 in
theorem rlay_to (w : World) (g i : Int) (v : Value) (ls : List Int) (h : ISeen w v ls) :
    Calls Tryd.prog 7 #[rtv g v i] w (LayPost w ⟨g, ls, i⟩) := by
  unfold LayPost
  have HS := Lib.hid h
  obtain ⟨p, c, rfl, hcell⟩ := h.form
  obtain ⟨n, hn⟩ : ∃ n, n = ls.length := ⟨_, rfl⟩
  have HC := Lib.hid hcell
  have HV := Lib.hid (valid_to (w.alloc (.cells #[.int .i64 g, .slice p ls.length c, .int .i64 i] 24)) g i _ ls (h.kb ((Below.refl _ w).alloc (Nat.le_refl _) _)))
  have B1 : Hid (Below w.heap.size w (w.alloc (.cells #[.int .i64 g, .slice p ls.length c, .int .i64 i] 24))) := Lib.hid ((Below.refl _ w).alloc (Nat.le_refl _) _)
  have HX := Lib.hid (heap_alloc_new w (.cells #[.int .i64 g, .slice p ls.length c, .int .i64 i] 24))
  rw [← hn] at HV B1 HX ⊢
  have HN := Lib.hid hn
  clear h hcell hn
  by_cases hok : okR ⟨g, ls, i⟩ = true
  case neg =>
    have HR := Lib.hid (layR_no hok)
    have hok' : okR ⟨g, ls, i⟩ = false := by simpa using hok
    rw [hok'] at HV
    clear hok hok'
    go_enter Tryd.func7, Tryd.ntmps7
    go_wp2_with fail
    refine HV.out.mono ?_
    rintro e w1 ⟨rfl, R⟩
    have B2 : Hid (Below w.heap.size w w1) := Lib.hid (B1.out.trans (R.mono (by simp)))
    clear R HV B1 HX
    go_wp2_with fail
    go_ret2
    exact ⟨_, by rw [HR.out]; rfl, by rw [HR.out]; exact World.ownsRow_nil _ _ _ _, B2.out⟩
  case pos =>
    have HR := Lib.hid (layR_yes hok)
    have HOK := Lib.hid (okR_iff.1 hok)
    rw [hok] at HV
    clear hok
    go_enter Tryd.func7, Tryd.ntmps7
    go_wp2_with fail
    refine HV.out.mono ?_
    rintro e w1 ⟨rfl, R⟩
    have B2 : Hid (Below w.heap.size w w1) := Lib.hid (B1.out.trans (R.mono (by simp)))
    have hx1 : w1.heap[w.heap.size]? = some (.cells #[.int .i64 g, .slice p n c, .int .i64 i] 24 (0, 0)) := (R.block _ (by simp)).trans HX.out
    have HXK : Hid (∀ W, Below w1.heap.size w1 W → W.cell? ⟨w.heap.size, 0, none⟩ = some (.int .i64 g) ∧ W.cell? ⟨w.heap.size, 1, none⟩ = some (.slice p n c) ∧ W.cell? ⟨w.heap.size, 2, none⟩ = some (.int .i64 i)) := Lib.hid (fun W hb => by
      have := (hb.block _ (lt_of_block hx1)).trans hx1
      exact ⟨by rw [cell_of_row W _ 0 _ _ _ this]; rfl, by rw [cell_of_row W _ 1 _ _ _ this]; rfl, by rw [cell_of_row W _ 2 _ _ _ this]; rfl⟩)
    have S1 : Hid (ISeen w1 (.slice p ls.length c) ls) := Lib.hid (HS.out.kb B2.out)
    clear R HX HV B1 hx1
    go_wp2_with fail
    refine (newwriter_any w1 w1.heap.size (Nat.le_refl _)).mono ?_
    rintro e w2 ⟨rfl, R1, R2, _⟩
    obtain ⟨b, hb⟩ : ∃ b, b = w1.heap.size := ⟨_, rfl⟩
    rw [← hb]
    have W2 : Hid (Wro 95 w1 w2 b []) := Lib.hid ⟨⟨_, by rw [hb]; exact R1⟩, R2⟩
    clear R1 R2 hb
    obtain ⟨c0, c1, c2⟩ := HXK.out _ W2.out.bel
    go_wp2_with fail
    refine (wvar_wro w1 w2 b _ g (by decide) W2.out).mono ?_
    rintro e w3 ⟨rfl, W3'⟩
    have W3 := Lib.hid W3'
    clear W3' W2 c0 c1 c2
    obtain ⟨c0, c1, c2⟩ := HXK.out _ W3.out.bel
    go_wp2_with fail
    refine (wvar_wro w1 w3 b _ i (by have := vr_len g; simp only [List.length_append, List.length_nil]; omega) W3.out).mono ?_
    rintro e w4 ⟨rfl, W4'⟩
    have W4 := Lib.hid W4'
    clear W4' W3 c0 c1 c2
    obtain ⟨c0, c1, c2⟩ := HXK.out _ W4.out.bel
    go_wp2_with fail
    refine (wvar_wro w1 w4 b _ (n : Int) (by have := vr_len g; have := vr_len i; simp only [List.length_append, List.length_nil]; omega) W4.out).mono ?_
    rintro e w5 ⟨rfl, W5'⟩
    have W5 : Hid (Wro 95 w1 w5 b (hdR g i n ++ vrs (ls.take 0))) := Lib.hid (by
      have : hdR g i n ++ vrs (ls.take 0) = [] ++ vr g ++ vr i ++ vr (n : Int) := by simp [hdR, vrs]
      rw [this]; exact W5')
    clear W5' W4 c0 c1 c2
    obtain ⟨c0, c1, c2⟩ := HXK.out _ W5.out.bel
    go_wp2_with fail
    go_loopw [28] (fun k wr => ∃ j : Nat, j ≤ n ∧ k = .int .i64 j ∧ Hid (Wro 95 w1 wr b (hdR g i n ++ vrs (ls.take j)))) (fun k _ => n - (intOf k).toNat)
    case atStart => exact ⟨0, Nat.zero_le _, rfl, W5⟩
    case round =>
      clear c0 c1 c2 W5
      obtain ⟨j, hj, rfl, HB⟩ := hrel
      have hn8 : n ≤ 8 := by have := HOK.out.2.2.1; rw [HN.out]; exact this
      by_cases hlt : j < n
      · have hlt' : (j : Int) < n := by omega
        obtain ⟨x, hx⟩ : ∃ x, ls[j]? = some x := ⟨ls[j]'(by rw [← HN.out]; exact hlt), List.getElem?_eq_getElem _⟩
        obtain ⟨a, rfl, hca⟩ := HC.out j x hx
        have hc : wr.cell? (a.add j) = some (.int .i64 x) := by
          rw [World.cell?_of_block (w := w) ((B2.out.trans (HB.out.bel.mono B2.out.size)).block _ (World.block_lt_of_cell? w _ hca))]; exact hca
        have HT : Hid (vrs (ls.take (j + 1)) = vrs (ls.take j) ++ vr x) := Lib.hid (by rw [List.take_add_one, hx, ← vrs_snoc]; rfl)
        have HL : Hid ((hdR g i n ++ vrs (ls.take j)).length < 1000000000) := Lib.hid (by
          have h1 := hdR_len g i n
          have h2 := vrs_len (ls.take j)
          have h3 := HOK.out.2.2.1
          have h4 : (ls.take j).length ≤ 8 := by rw [List.length_take]; exact Nat.le_trans (Nat.min_le_right _ _) h3
          rw [List.length_append]; omega)
        clear hca hx
        go_wp2_with fail
        refine (wvar_wro w1 wr b _ x HL.out HB.out).mono ?_
        rintro e w6 ⟨rfl, W6'⟩
        have W6 := Lib.hid W6'
        clear W6' hc
        go_wp2_with fail
        refine ⟨⟨j + 1, by omega, by go_num, Lib.hid ?_⟩, by simp [intOf]; omega⟩
        rw [HT.out, ← List.append_assoc]
        exact W6.out
      · have hlt' : ¬ (j : Int) < n := by omega
        have W7 : Hid (Wro 95 w1 wr b (bodyR ⟨g, ls, i⟩)) := Lib.hid (by
          have := HB.out
          rw [List.take_of_length_le (by rw [← HN.out]; omega)] at this
          rw [bodyR_hd, ← HN.out]
          exact this)
        have HBL : Hid ((bodyR ⟨g, ls, i⟩).length ≤ 110) := Lib.hid (bodyR_len HOK.out.2.2.1)
        clear HB hlt hj
        go_wp2_with fail
        refine (wbytes_wro w1 wr b _ (by have := HBL.out; omega) W7.out).mono ?_
        rintro e w8 ⟨v8, rfl, o8, b8⟩
        have O8 := Lib.hid (Seen.own o8)
        have B8 := Lib.hid b8
        clear o8 b8
        go_wp2_with fail
        refine (lay_frm w8 v8 _ (bodyR_ok _) (by have := HBL.out; omega) O8.out).mono ?_
        rintro e w9 ⟨v9, rfl, o9, b9⟩
        have O9 := Lib.hid o9
        have B9 : Hid (Below w.heap.size w w9) := Lib.hid (B2.out.trans ((B8.out.trans (b9.mono B8.out.size)).mono B2.out.size))
        have HSZ : Hid (w.heap.size ≤ w8.heap.size) := Lib.hid (Nat.le_trans B2.out.size B8.out.size)
        clear o9 b9
        go_wp2_with fail
        go_ret2
        exact ⟨v9, by rw [HR.out]; rfl, by rw [HR.out]; exact O9.out.mono HSZ.out, B9.out⟩
end Go.Proofs.YtfneadlknieppaaDoor
