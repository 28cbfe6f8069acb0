/- Slices of numbers: seen, owned; what a root's Lay answers. No condition. · What Lay answers for a root. No condition. · What decode makes of a body. The body is within what a slice may take up. · What Read and Load answer. The bytes are bytes, within what a slice may take up. -/
import Derived.Test.YtfneadlknieppaaGreatDoorRootF
import Derived.Test.YtfneadlknieppaaGreatDoorOctWv
import Derived.Test.YtfneadlknieppaaGreatDoorFrmN
import Derived.Laws.Rows
import Derived.Laws.ResultCell
import Derived.Test.YtfneadlknieppaaGreatDoorOctR
import Derived.Test.YtfneadlknieppaaGreatDoorLogC
import Derived.Test.YtfneadlknieppaaGreatDoorFrmK
import Derived.Test.YtfneadlknieppaaGreatDoorDskN
import Derived.Lib.Bytes
namespace Go.Proofs.YtfneadlknieppaaGreatDoor
open Go.RowKit
open Go.Maps

abbrev iv (l : List Int) : List Value := l.map (Value.int .i64)
/-- The slice v holds the numbers l. -/
def ISeen (w : World) (v : Value) (l : List Int) : Prop :=
  (v = .slice none 0 0 ∧ l = []) ∨ ∃ a cap, v = .slice (some a) l.length cap ∧ l.length ≤ cap ∧ ∀ j u, (iv l)[j]? = some u → w.cell? (a.add j) = some u
abbrev IOwn (w : World) (B : Nat) (v : Value) (l : List Int) : Prop := w.ownsRow B 3 1 v l.length (iv l)
theorem ISeen.kb {w w' : World} {v : Value} {l : List Int} (h : ISeen w v l) (hb : Below w.heap.size w w') : ISeen w' v l := by
  rcases h with h | ⟨a, cap, rfl, hc, hu⟩
  · exact .inl h
  · refine .inr ⟨a, cap, rfl, hc, fun j u hj => ?_⟩
    have h1 := hu j u hj
    have h2 := World.block_lt_of_cell? w _ h1
    rw [World.cell?_of_block (w := w) (hb.block _ h2)]
    exact h1
theorem ISeen.only {w w' : World} {v : Value} {l : List Int} {T : Nat → Prop} (h : ISeen w v l) (ho : Only T w w') (hT : ∀ k, v.ownBlock = some k → ¬ T k) : ISeen w' v l := by
  rcases h with h | ⟨a, cap, rfl, hc, hu⟩
  · exact .inl h
  · refine .inr ⟨a, cap, rfl, hc, fun j u hj => ?_⟩
    have h1 := hu j u hj
    have h2 := World.block_lt_of_cell? w _ h1
    rw [World.cell?_of_block (w := w) (ho.block _ h2 (by rw [Addr.add_block]; exact hT _ rfl))]
    exact h1
theorem ISeen.nil (w : World) : ISeen w (.slice none 0 0) [] := .inl ⟨rfl, rfl⟩
theorem ISeen.own {w : World} {B : Nat} {v : Value} {l : List Int} (h : IOwn w B v l) : ISeen w v l := by
  have hc : ∀ g, v.ownBlock = some g → _ := fun g hg => h.cells (g := g) hg
  rcases h.2 with ⟨rfl, h0⟩ | ⟨g, cap, cur, rfl, _, _, hn, _⟩
  · exact .inl ⟨rfl, List.eq_nil_of_length_eq_zero h0⟩
  · exact .inr ⟨_, cap, rfl, hn, hc _ rfl⟩
theorem ISeen.form {w : World} {v : Value} {l : List Int} (h : ISeen w v l) : ∃ p c, v = .slice p l.length c ∧ ∀ j x, l[j]? = some x → ∃ a, p = some a ∧ w.cell? (a.add j) = some (.int .i64 x) := by
  rcases h with ⟨rfl, rfl⟩ | ⟨a, c, rfl, _, h⟩
  · exact ⟨none, 0, rfl, fun j x hx => by simp at hx⟩
  · exact ⟨some a, c, rfl, fun j x hx => ⟨a, rfl, h j _ (by simp [hx])⟩⟩
theorem iown_at {w : World} {B : Nat} {v : Value} {l : List Int} (h : IOwn w B v l) (hl : 0 < l.length) : ∃ g c, v = .slice (some ⟨g, 0, none⟩) l.length c ∧ B ≤ g ∧ g < w.heap.size ∧ ∀ j x, l[j]? = some x → w.cell? ⟨g, j, none⟩ = some (.int .i64 x) := by
  have h0 := h
  rcases h.2 with ⟨rfl, e⟩ | ⟨g, cap, cur, rfl, hb, hg, hn, _⟩
  · omega
  · refine ⟨g, cap, rfl, hb, (h0.lt g rfl).2, fun j x hj => ?_⟩
    have := h0.cells (g := g) rfl j (.int .i64 x) (by simp [hj])
    rwa [Addr.add_lit, Nat.zero_add] at this
theorem iinfo : (Tryz.prog.info? 3).map (fun i => (i.zero, i.size, i.bytes)) = some (some (.int .i64 0), 1, 8) := by kernel_rfl
theorem set3 {w : World} {b : Nat} {x y z g v i : Value} {T : TypeId} (h : w.heap[b]? = some (.cells #[x, y, z] T (0, 0))) : (((w.setCell ⟨b, 0, none⟩ g).setCell ⟨b, 1, none⟩ v).setCell ⟨b, 2, none⟩ i).heap[b]? = some (.cells #[g, v, i] T (0, 0)) := by
  have h1 := Lib.heap_setCell_same (i := 0) h g
  have h2 := Lib.heap_setCell_same (i := 1) h1 v
  exact Lib.heap_setCell_same (i := 2) h2 i
theorem only3 {S : Nat → Prop} {a w : World} {b : Nat} (h : Only S a w) (hb : S b) (g v i : Value) : Only S a (((w.setCell ⟨b, 0, none⟩ g).setCell ⟨b, 1, none⟩ v).setCell ⟨b, 2, none⟩ i) := ((h.setCell (p := ⟨b, 0, none⟩) hb g).setCell (p := ⟨b, 1, none⟩) hb v).setCell (p := ⟨b, 2, none⟩) hb i
theorem three_cells {w : World} {b : Nat} {x y z : Value} {T : TypeId} (h : w.heap[b]? = some (.cells #[x, y, z] T (0, 0))) : w.cell? ⟨b, 0, none⟩ = some x ∧ w.cell? ⟨b, 1, none⟩ = some y ∧ w.cell? ⟨b, 2, none⟩ = some z ∧ ∀ i, w.frozen? ⟨b, i, none⟩ = false :=
  ⟨by rw [cell_of_row w b 0 _ _ _ h]; rfl, by rw [cell_of_row w b 1 _ _ _ h]; rfl, by rw [cell_of_row w b 2 _ _ _ h]; rfl, fun i => by simp [World.frozen?, h]⟩
/-- A result that lies in a block of its own, beside a value. -/
theorem res_two {P : Program} {fn : Func} {p u : Tmp} {ty : TypeId} (h : fn.results = #[.cell p ty, .tmp u]) (tmps : Array Value) (w : World) (g : Nat) (t : TypeId) (cs : Array Value) (fr : Nat × Nat) (d : TypeDesc)
    (hp : tmps.getD p undef = .pointer (some ⟨g, 0, none⟩)) (hg : w.heap[g]? = some (.cells cs t fr))
    (hu : P.underlying ty = some d) (hd : (match d with | .struct _ | .array _ _ => true | _ => false) = true) (hi : (P.info? ty).map (·.size) = some cs.size) :
    (results fn tmps).run P w = .ok (.tuple #[.agg cs, tmps.getD u undef]) w := by
  have hp' : tmps[p]?.getD undef = .pointer (some ⟨g, 0, none⟩) := by simpa using hp
  rw [results_cell_tmp h]
  simp [hp', asAddr, run_loadVar_row w g t ty cs fr d hg hu hd hi]
/-- A root by value. -/
abbrev rtv (g : Int) (v : Value) (i : Int) : Value := .agg #[.int .i64 g, v, .int .i64 i]
theorem inRange_to (w : World) (n : Int) : Calls Tryz.prog 86 #[.int .i64 n] w fun e w' => e = .returned (.bool (fin n)) ∧ w = w' := by
  unfold fin
  by_cases h1 : 0 ≤ n
  · by_cases h2 : n ≤ 1099511627776
    all_goals
      go_enter Tryz.func86, Tryz.ntmps86
      go_wp2
      go_ret
      simp [h1, h2]
  · have h1' : ¬ n ≥ 0 := h1
    go_enter Tryz.func86, Tryz.ntmps86
    go_wp2
    go_ret
    simp
    omega
set_option maxRecDepth 20000 in
set_option maxHeartbeats 2000000 in
theorem valid_to (w : World) (g i : Int) (v : Value) (ls : List Int) (h : ISeen w v ls) :
    Calls Tryz.prog 55 #[rtv g v i] w fun e w' => e = .returned (.bool (okR ⟨g, ls, i⟩)) ∧ Below w.heap.size w w' := by
  obtain ⟨p, c, rfl, hcell⟩ := h.form
  obtain ⟨n, hn⟩ : ∃ n, n = ls.length := ⟨_, rfl⟩
  have hR : okR ⟨g, ls, i⟩ = (fin g && fin i && decide (n ≤ 8) && ls.all fin) := by rw [hn]; rfl
  rw [← hn, hR]
  have b1 : Below w.heap.size w (w.alloc (.cells #[.int .i64 g, .slice p n c, .int .i64 i] 45)) := (Below.refl _ w).alloc (Nat.le_refl _) _
  have B1 := Lib.hid b1
  have HN := Lib.hid hn
  have HC := Lib.hid hcell
  clear h hcell hR hn b1
  cases hg : fin g with
  | false =>
    go_enter Tryz.func55, Tryz.ntmps55
    go_wp2_with (go_at_call 86; refine (inRange_to _ _).mono ?_; rintro e w' ⟨rfl, rfl⟩; rw [hg])
    go_ret
    exact ⟨rfl, B1.out⟩
  | true =>
    cases hi : fin i with
    | false =>
      go_enter Tryz.func55, Tryz.ntmps55
      go_wp2_with (go_at_call 86; refine (inRange_to _ _).mono ?_; rintro e w' ⟨rfl, rfl⟩; first | rw [hg] | rw [hi])
      go_ret
      exact ⟨rfl, B1.out⟩
    | true =>
      by_cases h8 : n ≤ 8
      case neg =>
        have h8' : (n : Int) > 8 := by omega
        have H8 := Lib.hid h8
        clear h8
        go_enter Tryz.func55, Tryz.ntmps55
        go_wp2_with (go_at_call 86; refine (inRange_to _ _).mono ?_; rintro e w' ⟨rfl, rfl⟩; first | rw [hg] | rw [hi])
        go_ret
        exact ⟨by simp [H8.out], B1.out⟩
      case pos =>
        have h8' : ¬ (n : Int) > 8 := by omega
        have H8 := Lib.hid h8
        clear h8
        go_enter Tryz.func55, Tryz.ntmps55
        go_wp2_with (go_at_call 86; refine (inRange_to _ _).mono ?_; rintro e w' ⟨rfl, rfl⟩; first | rw [hg] | rw [hi])
        go_loopw [24] (fun k wr => ∃ j : Nat, j ≤ n ∧ k = .int .i64 j ∧ Hid ((ls.take j).all fin = true) ∧ Hid (Below w.heap.size w wr)) (fun k _ => n - (intOf k).toNat)
        case atStart => exact ⟨0, Nat.zero_le _, rfl, Lib.hid rfl, B1⟩
        case round =>
          obtain ⟨j, hj, rfl, HA, HB⟩ := hrel
          by_cases hlt : j < n
          · have hlt' : (j : Int) < n := by omega
            obtain ⟨x, hx⟩ : ∃ x, ls[j]? = some x := ⟨ls[j]'(by rw [← HN.out]; exact hlt), List.getElem?_eq_getElem _⟩
            obtain ⟨a, rfl, hca⟩ := HC.out j x hx
            have hc : wr.cell? (a.add j) = some (.int .i64 x) := by
              rw [World.cell?_of_block (w := w) (HB.out.block _ (World.block_lt_of_cell? w _ hca))]; exact hca
            have HX := Lib.hid hx
            clear hca hx
            cases hf : fin x with
            | true =>
              go_wp2_with (go_at_call 86; refine (inRange_to _ _).mono ?_; rintro e w' ⟨rfl, rfl⟩; rw [hf])
              refine ⟨⟨j + 1, by omega, by go_num, Lib.hid ?_, HB⟩, by simp [intOf]; omega⟩
              rw [List.take_add_one, HX.out]
              simp [HA.out, hf]
            | false =>
              go_wp2_with (go_at_call 86; refine (inRange_to _ _).mono ?_; rintro e w' ⟨rfl, rfl⟩; rw [hf])
              go_ret
              refine ⟨?_, HB.out⟩
              have : ls.all fin = false := List.all_eq_false.2 ⟨x, List.mem_of_getElem? HX.out, by simp [hf]⟩
              rw [this]; simp
          · have hlt' : ¬ (j : Int) < n := by omega
            go_wp2_with fail
            go_ret
            refine ⟨?_, HB.out⟩
            have := HA.out
            rw [List.take_of_length_le (by rw [← HN.out]; omega)] at this
            rw [this]; simp [H8.out]
end Go.Proofs.YtfneadlknieppaaGreatDoor
namespace Go.Proofs.YtfneadlknieppaaGreatDoor
open Go.RowKit
open Go.Maps

theorem wvar_to (w : World) (b : Nat) (v : Value) (xs : List Int) (n : Int) (B : Nat) (hn : xs.length < 1000000000) (h : Wr 150 B w b v xs) :
    Calls Tryz.prog 57 #[.pointer (some ⟨b,0,none⟩), .int .i64 n] w fun e w' => e = .returned (.tuple #[]) ∧ Wrote 150 B w b v (xs ++ vr n) w' := wvar_any w b v xs n B hn h
/-- A Writer of the caller's own. -/
structure Wro (T : Nat) (w W : World) (b : Nat) (xs : List Int) : Prop where
  wr : ∃ v, Wr T w.heap.size W b v xs
  bel : Below w.heap.size w W
theorem Wro.kb {T : Nat} {w W W' : World} {b : Nat} {xs : List Int} (h : Wro T w W b xs) (hb : Below W.heap.size W W') : Wro T w W' b xs := ⟨let ⟨v, hv⟩ := h.wr; ⟨v, hv.kb hb⟩, h.bel.trans (hb.mono h.bel.size)⟩
theorem Wro.step {T : Nat} {w W W' : World} {b : Nat} {v : Value} {xs ys : List Int} (h : Below w.heap.size w W) (hv : Wr T w.heap.size W b v xs) (hw : Wrote T w.heap.size W b v ys W') : Wro T w W' b ys := by
  obtain ⟨v', h1, h2, _⟩ := hw
  exact ⟨⟨v', h1⟩, h.trans (hv.below h2)⟩
theorem wvar_wro (w W : World) (b : Nat) (xs : List Int) (n : Int) (hn : xs.length < 1000000000) (h : Wro 150 w W b xs) :
    Calls Tryz.prog 57 #[.pointer (some ⟨b,0,none⟩), .int .i64 n] W fun e w' => e = .returned (.tuple #[]) ∧ Wro 150 w w' b (xs ++ vr n) := by
  obtain ⟨v, hv⟩ := h.wr
  refine (wvar_to W b v xs n _ hn hv).mono ?_
  rintro e w' ⟨rfl, h2⟩
  exact ⟨rfl, Wro.step h.bel hv h2⟩
theorem wbytes_wro (w W : World) (b : Nat) (xs : List Int) (hn : xs.length < 1000000000) (h : Wro 150 w W b xs) :
    Calls Tryz.prog 59 #[.pointer (some ⟨b,0,none⟩)] W fun e w' => ∃ v', e = .returned v' ∧ w'.ownsRow W.heap.size 5 1 v' xs.length (us xs) ∧ Below w.heap.size w w' := by
  obtain ⟨v, hv⟩ := h.wr
  refine (wbytes_any W b v xs _ hn hv).mono ?_
  rintro e w' ⟨v', rfl, h2, h3⟩
  exact ⟨v', rfl, h2, h.bel.trans (h3.mono h.bel.size)⟩
theorem lay_frm (w : World) (v : Value) (l : List Int) (ok : Okb l) (hl : l.length ≤ 1048576) (hs : Seen w v l) :
    Calls Tryz.prog 58 #[.int .i64 1, v] w fun e w' => ∃ u, e = .returned (.tuple #[u, .nilIface]) ∧ w'.ownsRow w.heap.size 5 1 u (frm 1 l).length (us (frm 1 l)) ∧ Below w.heap.size w w' := lay_yes w 1 v l (by decide) (by decide) ok hl hs
theorem vrs_snoc (l : List Int) (x : Int) : vrs (l ++ [x]) = vrs l ++ vr x := by rw [vrs_app]; simp [vrs]
/-- What is ahead of the lengths. -/
def hdR (g i : Int) (n : Nat) : List Int := vr g ++ (vr i ++ vr n)
theorem hdR_len (g i : Int) (n : Nat) : (hdR g i n).length ≤ 30 := by
  have h1 := vr_len g
  have h2 := vr_len i
  have h3 := vr_len n
  unfold hdR
  simp only [List.length_append]
  omega
theorem bodyR_hd (g i : Int) (ls : List Int) : bodyR ⟨g, ls, i⟩ = hdR g i ls.length ++ vrs ls := by simp [bodyR, hdR]
/-- What Lay answers. -/
def LayPost (w : World) (r : Rt) (e : Ending) (w' : World) : Prop := ∃ v, e = .returned (.tuple #[v, enoOf (layR r).1]) ∧ BOwn w' w.heap.size v (layR r).2 ∧ Below w.heap.size w w'
set_option maxRecDepth 20000 in
set_option maxHeartbeats 4000000 in
theorem rlay_to (w : World) (g i : Int) (v : Value) (ls : List Int) (h : ISeen w v ls) :
    Calls Tryz.prog 27 #[rtv g v i] w (LayPost w ⟨g, ls, i⟩) := by
  unfold LayPost
  have HS := Lib.hid h
  obtain ⟨p, c, rfl, hcell⟩ := h.form
  obtain ⟨n, hn⟩ : ∃ n, n = ls.length := ⟨_, rfl⟩
  have HC := Lib.hid hcell
  have HV := Lib.hid (valid_to (w.alloc (.cells #[.int .i64 g, .slice p ls.length c, .int .i64 i] 45)) g i _ ls (h.kb ((Below.refl _ w).alloc (Nat.le_refl _) _)))
  have B1 : Hid (Below w.heap.size w (w.alloc (.cells #[.int .i64 g, .slice p ls.length c, .int .i64 i] 45))) := Lib.hid ((Below.refl _ w).alloc (Nat.le_refl _) _)
  have HX := Lib.hid (heap_alloc_new w (.cells #[.int .i64 g, .slice p ls.length c, .int .i64 i] 45))
  rw [← hn] at HV B1 HX ⊢
  have HN := Lib.hid hn
  clear h hcell hn
  by_cases hok : okR ⟨g, ls, i⟩ = true
  case neg =>
    have HR := Lib.hid (layR_no hok)
    have hok' : okR ⟨g, ls, i⟩ = false := by simpa using hok
    rw [hok'] at HV
    clear hok hok'
    go_enter Tryz.func27, Tryz.ntmps27
    go_wp2_with fail
    refine HV.out.mono ?_
    rintro e w1 ⟨rfl, R⟩
    have B2 : Hid (Below w.heap.size w w1) := Lib.hid (B1.out.trans (R.mono (by simp)))
    clear R HV B1 HX
    go_wp2_with fail
    go_ret2
    exact ⟨_, by rw [HR.out]; rfl, by rw [HR.out]; exact World.ownsRow_nil _ _ _ _, B2.out⟩
  case pos =>
    have HR := Lib.hid (layR_yes hok)
    have HOK := Lib.hid (okR_iff.1 hok)
    rw [hok] at HV
    clear hok
    go_enter Tryz.func27, Tryz.ntmps27
    go_wp2_with fail
    refine HV.out.mono ?_
    rintro e w1 ⟨rfl, R⟩
    have B2 : Hid (Below w.heap.size w w1) := Lib.hid (B1.out.trans (R.mono (by simp)))
    have hx1 : w1.heap[w.heap.size]? = some (.cells #[.int .i64 g, .slice p n c, .int .i64 i] 45 (0, 0)) := (R.block _ (by simp)).trans HX.out
    have HXK : Hid (∀ W, Below w1.heap.size w1 W → W.cell? ⟨w.heap.size, 0, none⟩ = some (.int .i64 g) ∧ W.cell? ⟨w.heap.size, 1, none⟩ = some (.slice p n c) ∧ W.cell? ⟨w.heap.size, 2, none⟩ = some (.int .i64 i)) := Lib.hid (fun W hb => by
      have := (hb.block _ (lt_of_block hx1)).trans hx1
      exact ⟨by rw [cell_of_row W _ 0 _ _ _ this]; rfl, by rw [cell_of_row W _ 1 _ _ _ this]; rfl, by rw [cell_of_row W _ 2 _ _ _ this]; rfl⟩)
    have S1 : Hid (ISeen w1 (.slice p ls.length c) ls) := Lib.hid (HS.out.kb B2.out)
    clear R HX HV B1 hx1
    go_wp2_with fail
    refine (newwriter_any w1 w1.heap.size (Nat.le_refl _)).mono ?_
    rintro e w2 ⟨rfl, R1, R2, _⟩
    obtain ⟨b, hb⟩ : ∃ b, b = w1.heap.size := ⟨_, rfl⟩
    rw [← hb]
    have W2 : Hid (Wro 150 w1 w2 b []) := Lib.hid ⟨⟨_, by rw [hb]; exact R1⟩, R2⟩
    clear R1 R2 hb
    obtain ⟨c0, c1, c2⟩ := HXK.out _ W2.out.bel
    go_wp2_with fail
    refine (wvar_wro w1 w2 b _ g (by decide) W2.out).mono ?_
    rintro e w3 ⟨rfl, W3'⟩
    have W3 := Lib.hid W3'
    clear W3' W2 c0 c1 c2
    obtain ⟨c0, c1, c2⟩ := HXK.out _ W3.out.bel
    go_wp2_with fail
    refine (wvar_wro w1 w3 b _ i (by have := vr_len g; simp only [List.length_append, List.length_nil]; omega) W3.out).mono ?_
    rintro e w4 ⟨rfl, W4'⟩
    have W4 := Lib.hid W4'
    clear W4' W3 c0 c1 c2
    obtain ⟨c0, c1, c2⟩ := HXK.out _ W4.out.bel
    go_wp2_with fail
    refine (wvar_wro w1 w4 b _ (n : Int) (by have := vr_len g; have := vr_len i; simp only [List.length_append, List.length_nil]; omega) W4.out).mono ?_
    rintro e w5 ⟨rfl, W5'⟩
    have W5 : Hid (Wro 150 w1 w5 b (hdR g i n ++ vrs (ls.take 0))) := Lib.hid (by
      have : hdR g i n ++ vrs (ls.take 0) = [] ++ vr g ++ vr i ++ vr (n : Int) := by simp [hdR, vrs]
      rw [this]; exact W5')
    clear W5' W4 c0 c1 c2
    obtain ⟨c0, c1, c2⟩ := HXK.out _ W5.out.bel
    go_wp2_with fail
    go_loopw [28] (fun k wr => ∃ j : Nat, j ≤ n ∧ k = .int .i64 j ∧ Hid (Wro 150 w1 wr b (hdR g i n ++ vrs (ls.take j)))) (fun k _ => n - (intOf k).toNat)
    case atStart => exact ⟨0, Nat.zero_le _, rfl, W5⟩
    case round =>
      clear c0 c1 c2 W5
      obtain ⟨j, hj, rfl, HB⟩ := hrel
      have hn8 : n ≤ 8 := by have := HOK.out.2.2.1; rw [HN.out]; exact this
      by_cases hlt : j < n
      · have hlt' : (j : Int) < n := by omega
        obtain ⟨x, hx⟩ : ∃ x, ls[j]? = some x := ⟨ls[j]'(by rw [← HN.out]; exact hlt), List.getElem?_eq_getElem _⟩
        obtain ⟨a, rfl, hca⟩ := HC.out j x hx
        have hc : wr.cell? (a.add j) = some (.int .i64 x) := by
          rw [World.cell?_of_block (w := w) ((B2.out.trans (HB.out.bel.mono B2.out.size)).block _ (World.block_lt_of_cell? w _ hca))]; exact hca
        have HT : Hid (vrs (ls.take (j + 1)) = vrs (ls.take j) ++ vr x) := Lib.hid (by rw [List.take_add_one, hx, ← vrs_snoc]; rfl)
        have HL : Hid ((hdR g i n ++ vrs (ls.take j)).length < 1000000000) := Lib.hid (by
          have h1 := hdR_len g i n
          have h2 := vrs_len (ls.take j)
          have h3 := HOK.out.2.2.1
          have h4 : (ls.take j).length ≤ 8 := by rw [List.length_take]; exact Nat.le_trans (Nat.min_le_right _ _) h3
          rw [List.length_append]; omega)
        clear hca hx
        go_wp2_with fail
        refine (wvar_wro w1 wr b _ x HL.out HB.out).mono ?_
        rintro e w6 ⟨rfl, W6'⟩
        have W6 := Lib.hid W6'
        clear W6' hc
        go_wp2_with fail
        refine ⟨⟨j + 1, by omega, by go_num, Lib.hid ?_⟩, by simp [intOf]; omega⟩
        rw [HT.out, ← List.append_assoc]
        exact W6.out
      · have hlt' : ¬ (j : Int) < n := by omega
        have W7 : Hid (Wro 150 w1 wr b (bodyR ⟨g, ls, i⟩)) := Lib.hid (by
          have := HB.out
          rw [List.take_of_length_le (by rw [← HN.out]; omega)] at this
          rw [bodyR_hd, ← HN.out]
          exact this)
        have HBL : Hid ((bodyR ⟨g, ls, i⟩).length ≤ 110) := Lib.hid (bodyR_len HOK.out.2.2.1)
        clear HB hlt hj
        go_wp2_with fail
        refine (wbytes_wro w1 wr b _ (by have := HBL.out; omega) W7.out).mono ?_
        rintro e w8 ⟨v8, rfl, o8, b8⟩
        have O8 := Lib.hid (Seen.own o8)
        have B8 := Lib.hid b8
        clear o8 b8
        go_wp2_with fail
        refine (lay_frm w8 v8 _ (bodyR_ok _) (by have := HBL.out; omega) O8.out).mono ?_
        rintro e w9 ⟨v9, rfl, o9, b9⟩
        have O9 := Lib.hid o9
        have B9 : Hid (Below w.heap.size w w9) := Lib.hid (B2.out.trans ((B8.out.trans (b9.mono B8.out.size)).mono B2.out.size))
        have HSZ : Hid (w.heap.size ≤ w8.heap.size) := Lib.hid (Nat.le_trans B2.out.size B8.out.size)
        clear o9 b9
        go_wp2_with fail
        go_ret2
        exact ⟨v9, by rw [HR.out]; rfl, by rw [HR.out]; exact O9.out.mono HSZ.out, B9.out⟩
end Go.Proofs.YtfneadlknieppaaGreatDoor
namespace Go.Proofs.YtfneadlknieppaaGreatDoor
open Go.RowKit
open Go.Maps

theorem below_dw {n : Nat} {w w' : World} (h : Below n w w') : Below n w w'.drew := ⟨h.os, h.tape, h.output, h.size, h.block⟩
theorem nx_post {T B b : Nat} {w : World} {v : Value} {l : List Int} {lk : Bool} {e : Ending} {w' : World} (h : VarPost T B w b v lk (rv 10 0 0 l) e w') : e = .returned (.int .i64 (nxV l lk).1) ∧ Rdd T B w b v (nxV l lk).2.1 (nxV l lk).2.2 w' := by
  unfold VarPost at h
  unfold nxV pV
  cases hr : rv 10 0 0 l with
  | none => rw [hr] at h; exact h
  | some p => obtain ⟨x, l'⟩ := p; rw [hr] at h; exact h
theorem rvar_nx (w : World) (B b : Nat) (v : Value) (l : List Int) (lk : Bool) (h : Rd 185 B w b v l lk) :
    Calls Tryz.prog 107 #[.pointer (some ⟨b, 0, none⟩)] w fun e w' => e = .returned (.int .i64 (nxV l lk).1) ∧ Rdd 185 B w b v (nxV l lk).2.1 (nxV l lk).2.2 w' :=
  (rvar_any B w b v l lk h).mono fun _ _ h => nx_post h
/-- A decoder at work: what is read, the root at q, its lengths. -/
structure Dc (T U : Nat) (w wr : World) (M b q : Nat) (body : List Int) (g i n : Int) (ls : List Int) (lv : Value) : Prop where
  rd : ∃ v l lk, Rd T w.heap.size wr b v l lk ∧ (∀ k, v.ownBlock = some k → k < M) ∧ RdAt body g i n ls l lk
  obj : wr.heap[q]? = some (.cells #[.int .i64 g, lv, .int .i64 i] U (0, 0))
  own : IOwn wr M lv ls
  bel : Below w.heap.size w wr
  res : wr.heap[w.heap.size]? = some (.cells #[.int .i64 0, .slice none 0 0, .int .i64 0] U (0, 0))
  ge : M ≤ q
  le : w.heap.size < M
  bm : b < M
  msz : M ≤ wr.heap.size
  bne : w.heap.size < b
theorem Dc.drew {T U M b q : Nat} {w wr : World} {body : List Int} {g i n : Int} {ls : List Int} {lv : Value} (h : Dc T U w wr M b q body g i n ls lv) : Dc T U w wr.drew M b q body g i n ls lv := by
  obtain ⟨v, l, lk, h1, h2, h3⟩ := h.rd
  exact ⟨⟨v, l, lk, h1.kb (below_dw (Below.refl _ _)), h2, h3⟩, h.obj, own_kb h.own (below_dw (Below.refl _ _)), below_dw h.bel, h.res, h.ge, h.le, h.bm, h.msz, h.bne⟩
/-- Behind the reading of one number. -/
theorem Dc.read {T U M b q : Nat} {w wr w' : World} {body : List Int} {g i n : Int} {ls : List Int} {lv v : Value} {l : List Int} {lk : Bool} (h : Dc T U w wr M b q body g i n ls lv) (hv : ∀ k, v.ownBlock = some k → k < M) (ha : RdAt body g i n ls l lk) (hn : 0 < n)
    (hp : Rdd T w.heap.size wr b v (nxV l lk).2.1 (nxV l lk).2.2 w') : wr.heap.size ≤ w'.heap.size ∧ w'.heap[q]? = some (.cells #[.int .i64 g, lv, .int .i64 i] U (0, 0)) ∧ IOwn w' M lv ls ∧ Below w.heap.size w w' ∧ w'.heap[w.heap.size]? = some (.cells #[.int .i64 0, .slice none 0 0, .int .i64 0] U (0, 0)) ∧
    ∃ v' l' lk', Rd T w.heap.size w' b v' l' lk' ∧ (∀ k, v'.ownBlock = some k → k < M) ∧ RdAt body g i (n - 1) (ls ++ [(nxV l lk).1]) l' lk' := by
  obtain ⟨v', h1, h2, h3⟩ := hp
  have hm := h.msz
  have hge := h.ge
  have hbm := h.bm
  have hbn := h.bne
  refine ⟨h2.size, (h2.block _ (lt_of_block h.obj) (by omega)).trans h.obj, own_kept h.own h2 (fun k hk e => by have := (h.own.lt k hk).1; omega), h.bel.trans (h2.below h.bel.size (fun k hk => by omega)), (h2.block _ (lt_of_block h.res) (by omega)).trans h.res, v', _, _, h1, fun k hk => hv k (h3 k hk), ha.next hn⟩
/-- Behind the laying of that number. -/
theorem Dc.laid {T U M b q gg cc : Nat} {w w1 w2 w3 : World} {body : List Int} {g i n : Int} {ls : List Int} {lv : Value} {x : Int} {H : Nat}
    (hq : w1.heap[q]? = some (.cells #[.int .i64 g, lv, .int .i64 i] U (0, 0))) (ho : IOwn w1 M lv ls) (hb : Below w.heap.size w w1) (hs : w1.heap[w.heap.size]? = some (.cells #[.int .i64 0, .slice none 0 0, .int .i64 0] U (0, 0))) (hge : M ≤ q) (hle : w.heap.size < M) (hbm : b < M) (hbn : w.heap.size < b) (hm : M ≤ w1.heap.size)
    (hr : ∃ v' l' lk', Rd T w.heap.size w1 b v' l' lk' ∧ (∀ k, v'.ownBlock = some k → k < M) ∧ RdAt body g i (n - 1) (ls ++ [x]) l' lk') (hb2 : Below w1.heap.size w1 w2) (hn : U ≠ 3)
    (own : w3.ownsRow M 3 1 (.slice (some ⟨gg, 0, none⟩) (ls.length + 1) cc) (ls.length + 1) (iv ls ++ [.int .i64 x])) (grow : w2.grownBy w3 lv.ownBlock) (hat : lv.ownBlock = some gg ∨ gg = H) (hH : w1.heap.size ≤ H) :
    w3.heap[q]? = some (.cells #[.int .i64 g, lv, .int .i64 i] U (0, 0)) ∧ Dc T U w (w3.setCell ⟨q, 1, none⟩ (.slice (some ⟨gg, 0, none⟩) (ls.length + 1) cc)) M b q body g i (n - 1) (ls ++ [x]) (.slice (some ⟨gg, 0, none⟩) (ls.length + 1) cc) := by
  have o3 : Only (fun k => lv.ownBlock = some k) w1 w3 := Only.grown (Only.of_below hb2) grow (fun k _ e => e)
  have hlv : ∀ k, lv.ownBlock = some k → M ≤ k ∧ k ≠ q := fun k hk => ⟨(ho.lt k hk).1, fun e => by
    obtain ⟨cs, hcs⟩ := own_type ho hk
    rw [e, hq] at hcs
    simp at hcs
    exact hn hcs.2⟩
  have hgq : gg ≠ q := fun e => by
    rcases hat with h | h
    · exact (hlv _ h).2 e
    · have := lt_of_block hq; omega
  have o4 : Only (fun k => lv.ownBlock = some k ∨ k = q) w1 (w3.setCell ⟨q, 1, none⟩ (.slice (some ⟨gg, 0, none⟩) (ls.length + 1) cc)) := (o3.mono (fun _ _ e => .inl e)).setCell (p := ⟨q, 1, none⟩) (.inr rfl) _
  have hq3 := (o3.block q (lt_of_block hq) (fun e => (hlv q e).2 rfl)).trans hq
  obtain ⟨v', l', lk', r1, r2, r3⟩ := hr
  refine ⟨hq3, ⟨v', l', lk', r1.kept o4 ?_ ?_, r2, r3⟩, Lib.heap_setCell_same (i := 1) hq3 _, ?_, hb.trans (o4.below hb.size ?_), (o4.block _ (lt_of_block hs) ?_).trans hs, hge, hle, hbm, Nat.le_trans hm o4.size, hbn⟩
  · rintro (e | e)
    · have := (hlv b e).1; omega
    · omega
  · rintro k hk (e | e)
    · have := (hlv k e).1; have := r2 k hk; omega
    · have := r2 k hk; omega
  · have h1 : IOwn w3 M (.slice (some ⟨gg, 0, none⟩) (ls.length + 1) cc) (ls ++ [x]) := by
      have e1 : (ls ++ [x]).length = ls.length + 1 := by simp
      unfold IOwn
      rw [e1, show iv (ls ++ [x]) = iv ls ++ [.int .i64 x] from by simp]
      exact own
    exact own_kept h1 ((Only.refl (fun k => k = q) w3).setCell (p := ⟨q, 1, none⟩) rfl _) (fun k hk e => by
      simp only [Value.ownBlock, Option.some.injEq] at hk
      exact hgq (hk.trans e))
  · rintro k (e | e)
    · have := (hlv k e).1; omega
    · omega
  · rintro (e | e)
    · have := (hlv _ e).1; omega
    · omega
theorem rdec_fit {j : Nat} (h : j ≤ 16) : j + 1 ≤ maxLen ∧ (j + 1) * 8 ≤ 140737488355328 := by unfold maxLen; omega
/-- What decode answers. -/
def RDecPost (w : World) (body : List Int) (e : Ending) (w' : World) : Prop := ∃ g v i ls, e = .returned (rtv g v i) ∧ IOwn w' w.heap.size v ls ∧ ls.length ≤ 8 ∧ DecIs body ⟨g, ls, i⟩ ∧ Below w.heap.size w w'
set_option maxRecDepth 20000 in
set_option maxHeartbeats 4000000 in
theorem rdecode_to (w : World) (u : Value) (body : List Int) (hl : body.length ≤ 140737488351232) (ok : Okb body) (hs : Seen w u body) :
    Calls Tryz.prog 82 #[u] w (RDecPost w body) := by
  have B1 : Hid (Below w.heap.size w (w.alloc (.cells #[.int .i64 0, .slice none 0 0, .int .i64 0] 45))) := Lib.hid ((Below.refl _ w).alloc (Nat.le_refl _) _)
  have H1 : Hid ((w.alloc (.cells #[.int .i64 0, .slice none 0 0, .int .i64 0] 45)).heap[w.heap.size]? = some (.cells #[.int .i64 0, .slice none 0 0, .int .i64 0] 45 (0, 0))) := Lib.hid (heap_alloc_last w _)
  have HN := Lib.hid (newreader_any (w.alloc (.cells #[.int .i64 0, .slice none 0 0, .int .i64 0] 45)) w.heap.size (by simp) u body hl ok (hs.kb B1.out))
  obtain ⟨pu, cu, rfl⟩ := len_val hs
  clear hs
  go_enter Tryz.func82, Tryz.ntmps82
  go_wp2_with fail
  refine HN.out.mono ?_
  rintro e w2 ⟨b, v2, rfl, r2, b2, gb, gv⟩
  have R2 := Lib.hid r2
  have B2 : Hid (Below w.heap.size w w2) := Lib.hid (B1.out.trans (b2.mono (by simp)))
  have H2 := Lib.hid ((b2.block _ (lt_of_block H1.out)).trans H1.out)
  have HB : Hid (w.heap.size < b ∧ b < w2.heap.size ∧ ∀ k, v2.ownBlock = some k → w.heap.size < k ∧ k < w2.heap.size) := Lib.hid ⟨by simp at gb; omega, r2.lt, fun k hk => ⟨by have := gv k hk; simp at this; omega, (r2.own k hk).2.2⟩⟩
  have F := Lib.hid (RdAt.first body)
  clear r2 b2 gb gv HN H1 B1
  go_wp2_with fail
  refine (rvar_nx w2 _ b v2 body false R2.out).mono ?_
  rintro e w3 ⟨rfl, v3, r3, o3, s3⟩
  obtain ⟨N1, hN1⟩ : ∃ z, z = nxV body false := ⟨_, rfl⟩
  rw [← hN1] at r3 F ⊢
  have R3 := Lib.hid r3
  have O3 := Lib.hid o3
  have S3 := Lib.hid s3
  clear r3 o3 s3 hN1
  go_wp2_with fail
  refine (rvar_nx w3 _ b v3 _ _ R3.out).mono ?_
  rintro e w4 ⟨rfl, v4, r4, o4, s4⟩
  obtain ⟨N2, hN2⟩ : ∃ z, z = nxV N1.2.1 N1.2.2 := ⟨_, rfl⟩
  rw [← hN2] at r4 F ⊢
  have R4 := Lib.hid r4
  have O4 : Hid (Only (fun k => k = b) w2 w4) := Lib.hid (O3.out.trans o4 (fun _ h => h) (fun _ _ h => h))
  have S4 : Hid (∀ k, v4.ownBlock = some k → v2.ownBlock = some k) := Lib.hid (fun k hk => S3.out k (s4 k hk))
  clear r4 o4 s4 hN2 R3 O3 S3
  go_wp2_with fail
  have HQ : Hid ((w4.alloc (.cells #[.int .i64 N1.1, .slice none 0 0, .int .i64 N2.1] 45)).heap[w4.heap.size]? = some (.cells #[.int .i64 N1.1, .slice none 0 0, .int .i64 N2.1] 45 (0, 0))) := Lib.hid (heap_alloc_last w4 _)
  have BQ : Hid (Below w4.heap.size w4 (w4.alloc (.cells #[.int .i64 N1.1, .slice none 0 0, .int .i64 N2.1] 45))) := Lib.hid ((Below.refl _ w4).alloc (Nat.le_refl _) _)
  generalize w4.alloc (.cells #[.int .i64 N1.1, .slice none 0 0, .int .i64 N2.1] 45) = w5 at HQ BQ ⊢
  have R5 := Lib.hid (R4.out.kb BQ.out)
  have O5 : Hid (Only (fun k => k = b) w2 w5) := Lib.hid (O4.out.trans (Only.of_below BQ.out (S := fun _ => False)) (fun _ h => h) (fun _ _ h => h.elim))
  obtain ⟨q, hq⟩ : ∃ q, q = w4.heap.size := ⟨_, rfl⟩
  have HQM : Hid (w2.heap.size ≤ q) := Lib.hid (by rw [hq]; exact O4.out.size)
  rw [← hq] at HQ ⊢
  clear hq BQ O4 R4
  refine (rvar_nx w5 _ b v4 _ _ R5.out).mono ?_
  rintro e w6 ⟨rfl, v6, r6, o6, s6⟩
  obtain ⟨N3, hN3⟩ : ∃ z, z = nxV N2.2.1 N2.2.2 := ⟨_, rfl⟩
  rw [← hN3] at r6 F ⊢
  have D6 : Hid (Dc 185 45 w w6 w2.heap.size b q body N1.1 N2.1 (N3.1 - (0 : Nat)) [] (.slice none 0 0)) := Lib.hid (by
    have O6 : Only (fun k => k = b) w2 w6 := O5.out.trans o6 (fun _ h => h) (fun _ _ h => h)
    have hb := HB.out
    refine ⟨⟨v6, _, _, r6, fun k hk => (hb.2.2 k (S4.out k (s6 k hk))).2, by simpa using F.out⟩, (o6.block _ (lt_of_block HQ.out) (by have := HQM.out; omega)).trans HQ.out, World.ownsRow_nil _ _ _ _, B2.out.trans (O6.below B2.out.size (fun k hk => by omega)), (O6.block _ (lt_of_block H2.out) (by omega)).trans H2.out, HQM.out, by omega, hb.2.1, O6.size, hb.1⟩)
  clear r6 o6 s6 hN3 F HQ R5 O5 S4 H2 B2 HB R2
  obtain ⟨n3, hn3⟩ : ∃ z, z = N3.1 := ⟨_, rfl⟩
  rw [← hn3] at D6 ⊢
  clear hn3
  obtain ⟨M, hM⟩ : ∃ z, z = w2.heap.size := ⟨_, rfl⟩
  rw [← hM] at D6
  clear hM HQM
  have HMN : Hid (∀ j : Nat, (j : Int) < min n3 8 → 0 < n3 - (j : Int) ∧ j < 8) := Lib.hid (fun j h => by omega)
  have HMX : Hid (∀ j : Nat, ¬ (j : Int) < min n3 8 → n3 - (j : Int) ≤ 0 ∨ 8 ≤ j) := Lib.hid (fun j h => by omega)
  have HM8 : Hid (min n3 8 ≤ 8) := Lib.hid (by omega)
  obtain ⟨mn, hmn⟩ : ∃ z, min n3 8 = z := ⟨_, rfl⟩
  rw [hmn] at HMN HMX HM8
  go_wp2_with fail
  obtain ⟨i0, hi0, hz0, hz1, hz2⟩ := info_parts iinfo
  go_loopw [15] (fun t wr => ∃ (j : Nat) (ls : List Int) (lv : Value), t = .int .i64 j ∧ j ≤ 8 ∧ ls.length = j ∧ Hid (Dc 185 45 w wr M b q body N1.1 N2.1 (n3 - (j : Nat)) ls lv)) (fun t _ => 8 - (intOf t).toNat)
  case atStart => exact ⟨0, [], _, rfl, by omega, rfl, D6⟩
  case round =>
    clear D6
    obtain ⟨j, ls, lv, rfl, hj8, hlj, D⟩ := hrel
    by_cases hlt : (j : Int) < mn
    case neg =>
      obtain ⟨p, c, rfl⟩ := own_slice D.out.own
      have HF := Lib.hid (HMX.out j (by omega))
      have HLJ := Lib.hid hlj
      obtain ⟨v, l, lk, _, _, hra⟩ := D.out.rd
      have HDI := Lib.hid (hra.fin8 (by rw [hlj]; exact HF.out))
      obtain ⟨c0, c1, c2, _⟩ := three_cells D.out.obj
      obtain ⟨r0, r1, r2, rf⟩ := three_cells D.out.res
      have hlt' : ¬ (j : Int) < mn := hlt
      clear hra hlj hlt hmn
      go_wp2_with fail
      (try simp only [Exit.inBlock, Exit.then])
      refine bodyPost_ret (results_cell_row rfl _ _ w.heap.size _ _ (0, 0) _ rfl (set3 D.out.res) Tryz.underlying45 rfl (by kernel_rfl)) rfl ?_
      have o := only3 (Only.refl (fun k => k = w.heap.size) wr) rfl (.int .i64 N1.1) (.slice p ls.length c) (.int .i64 N2.1)
      exact ⟨N1.1, _, N2.1, ls, rfl, (own_kept D.out.own o (fun k hk e => by have := (D.out.own.lt k hk).1; have := D.out.le; omega)).mono (Nat.le_of_lt D.out.le), by rw [HLJ.out]; exact hj8, HDI.out, D.out.bel.trans (o.below D.out.bel.size (fun k hk => by omega))⟩
    have hj7 : j < 8 := (HMN.out j hlt).2
    have HNP : Hid (0 < n3 - (j : Int)) := Lib.hid (HMN.out j hlt).1
    obtain ⟨p, c, rfl⟩ := own_slice D.out.own
    have DD := Lib.hid D.out.drew
    obtain ⟨v, l, lk, hr, hv, hra⟩ := DD.out.rd
    have HR := Lib.hid (rvar_nx wr.drew _ b v l lk hr)
    have HRD := Lib.hid (fun w' hp => DD.out.read (w' := w') hv hra HNP.out hp)
    obtain ⟨_, c1d, _, _⟩ := three_cells DD.out.obj
    have HFT := Lib.hid (rdec_fit (j := j) (by omega))
    have HLJ := Lib.hid hlj
    obtain ⟨x, hx⟩ : ∃ z, z = (nxV l lk).1 := ⟨_, rfl⟩
    rw [hlj] at c1d
    rw [← hx] at HR HRD
    clear hr hv hra hlj hmn hx
    have hlt' : (j : Int) < mn := hlt
    go_wp2_with fail
    try simp only [List.append]
    refine wp_region_noPanic ?_
    refine wp_region_any_drew (by kernel_rfl) ?_
    refine wpAny_take (i := 0) (v := ?_) (by simp only [List.getElem?_toArray, List.getElem?_cons_zero]; rfl) (by kernel_rfl) (by kernel_rfl) (by kernel_rfl) (fun _ _ _ h => h) (Or.inl ⟨by rfl, ?_⟩) ?_
    rotate_left
    · intro w
      go_simp
      try with_reducible rfl
    try simp only [Act.put, List.setIfInBounds_toArray, List.set_cons_zero, List.set_cons_succ]
    refine wpAny_take (i := 2) (v := ?_) (by simp only [List.getElem?_toArray, List.getElem?_cons_succ, List.getElem?_cons_zero]; rfl) (by kernel_rfl) (by kernel_rfl) (by kernel_rfl) (fun _ _ _ h => h) (Or.inl ⟨by rfl, ?_⟩) ?_
    rotate_left
    · intro w
      go_simp
      try with_reducible rfl
    try simp only [Act.put, List.setIfInBounds_toArray, List.set_cons_zero, List.set_cons_succ]
    refine wpAny_ready (rs := [1, 3]) (by kernel_rfl) (by simp) ?_
    refine (AllReady.cons (by simp only [List.getElem?_toArray, List.getElem?_cons_succ, List.getElem?_cons_zero]; rfl) (fun K hK => ?_) (AllReady.cons (by simp only [List.getElem?_toArray, List.getElem?_cons_succ, List.getElem?_cons_zero]; rfl) (fun K hK => ?_) AllReady.nil))
    · have HK := Lib.hid hK
      clear hK
      go_simp
      refine HK.out _ _ ?_
      clear HK K
      try simp only [Act.put, List.setIfInBounds_toArray, List.set_cons_zero, List.set_cons_succ]
      refine wpAny_ready (rs := [3]) (by kernel_rfl) (by simp) ?_
      refine (AllReady.cons (by simp only [List.getElem?_toArray, List.getElem?_cons_succ, List.getElem?_cons_zero]; rfl) (fun K hK => ?_) AllReady.nil)
      have HK := Lib.hid hK
      clear hK
      go_simp
      refine HR.out.mono ?_
      rintro e w1 ⟨rfl, hp⟩
      have HP := Lib.hid (HRD.out w1 hp)
      clear hp
      obtain ⟨_, c1w, _, _⟩ := three_cells HP.out.2.1
      rw [HLJ.out] at c1w
      go_wp2_with fail
      refine HK.out _ _ ?_
      clear HK K
      try simp only [Act.put, List.setIfInBounds_toArray, List.set_cons_zero, List.set_cons_succ]
      refine wpAny_ready (rs := [4]) (by kernel_rfl) (by simp) ?_
      refine (AllReady.cons (by simp only [List.getElem?_toArray, List.getElem?_cons_succ, List.getElem?_cons_zero]; rfl) (fun K hK => ?_) AllReady.nil)
      have HK := Lib.hid hK
      clear hK
      go_simp
      have HB4 : Hid (Below w1.heap.size w1 (w1.alloc (.cells #[.int .i64 x] 3))) := Lib.hid ((Below.refl _ w1).alloc (Nat.le_refl _) _)
      have c1a : (w1.alloc (.cells #[.int .i64 x] 3)).cell? ⟨q, 1, none⟩ = some (.slice p j c) := by rw [World.cell?_of_block (w := w1) (HB4.out.block _ (lt_of_block HP.out.2.1))]; exact c1w
      have HN4 : Hid (∀ j u, ([.int .i64 x] : List Value)[j]? = some u → (w1.alloc (.cells #[.int .i64 x] 3)).cell? ((⟨w1.heap.size, 0, none⟩ : Addr).add j) = some u) := Lib.hid (World.news_of_block (cs := #[.int .i64 x]) (t := 3) (fr := (0, 0)) (heap_alloc_new w1 _))
      refine HK.out _ _ ?_
      clear HK K
      try simp only [Act.put, List.setIfInBounds_toArray, List.set_cons_zero, List.set_cons_succ]
      refine wpAny_ready (rs := [5]) (by kernel_rfl) (by simp) ?_
      refine (AllReady.cons (by simp only [List.getElem?_toArray, List.getElem?_cons_succ, List.getElem?_cons_zero]; rfl) (fun K hK => ?_) AllReady.nil)
      have HK := Lib.hid hK
      clear hK
      refine step_append_lies _ (by rfl) _ _ _ (by rfl) M 3 i0 _ 1 8 Tryz.underlying29 hi0 hz0 hz1 hz2 rfl (by omega) (.slice p j c) j (iv ls) (by rfl) (by have := own_kb HP.out.2.2.1 HB4.out; rw [HLJ.out] at this; exact this) ⟨w1.heap.size, 0, none⟩ 1 1 [.int .i64 x] (by rfl) (by rfl) (fun j u hj => HN4.out j u hj) (by simp [Value.oneCell']) (by decide) HFT.out.1 HFT.out.2 (Nat.le_trans DD.out.msz (Nat.le_trans HP.out.1 HB4.out.size)) (w1.heap.size + 1) (by simp) ?_
      intro gg cc w5 own5 grow5 hat5 hlt5
      have HDC : Hid (w5.heap[q]? = some (.cells #[.int .i64 N1.1, .slice p j c, .int .i64 N2.1] 45 (0, 0)) ∧ Dc 185 45 w (w5.setCell ⟨q, 1, none⟩ (.slice (some ⟨gg, 0, none⟩) (j + 1) cc)) M b q body N1.1 N2.1 (n3 - (j : Nat) - 1) (ls ++ [x]) (.slice (some ⟨gg, 0, none⟩) (j + 1) cc)) := Lib.hid (by
        obtain ⟨h1, h2, h3, h4, h5, h6⟩ := HP.out
        have := Dc.laid (T := 185) (U := 45) h2 h3 h4 h5 DD.out.ge DD.out.le DD.out.bm DD.out.bne (Nat.le_trans DD.out.msz h1) h6 HB4.out (by decide) (gg := gg) (cc := cc) (w3 := w5) (by rw [HLJ.out]; exact own5) (by rw [HLJ.out]; exact grow5) (by rw [HLJ.out]; exact hat5) (Nat.le_succ _)
        rw [HLJ.out] at this
        exact this)
      obtain ⟨_, c5, _, f5⟩ := three_cells HDC.out.1
      clear own5 grow5 hat5 hlt5
      refine HK.out _ _ ?_
      clear HK K
      try simp only [Act.put, List.setIfInBounds_toArray, List.set_cons_zero, List.set_cons_succ]
      refine wpAny_take (i := 6) (v := ?_) (by simp only [List.getElem?_toArray, List.getElem?_cons_succ, List.getElem?_cons_zero]; rfl) (by kernel_rfl) (by kernel_rfl) (by kernel_rfl) (fun _ _ _ h => h) (Or.inl ⟨by rfl, ?_⟩) ?_
      rotate_left
      · intro w
        go_simp
        try with_reducible rfl
      try simp only [Act.put, List.setIfInBounds_toArray, List.set_cons_zero, List.set_cons_succ]
      refine wpAny_ready (rs := [7]) (by kernel_rfl) (by simp) ?_
      refine (AllReady.cons (by simp only [List.getElem?_toArray, List.getElem?_cons_succ, List.getElem?_cons_zero]; rfl) (fun K hK => ?_) AllReady.nil)
      have HK := Lib.hid hK
      clear hK
      go_simp
      refine HK.out _ _ ?_
      clear HK K
      try simp only [Act.put, List.setIfInBounds_toArray, List.set_cons_zero, List.set_cons_succ]
      refine wpAny_done (by kernel_rfl) ?_ _
      refine NoPanic.normal ?_
      clear c1d c1w c1a c5 f5
      go_wp2_with fail
      refine ⟨⟨j + 1, ls ++ [x], .slice (some ⟨gg, 0, none⟩) (j + 1) cc, by go_num, by omega, by rw [List.length_append, HLJ.out]; rfl, Lib.hid ?_⟩, by simp [intOf]; omega⟩
      have := HDC.out.2
      rw [show n3 - (j : Int) - 1 = n3 - ((j + 1 : Nat) : Int) from by omega] at this
      exact this
    · have HK := Lib.hid hK
      clear hK
      go_simp
      refine HR.out.mono ?_
      rintro e w1 ⟨rfl, hp⟩
      have HP := Lib.hid (HRD.out w1 hp)
      clear hp
      obtain ⟨_, c1w, _, _⟩ := three_cells HP.out.2.1
      rw [HLJ.out] at c1w
      go_wp2_with fail
      refine HK.out _ _ ?_
      clear HK K
      try simp only [Act.put, List.setIfInBounds_toArray, List.set_cons_zero, List.set_cons_succ]
      refine wpAny_ready (rs := [1, 4]) (by kernel_rfl) (by simp) ?_
      refine (AllReady.cons (by simp only [List.getElem?_toArray, List.getElem?_cons_succ, List.getElem?_cons_zero]; rfl) (fun K hK => ?_) (AllReady.cons (by simp only [List.getElem?_toArray, List.getElem?_cons_succ, List.getElem?_cons_zero]; rfl) (fun K hK => ?_) AllReady.nil))
      · have HK := Lib.hid hK
        clear hK
        go_simp
        refine HK.out _ _ ?_
        clear HK K
        try simp only [Act.put, List.setIfInBounds_toArray, List.set_cons_zero, List.set_cons_succ]
        refine wpAny_ready (rs := [4]) (by kernel_rfl) (by simp) ?_
        refine (AllReady.cons (by simp only [List.getElem?_toArray, List.getElem?_cons_succ, List.getElem?_cons_zero]; rfl) (fun K hK => ?_) AllReady.nil)
        have HK := Lib.hid hK
        clear hK
        go_simp
        have HB4 : Hid (Below w1.heap.size w1 (w1.alloc (.cells #[.int .i64 x] 3))) := Lib.hid ((Below.refl _ w1).alloc (Nat.le_refl _) _)
        have c1a : (w1.alloc (.cells #[.int .i64 x] 3)).cell? ⟨q, 1, none⟩ = some (.slice p j c) := by rw [World.cell?_of_block (w := w1) (HB4.out.block _ (lt_of_block HP.out.2.1))]; exact c1w
        have HN4 : Hid (∀ j u, ([.int .i64 x] : List Value)[j]? = some u → (w1.alloc (.cells #[.int .i64 x] 3)).cell? ((⟨w1.heap.size, 0, none⟩ : Addr).add j) = some u) := Lib.hid (World.news_of_block (cs := #[.int .i64 x]) (t := 3) (fr := (0, 0)) (heap_alloc_new w1 _))
        refine HK.out _ _ ?_
        clear HK K
        try simp only [Act.put, List.setIfInBounds_toArray, List.set_cons_zero, List.set_cons_succ]
        refine wpAny_ready (rs := [5]) (by kernel_rfl) (by simp) ?_
        refine (AllReady.cons (by simp only [List.getElem?_toArray, List.getElem?_cons_succ, List.getElem?_cons_zero]; rfl) (fun K hK => ?_) AllReady.nil)
        have HK := Lib.hid hK
        clear hK
        refine step_append_lies _ (by rfl) _ _ _ (by rfl) M 3 i0 _ 1 8 Tryz.underlying29 hi0 hz0 hz1 hz2 rfl (by omega) (.slice p j c) j (iv ls) (by rfl) (by have := own_kb HP.out.2.2.1 HB4.out; rw [HLJ.out] at this; exact this) ⟨w1.heap.size, 0, none⟩ 1 1 [.int .i64 x] (by rfl) (by rfl) (fun j u hj => HN4.out j u hj) (by simp [Value.oneCell']) (by decide) HFT.out.1 HFT.out.2 (Nat.le_trans DD.out.msz (Nat.le_trans HP.out.1 HB4.out.size)) (w1.heap.size + 1) (by simp) ?_
        intro gg cc w5 own5 grow5 hat5 hlt5
        have HDC : Hid (w5.heap[q]? = some (.cells #[.int .i64 N1.1, .slice p j c, .int .i64 N2.1] 45 (0, 0)) ∧ Dc 185 45 w (w5.setCell ⟨q, 1, none⟩ (.slice (some ⟨gg, 0, none⟩) (j + 1) cc)) M b q body N1.1 N2.1 (n3 - (j : Nat) - 1) (ls ++ [x]) (.slice (some ⟨gg, 0, none⟩) (j + 1) cc)) := Lib.hid (by
          obtain ⟨h1, h2, h3, h4, h5, h6⟩ := HP.out
          have := Dc.laid (T := 185) (U := 45) h2 h3 h4 h5 DD.out.ge DD.out.le DD.out.bm DD.out.bne (Nat.le_trans DD.out.msz h1) h6 HB4.out (by decide) (gg := gg) (cc := cc) (w3 := w5) (by rw [HLJ.out]; exact own5) (by rw [HLJ.out]; exact grow5) (by rw [HLJ.out]; exact hat5) (Nat.le_succ _)
          rw [HLJ.out] at this
          exact this)
        obtain ⟨_, c5, _, f5⟩ := three_cells HDC.out.1
        clear own5 grow5 hat5 hlt5
        refine HK.out _ _ ?_
        clear HK K
        try simp only [Act.put, List.setIfInBounds_toArray, List.set_cons_zero, List.set_cons_succ]
        refine wpAny_take (i := 6) (v := ?_) (by simp only [List.getElem?_toArray, List.getElem?_cons_succ, List.getElem?_cons_zero]; rfl) (by kernel_rfl) (by kernel_rfl) (by kernel_rfl) (fun _ _ _ h => h) (Or.inl ⟨by rfl, ?_⟩) ?_
        rotate_left
        · intro w
          go_simp
          try with_reducible rfl
        try simp only [Act.put, List.setIfInBounds_toArray, List.set_cons_zero, List.set_cons_succ]
        refine wpAny_ready (rs := [7]) (by kernel_rfl) (by simp) ?_
        refine (AllReady.cons (by simp only [List.getElem?_toArray, List.getElem?_cons_succ, List.getElem?_cons_zero]; rfl) (fun K hK => ?_) AllReady.nil)
        have HK := Lib.hid hK
        clear hK
        go_simp
        refine HK.out _ _ ?_
        clear HK K
        try simp only [Act.put, List.setIfInBounds_toArray, List.set_cons_zero, List.set_cons_succ]
        refine wpAny_done (by kernel_rfl) ?_ _
        refine NoPanic.normal ?_
        clear c1d c1w c1a c5 f5
        go_wp2_with fail
        refine ⟨⟨j + 1, ls ++ [x], .slice (some ⟨gg, 0, none⟩) (j + 1) cc, by go_num, by omega, by rw [List.length_append, HLJ.out]; rfl, Lib.hid ?_⟩, by simp [intOf]; omega⟩
        have := HDC.out.2
        rw [show n3 - (j : Int) - 1 = n3 - ((j + 1 : Nat) : Int) from by omega] at this
        exact this
      · have HK := Lib.hid hK
        clear hK
        go_simp
        have HB4 : Hid (Below w1.heap.size w1 (w1.alloc (.cells #[.int .i64 x] 3))) := Lib.hid ((Below.refl _ w1).alloc (Nat.le_refl _) _)
        have c1a : (w1.alloc (.cells #[.int .i64 x] 3)).cell? ⟨q, 1, none⟩ = some (.slice p j c) := by rw [World.cell?_of_block (w := w1) (HB4.out.block _ (lt_of_block HP.out.2.1))]; exact c1w
        have HN4 : Hid (∀ j u, ([.int .i64 x] : List Value)[j]? = some u → (w1.alloc (.cells #[.int .i64 x] 3)).cell? ((⟨w1.heap.size, 0, none⟩ : Addr).add j) = some u) := Lib.hid (World.news_of_block (cs := #[.int .i64 x]) (t := 3) (fr := (0, 0)) (heap_alloc_new w1 _))
        refine HK.out _ _ ?_
        clear HK K
        try simp only [Act.put, List.setIfInBounds_toArray, List.set_cons_zero, List.set_cons_succ]
        refine wpAny_ready (rs := [1]) (by kernel_rfl) (by simp) ?_
        refine (AllReady.cons (by simp only [List.getElem?_toArray, List.getElem?_cons_succ, List.getElem?_cons_zero]; rfl) (fun K hK => ?_) AllReady.nil)
        have HK := Lib.hid hK
        clear hK
        go_simp
        refine HK.out _ _ ?_
        clear HK K
        try simp only [Act.put, List.setIfInBounds_toArray, List.set_cons_zero, List.set_cons_succ]
        refine wpAny_ready (rs := [5]) (by kernel_rfl) (by simp) ?_
        refine (AllReady.cons (by simp only [List.getElem?_toArray, List.getElem?_cons_succ, List.getElem?_cons_zero]; rfl) (fun K hK => ?_) AllReady.nil)
        have HK := Lib.hid hK
        clear hK
        refine step_append_lies _ (by rfl) _ _ _ (by rfl) M 3 i0 _ 1 8 Tryz.underlying29 hi0 hz0 hz1 hz2 rfl (by omega) (.slice p j c) j (iv ls) (by rfl) (by have := own_kb HP.out.2.2.1 HB4.out; rw [HLJ.out] at this; exact this) ⟨w1.heap.size, 0, none⟩ 1 1 [.int .i64 x] (by rfl) (by rfl) (fun j u hj => HN4.out j u hj) (by simp [Value.oneCell']) (by decide) HFT.out.1 HFT.out.2 (Nat.le_trans DD.out.msz (Nat.le_trans HP.out.1 HB4.out.size)) (w1.heap.size + 1) (by simp) ?_
        intro gg cc w5 own5 grow5 hat5 hlt5
        have HDC : Hid (w5.heap[q]? = some (.cells #[.int .i64 N1.1, .slice p j c, .int .i64 N2.1] 45 (0, 0)) ∧ Dc 185 45 w (w5.setCell ⟨q, 1, none⟩ (.slice (some ⟨gg, 0, none⟩) (j + 1) cc)) M b q body N1.1 N2.1 (n3 - (j : Nat) - 1) (ls ++ [x]) (.slice (some ⟨gg, 0, none⟩) (j + 1) cc)) := Lib.hid (by
          obtain ⟨h1, h2, h3, h4, h5, h6⟩ := HP.out
          have := Dc.laid (T := 185) (U := 45) h2 h3 h4 h5 DD.out.ge DD.out.le DD.out.bm DD.out.bne (Nat.le_trans DD.out.msz h1) h6 HB4.out (by decide) (gg := gg) (cc := cc) (w3 := w5) (by rw [HLJ.out]; exact own5) (by rw [HLJ.out]; exact grow5) (by rw [HLJ.out]; exact hat5) (Nat.le_succ _)
          rw [HLJ.out] at this
          exact this)
        obtain ⟨_, c5, _, f5⟩ := three_cells HDC.out.1
        clear own5 grow5 hat5 hlt5
        refine HK.out _ _ ?_
        clear HK K
        try simp only [Act.put, List.setIfInBounds_toArray, List.set_cons_zero, List.set_cons_succ]
        refine wpAny_take (i := 6) (v := ?_) (by simp only [List.getElem?_toArray, List.getElem?_cons_succ, List.getElem?_cons_zero]; rfl) (by kernel_rfl) (by kernel_rfl) (by kernel_rfl) (fun _ _ _ h => h) (Or.inl ⟨by rfl, ?_⟩) ?_
        rotate_left
        · intro w
          go_simp
          try with_reducible rfl
        try simp only [Act.put, List.setIfInBounds_toArray, List.set_cons_zero, List.set_cons_succ]
        refine wpAny_ready (rs := [7]) (by kernel_rfl) (by simp) ?_
        refine (AllReady.cons (by simp only [List.getElem?_toArray, List.getElem?_cons_succ, List.getElem?_cons_zero]; rfl) (fun K hK => ?_) AllReady.nil)
        have HK := Lib.hid hK
        clear hK
        go_simp
        refine HK.out _ _ ?_
        clear HK K
        try simp only [Act.put, List.setIfInBounds_toArray, List.set_cons_zero, List.set_cons_succ]
        refine wpAny_done (by kernel_rfl) ?_ _
        refine NoPanic.normal ?_
        clear c1d c1w c1a c5 f5
        go_wp2_with fail
        refine ⟨⟨j + 1, ls ++ [x], .slice (some ⟨gg, 0, none⟩) (j + 1) cc, by go_num, by omega, by rw [List.length_append, HLJ.out]; rfl, Lib.hid ?_⟩, by simp [intOf]; omega⟩
        have := HDC.out.2
        rw [show n3 - (j : Int) - 1 = n3 - ((j + 1 : Nat) : Int) from by omega] at this
        exact this
end Go.Proofs.YtfneadlknieppaaGreatDoor
namespace Go.Proofs.YtfneadlknieppaaGreatDoor
open Go.RowKit
open Go.Maps

/-- What Read answers. -/
def RdPost (w : World) (b : List Int) (e : Ending) (w' : World) : Prop := ∃ g v i c ls, e = .returned (.tuple #[rtv g v i, enoOf c]) ∧ IOwn w' w.heap.size v ls ∧ RdIs b c ⟨g, ls, i⟩ ∧ Below w.heap.size w w'
theorem strs_inj {l m : List Int} (hl : Okb l) (hm : Okb m) (h : strOfNums l = strOfNums m) : l = m := by
  have h1 : l.map (fun n => UInt8.ofNat n.toNat) = m.map fun n => UInt8.ofNat n.toNat := by
    rw [← strOfNums_data, ← strOfNums_data, h]
  have hlen : l.length = m.length := by simpa using congrArg List.length h1
  refine List.ext_getElem hlen fun i hi hj => ?_
  have h2 := congrArg (fun x => x[i]?) h1
  simp only [List.getElem?_map, List.getElem?_eq_getElem hi, List.getElem?_eq_getElem hj, Option.map_some, Option.some.injEq] at h2
  have h3 := congrArg UInt8.toNat h2
  have a := hl _ (List.getElem_mem hi)
  have b := hm _ (List.getElem_mem hj)
  simp only [UInt8.toNat_ofNat'] at h3
  omega
theorem strs_beq {l m : List Int} (hl : Okb l) (hm : Okb m) : ((strOfNums l).toList == (strOfNums m).toList) = decide (l = m) := by
  by_cases h : l = m
  · subst h; simp
  · rw [decide_eq_false h, beq_eq_false_iff_ne, Lib.strOfNums_toList, Lib.strOfNums_toList]
    exact fun e => h (strs_inj hl hm (by
      have e1 : (strOfNums l).data.toList = (strOfNums m).data.toList := e
      exact ByteArray.ext (Array.toList_inj.1 e1)))
theorem equal_to (w : World) (u v : Value) (l m : List Int) (hu : SeenR w u l) (hv : SeenR w v m) (ol : Okb l) (om : Okb m) : Calls Tryz.prog 83 #[u, v] w fun e w' => e = .returned (.bool (decide (l = m))) ∧ w = w' := by
  obtain ⟨pu, cu, rfl⟩ := len_val hu.seen
  obtain ⟨pv, cv, rfl⟩ := len_val hv.seen
  have c1 := conv_any hu
  have c2 := conv_any hv
  rw [← strs_beq ol om]
  clear hu hv
  go_enter Tryz.func83, Tryz.ntmps83
  go_wp2_with fail
  go_ret
  exact ⟨rfl, rfl⟩
set_option maxRecDepth 20000 in
set_option maxHeartbeats 4000000 in
theorem rread_root (w : World) (u : Value) (b : List Int) (ok : Okb b) (hl : b.length ≤ 140737488351232) (hs : SeenR w u b) :
    Calls Tryz.prog 52 #[u] w (RdPost w b) := by
  unfold RdPost
  have B1 : Hid (Below w.heap.size w (w.alloc (.cells #[.int .i64 0, .slice none 0 0, .int .i64 0] 45))) := Lib.hid ((Below.refl _ w).alloc (Nat.le_refl _) _)
  have H1 : Hid ((w.alloc (.cells #[.int .i64 0, .slice none 0 0, .int .i64 0] 45)).heap[w.heap.size]? = some (.cells #[.int .i64 0, .slice none 0 0, .int .i64 0] 45 (0, 0))) := Lib.hid (heap_alloc_last w _)
  obtain ⟨K, hK⟩ : ∃ K, K = nxt b := ⟨_, rfl⟩
  have HS := Lib.hid hs
  have HN := Lib.hid (next_own (w.alloc (.cells #[.int .i64 0, .slice none 0 0, .int .i64 0] 45)) u b (k := K.1) (xs := K.2.1) (n := K.2.2.1) (c := K.2.2.2) hK.symm ok hl (hs.kb B1.out))
  have HK := Lib.hid hK
  have OKX : Hid (Okb K.2.1) := Lib.hid (by rw [hK]; exact nxt_ok ok)
  obtain ⟨pu, cu, rfl⟩ := len_val hs.seen
  clear hs hK
  obtain ⟨k, X, nn, c⟩ := K
  simp only at HN OKX
  go_enter Tryz.func52, Tryz.ntmps52
  go_wp2_with fail
  refine HN.out.mono ?_
  rintro e w2 ⟨u2, rfl, ou, b2⟩
  have B2 : Hid (Below w.heap.size w w2) := Lib.hid (B1.out.trans (b2.mono (by simp)))
  have H2 := Lib.hid ((b2.block _ (lt_of_block H1.out)).trans H1.out)
  have OU := Lib.hid ou
  obtain ⟨px, cx, rfl⟩ := own_slice ou
  clear b2 ou HN H1 B1
  obtain ⟨r0, r1, r2, rf⟩ := three_cells H2.out
  by_cases hc : c = 0
  case neg =>
    have hE : errOf c = kind c := if_neg hc
    have HR : Hid (RdIs b c Rt.zero) := Lib.hid (by
      have h1 : (nxt b).2.2.2 = c := by rw [← HK.out]
      have := rdis_bad (b := b) (by rw [h1]; exact hc)
      rwa [h1] at this)
    have HC := Lib.hid hc
    rw [hE]
    clear hE hc
    go_wp2_with fail
    (try simp only [Exit.inBlock, Exit.then])
    refine bodyPost_ret (res_two rfl _ _ w.heap.size _ _ (0, 0) _ rfl (set3 H2.out) Tryz.underlying45 rfl (by kernel_rfl)) rfl ?_
    have o := only3 (Only.refl (fun k => k = w.heap.size) w2) rfl (.int .i64 0) (.slice none 0 0) (.int .i64 0)
    exact ⟨0, .slice none 0 0, 0, c, [], by rw [show enoOf c = eno c from if_neg HC.out]; rfl, World.ownsRow_nil _ _ _ _, HR.out, B2.out.trans (o.below B2.out.size (fun k hk => by omega))⟩
  case pos =>
    subst hc
    rw [show errOf 0 = .nilIface from rfl]
    have HX0 : Hid (nxt b = (k, X, nn, 0)) := Lib.hid HK.out.symm
    have HXL : Hid (X.length ≤ 140737488351232) := Lib.hid (by
      have h1 := nxt_size ok (by rw [HX0.out])
      rw [HX0.out] at h1
      have := h1.2.2.2.2.1
      simp only at this
      omega)
    go_wp2_with fail
    refine (rdecode_to w2 _ X HXL.out OKX.out (Seen.own OU.out)).mono ?_
    rintro e w3 ⟨g, v, i, ls, rfl, ov, l8, dd, b3⟩
    obtain ⟨pv, cv, rfl⟩ := own_slice ov
    have HDI : Hid (DecIs (nxt b).2.1 ⟨g, ls, i⟩) := Lib.hid (by rw [HX0.out]; exact dd)
    have OV := Lib.hid ov
    have B3 : Hid (Below w.heap.size w w3) := Lib.hid (B2.out.trans (b3.mono B2.out.size))
    have H3 := Lib.hid ((b3.block _ (lt_of_block H2.out)).trans H2.out)
    have HM : Hid (w.heap.size < w2.heap.size) := Lib.hid (lt_of_block H2.out)
    have L8 := Lib.hid l8
    clear ov dd b3 r0 r1 r2 rf H2 B2 OU
    go_wp2_with fail
    have HQ : Hid ((w3.alloc (.cells #[.int .i64 g, .slice pv ls.length cv, .int .i64 i] 45)).heap[w3.heap.size]? = some (.cells #[.int .i64 g, .slice pv ls.length cv, .int .i64 i] 45 (0, 0))) := Lib.hid (heap_alloc_last w3 _)
    have BQ : Hid (Below w3.heap.size w3 (w3.alloc (.cells #[.int .i64 g, .slice pv ls.length cv, .int .i64 i] 45))) := Lib.hid ((Below.refl _ w3).alloc (Nat.le_refl _) _)
    generalize w3.alloc (.cells #[.int .i64 g, .slice pv ls.length cv, .int .i64 i] 45) = w4 at HQ BQ ⊢
    have B4 : Hid (Below w.heap.size w w4) := Lib.hid (B3.out.trans (BQ.out.mono B3.out.size))
    have OV4 := Lib.hid (own_kb OV.out BQ.out)
    have H4 := Lib.hid ((BQ.out.block _ (lt_of_block H3.out)).trans H3.out)
    refine (rlay_to w4 g i _ ls (ISeen.own OV4.out)).mono ?_
    rintro e w5 ⟨v5, rfl, o5, b5⟩
    have O5 := Lib.hid o5
    have B5 : Hid (Below w.heap.size w w5) := Lib.hid (B4.out.trans (b5.mono B4.out.size))
    have OV5 := Lib.hid (own_kb OV4.out b5)
    have H5 := Lib.hid ((b5.block _ (lt_of_block H4.out)).trans H4.out)
    have Q5 := Lib.hid ((b5.block _ (lt_of_block HQ.out)).trans HQ.out)
    have S5 : Hid (SeenR w5 (.slice pu b.length cu) b) := Lib.hid (HS.out.kb B5.out)
    clear o5 b5 B3 B4 OV OV4 H3 H4 HQ BQ
    obtain ⟨q, hq⟩ : ∃ q, q = w3.heap.size := ⟨_, rfl⟩
    rw [← hq] at Q5 ⊢
    clear hq
    obtain ⟨q0, q1, q2, qf⟩ := three_cells Q5.out
    obtain ⟨r0, r1, r2, rf⟩ := three_cells H5.out
    have HZ : Hid (∃ w6, w6 = ((w5.setCell ⟨w.heap.size, 0, none⟩ (.int .i64 0)).setCell ⟨w.heap.size, 1, none⟩ (.slice none 0 0)).setCell ⟨w.heap.size, 2, none⟩ (.int .i64 0)) := Lib.hid ⟨_, rfl⟩
    by_cases hok : okR ⟨g, ls, i⟩ = true
    case neg =>
      have HF := Lib.hid (rdis_form (b := b) (r := ⟨g, ls, i⟩) (by rw [HX0.out]) HDI.out (fun e => hok e.1))
      rw [layR_no hok, show enoOf 1 = eno 1 from rfl]
      clear hok HZ
      go_wp2_with fail
      (try simp only [Exit.inBlock, Exit.then])
      refine bodyPost_ret (res_two rfl _ _ w.heap.size _ _ (0, 0) _ rfl (set3 H5.out) Tryz.underlying45 rfl (by kernel_rfl)) rfl ?_
      have o := only3 (Only.refl (fun k => k = w.heap.size) w5) rfl (.int .i64 0) (.slice none 0 0) (.int .i64 0)
      exact ⟨0, .slice none 0 0, 0, 2, [], rfl, World.ownsRow_nil _ _ _ _, HF.out, B5.out.trans (o.below B5.out.size (fun k hk => by omega))⟩
    case pos =>
      rw [layR_yes hok] at O5
      rw [layR_yes hok, show enoOf 0 = .nilIface from rfl]
      obtain ⟨p5, c5, rfl⟩ := own_slice O5.out
      have HEQ := Lib.hid (equal_to w5 _ _ _ _ (SeenR.own O5.out) S5.out (encR_ok _) ok)
      by_cases hb : encR ⟨g, ls, i⟩ = b
      case neg =>
        have HF := Lib.hid (rdis_form (b := b) (r := ⟨g, ls, i⟩) (by rw [HX0.out]) HDI.out (fun e => hb e.2))
        rw [decide_eq_false hb] at HEQ
        clear hok hb HZ
        go_wp2_with (go_at_call 83; refine HEQ.out.mono ?_; rintro e w' ⟨rfl, rfl⟩)
        (try simp only [Exit.inBlock, Exit.then])
        refine bodyPost_ret (res_two rfl _ _ w.heap.size _ _ (0, 0) _ rfl (set3 H5.out) Tryz.underlying45 rfl (by kernel_rfl)) rfl ?_
        have o := only3 (Only.refl (fun k => k = w.heap.size) w5) rfl (.int .i64 0) (.slice none 0 0) (.int .i64 0)
        exact ⟨0, .slice none 0 0, 0, 2, [], rfl, World.ownsRow_nil _ _ _ _, HF.out, B5.out.trans (o.below B5.out.size (fun k hk => by omega))⟩
      case pos =>
        have HF := Lib.hid (rdis_good (b := b) (r := ⟨g, ls, i⟩) (by rw [HX0.out]) hok hb)
        rw [decide_eq_true hb] at HEQ
        clear hok hb HZ
        go_wp2_with (go_at_call 83; refine HEQ.out.mono ?_; rintro e w' ⟨rfl, rfl⟩)
        (try simp only [Exit.inBlock, Exit.then])
        refine bodyPost_ret (res_two rfl _ _ w.heap.size _ _ (0, 0) _ rfl (set3 H5.out) Tryz.underlying45 rfl (by kernel_rfl)) rfl ?_
        have o := only3 (Only.refl (fun k => k = w.heap.size) w5) rfl (.int .i64 g) (.slice pv ls.length cv) (.int .i64 i)
        exact ⟨g, _, i, 0, ls, rfl, (own_kept OV5.out o (fun k hk e => by have := (OV5.out.lt k hk).1; have := HM.out; omega)).mono (Nat.le_of_lt HM.out), HF.out, B5.out.trans (o.below B5.out.size (fun k hk => by omega))⟩
theorem DS.rlen {w : World} {B b : Nat} {S : Nat → Prop} {s : St} (h : DS w B b S s) (nm : Key) : (rdS s nm).length ≤ 16777216 := by
  obtain ⟨c, L, P, hx⟩ := h
  have h1 := bytesAt_le nm L
  have h2 := hx.hist.last.tot
  rw [← hx.fb, fb_tot] at h2
  have h3 : s.files = fb L := hx.fb.symm
  unfold rdS
  split
  · simp
  · rw [h3, fb_bytes]
    omega
theorem read_rd (w : World) (B b : Nat) (S : Nat → Prop) (s : St) (n : Key) (h : DS w B b S s) (hn : n.length ≤ maxLen) :
    Calls Tryz.prog 51 #[.pointer (some ⟨b,0,none⟩), stv n] w fun e w' => ∃ v, e = .returned (.tuple #[v, .bool (ex s n)]) ∧ BOwn w' w.heap.size v (rdS s n) ∧ Below w.heap.size w w' := read_to w B b S s n h hn
/-- What Load answers. -/
def LdPost (w : World) (s : St) (e : Ending) (w' : World) : Prop := ∃ g v i c ls, e = .returned (.tuple #[rtv g v i, enoOf c]) ∧ IOwn w' w.heap.size v ls ∧ LdIs s c ⟨g, ls, i⟩ ∧ Below w.heap.size w w'
theorem load_none (w : World) : Calls Tryz.prog 20 #[.pointer none] w fun e w' => e = .returned (.tuple #[rtv 0 (.slice none 0 0) 0, eno 1]) ∧ Below w.heap.size w w' := by
  have H1 : Hid ((w.alloc (.cells #[.int .i64 0, .slice none 0 0, .int .i64 0] 45)).heap[w.heap.size]? = some (.cells #[.int .i64 0, .slice none 0 0, .int .i64 0] 45 (0, 0))) := Lib.hid (heap_alloc_last w _)
  have B1 : Hid (Below w.heap.size w (w.alloc (.cells #[.int .i64 0, .slice none 0 0, .int .i64 0] 45))) := Lib.hid ((Below.refl _ w).alloc (Nat.le_refl _) _)
  go_enter Tryz.func20, Tryz.ntmps20
  go_wp2_with fail
  (try simp only [Exit.inBlock, Exit.then])
  refine bodyPost_ret (res_two rfl _ _ w.heap.size _ _ (0, 0) _ rfl (heap_alloc_last w _) Tryz.underlying45 rfl (by kernel_rfl)) rfl ?_
  exact ⟨rfl, B1.out⟩
set_option maxRecDepth 20000 in
set_option maxHeartbeats 4000000 in
theorem rload_to (w : World) (B d : Nat) (S : Nat → Prop) (s : St) (h : DS w B d S s) (ok : Okb (rdS s rtN)) :
    Calls Tryz.prog 20 #[.pointer (some ⟨d, 0, none⟩)] w (LdPost w s) := by
  unfold LdPost
  have H1 : Hid ((w.alloc (.cells #[.int .i64 0, .slice none 0 0, .int .i64 0] 45)).heap[w.heap.size]? = some (.cells #[.int .i64 0, .slice none 0 0, .int .i64 0] 45 (0, 0))) := Lib.hid (heap_alloc_last w _)
  have B1 : Hid (Below w.heap.size w (w.alloc (.cells #[.int .i64 0, .slice none 0 0, .int .i64 0] 45))) := Lib.hid ((Below.refl _ w).alloc (Nat.le_refl _) _)
  have HR := Lib.hid (read_rd _ B d S s rtN (h.kb B1.out) (by unfold maxLen; decide))
  have HL := Lib.hid (h.rlen rtN)
  have OK := Lib.hid ok
  obtain ⟨b, hb⟩ : ∃ z, z = rdS s rtN := ⟨_, rfl⟩
  have HB := Lib.hid hb
  rw [← hb] at HR HL OK
  clear h ok hb
  go_enter Tryz.func20, Tryz.ntmps20
  go_wp2_with fail
  refine HR.out.mono ?_
  rintro e w2 ⟨v2, rfl, o2, b2⟩
  have B2 : Hid (Below w.heap.size w w2) := Lib.hid (B1.out.trans (b2.mono (by simp)))
  have H2 := Lib.hid ((b2.block _ (lt_of_block H1.out)).trans H1.out)
  have O2 := Lib.hid o2
  obtain ⟨p2, c2, rfl⟩ := own_slice o2
  clear o2 b2 H1 B1 HR
  obtain ⟨r0, r1, r2, rf⟩ := three_cells H2.out
  by_cases hx : ex s rtN = true
  case neg =>
    have HF : Hid (LdIs s 11 Rt.zero) := Lib.hid (by unfold LdIs; rw [if_neg hx]; exact ⟨rfl, rfl⟩)
    have hx' : ex s rtN = false := by simpa using hx
    rw [hx']
    clear hx hx'
    go_wp2_with fail
    (try simp only [Exit.inBlock, Exit.then])
    refine bodyPost_ret (res_two rfl _ _ w.heap.size _ _ (0, 0) _ rfl (set3 H2.out) Tryz.underlying45 rfl (by kernel_rfl)) rfl ?_
    have o := only3 (Only.refl (fun k => k = w.heap.size) w2) rfl (.int .i64 0) (.slice none 0 0) (.int .i64 0)
    exact ⟨0, .slice none 0 0, 0, 11, [], rfl, World.ownsRow_nil _ _ _ _, HF.out, B2.out.trans (o.below B2.out.size (fun k hk => by omega))⟩
  case pos =>
    have HF : Hid (∀ c r, RdIs b c r → LdIs s c r) := Lib.hid (fun c r h => by unfold LdIs; rw [if_pos hx, ← HB.out]; exact h)
    rw [hx]
    clear hx r0 r1 r2 rf
    go_wp2_with fail
    refine (rread_root w2 _ b OK.out (Nat.le_trans HL.out (by decide)) (SeenR.own O2.out)).mono ?_
    rintro e w3 ⟨g, v, i, c, ls, rfl, ov, hr, b3⟩
    obtain ⟨pv, cv, rfl⟩ := own_slice ov
    have B3 : Hid (Below w.heap.size w w3) := Lib.hid (B2.out.trans (b3.mono B2.out.size))
    have H3 := Lib.hid ((b3.block _ (lt_of_block H2.out)).trans H2.out)
    have OV := Lib.hid ov
    have HRI := Lib.hid (HF.out _ _ hr)
    have HM : Hid (w.heap.size < w2.heap.size) := Lib.hid (lt_of_block H2.out)
    obtain ⟨ce, hce⟩ : ∃ z, z = enoOf c := ⟨_, rfl⟩
    have HCE := Lib.hid hce
    rw [← hce]
    clear ov b3 hr hce B2 H2
    obtain ⟨r0, r1, r2, rf⟩ := three_cells H3.out
    go_wp2_with fail
    (try simp only [Exit.inBlock, Exit.then])
    refine bodyPost_ret (res_two rfl _ _ w.heap.size _ _ (0, 0) _ rfl (set3 H3.out) Tryz.underlying45 rfl (by kernel_rfl)) rfl ?_
    have o := only3 (Only.refl (fun k => k = w.heap.size) w3) rfl (.int .i64 g) (.slice pv ls.length cv) (.int .i64 i)
    exact ⟨g, _, i, c, ls, by rw [← HCE.out]; rfl, (own_kept OV.out o (fun k hk e => by have := (OV.out.lt k hk).1; have := HM.out; omega)).mono (Nat.le_of_lt HM.out), HRI.out, B3.out.trans (o.below B3.out.size (fun k hk => by omega))⟩
end Go.Proofs.YtfneadlknieppaaGreatDoor
