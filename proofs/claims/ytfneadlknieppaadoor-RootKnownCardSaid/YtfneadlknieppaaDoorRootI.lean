/- Slices of numbers: seen, owned; what a root's Lay answers. No condition. -/
import Derived.Test.YtfneadlknieppaaDoorRootF
import Derived.Test.YtfneadlknieppaaDoorOctWv
import Derived.Test.YtfneadlknieppaaDoorFrmN
import Derived.Laws.Rows
import Derived.Laws.ResultCell
namespace Go.Proofs.YtfneadlknieppaaDoor
open Go.RowKit
open Go.Maps

abbrev iv (l : List Int) : List Value := l.map (Value.int .i64)
/-- The slice v holds the numbers l. -/
def ISeen (w : World) (v : Value) (l : List Int) : Prop :=
  (v = .slice none 0 0 ∧ l = []) ∨ ∃ a cap, v = .slice (some a) l.length cap ∧ l.length ≤ cap ∧ ∀ j u, (iv l)[j]? = some u → w.cell? (a.add j) = some u
abbrev IOwn (w : World) (B : Nat) (v : Value) (l : List Int) : Prop := w.ownsRow B 3 1 v l.length (iv l)
theorem ISeen.kb {w w' : World} {v : Value} {l : List Int} (h : ISeen w v l) (hb : Below w.heap.size w w') : ISeen w' v l := by
  rcases h with h | ⟨a, cap, rfl, hc, hu⟩
  · exact .inl h
  · refine .inr ⟨a, cap, rfl, hc, fun j u hj => ?_⟩
    have h1 := hu j u hj
    have h2 := World.block_lt_of_cell? w _ h1
    rw [World.cell?_of_block (w := w) (hb.block _ h2)]
    exact h1
theorem ISeen.only {w w' : World} {v : Value} {l : List Int} {T : Nat → Prop} (h : ISeen w v l) (ho : Only T w w') (hT : ∀ k, v.ownBlock = some k → ¬ T k) : ISeen w' v l := by
  rcases h with h | ⟨a, cap, rfl, hc, hu⟩
  · exact .inl h
  · refine .inr ⟨a, cap, rfl, hc, fun j u hj => ?_⟩
    have h1 := hu j u hj
    have h2 := World.block_lt_of_cell? w _ h1
    rw [World.cell?_of_block (w := w) (ho.block _ h2 (by rw [Addr.add_block]; exact hT _ rfl))]
    exact h1
theorem ISeen.nil (w : World) : ISeen w (.slice none 0 0) [] := .inl ⟨rfl, rfl⟩
theorem ISeen.own {w : World} {B : Nat} {v : Value} {l : List Int} (h : IOwn w B v l) : ISeen w v l := by
  have hc : ∀ g, v.ownBlock = some g → _ := fun g hg => h.cells (g := g) hg
  rcases h.2 with ⟨rfl, h0⟩ | ⟨g, cap, cur, rfl, _, _, hn, _⟩
  · exact .inl ⟨rfl, List.eq_nil_of_length_eq_zero h0⟩
  · exact .inr ⟨_, cap, rfl, hn, hc _ rfl⟩
theorem ISeen.form {w : World} {v : Value} {l : List Int} (h : ISeen w v l) : ∃ p c, v = .slice p l.length c ∧ ∀ j x, l[j]? = some x → ∃ a, p = some a ∧ w.cell? (a.add j) = some (.int .i64 x) := by
  rcases h with ⟨rfl, rfl⟩ | ⟨a, c, rfl, _, h⟩
  · exact ⟨none, 0, rfl, fun j x hx => by simp at hx⟩
  · exact ⟨some a, c, rfl, fun j x hx => ⟨a, rfl, h j _ (by simp [hx])⟩⟩
theorem iown_at {w : World} {B : Nat} {v : Value} {l : List Int} (h : IOwn w B v l) (hl : 0 < l.length) : ∃ g c, v = .slice (some ⟨g, 0, none⟩) l.length c ∧ B ≤ g ∧ g < w.heap.size ∧ ∀ j x, l[j]? = some x → w.cell? ⟨g, j, none⟩ = some (.int .i64 x) := by
  have h0 := h
  rcases h.2 with ⟨rfl, e⟩ | ⟨g, cap, cur, rfl, hb, hg, hn, _⟩
  · omega
  · refine ⟨g, cap, rfl, hb, (h0.lt g rfl).2, fun j x hj => ?_⟩
    have := h0.cells (g := g) rfl j (.int .i64 x) (by simp [hj])
    rwa [Addr.add_lit, Nat.zero_add] at this
theorem iinfo : (Tryd.prog.info? 3).map (fun i => (i.zero, i.size, i.bytes)) = some (some (.int .i64 0), 1, 8) := by kernel_rfl
theorem set3 {w : World} {b : Nat} {x y z g v i : Value} {T : TypeId} (h : w.heap[b]? = some (.cells #[x, y, z] T (0, 0))) : (((w.setCell ⟨b, 0, none⟩ g).setCell ⟨b, 1, none⟩ v).setCell ⟨b, 2, none⟩ i).heap[b]? = some (.cells #[g, v, i] T (0, 0)) := by
  have h1 := Lib.heap_setCell_same (i := 0) h g
  have h2 := Lib.heap_setCell_same (i := 1) h1 v
  exact Lib.heap_setCell_same (i := 2) h2 i
theorem only3 {S : Nat → Prop} {a w : World} {b : Nat} (h : Only S a w) (hb : S b) (g v i : Value) : Only S a (((w.setCell ⟨b, 0, none⟩ g).setCell ⟨b, 1, none⟩ v).setCell ⟨b, 2, none⟩ i) := ((h.setCell (p := ⟨b, 0, none⟩) hb g).setCell (p := ⟨b, 1, none⟩) hb v).setCell (p := ⟨b, 2, none⟩) hb i
theorem three_cells {w : World} {b : Nat} {x y z : Value} {T : TypeId} (h : w.heap[b]? = some (.cells #[x, y, z] T (0, 0))) : w.cell? ⟨b, 0, none⟩ = some x ∧ w.cell? ⟨b, 1, none⟩ = some y ∧ w.cell? ⟨b, 2, none⟩ = some z ∧ ∀ i, w.frozen? ⟨b, i, none⟩ = false :=
  ⟨by rw [cell_of_row w b 0 _ _ _ h]; rfl, by rw [cell_of_row w b 1 _ _ _ h]; rfl, by rw [cell_of_row w b 2 _ _ _ h]; rfl, fun i => by simp [World.frozen?, h]⟩
/-- A result that lies in a block of its own, beside a value. -/
theorem res_two {P : Program} {fn : Func} {p u : Tmp} {ty : TypeId} (h : fn.results = #[.cell p ty, .tmp u]) (tmps : Array Value) (w : World) (g : Nat) (t : TypeId) (cs : Array Value) (fr : Nat × Nat) (d : TypeDesc)
    (hp : tmps.getD p undef = .pointer (some ⟨g, 0, none⟩)) (hg : w.heap[g]? = some (.cells cs t fr))
    (hu : P.underlying ty = some d) (hd : (match d with | .struct _ | .array _ _ => true | _ => false) = true) (hi : (P.info? ty).map (·.size) = some cs.size) :
    (results fn tmps).run P w = .ok (.tuple #[.agg cs, tmps.getD u undef]) w := by
  have hp' : tmps[p]?.getD undef = .pointer (some ⟨g, 0, none⟩) := by simpa using hp
  rw [results_cell_tmp h]
  simp [hp', asAddr, run_loadVar_row w g t ty cs fr d hg hu hd hi]
/-- A root by value. -/
abbrev rtv (g : Int) (v : Value) (i : Int) : Value := .agg #[.int .i64 g, v, .int .i64 i]
theorem inRange_to (w : World) (n : Int) : Calls Tryd.prog 45 #[.int .i64 n] w fun e w' => e = .returned (.bool (fin n)) ∧ w = w' := by
  unfold fin
  by_cases h1 : 0 ≤ n
  · by_cases h2 : n ≤ 1099511627776
    all_goals
      go_enter Tryd.func45, Tryd.ntmps45
      go_wp2
      go_ret
      simp [h1, h2]
  · have h1' : ¬ n ≥ 0 := h1
    go_enter Tryd.func45, Tryd.ntmps45
    go_wp2
    go_ret
    simp
    omega
set_option maxRecDepth 20000 in
set_option maxHeartbeats 2000000 in
theorem valid_to (w : World) (g i : Int) (v : Value) (ls : List Int) (h : ISeen w v ls) :
    Calls Tryd.prog 24 #[rtv g v i] w fun e w' => e = .returned (.bool (okR ⟨g, ls, i⟩)) ∧ Below w.heap.size w w' := by
  obtain ⟨p, c, rfl, hcell⟩ := h.form
  obtain ⟨n, hn⟩ : ∃ n, n = ls.length := ⟨_, rfl⟩
  have hR : okR ⟨g, ls, i⟩ = (fin g && fin i && decide (n ≤ 8) && ls.all fin) := by rw [hn]; rfl
  rw [← hn, hR]
  have b1 : Below w.heap.size w (w.alloc (.cells #[.int .i64 g, .slice p n c, .int .i64 i] 24)) := (Below.refl _ w).alloc (Nat.le_refl _) _
  have B1 := Lib.hid b1
  have HN := Lib.hid hn
  have HC := Lib.hid hcell
  clear h hcell hR hn b1
  cases hg : fin g with
  | false =>
    go_enter Tryd.func24, Tryd.ntmps24
    go_wp2_with (go_at_call 45; refine (inRange_to _ _).mono ?_; rintro e w' ⟨rfl, rfl⟩; rw [hg])
    go_ret
    exact ⟨rfl, B1.out⟩
  | true =>
    cases hi : fin i with
    | false =>
      go_enter Tryd.func24, Tryd.ntmps24
      go_wp2_with (go_at_call 45; refine (inRange_to _ _).mono ?_; rintro e w' ⟨rfl, rfl⟩; first | rw [hg] | rw [hi])
      go_ret
      exact ⟨rfl, B1.out⟩
    | true =>
      by_cases h8 : n ≤ 8
      case neg =>
        have h8' : (n : Int) > 8 := by omega
        have H8 := Lib.hid h8
        clear h8
        go_enter Tryd.func24, Tryd.ntmps24
        go_wp2_with (go_at_call 45; refine (inRange_to _ _).mono ?_; rintro e w' ⟨rfl, rfl⟩; first | rw [hg] | rw [hi])
        go_ret
        exact ⟨by simp [H8.out], B1.out⟩
      case pos =>
        have h8' : ¬ (n : Int) > 8 := by omega
        have H8 := Lib.hid h8
        clear h8
        go_enter Tryd.func24, Tryd.ntmps24
        go_wp2_with (go_at_call 45; refine (inRange_to _ _).mono ?_; rintro e w' ⟨rfl, rfl⟩; first | rw [hg] | rw [hi])
        go_loopw [24] (fun k wr => ∃ j : Nat, j ≤ n ∧ k = .int .i64 j ∧ Hid ((ls.take j).all fin = true) ∧ Hid (Below w.heap.size w wr)) (fun k _ => n - (intOf k).toNat)
        case atStart => exact ⟨0, Nat.zero_le _, rfl, Lib.hid rfl, B1⟩
        case round =>
          obtain ⟨j, hj, rfl, HA, HB⟩ := hrel
          by_cases hlt : j < n
          · have hlt' : (j : Int) < n := by omega
            obtain ⟨x, hx⟩ : ∃ x, ls[j]? = some x := ⟨ls[j]'(by rw [← HN.out]; exact hlt), List.getElem?_eq_getElem _⟩
            obtain ⟨a, rfl, hca⟩ := HC.out j x hx
            have hc : wr.cell? (a.add j) = some (.int .i64 x) := by
              rw [World.cell?_of_block (w := w) (HB.out.block _ (World.block_lt_of_cell? w _ hca))]; exact hca
            have HX := Lib.hid hx
            clear hca hx
            cases hf : fin x with
            | true =>
              go_wp2_with (go_at_call 45; refine (inRange_to _ _).mono ?_; rintro e w' ⟨rfl, rfl⟩; rw [hf])
              refine ⟨⟨j + 1, by omega, by go_num, Lib.hid ?_, HB⟩, by simp [intOf]; omega⟩
              rw [List.take_add_one, HX.out]
              simp [HA.out, hf]
            | false =>
              go_wp2_with (go_at_call 45; refine (inRange_to _ _).mono ?_; rintro e w' ⟨rfl, rfl⟩; rw [hf])
              go_ret
              refine ⟨?_, HB.out⟩
              have : ls.all fin = false := List.all_eq_false.2 ⟨x, List.mem_of_getElem? HX.out, by simp [hf]⟩
              rw [this]; simp
          · have hlt' : ¬ (j : Int) < n := by omega
            go_wp2_with fail
            go_ret
            refine ⟨?_, HB.out⟩
            have := HA.out
            rw [List.take_of_length_le (by rw [← HN.out]; omega)] at this
            rw [this]; simp [H8.out]
end Go.Proofs.YtfneadlknieppaaDoor
