/- The statements' pairs: how they lie in memory, how they came in; their own hash. No condition. · The statements' pairs as they came in. No condition. -/
import Derived.Test.YtbpccbhlggcmfaaGreatDoorRadKa
import Derived.Test.YtbpccbhlggcmfaaGreatDoorHexInS
import Derived.Test.YtbpccbhlggcmfaaGreatDoorHexIn
import Derived.OpenShut
namespace Go.Proofs.YtbpccbhlggcmfaaGreatDoor
open Go.RowKit Go.ChangeShapes Go.WideShapes Go.Deep
attribute [local go_sem ↓] hld_open heq_open hne_open

/-- A pair. -/
structure Pr where
  n : Int
  v : Int
  h : List UInt8
  any : Bool
instance : Inhabited Pr := ⟨⟨0, 0, hz, false⟩⟩
def Pr.row (x : Pr) : List Value := [.int .i64 x.n, .int .i64 x.v] ++ us (nmb x.h) ++ [.bool x.any]
def Pr.hash (x : Pr) : List UInt8 := if x.any then x.h else hh x.n
theorem Pr.hash_length {x : Pr} (h : x.h.length = 32) : x.hash.length = 32 := by
  unfold Pr.hash
  split
  · exact h
  · exact hh_length _
theorem Pr.row_length {x : Pr} (h : x.h.length = 32) : x.row.length = 35 := by simp [Pr.row, us, nm_length, h]
theorem Pr.row_34 {x : Pr} (h : x.h.length = 32) : x.row[34]? = some (.bool x.any) := by
  unfold Pr.row
  have hl : (us (nmb x.h)).length = 32 := by simp [us, nm_length, h]
  rw [List.getElem?_append_right (by simp [hl])]
  simp [hl]
theorem Pr.row_h {x : Pr} (h : x.h.length = 32) {j : Nat} (hj : j < 32) : x.row[2 + j]? = (us (nmb x.h))[j]? := by
  unfold Pr.row
  have hl : (us (nmb x.h)).length = 32 := by simp [us, nm_length, h]
  rw [List.append_assoc, List.getElem?_append_right (by simp), List.getElem?_append_left (by simp [hl]; omega)]
  congr 1
  simp
theorem Pr.row_one {x : Pr} : ∀ u ∈ x.row, u.oneCell' = true := by
  intro u hu
  unfold Pr.row at hu
  simp only [List.mem_append, List.mem_cons, List.not_mem_nil, or_false, us, List.mem_map] at hu
  rcases hu with ((rfl | rfl) | ⟨y, _, rfl⟩) | rfl <;> rfl
section
variable {W : World} {b : Nat} {x : Pr} {t : TypeId}
theorem pr_0 (hb : W.heap[b]? = some (.cells x.row.toArray t (0, 0))) : W.cell? ⟨b, 0, none⟩ = some (.int .i64 x.n) := by
  rw [cell_of_row W b 0 _ _ _ hb, List.getElem?_toArray]; rfl
theorem pr_34 (h : x.h.length = 32) (hb : W.heap[b]? = some (.cells x.row.toArray t (0, 0))) : W.cell? ⟨b, 34, none⟩ = some (.bool x.any) := by
  rw [cell_of_row W b 34 _ _ _ hb, List.getElem?_toArray, Pr.row_34 h]
theorem pr_h (h : x.h.length = 32) (hb : W.heap[b]? = some (.cells x.row.toArray t (0, 0))) : W.rangeAt b 2 (us (nmb x.h)) := fun j v hj => by
  have hl : j < 32 := by
    have := (List.getElem?_eq_some_iff.1 hj).1
    simpa [us, nm_length, h] using this
  rw [cell_of_row W b (2 + j) _ _ _ hb, List.getElem?_toArray, Pr.row_h h hl]
  exact hj
end
set_option maxRecDepth 20000 in
set_option maxHeartbeats 2000000 in
theorem hashp_to (w : World) (x : Pr) (hx : x.h.length = 32) : Calls Tryz.prog 20 #[.agg x.row.toArray] w fun e w' => e = .returned (.agg (hv x.hash)) ∧ Below w.heap.size w w' := by
  have b1 := (Below.refl w.heap.size w).alloc (Nat.le_refl _) (.cells x.row.toArray 57)
  have HB1 := Lib.hid b1
  have HR1 := Lib.hid (heap_alloc_last w (.cells x.row.toArray 57))
  have hs1 : (w.alloc (.cells x.row.toArray 57)).heap.size = w.heap.size + 1 := by simp
  cases hany : x.any with
  | true =>
    have hof : x.hash = x.h := by unfold Pr.hash; rw [hany]; rfl
    rw [hof]
    have b2 := ((Below.refl _ (w.alloc (.cells x.row.toArray 57))).alloc (Nat.le_refl _) (.cells hzer 36))
    have hrz : ((w.alloc (.cells x.row.toArray 57)).alloc (.cells hzer 36)).heap[w.heap.size]? = some (.cells x.row.toArray 57 (0, 0)) := (b2.block _ (by simp)).trans HR1.out
    have c34 := pr_34 hx hrz
    rw [hany] at c34
    have lh := hld_range (w := (w.alloc (.cells x.row.toArray 57)).alloc (.cells hzer 36)) hx (pr_h hx hrz)
    have HZ := Lib.hid (heap_alloc_last (w.alloc (.cells x.row.toArray 57)) (.cells hzer 36))
    rw [hs1] at HZ
    have HB2 := Lib.hid (HB1.out.alloc HB1.out.size (.cells hzer 36))
    have HX := Lib.hid hx
    have HT := there_row HZ.out
    rw [show hzer.size = (hv x.h).size from by rw [hv_size, hx]; rfl] at HT
    have HTT := Lib.hid HT
    unfold hzer at c34 lh
    clear b1 b2 hrz hof hx HT
    go_enter Tryz.func20, Tryz.ntmps20
    go_wp2_with (refine store_to (b := w.heap.size + 1) (o := 0) (cells := hv x.h) HTT.out (hinfo (hv x.h) (by rw [hv_size, HX.out])) (hv_one x.h) ?hx ?hy ?_; (case hx => rfl); (case hy => rfl))
    have hl := loaded (P := Tryz.prog) (t := 36) (q := hv x.h) HTT.out Tryz.underlying36 rfl (hinfo (hv x.h) (by rw [hv_size, HX.out]))
    refine bodyPost_ret (v := .agg (hv x.h)) (w := ((w.alloc (.cells x.row.toArray 57)).alloc (.cells hzer 36)).setCells (w.heap.size + 1) 0 (hv x.h).toList) ?_ rfl ⟨rfl, ?_⟩
    · generalize ((w.alloc (.cells x.row.toArray 57)).alloc (.cells hzer 36)).setCells (w.heap.size + 1) 0 (hv x.h).toList = W3 at hl ⊢
      simp only [results, Tryz.results20]
      simp [hl, asAddr, Act.put]
    · exact ((Only.of_below (S := fun k => w.heap.size ≤ k) HB2.out).setCells (b := w.heap.size + 1) (Nat.le_succ _) _ 0).below (Nat.le_refl _) (fun _ h => h)
  | false =>
    have hof : x.hash = hh x.n := by unfold Pr.hash; rw [hany]; rfl
    rw [hof]
    have b2 := ((Below.refl _ (w.alloc (.cells x.row.toArray 57))).alloc (Nat.le_refl _) (.cells hzer 36))
    have hrz : ((w.alloc (.cells x.row.toArray 57)).alloc (.cells hzer 36)).heap[w.heap.size]? = some (.cells x.row.toArray 57 (0, 0)) := (b2.block _ (by simp)).trans HR1.out
    have c34 := pr_34 hx hrz
    rw [hany] at c34
    have c0 := pr_0 hrz
    have HZ := Lib.hid (heap_alloc_last (w.alloc (.cells x.row.toArray 57)) (.cells hzer 36))
    rw [hs1] at HZ
    have HB2 := Lib.hid (HB1.out.alloc HB1.out.size (.cells hzer 36))
    have HH := Lib.hid (hash_to ((w.alloc (.cells x.row.toArray 57)).alloc (.cells hzer 36)) x.n)
    obtain ⟨q, hq⟩ : ∃ q, q = hh x.n := ⟨_, rfl⟩
    rw [← hq] at HH ⊢
    have HQ : Hid (q.length = 32) := Lib.hid (by rw [hq]; exact hh_length _)
    unfold hzer at c34 c0
    clear b1 b2 hrz hof hx hq
    go_enter Tryz.func20, Tryz.ntmps20
    go_wp2_with (first
      | (go_at_call 43; refine HH.out.mono ?_; rintro e w2 ⟨rfl, b2⟩; have B2 := Lib.hid (HB2.out.trans (b2.mono HB2.out.size)); have Z2 := Lib.hid ((b2.block (w.heap.size + 1) (by simp)).trans HZ.out); clear b2)
      | (refine store_to (b := w.heap.size + 1) (o := 0) (cells := hv q) (by have := there_row Z2.out; rwa [show hzer.size = (hv q).size from by rw [hv_size, HQ.out]; rfl] at this) (hinfo (hv q) (by rw [hv_size, HQ.out])) (hv_one q) ?hx ?hy ?_; (case hx => rfl); (case hy => rfl)))
    have HT := there_row Z2.out
    rw [show hzer.size = (hv q).size from by rw [hv_size, HQ.out]; rfl] at HT
    have hl := loaded (P := Tryz.prog) (t := 36) (q := hv q) HT Tryz.underlying36 rfl (hinfo (hv q) (by rw [hv_size, HQ.out]))
    refine bodyPost_ret (v := .agg (hv q)) (w := w2.setCells (w.heap.size + 1) 0 (hv q).toList) ?_ rfl ⟨rfl, ?_⟩
    · generalize w2.setCells (w.heap.size + 1) 0 (hv q).toList = W3 at hl ⊢
      simp only [results, Tryz.results20]
      simp [hl, asAddr, Act.put]
    · exact ((Only.of_below (S := fun k => w.heap.size ≤ k) B2.out).setCells (b := w.heap.size + 1) (Nat.le_succ _) _ 0).below (Nat.le_refl _) (fun _ h => h)
end Go.Proofs.YtbpccbhlggcmfaaGreatDoor
namespace Go.Proofs.YtbpccbhlggcmfaaGreatDoor
open Go.RowKit Go.ChangeShapes Go.WideShapes Go.Deep

theorem pairCells : Tryz.prog.cellsOf 57 = 35 := by kernel_rfl
theorem boolCells9 : Tryz.prog.cellsOf 4 = 1 := by kernel_rfl
theorem pair_cells {H : Type} {enc : TypeId × Value → H} {w : World} {base : Nat} {spare : Nat → Bool} {held : Bool} {cs : List Value} {fuel : Nat} {x : DataW H × List MemPlace}
    (h : DataW.trod enc Tryz.prog w base spare held fuel 57 cs = some x) : ∃ y : Pr, y.h.length = 32 ∧ cs = y.row := by
  obtain ⟨xs, n', _, hxx, hl, hxl, hf⟩ := DataW.trod_struct Tryz.underlying57 h
  rw [pairCells] at hl
  have hx4 : xs.length = 4 := hxl
  obtain ⟨y0, y1, y2, y3, rfl⟩ : ∃ a b c d, xs = [a, b, c, d] := by
    match xs, hx4 with
    | [a, b, c, d], _ => exact ⟨a, b, c, d, rfl⟩
  have f0 : DataW.trod enc Tryz.prog w base spare held n' 3 ((cs.drop 0).take (Tryz.prog.cellsOf 3)) = some y0 := hf 0 _ rfl
  have f1 : DataW.trod enc Tryz.prog w base spare held n' 3 ((cs.drop 1).take (Tryz.prog.cellsOf 3)) = some y1 := hf 1 _ rfl
  have f2 : DataW.trod enc Tryz.prog w base spare held n' 36 ((cs.drop 2).take (Tryz.prog.cellsOf 36)) = some y2 := hf 2 _ rfl
  have f3 : DataW.trod enc Tryz.prog w base spare held n' 4 ((cs.drop 34).take (Tryz.prog.cellsOf 4)) = some y3 := hf 3 _ rfl
  rw [i64Cells] at f0 f1
  rw [hashCells] at f2
  rw [boolCells9] at f3
  obtain ⟨m0, e0, _, _⟩ := DataW.trod_int Tryz.underlying3 f0
  obtain ⟨m1, e1, _, _⟩ := DataW.trod_int Tryz.underlying3 f1
  obtain ⟨hq, h32, e2⟩ := hash_cells f2
  obtain ⟨bb, e3⟩ : ∃ b : Bool, (cs.drop 34).take 1 = [.bool b] := by
    obtain ⟨b, hb, _⟩ := DataW.trod_bool Tryz.underlying4 f3
    exact ⟨b, hb⟩
  refine ⟨⟨m0, m1, hq, bb⟩, h32, ?_⟩
  have a0 : cs = cs.take 1 ++ ((cs.drop 1).take 1 ++ ((cs.drop 2).take 32 ++ (cs.drop 34).take 1)) := by
    have q1 : cs.drop 34 = (cs.drop 34).take 1 := (List.take_of_length_le (by rw [List.length_drop, hl]; decide)).symm
    conv => lhs; rw [← List.take_append_drop 1 cs, ← List.take_append_drop 1 (cs.drop 1), List.drop_drop, ← List.take_append_drop 32 (cs.drop 2), List.drop_drop, q1]
  rw [a0, e3, e2, e1]
  rw [List.drop_zero] at e0
  rw [e0]
  simp [Pr.row]
/-- The pairs of the slice at p. -/
def PrSeen (w : World) (p : Option Addr) (E : List Pr) : Prop := ∀ (j : Nat) (x : Pr), E[j]? = some x → ∃ b o, p = some ⟨b, o, none⟩ ∧ w.rangeAt b (o + j * 35) x.row
set_option maxRecDepth 20000 in
theorem pairs_in {H : Type} {enc : TypeId × Value → H} {w : World} {base : Nat} {spare : Nat → Bool} {held : Bool} {a0 : Option Addr} {len cap fuel : Nat} {d : DataW H} {p : List MemPlace}
    (h : DataW.trod enc Tryz.prog w base spare held fuel 54 [.slice a0 len cap] = some (d, p)) : ∃ E : List Pr, E.length = len ∧ PrSeen w a0 E ∧ ∀ x ∈ E, x.h.length = 32 := by
  rcases open_slice Tryz.underlying54 h with ⟨h1, h2⟩ | ⟨a, len', cap', m, n, D, Pl, hcs, hb0, hl, hm, hmm, hx, hi⟩
  · simp at h1
    obtain ⟨rfl, rfl, rfl⟩ := h1
    exact ⟨[], rfl, (fun j x hj => by simp at hj), fun x hx => by cases hx⟩
  · simp at hcs
    obtain ⟨rfl, rfl, rfl⟩ := hcs
    obtain ⟨f, hf⟩ := choose_lt (n := len) (α := Pr) (p := fun i x => x.h.length = 32 ∧ ∃ b o, a = ⟨b, o, none⟩ ∧ w.rangeAt b (o + i * 35) x.row) (fun i hil => by
      have him : i < m := by rw [hmm]; split <;> omega
      obtain ⟨cs, h3, h4⟩ := hi i him
      rw [pairCells] at h3
      obtain ⟨_, hcl, hat⟩ := World.cells?_some h3
      obtain ⟨y, h32, rfl⟩ := pair_cells h4
      obtain ⟨b, o, sp⟩ := a
      have hsp : sp = none := by
        obtain ⟨cs0, h30, h40⟩ := hi 0 (by omega)
        rw [pairCells] at h30
        obtain ⟨_, _, hat0⟩ := World.cells?_some h30
        obtain ⟨y0, _, rfl⟩ := pair_cells h40
        have g1 := hat0 0 (by omega)
        rw [add_add, Pr.row, show ([Value.int .i64 y0.n, .int .i64 y0.v] ++ us (nmb y0.h) ++ [.bool y0.any])[0]? = some (.int .i64 y0.n) from rfl] at g1
        have g2 := World.cell?_spot g1
        rw [show (0 : Nat) * 35 + 0 = 0 from rfl] at g2
        simpa [Addr.add] using g2
      subst hsp
      refine ⟨y, h32, b, o, rfl, fun j v hj => ?_⟩
      have hj35 : j < 35 := by have := (List.getElem?_eq_some_iff.1 hj).1; rwa [Pr.row_length h32] at this
      have g := hat j hj35
      rw [add_add, hj, Addr.add_lit] at g
      rw [show o + i * 35 + j = o + (i * 35 + j) from by omega]
      exact g)
    refine ⟨(List.range len).map f, by simp, fun j x hj => ?_, fun x hx => ?_⟩
    · have hjl := (List.getElem?_eq_some_iff.1 hj).1
      simp only [List.length_map, List.length_range] at hjl
      simp [hjl] at hj
      subst hj
      obtain ⟨b, o, rfl, hr⟩ := (hf j hjl).2
      exact ⟨b, o, rfl, hr⟩
    · obtain ⟨i, hi, rfl⟩ := List.mem_map.1 hx
      exact (hf i (List.mem_range.1 hi)).1
end Go.Proofs.YtbpccbhlggcmfaaGreatDoor
