/- The statements' pairs: how they lie in memory, how they came in; their own hash. No condition. -/
import Derived.Test.YtbpccbhlggcmfaaDoorRadKa
import Derived.Test.YtbpccbhlggcmfaaDoorHexInS
import Derived.Test.YtbpccbhlggcmfaaDoorHexIn
import Derived.OpenShut
namespace Go.Proofs.YtbpccbhlggcmfaaDoor
open Go.RowKit Go.ChangeShapes Go.WideShapes Go.Deep
attribute [local go_sem ↓] hld_open heq_open hne_open

/-- A pair. -/
structure Pr where
  n : Int
  v : Int
  h : List UInt8
  any : Bool
instance : Inhabited Pr := ⟨⟨0, 0, hz, false⟩⟩
def Pr.row (x : Pr) : List Value := [.int .i64 x.n, .int .i64 x.v] ++ us (nmb x.h) ++ [.bool x.any]
def Pr.hash (x : Pr) : List UInt8 := if x.any then x.h else hh x.n
theorem Pr.hash_length {x : Pr} (h : x.h.length = 32) : x.hash.length = 32 := by
  unfold Pr.hash
  split
  · exact h
  · exact hh_length _
theorem Pr.row_length {x : Pr} (h : x.h.length = 32) : x.row.length = 35 := by simp [Pr.row, us, nm_length, h]
theorem Pr.row_34 {x : Pr} (h : x.h.length = 32) : x.row[34]? = some (.bool x.any) := by
  unfold Pr.row
  have hl : (us (nmb x.h)).length = 32 := by simp [us, nm_length, h]
  rw [List.getElem?_append_right (by simp [hl])]
  simp [hl]
theorem Pr.row_h {x : Pr} (h : x.h.length = 32) {j : Nat} (hj : j < 32) : x.row[2 + j]? = (us (nmb x.h))[j]? := by
  unfold Pr.row
  have hl : (us (nmb x.h)).length = 32 := by simp [us, nm_length, h]
  rw [List.append_assoc, List.getElem?_append_right (by simp), List.getElem?_append_left (by simp [hl]; omega)]
  congr 1
  simp
theorem Pr.row_one {x : Pr} : ∀ u ∈ x.row, u.oneCell' = true := by
  intro u hu
  unfold Pr.row at hu
  simp only [List.mem_append, List.mem_cons, List.not_mem_nil, or_false, us, List.mem_map] at hu
  rcases hu with ((rfl | rfl) | ⟨y, _, rfl⟩) | rfl <;> rfl
section
variable {W : World} {b : Nat} {x : Pr} {t : TypeId}
theorem pr_0 (hb : W.heap[b]? = some (.cells x.row.toArray t (0, 0))) : W.cell? ⟨b, 0, none⟩ = some (.int .i64 x.n) := by
  rw [cell_of_row W b 0 _ _ _ hb, List.getElem?_toArray]; rfl
theorem pr_34 (h : x.h.length = 32) (hb : W.heap[b]? = some (.cells x.row.toArray t (0, 0))) : W.cell? ⟨b, 34, none⟩ = some (.bool x.any) := by
  rw [cell_of_row W b 34 _ _ _ hb, List.getElem?_toArray, Pr.row_34 h]
theorem pr_h (h : x.h.length = 32) (hb : W.heap[b]? = some (.cells x.row.toArray t (0, 0))) : W.rangeAt b 2 (us (nmb x.h)) := fun j v hj => by
  have hl : j < 32 := by
    have := (List.getElem?_eq_some_iff.1 hj).1
    simpa [us, nm_length, h] using this
  rw [cell_of_row W b (2 + j) _ _ _ hb, List.getElem?_toArray, Pr.row_h h hl]
  exact hj
end
set_option maxRecDepth 20000 in
set_option maxHeartbeats 2000000 in
theorem hashp_to (w : World) (x : Pr) (hx : x.h.length = 32) : Calls Tryd.prog 8 #[.agg x.row.toArray] w fun e w' => e = .returned (.agg (hv x.hash)) ∧ Below w.heap.size w w' := by
  have b1 := (Below.refl w.heap.size w).alloc (Nat.le_refl _) (.cells x.row.toArray 35)
  have HB1 := Lib.hid b1
  have HR1 := Lib.hid (heap_alloc_last w (.cells x.row.toArray 35))
  have hs1 : (w.alloc (.cells x.row.toArray 35)).heap.size = w.heap.size + 1 := by simp
  cases hany : x.any with
  | true =>
    have hof : x.hash = x.h := by unfold Pr.hash; rw [hany]; rfl
    rw [hof]
    have b2 := ((Below.refl _ (w.alloc (.cells x.row.toArray 35))).alloc (Nat.le_refl _) (.cells hzer 33))
    have hrz : ((w.alloc (.cells x.row.toArray 35)).alloc (.cells hzer 33)).heap[w.heap.size]? = some (.cells x.row.toArray 35 (0, 0)) := (b2.block _ (by simp)).trans HR1.out
    have c34 := pr_34 hx hrz
    rw [hany] at c34
    have lh := hld_range (w := (w.alloc (.cells x.row.toArray 35)).alloc (.cells hzer 33)) hx (pr_h hx hrz)
    have HZ := Lib.hid (heap_alloc_last (w.alloc (.cells x.row.toArray 35)) (.cells hzer 33))
    rw [hs1] at HZ
    have HB2 := Lib.hid (HB1.out.alloc HB1.out.size (.cells hzer 33))
    have HX := Lib.hid hx
    have HT := there_row HZ.out
    rw [show hzer.size = (hv x.h).size from by rw [hv_size, hx]; rfl] at HT
    have HTT := Lib.hid HT
    unfold hzer at c34 lh
    clear b1 b2 hrz hof hx HT
    go_enter Tryd.func8, Tryd.ntmps8
    go_wp2_with (refine store_to (b := w.heap.size + 1) (o := 0) (cells := hv x.h) HTT.out (hinfo (hv x.h) (by rw [hv_size, HX.out])) (hv_one x.h) ?hx ?hy ?_; (case hx => rfl); (case hy => rfl))
    have hl := loaded (P := Tryd.prog) (t := 33) (q := hv x.h) HTT.out Tryd.underlying33 rfl (hinfo (hv x.h) (by rw [hv_size, HX.out]))
    refine bodyPost_ret (v := .agg (hv x.h)) (w := ((w.alloc (.cells x.row.toArray 35)).alloc (.cells hzer 33)).setCells (w.heap.size + 1) 0 (hv x.h).toList) ?_ rfl ⟨rfl, ?_⟩
    · generalize ((w.alloc (.cells x.row.toArray 35)).alloc (.cells hzer 33)).setCells (w.heap.size + 1) 0 (hv x.h).toList = W3 at hl ⊢
      simp only [results, Tryd.results8]
      simp [hl, asAddr, Act.put]
    · exact ((Only.of_below (S := fun k => w.heap.size ≤ k) HB2.out).setCells (b := w.heap.size + 1) (Nat.le_succ _) _ 0).below (Nat.le_refl _) (fun _ h => h)
  | false =>
    have hof : x.hash = hh x.n := by unfold Pr.hash; rw [hany]; rfl
    rw [hof]
    have b2 := ((Below.refl _ (w.alloc (.cells x.row.toArray 35))).alloc (Nat.le_refl _) (.cells hzer 33))
    have hrz : ((w.alloc (.cells x.row.toArray 35)).alloc (.cells hzer 33)).heap[w.heap.size]? = some (.cells x.row.toArray 35 (0, 0)) := (b2.block _ (by simp)).trans HR1.out
    have c34 := pr_34 hx hrz
    rw [hany] at c34
    have c0 := pr_0 hrz
    have HZ := Lib.hid (heap_alloc_last (w.alloc (.cells x.row.toArray 35)) (.cells hzer 33))
    rw [hs1] at HZ
    have HB2 := Lib.hid (HB1.out.alloc HB1.out.size (.cells hzer 33))
    have HH := Lib.hid (hash_to ((w.alloc (.cells x.row.toArray 35)).alloc (.cells hzer 33)) x.n)
    obtain ⟨q, hq⟩ : ∃ q, q = hh x.n := ⟨_, rfl⟩
    rw [← hq] at HH ⊢
    have HQ : Hid (q.length = 32) := Lib.hid (by rw [hq]; exact hh_length _)
    unfold hzer at c34 c0
    clear b1 b2 hrz hof hx hq
    go_enter Tryd.func8, Tryd.ntmps8
    go_wp2_with (first
      | (go_at_call 16; refine HH.out.mono ?_; rintro e w2 ⟨rfl, b2⟩; have B2 := Lib.hid (HB2.out.trans (b2.mono HB2.out.size)); have Z2 := Lib.hid ((b2.block (w.heap.size + 1) (by simp)).trans HZ.out); clear b2)
      | (refine store_to (b := w.heap.size + 1) (o := 0) (cells := hv q) (by have := there_row Z2.out; rwa [show hzer.size = (hv q).size from by rw [hv_size, HQ.out]; rfl] at this) (hinfo (hv q) (by rw [hv_size, HQ.out])) (hv_one q) ?hx ?hy ?_; (case hx => rfl); (case hy => rfl)))
    have HT := there_row Z2.out
    rw [show hzer.size = (hv q).size from by rw [hv_size, HQ.out]; rfl] at HT
    have hl := loaded (P := Tryd.prog) (t := 33) (q := hv q) HT Tryd.underlying33 rfl (hinfo (hv q) (by rw [hv_size, HQ.out]))
    refine bodyPost_ret (v := .agg (hv q)) (w := w2.setCells (w.heap.size + 1) 0 (hv q).toList) ?_ rfl ⟨rfl, ?_⟩
    · generalize w2.setCells (w.heap.size + 1) 0 (hv q).toList = W3 at hl ⊢
      simp only [results, Tryd.results8]
      simp [hl, asAddr, Act.put]
    · exact ((Only.of_below (S := fun k => w.heap.size ≤ k) B2.out).setCells (b := w.heap.size + 1) (Nat.le_succ _) _ 0).below (Nat.le_refl _) (fun _ h => h)
end Go.Proofs.YtbpccbhlggcmfaaDoor
