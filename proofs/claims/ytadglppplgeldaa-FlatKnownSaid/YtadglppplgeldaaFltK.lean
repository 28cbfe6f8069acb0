/- known (chapter 14's example); Plain. No condition. -/
import Derived.Test.YtadglppplgeldaaFltB
import Derived.Test.YtadglppplgeldaaFltU
namespace Go.Proofs.Ytadglppplgeldaa
open Go.RowKit
set_option maxRecDepth 20000

def okpB (m n : Nat) (id : Int) (l : List Int) : Bool := decide (l.length ≤ 4) && (List.range l.length).all (fun j => match l[j]? with | none => true | some p => inT m n p && decide (p < id) && !decide (p ∈ l.take j))
theorem okpB_iff {m n : Nat} {id : Int} {l : List Int} : okpB m n id l = true ↔ okp m n id l := by
  unfold okpB okp
  rw [Bool.and_eq_true, decide_eq_true_eq, List.all_eq_true]
  refine and_congr_right fun _ => ⟨fun h j p hp => ?_, fun h j hj => ?_⟩
  · have h1 := h j (List.mem_range.2 (List.getElem?_eq_some_iff.1 hp).1)
    rw [hp] at h1
    simp only [Bool.and_eq_true, decide_eq_true_eq, Bool.not_eq_true', decide_eq_false_iff_not] at h1
    exact ⟨h1.1.1, h1.1.2, h1.2⟩
  · have hj := List.mem_range.1 hj
    rw [List.getElem?_eq_getElem hj]
    have h1 := h j _ (List.getElem?_eq_getElem hj)
    simp only [Bool.and_eq_true, decide_eq_true_eq, Bool.not_eq_true', decide_eq_false_iff_not]
    exact ⟨⟨h1.1, h1.2.1⟩, h1.2.2⟩
def oklB (m n : Nat) (low : Int) (L : List (List Int)) : Bool := (List.range L.length).all (fun k => match L[k]? with | none => true | some l => okpB m n (low + k) l)
theorem oklB_iff {m n : Nat} {low : Int} {L : List (List Int)} : oklB m n low L = true ↔ okl m n low L := by
  unfold oklB okl
  rw [List.all_eq_true]
  refine ⟨fun h k l hk => ?_, fun h k hk => ?_⟩
  · have h1 := h k (List.mem_range.2 (List.getElem?_eq_some_iff.1 hk).1)
    rw [hk] at h1
    exact okpB_iff.1 h1
  · have hk := List.mem_range.1 hk
    rw [List.getElem?_eq_getElem hk]
    exact okpB_iff.2 (h k _ (List.getElem?_eq_getElem hk))
def oktB (M O : List (List Int)) : Bool := oklB M.length O.length 0 M && oklB M.length O.length spl O
theorem oktB_iff {M O : List (List Int)} : oktB M O = true ↔ okt M O := by
  unfold oktB okt
  rw [Bool.and_eq_true, oklB_iff, oklB_iff]
/-- A literal of lists. -/
theorem LS.lit {B : Nat} {w : World} {b : Nat} (X : List (Value × List Int)) (hb : w.heap[b]? = some (.cells (X.map (·.1)).toArray 22 (0, 0))) (hx : ∀ x ∈ X, JS B w x.1 x.2) : LS B w (.slice (some ⟨b, 0, none⟩) X.length X.length) (X.map (·.2)) := by
  refine ⟨_, X.length, by rw [List.length_map], by rw [List.length_map]; exact Nat.le_refl _, fun j l hj => ?_⟩
  rw [List.getElem?_map] at hj
  cases hx' : X[j]? with
  | none => rw [hx'] at hj; cases hj
  | some x =>
    rw [hx'] at hj
    obtain rfl : x.2 = l := by simpa using hj
    refine ⟨b, 0, x.1, rfl, ?_, hx x (List.mem_of_getElem? hx')⟩
    rw [Nat.zero_add, cell_of_row w b j _ _ _ hb, List.getElem?_toArray, List.getElem?_map, hx']; rfl
/-- A literal of one number. -/
theorem JS.lit1 {B : Nat} {w : World} {b : Nat} {x : Int} (h : w.heap[b]? = some (.cells #[.int .i64 x] 3 (0, 0))) : JS B w (.slice (some ⟨b, 0, none⟩) 1 1) [x] :=
  JS.own (B' := b) (show JOwn w b (.slice (some ⟨b, 0, none⟩) 1 1) [x] from ⟨rfl, .inr ⟨b, 1, _, rfl, Nat.le_refl _, h, Nat.le_refl _, by decide, rfl, rfl⟩⟩)
set_option maxHeartbeats 4000000 in
theorem plain_to (w : World) (p q : Option Addr) (n c m d : Nat) : Calls Try.prog 18 #[tv p n c q m d] w fun e w' => e = .returned (tv p n c q m d) ∧ Below w.heap.size w w' := by
  have e1 : (w.alloc (.cells #[.slice p n c, .slice q m d] 41)).heap.size = w.heap.size + 1 := by simp
  have B2 := Lib.hid (show Below w.heap.size w ((w.alloc (.cells #[.slice p n c, .slice q m d] 41)).alloc (.cells #[.slice p n c, .slice q m d] 25)) from ((Below.refl _ w).alloc (Nat.le_refl _) _).alloc (by simp) _)
  have h1 := heap_alloc_last (w.alloc (.cells #[.slice p n c, .slice q m d] 41)) (.cells #[.slice p n c, .slice q m d] 25)
  rw [e1] at h1
  have HS := Lib.hid h1
  clear e1 h1
  go_enter Try.func18, Try.ntmps18
  go_wp2_with fail
  refine bodyPost_ret (results_cell_row rfl _ _ (w.heap.size + 1) _ _ (0, 0) _ rfl HS.out Try.underlying25 rfl (by kernel_rfl)) rfl ?_
  exact ⟨rfl, B2.out⟩
theorem known_flt : oktB [[], [0], [0]] [] = true ∧ flt [[], [0], [0]] [] = [⟨0, 1, [], true, true⟩, ⟨2, 2, [0], false, false⟩] := ⟨by decide, rfl⟩
theorem GO.two {B R : Nat} {w : World} {v : Value} {Y : List (Value × Sg)} {s t : Sg} (h : GO B R w v Y) (e : Y.map (·.2) = [s, t]) : ∃ g c x y, v = .slice (some ⟨g, 0, none⟩) 2 c ∧ w.rangeAt g 0 (s.row x) ∧ w.rangeAt g 5 (t.row y) ∧ JS B w x s.par ∧ JS B w y t.par := by
  have hs := h.seen
  rw [e] at hs
  obtain ⟨p, n, c, hv, _⟩ := h.shape
  have hlen : n = 2 := by
    obtain ⟨p', c', e', _⟩ := hs
    rw [hv] at e'
    injection e'
  subst hlen
  rw [hv] at hs
  obtain ⟨b0, o0, x, e0, h0, hx⟩ := hs.at (j := 0) (by simp)
  obtain ⟨b1, o1, y, e1, h1, hy⟩ := hs.at (j := 1) (by simp)
  obtain ⟨g, cap, hg⟩ : ∃ g cap, v = .slice (some ⟨g, 0, none⟩) 2 cap := by
    rcases h.row.2 with ⟨h3, _⟩ | ⟨g, cap, cur, h3, _⟩
    · rw [h3] at hv; cases hv
    · have : Y.length = 2 := by have := congrArg List.length e; simpa using this
      exact ⟨g, cap, by rw [h3, this]⟩
  rw [hv] at hg
  injection hg with hg _ _
  rw [hg] at e0 e1
  injection e0 with e0
  injection e0 with e00 e01 _
  injection e1 with e1
  injection e1 with e10 e11 _
  subst e00 e01 e10 e11
  exact ⟨g, c, x, y, by rw [hv, hg], by simpa using h0, by simpa using h1, hx, hy⟩
theorem two_ints (w : World) : ∃ W, W = ((w.alloc (.cells #[.int .i64 0] 3)).alloc (.cells #[.int .i64 0] 3)).alloc (.cells #[.slice none 0 0, .slice (some ⟨w.heap.size, 0, none⟩) 1 1, .slice (some ⟨w.heap.size + 1, 0, none⟩) 1 1] 22) ∧ LS 0 W (.slice (some ⟨w.heap.size + 2, 0, none⟩) 3 3) [[], [0], [0]] ∧ Below w.heap.size w W := by
  refine ⟨_, rfl, ?_, (((Below.refl _ w).alloc (Nat.le_refl _) _).alloc (by simp) _).alloc (by simp; omega) _⟩
  have h2 := heap_alloc_last ((w.alloc (.cells #[.int .i64 0] 3)).alloc (.cells #[.int .i64 0] 3)) (.cells #[.slice none 0 0, .slice (some ⟨w.heap.size, 0, none⟩) 1 1, .slice (some ⟨w.heap.size + 1, 0, none⟩) 1 1] 22)
  have h1 := heap_alloc_last (w.alloc (.cells #[.int .i64 0] 3)) (.cells #[.int .i64 0] 3)
  have h0 := heap_alloc_last w (.cells #[.int .i64 0] 3)
  rw [show ((w.alloc (.cells #[.int .i64 0] 3)).alloc (.cells #[.int .i64 0] 3)).heap.size = w.heap.size + 2 by simp] at h2
  rw [show (w.alloc (.cells #[.int .i64 0] 3)).heap.size = w.heap.size + 1 by simp] at h1
  refine LS.lit [(.slice none 0 0, []), (.slice (some ⟨w.heap.size, 0, none⟩) 1 1, [0]), (.slice (some ⟨w.heap.size + 1, 0, none⟩) 1 1, [0])] h2 (fun x hx => ?_)
  simp only [List.mem_cons, List.not_mem_nil, or_false] at hx
  rcases hx with rfl | rfl | rfl
  · exact JS.nil _ _
  · exact JS.lit1 (by rw [heap_alloc_old _ _ (by simp; omega), heap_alloc_old _ _ (by simp)]; exact h0)
  · exact JS.lit1 (by rw [heap_alloc_old _ _ (by simp)]; exact h1)
set_option maxHeartbeats 8000000 in
theorem known14_to (w : World) : Calls Try.prog 11 #[] w fun e w' => e = .returned (.bool true) ∧ Below w.heap.size w w' := by
  obtain ⟨W, hW, hL, hb⟩ := two_ints w
  have HB := Lib.hid hb
  have HBL := Lib.hid (build_to5 W 0 (Nat.zero_le _) _ [] _ none 3 3 0 0 hL (LS.nil _ _) (by decide) (by decide))
  have HW := Lib.hid hW
  clear hW hL hb
  go_enter Try.func11, Try.ntmps11
  go_wp2_with fail
  rw [show w.heap.size + 1 + 1 = w.heap.size + 2 from rfl, ← HW.out]
  refine HBL.out.mono ?_
  rintro e w1 ⟨v1, Y, rfl, g1, hy1, _, b1⟩
  have hy2 := hy1 (oktB_iff.1 known_flt.1)
  rw [known_flt.2] at hy2
  obtain ⟨g, c, x, y, rfl, r0, r1, jx, jy⟩ := g1.two hy2
  obtain ⟨a1, a2, a3, a4, a5⟩ := sg_cells r0
  obtain ⟨a6, a7, a8, a9, a10⟩ := sg_cells r1
  simp only [Nat.zero_add, Nat.reduceAdd] at a1 a2 a3 a4 a5 a6 a7 a8 a9 a10
  obtain ⟨py, cy, rfl⟩ := jy.form
  have JY := Lib.hid jy
  have B1 := Lib.hid (HB.out.trans (b1.mono HB.out.size))
  have hgs := gsize
  clear g1 hy1 hy2 b1 r0 r1 jx jy HB HBL HW
  go_wp2_with fail
  have AL := (Below.refl w1.heap.size w1).alloc (Nat.le_refl _) (.cells #[.int .i64 0] 3)
  refine (sameInts_to _ _ _ [0] [0] (JY.out.kb AL).1 (JS.lit1 (B := 0) (heap_alloc_last w1 _)).1 (by decide)).mono ?_
  rintro e w2 ⟨⟨r, rfl, hr⟩, b2⟩
  obtain rfl : r = true := hr.2 rfl
  have B2 := Lib.hid ((B1.out.trans (AL.mono B1.out.size)).trans (b2.mono (B1.out.trans (AL.mono B1.out.size)).size))
  clear AL b2 hr
  go_wp2_with fail
  go_ret
  exact ⟨rfl, B2.out⟩
end Go.Proofs.Ytadglppplgeldaa
