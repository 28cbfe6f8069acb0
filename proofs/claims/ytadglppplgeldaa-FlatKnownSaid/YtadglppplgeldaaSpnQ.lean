/- How spans and numbers lie in memory; apart, size; SameInts; Has. Conditions: within an int; no more than a million spans. -/
import Derived.Test.YtadglppplgeldaaSpnM
import Derived.Test.YtadglppplgeldaaGenPick
import Derived.BigQuiet
import Derived.Deep.RegionHeld3
namespace Go.Proofs.Ytadglppplgeldaa
open Go.RowKit

def Sp.row (s : Sp) : List Value := [.int .i64 s.1, .int .i64 s.2]
/-- The span as one value. -/
abbrev spv (s : Sp) : Value := .agg #[.int .i64 s.1, .int .i64 s.2]
/-- The slice v holds the spans l. -/
def SSeen (w : World) (v : Value) (l : List Sp) : Prop :=
  ∃ p cap, v = .slice p l.length cap ∧ l.length ≤ cap ∧ ∀ (j : Nat) (s : Sp), l[j]? = some s → ∃ b o, p = some ⟨b, o, none⟩ ∧ w.cell? ⟨b, o + j * 2, none⟩ = some (.int .i64 s.1) ∧ w.cell? ⟨b, o + j * 2 + 1, none⟩ = some (.int .i64 s.2)
/-- The rows of spans. -/
def sps (l : List Sp) : List Value := l.flatMap Sp.row
theorem sps_app (l m : List Sp) : sps (l ++ m) = sps l ++ sps m := List.flatMap_append ..
theorem sps_one (s : Sp) : sps [s] = [.int .i64 s.1, .int .i64 s.2] := by simp [sps, Sp.row]
theorem sps_length : ∀ (l : List Sp), (sps l).length = l.length * 2
  | [] => rfl
  | x :: l => by
    have ih := sps_length l
    unfold sps at ih ⊢
    rw [List.flatMap_cons, List.length_append, ih, List.length_cons]
    simp [Sp.row]; omega
theorem sps_cell (l : List Sp) : ∀ u ∈ sps l, u.oneCell' = true := fun u hu => by
  obtain ⟨x, _, hx⟩ := List.mem_flatMap.1 hu
  simp [Sp.row] at hx
  rcases hx with rfl | rfl <;> rfl
theorem sps_at : ∀ {l : List Sp} {i : Nat} {s : Sp}, l[i]? = some s → (sps l)[i * 2]? = some (.int .i64 s.1) ∧ (sps l)[i * 2 + 1]? = some (.int .i64 s.2)
  | [], i, s, h => by simp at h
  | y :: l, 0, s, h => by
    obtain rfl : y = s := by simpa using h
    exact ⟨rfl, rfl⟩
  | y :: l, i + 1, s, h => by
    have ih := sps_at (l := l) (i := i) (s := s) (by simpa using h)
    have e : sps (y :: l) = .int .i64 y.1 :: .int .i64 y.2 :: sps l := rfl
    rw [e, show (i + 1) * 2 = i * 2 + 1 + 1 from by omega]
    simpa using ih
/-- A slice of spans of the call's own. -/
abbrev SOwn (w : World) (B : Nat) (v : Value) (l : List Sp) : Prop := w.ownsRow B 81 2 v l.length (sps l)
theorem SOwn.seen {w : World} {B : Nat} {v : Value} {l : List Sp} (h : SOwn w B v l) : SSeen w v l := by
  rcases h.2 with ⟨rfl, h0⟩ | ⟨g, cap, cur, rfl, _, hg, hn, _, _, hc⟩
  · obtain rfl : l = [] := List.eq_nil_of_length_eq_zero h0
    exact ⟨none, 0, rfl, Nat.le_refl _, fun j s hj => by simp at hj⟩
  · refine ⟨_, cap, rfl, hn, fun j s hj => ⟨g, 0, rfl, ?_, ?_⟩⟩
    · have := h.cells (g := g) rfl (j * 2) _ (sps_at hj).1
      simpa [Addr.add_lit] using this
    · have := h.cells (g := g) rfl (j * 2 + 1) _ (sps_at hj).2
      simpa [Addr.add_lit, Nat.add_assoc] using this
theorem SSeen.kb {w w' : World} {v : Value} {l : List Sp} (h : SSeen w v l) (hb : Below w.heap.size w w') : SSeen w' v l := by
  obtain ⟨p, cap, e, hl, hs⟩ := h
  refine ⟨p, cap, e, hl, fun j s hj => ?_⟩
  obtain ⟨b, o, ep, h1, h2⟩ := hs j s hj
  have hb1 : b < w.heap.size := World.block_lt_of_cell? _ _ h1
  exact ⟨b, o, ep, (hb.cell (p := ⟨b, o + j * 2, none⟩) hb1).trans h1, (hb.cell (p := ⟨b, o + j * 2 + 1, none⟩) hb1).trans h2⟩
theorem SOwn.kb {w w' : World} {B : Nat} {v : Value} {l : List Sp} (h : SOwn w B v l) (hb : Below w.heap.size w w') : SOwn w' B v l := by
  refine ⟨h.1, ?_⟩
  rcases h.2 with h1 | ⟨g, cap, cur, h1, h2, hg, h3⟩
  · exact .inl h1
  · exact .inr ⟨g, cap, cur, h1, h2, (hb.block g (Array.getElem?_eq_some_iff.1 hg).1).trans hg, h3⟩
theorem SSeen.form {w : World} {v : Value} {l : List Sp} (h : SSeen w v l) : ∃ p cap, v = .slice p l.length cap := by
  obtain ⟨p, cap, e, _⟩ := h
  exact ⟨p, cap, e⟩
theorem SSeen.at {w : World} {p : Option Addr} {n cap : Nat} {l : List Sp} (h : SSeen w (.slice p n cap) l) {j : Nat} (hj : j < l.length) : ∃ b o, p = some ⟨b, o, none⟩ ∧ w.cell? ⟨b, o + j * 2, none⟩ = some (.int .i64 l[j].1) ∧ w.cell? ⟨b, o + j * 2 + 1, none⟩ = some (.int .i64 l[j].2) := by
  obtain ⟨p', cap', e, _, hs⟩ := h
  injection e with e1 e2 e3
  subst e1
  exact hs j _ (List.getElem?_eq_getElem hj)
theorem spinfo : (Try.prog.info? 81).map (fun i => (i.zero, i.size, i.bytes)) = some (some (.agg #[.int .i64 0, .int .i64 0]), 2, 16) := by kernel_rfl
theorem spsize : (Try.prog.info? 81).map (·.size) = some 2 := by kernel_rfl
theorem two_range {w : World} {b o : Nat} {u v : Value} (h1 : w.cell? ⟨b, o, none⟩ = some u) (h2 : w.cell? ⟨b, o + 1, none⟩ = some v) : w.rangeAt b o [u, v] := fun i x hi => by
  match i, hi with
  | 0, hi => obtain rfl : u = x := by simpa using hi
             exact h1
  | 1, hi => obtain rfl : v = x := by simpa using hi
             exact h2
/-- A span's number in an int. -/
def In64 (s : Sp) : Prop := -9223372036854775808 ≤ s.1 ∧ s.1 < 9223372036854775808 ∧ -9223372036854775808 ≤ s.2 ∧ s.2 < 9223372036854775808
end Go.Proofs.Ytadglppplgeldaa
namespace Go.Proofs.Ytadglppplgeldaa
open Go.RowKit

/-- The largest number. -/
def topN : Int := 9223372036854775807
theorem cnt_take {l : List Sp} {k : Nat} (hk : k < l.length) : cnt (l.take (k + 1)) = cnt (l.take k) + (l[k].2 - l[k].1 + 1).toNat := by
  rw [List.take_add_one, List.getElem?_eq_getElem hk, cnt_app]
  exact congrArg _ (cnt_one _)
theorem Nrm.take {l : List Sp} (h : Nrm l) (k : Nat) : Nrm (l.take k) := by
  have := h
  rw [← List.take_append_drop k l] at this
  exact this.left
theorem Top.take {M : Int} {l : List Sp} (h : Top M l) (k : Nat) : Top M (l.take k) := fun s hs => h s (List.mem_of_mem_take hs)
theorem cnt_fits {l : List Sp} (h : Nrm l) (ht : Top topN l) (k : Nat) : (cnt (l.take k) : Int) ≤ 9223372036854775808 := by
  have := cnt_le (h.take k) (ht.take k) (by decide)
  unfold topN at this
  omega
/-- A span in a set: its ends. -/
theorem nrm_at {l : List Sp} (h : Nrm l) (ht : Top topN l) {k : Nat} (hk : k < l.length) : 0 ≤ l[k].1 ∧ l[k].1 ≤ l[k].2 ∧ l[k].2 < 9223372036854775808 := by
  have h1 := h.mem l[k] (List.getElem_mem hk)
  have h2 := ht l[k] (List.getElem_mem hk)
  unfold topN at h2
  omega
theorem cnt_sum {l : List Sp} (h : Nrm l) (ht : Top topN l) {k : Nat} (hk : k < l.length) : IntKind.u64.wrap ((cnt (l.take k) : Int) + (l[k].2 - l[k].1 + 1)) = (cnt (l.take (k + 1)) : Int) := by
  have h1 := cnt_fits h ht (k + 1)
  have h2 := nrm_at h ht hk
  rw [cnt_take hk] at h1 ⊢
  rw [IntKind.wrap_u64]
  omega
theorem below_drn10 {B : Nat} {a w : World} (h : Below B a w) (n : Nat) : Below B a (w.drewN n) := h.trans ⟨rfl, rfl, rfl, Nat.le_refl _, fun _ _ => rfl⟩
theorem sp_cells {W : World} {b : Nat} {x y : Value} {t : TypeId} (h : W.heap[b]? = some (.cells #[x, y] t (0, 0))) : W.cell? ⟨b, 0, none⟩ = some x ∧ W.cell? ⟨b, 1, none⟩ = some y := by
  constructor
  · rw [cell_of_row W b 0 _ _ _ h, List.getElem?_toArray]; rfl
  · rw [cell_of_row W b 1 _ _ _ h, List.getElem?_toArray]; rfl
theorem SOwn.drn {w : World} {B : Nat} {v : Value} {l : List Sp} (h : SOwn w B v l) (n : Nat) : SOwn (w.drewN n) B v l := h
theorem below_drew_then {w W1 w2 : World} (B : Below w.heap.size w W1) (b2 : Below W1.drew.heap.size W1.drew w2) : Below w.heap.size w w2 :=
  B.drew.trans (b2.mono B.size)
theorem below_then {w wr w2 : World} {o : Obj} (B : Below w.heap.size w wr) (b2 : Below (wr.alloc o).heap.size (wr.alloc o) w2) : Below w.heap.size w w2 :=
  (B.alloc B.size o).trans (b2.mono (B.alloc B.size o).size)
end Go.Proofs.Ytadglppplgeldaa
namespace Go.Proofs.Ytadglppplgeldaa
open Go.RowKit

/-- The slice v holds the numbers l. -/
def NSeen (w : World) (v : Value) (l : List Int) : Prop :=
  ∃ p cap, v = .slice p l.length cap ∧ l.length ≤ cap ∧ ∀ (j : Nat) (x : Int), l[j]? = some x → ∃ a, p = some a ∧ w.cell? (a.add j) = some (.int .i64 x)
theorem NSeen.form {w : World} {v : Value} {l : List Int} (h : NSeen w v l) : ∃ p cap, v = .slice p l.length cap := by
  obtain ⟨p, cap, e, _⟩ := h
  exact ⟨p, cap, e⟩
theorem NSeen.kb {w w' : World} {v : Value} {l : List Int} (h : NSeen w v l) (hb : Below w.heap.size w w') : NSeen w' v l := by
  obtain ⟨p, cap, e, hl, hs⟩ := h
  refine ⟨p, cap, e, hl, fun j x hj => ?_⟩
  obtain ⟨a, ep, h1⟩ := hs j x hj
  exact ⟨a, ep, (hb.cell (World.block_lt_of_cell? _ _ h1)).trans h1⟩
theorem NSeen.at {w : World} {p : Option Addr} {n cap : Nat} {l : List Int} (h : NSeen w (.slice p n cap) l) {j : Nat} (hj : j < l.length) : ∃ a, p = some a ∧ w.cell? (a.add j) = some (.int .i64 l[j]) := by
  obtain ⟨p', cap', e, _, hs⟩ := h
  injection e with e1 e2 e3
  subst e1
  exact hs j _ (List.getElem?_eq_getElem hj)
/-- The first n of it. -/
theorem NSeen.take {w : World} {p : Option Addr} {n cap m : Nat} {l : List Int} (h : NSeen w (.slice p n cap) l) (hm : m ≤ l.length) : NSeen w (.slice p m cap) (l.take m) := by
  obtain ⟨p', cap', e, hc, hs⟩ := h
  injection e with e1 e2 e3
  subst e1 e3
  have hlt : (l.take m).length = m := by rw [List.length_take]; omega
  refine ⟨p, cap, by rw [hlt], by omega, fun j x hj => hs j x ?_⟩
  rw [List.getElem?_take] at hj
  split at hj
  · exact hj
  · simp at hj
set_option maxHeartbeats 4000000 in
theorem sameInts_to (w : World) (v u : Value) (a b : List Int) (hv : NSeen w v a) (hu : NSeen w u b) (hl : a.length ≤ 1000000000) :
    Calls Try.prog 13 #[v, u] w fun e w' => (∃ r, e = .returned (.bool r) ∧ (r = true ↔ a = b)) ∧ Below w.heap.size w w' := by
  obtain ⟨p, cap, rfl⟩ := hv.form
  obtain ⟨p', cap', rfl⟩ := hu.form
  by_cases hne : a.length = b.length
  · have HV := Lib.hid hv
    have HU := Lib.hid hu
    obtain ⟨n, hn⟩ : ∃ n, n = a.length := ⟨_, rfl⟩
    rw [← hne, ← hn] at HU ⊢
    rw [← hn] at HV hl
    have HN := Lib.hid hn
    have HNE := Lib.hid hne
    have de : ((n : Int) != (n : Int)) = false := by simp
    clear hv hu hn hne
    go_enter Try.func13, Try.ntmps13
    go_wp2_with fail
    go_loopw [5] (fun i wr => ∃ k : Nat, k ≤ n ∧ i = .int .i64 k ∧ Hid (a.take k = b.take k) ∧ Hid (Below w.heap.size w wr)) (fun i _ => n - (intOf i).toNat)
    case atStart => exact ⟨0, Nat.zero_le _, rfl, Lib.hid (by simp), Lib.hid (Below.refl _ w)⟩
    case round =>
      obtain ⟨k, hk, rfl, E, B⟩ := hrel
      by_cases hlt : k < n
      · have hka : k < a.length := by rw [← HN.out]; exact hlt
        have hkb : k < b.length := by rw [← HNE.out]; exact hka
        obtain ⟨x, rfl, h1⟩ := (HV.out.kb B.out).at hka
        obtain ⟨y, rfl, h2⟩ := (HU.out.kb B.out).at hkb
        have hk' : (k : Int) < n := by omega
        have HNEXT := Lib.hid (List.take_add_one (l := a) (i := k))
        have HNEXB := Lib.hid (List.take_add_one (l := b) (i := k))
        rw [List.getElem?_eq_getElem hka] at HNEXT
        rw [List.getElem?_eq_getElem hkb] at HNEXB
        have HGA := Lib.hid (List.getElem?_eq_getElem hka)
        have HGB := Lib.hid (List.getElem?_eq_getElem hkb)
        generalize a[k] = xa at *
        generalize b[k] = xb at *
        by_cases c : xa = xb
        · have dc : (xa != xb) = false := by simpa using c
          have C := Lib.hid c
          clear c
          go_wp2_with fail
          go_quiet (fail)
          go_wp2_with fail
          exact ⟨⟨k + 1, by omega, by go_num, Lib.hid (by rw [HNEXT.out, HNEXB.out, E.out, C.out]), Lib.hid (below_drn10 B.out _)⟩, by simp [intOf]; omega⟩
        · have dc : (xa != xb) = true := by simpa using c
          have C := Lib.hid c
          clear c
          go_wp2_with fail
          go_quiet (fail)
          go_wp2_with fail
          go_ret
          refine ⟨⟨false, rfl, ⟨fun h => (by simp at h), fun h => ?_⟩⟩, below_drn10 B.out _⟩
          have h1 := HGA.out
          rw [h, HGB.out] at h1
          exact absurd (Option.some.inj h1).symm C.out
      · obtain rfl : k = n := by omega
        go_wp2_with fail
        go_ret
        refine ⟨⟨true, rfl, ⟨fun _ => ?_, fun _ => rfl⟩⟩, B.out⟩
        have h := E.out
        rw [HN.out, List.take_length, HNE.out, List.take_length] at h
        exact h
  · have de : ((a.length : Int) != (b.length : Int)) = true := by simp; omega
    have HNE := Lib.hid hne
    clear hne hv hu
    go_enter Try.func13, Try.ntmps13
    go_wp2_with fail
    go_ret
    exact ⟨⟨false, rfl, ⟨fun h => (by simp at h), fun h => absurd (congrArg List.length h) HNE.out⟩⟩, Below.refl _ w⟩
end Go.Proofs.Ytadglppplgeldaa
namespace Go.Proofs.Ytadglppplgeldaa
open Go.RowKit
set_option maxRecDepth 20000
set_option maxHeartbeats 2000000 in
theorem in_to (w : World) (b : Nat) (x : Int) (s : Sp) (hb : w.cell? ⟨b, 0, none⟩ = some (.int .i64 x)) : Calls Try.prog 47 #[spv s, .pointer (some ⟨b, 0, none⟩)] w fun e w' => e = .returned (.bool (decide (s.1 ≤ x ∧ x ≤ s.2))) ∧ Below w.heap.size w w' := by
  obtain ⟨s1, s2⟩ := s
  simp only
  have b1 := (Below.refl w.heap.size w).alloc (Nat.le_refl _) (.cells #[.int .i64 s1, .int .i64 s2] 81)
  have c := (b1.cell (p := ⟨b, 0, none⟩) (World.block_lt_of_cell? _ _ hb)).trans hb
  have B1 := Lib.hid b1
  clear hb b1
  by_cases h1 : s1 ≤ x
  · have d1 : decide (s1 ≤ x) = true := by simpa using h1
    have H1 := Lib.hid h1
    clear h1
    go_enter Try.func47, Try.ntmps47
    go_wp2_with fail
    go_ret
    exact ⟨by simp [H1.out], B1.out⟩
  · have d1 : decide (s1 ≤ x) = false := by simpa using h1
    have H1 := Lib.hid h1
    clear h1
    go_enter Try.func47, Try.ntmps47
    go_wp2_with fail
    go_ret
    exact ⟨by have := H1.out; simp; try omega, B1.out⟩
/-- The number is in one of the first k spans. -/
def sphasB (l : List Sp) (x : Int) : Bool := l.any fun s => decide (s.1 ≤ x ∧ x ≤ s.2)
theorem hasB_iff {l : List Sp} {x : Int} : (decide (0 ≤ x) && sphasB l x) = true ↔ Has l x := by
  unfold sphasB Has
  simp
theorem hasB_at {l : List Sp} {k : Nat} {s : Sp} {x : Int} (h : l[k]? = some s) (h1 : decide (s.1 ≤ x ∧ x ≤ s.2) = true) : sphasB l x = true := List.any_eq_true.2 ⟨s, List.mem_of_getElem? h, h1⟩
theorem hasB_snoc {l : List Sp} {s : Sp} {x : Int} (h : sphasB l x = false) (h1 : decide (s.1 ≤ x ∧ x ≤ s.2) = false) : sphasB (l ++ (some s).toList) x = false := by
  unfold sphasB at h ⊢
  rw [List.any_append, h]
  simpa using h1
set_option maxHeartbeats 4000000 in
theorem index_to (w : World) (v : Value) (l : List Sp) (b : Nat) (x : Int) (hs : SSeen w v l) (hl : l.length ≤ 1000000) (hb : w.cell? ⟨b, 0, none⟩ = some (.int .i64 x)) :
    Calls Try.prog 49 #[v, .func (.func 47) #[] #[.pointer (some ⟨b, 0, none⟩)]] w fun e w' => (∃ i : Int, e = .returned (.int .i64 i) ∧ decide (i ≥ 0) = sphasB l x) ∧ Below w.heap.size w w' := by
  obtain ⟨p, cap, rfl⟩ := hs.form
  have HS := Lib.hid hs
  have HB := Lib.hid hb
  obtain ⟨n, hn'⟩ : ∃ n, n = l.length := ⟨_, rfl⟩
  rw [← hn'] at hl HS ⊢
  have HL := Lib.hid hn'
  clear hs hn' hb
  go_enter Try.func49, Try.ntmps49
  go_wp2_with fail
  go_loopw [8] (fun i wr => ∃ k : Nat, k ≤ n ∧ i = .int .i64 k ∧ Hid (sphasB (l.take k) x = false) ∧ Hid (Below w.heap.size w wr)) (fun i _ => n - (intOf i).toNat)
  case atStart => exact ⟨0, Nat.zero_le _, rfl, Lib.hid rfl, Lib.hid (Below.refl _ w)⟩
  case round =>
    obtain ⟨k, hk, rfl, H, B⟩ := hrel
    by_cases hlt : k < n
    · have hkl : k < l.length := by rw [← HL.out]; exact hlt
      obtain ⟨bb, o, rfl, c1, c2⟩ := (HS.out.kb B.out).at hkl
      have hk' : (k : Int) < n := by omega
      have hr := two_range c1 c2
      have hin := in_to wr b x l[k] (((B.out.cell (p := ⟨b, 0, none⟩) (World.block_lt_of_cell? _ _ HB.out))).trans HB.out)
      have HNX := Lib.hid (List.take_add_one (l := l) (i := k))
      rw [List.getElem?_eq_getElem hkl] at HNX
      have HGE := Lib.hid (List.getElem?_eq_getElem hkl)
      generalize l[k] = s at *
      obtain ⟨q, hq⟩ : ∃ q, q = decide (s.1 ≤ x ∧ x ≤ s.2) := ⟨_, rfl⟩
      rw [← hq] at hin
      have HQ := Lib.hid hq
      have HIN := Lib.hid hin
      clear hq hin
      cases q with
      | true =>
        go_wp2_with (first
          | (refine load_to (cs := [.int .i64 s.1, .int .i64 s.2]) hr Try.underlying81 rfl spsize ?hx ?_; (case hx => rfl))
          | (go_at_call 47; refine HIN.out.mono ?_; rintro e w2 ⟨rfl, b2⟩; have B2 := Lib.hid (B.out.trans (b2.mono B.out.size)); clear b2))
        go_ret
        refine ⟨⟨k, rfl, ?_⟩, B2.out⟩
        rw [hasB_at HGE.out HQ.out.symm]
        simp
      | false =>
        go_wp2_with (first
          | (refine load_to (cs := [.int .i64 s.1, .int .i64 s.2]) hr Try.underlying81 rfl spsize ?hx ?_; (case hx => rfl))
          | (go_at_call 47; refine HIN.out.mono ?_; rintro e w2 ⟨rfl, b2⟩; have B2 := Lib.hid (B.out.trans (b2.mono B.out.size)); clear b2))
        exact ⟨⟨k + 1, by omega, by go_num, Lib.hid (by rw [HNX.out]; exact hasB_snoc H.out HQ.out.symm), B2⟩, by simp [intOf]; omega⟩
    · obtain rfl : k = n := by omega
      go_wp2_with fail
      go_ret
      refine ⟨⟨-1, rfl, ?_⟩, B.out⟩
      have h := H.out
      rw [HL.out, List.take_length] at h
      rw [h]; rfl
set_option maxHeartbeats 4000000 in
theorem contains_to (w : World) (v : Value) (l : List Sp) (b : Nat) (x : Int) (hs : SSeen w v l) (hl : l.length ≤ 1000000) (hb : w.cell? ⟨b, 0, none⟩ = some (.int .i64 x)) :
    Calls Try.prog 46 #[v, .func (.func 47) #[] #[.pointer (some ⟨b, 0, none⟩)]] w fun e w' => e = .returned (.bool (sphasB l x)) ∧ Below w.heap.size w w' := by
  have HI := Lib.hid (index_to w v l b x hs hl hb)
  obtain ⟨p, cap, rfl⟩ := hs.form
  obtain ⟨r, hr⟩ : ∃ r, r = sphasB l x := ⟨_, rfl⟩
  rw [← hr] at HI ⊢
  clear hs hl hb hr
  go_enter Try.func46, Try.ntmps46
  go_wp2_with fail
  refine HI.out.mono ?_
  rintro e w1 ⟨⟨i, rfl, hi⟩, b1⟩
  have B1 := Lib.hid b1
  have HIE := Lib.hid hi
  clear b1 hi
  go_wp2_with fail
  go_ret
  refine ⟨?_, B1.out⟩
  rw [← HIE.out]
  simp
set_option maxHeartbeats 4000000 in
theorem sphas_to (w : World) (v : Value) (l : List Sp) (x : Int) (hs : SSeen w v l) (hl : l.length ≤ 1000000) :
    Calls Try.prog 43 #[v, .int .i64 x] w fun e w' => e = .returned (.bool (decide (0 ≤ x) && sphasB l x)) ∧ Below w.heap.size w w' := by
  have b1 := (Below.refl w.heap.size w).alloc (Nat.le_refl _) (.cells #[.int .i64 x] 3)
  have hc : (w.alloc (.cells #[.int .i64 x] 3)).cell? ⟨w.heap.size, 0, none⟩ = some (.int .i64 x) := by
    rw [cell_of_row _ _ 0 _ _ _ (heap_alloc_last w _), List.getElem?_toArray]; rfl
  have HC := Lib.hid (contains_to (w.alloc (.cells #[.int .i64 x] 3)) v l w.heap.size x (hs.kb b1) hl hc)
  have B1 := Lib.hid b1
  obtain ⟨p, cap, rfl⟩ := hs.form
  obtain ⟨r, hr⟩ : ∃ r, r = sphasB l x := ⟨_, rfl⟩
  rw [← hr] at HC ⊢
  clear hs hl b1 hr
  by_cases h0 : 0 ≤ x
  · have d0 : decide (x ≥ 0) = true := by simpa using h0
    have d1 : decide (0 ≤ x) = true := by simpa using h0
    rw [d1]
    clear h0
    go_enter Try.func43, Try.ntmps43
    go_wp2_with fail
    refine HC.out.mono ?_
    rintro e w2 ⟨rfl, b2⟩
    have B2 := Lib.hid (B1.out.trans (b2.mono B1.out.size))
    clear b2
    go_wp2_with fail
    go_ret
    exact ⟨rfl, B2.out⟩
  · have d0 : decide (x ≥ 0) = false := by simpa using h0
    have d1 : decide (0 ≤ x) = false := by simpa using h0
    rw [d1]
    clear h0
    go_enter Try.func43, Try.ntmps43
    go_wp2_with fail
    go_ret
    exact ⟨rfl, B1.out⟩
end Go.Proofs.Ytadglppplgeldaa
