/- How spans and numbers lie in memory; the small calls: apart, size. Conditions: within an int. -/
import Derived.Test.YtpjfgkjhhmfhkaaSpnM
import Derived.Test.YtpjfgkjhhmfhkaaGenPick
namespace Go.Proofs.Ytpjfgkjhhmfhkaa
open Go.RowKit

def Sp.row (s : Sp) : List Value := [.int .i64 s.1, .int .i64 s.2]
/-- The span as one value. -/
abbrev spv (s : Sp) : Value := .agg #[.int .i64 s.1, .int .i64 s.2]
/-- The slice v holds the spans l. -/
def SSeen (w : World) (v : Value) (l : List Sp) : Prop :=
  ∃ p cap, v = .slice p l.length cap ∧ l.length ≤ cap ∧ ∀ (j : Nat) (s : Sp), l[j]? = some s → ∃ b o, p = some ⟨b, o, none⟩ ∧ w.cell? ⟨b, o + j * 2, none⟩ = some (.int .i64 s.1) ∧ w.cell? ⟨b, o + j * 2 + 1, none⟩ = some (.int .i64 s.2)
/-- The rows of spans. -/
def sps (l : List Sp) : List Value := l.flatMap Sp.row
theorem sps_app (l m : List Sp) : sps (l ++ m) = sps l ++ sps m := List.flatMap_append ..
theorem sps_one (s : Sp) : sps [s] = [.int .i64 s.1, .int .i64 s.2] := by simp [sps, Sp.row]
theorem sps_length : ∀ (l : List Sp), (sps l).length = l.length * 2
  | [] => rfl
  | x :: l => by
    have ih := sps_length l
    unfold sps at ih ⊢
    rw [List.flatMap_cons, List.length_append, ih, List.length_cons]
    simp [Sp.row]; omega
theorem sps_cell (l : List Sp) : ∀ u ∈ sps l, u.oneCell' = true := fun u hu => by
  obtain ⟨x, _, hx⟩ := List.mem_flatMap.1 hu
  simp [Sp.row] at hx
  rcases hx with rfl | rfl <;> rfl
theorem sps_at : ∀ {l : List Sp} {i : Nat} {s : Sp}, l[i]? = some s → (sps l)[i * 2]? = some (.int .i64 s.1) ∧ (sps l)[i * 2 + 1]? = some (.int .i64 s.2)
  | [], i, s, h => by simp at h
  | y :: l, 0, s, h => by
    obtain rfl : y = s := by simpa using h
    exact ⟨rfl, rfl⟩
  | y :: l, i + 1, s, h => by
    have ih := sps_at (l := l) (i := i) (s := s) (by simpa using h)
    have e : sps (y :: l) = .int .i64 y.1 :: .int .i64 y.2 :: sps l := rfl
    rw [e, show (i + 1) * 2 = i * 2 + 1 + 1 from by omega]
    simpa using ih
/-- A slice of spans of the call's own. -/
abbrev SOwn (w : World) (B : Nat) (v : Value) (l : List Sp) : Prop := w.ownsRow B 23 2 v l.length (sps l)
theorem SOwn.seen {w : World} {B : Nat} {v : Value} {l : List Sp} (h : SOwn w B v l) : SSeen w v l := by
  rcases h.2 with ⟨rfl, h0⟩ | ⟨g, cap, cur, rfl, _, hg, hn, _, _, hc⟩
  · obtain rfl : l = [] := List.eq_nil_of_length_eq_zero h0
    exact ⟨none, 0, rfl, Nat.le_refl _, fun j s hj => by simp at hj⟩
  · refine ⟨_, cap, rfl, hn, fun j s hj => ⟨g, 0, rfl, ?_, ?_⟩⟩
    · have := h.cells (g := g) rfl (j * 2) _ (sps_at hj).1
      simpa [Addr.add_lit] using this
    · have := h.cells (g := g) rfl (j * 2 + 1) _ (sps_at hj).2
      simpa [Addr.add_lit, Nat.add_assoc] using this
theorem SSeen.kb {w w' : World} {v : Value} {l : List Sp} (h : SSeen w v l) (hb : Below w.heap.size w w') : SSeen w' v l := by
  obtain ⟨p, cap, e, hl, hs⟩ := h
  refine ⟨p, cap, e, hl, fun j s hj => ?_⟩
  obtain ⟨b, o, ep, h1, h2⟩ := hs j s hj
  have hb1 : b < w.heap.size := World.block_lt_of_cell? _ _ h1
  exact ⟨b, o, ep, (hb.cell (p := ⟨b, o + j * 2, none⟩) hb1).trans h1, (hb.cell (p := ⟨b, o + j * 2 + 1, none⟩) hb1).trans h2⟩
theorem SOwn.kb {w w' : World} {B : Nat} {v : Value} {l : List Sp} (h : SOwn w B v l) (hb : Below w.heap.size w w') : SOwn w' B v l := by
  refine ⟨h.1, ?_⟩
  rcases h.2 with h1 | ⟨g, cap, cur, h1, h2, hg, h3⟩
  · exact .inl h1
  · exact .inr ⟨g, cap, cur, h1, h2, (hb.block g (Array.getElem?_eq_some_iff.1 hg).1).trans hg, h3⟩
theorem SSeen.form {w : World} {v : Value} {l : List Sp} (h : SSeen w v l) : ∃ p cap, v = .slice p l.length cap := by
  obtain ⟨p, cap, e, _⟩ := h
  exact ⟨p, cap, e⟩
theorem SSeen.at {w : World} {p : Option Addr} {n cap : Nat} {l : List Sp} (h : SSeen w (.slice p n cap) l) {j : Nat} (hj : j < l.length) : ∃ b o, p = some ⟨b, o, none⟩ ∧ w.cell? ⟨b, o + j * 2, none⟩ = some (.int .i64 l[j].1) ∧ w.cell? ⟨b, o + j * 2 + 1, none⟩ = some (.int .i64 l[j].2) := by
  obtain ⟨p', cap', e, _, hs⟩ := h
  injection e with e1 e2 e3
  subst e1
  exact hs j _ (List.getElem?_eq_getElem hj)
theorem spinfo : (Try.prog.info? 23).map (fun i => (i.zero, i.size, i.bytes)) = some (some (.agg #[.int .i64 0, .int .i64 0]), 2, 16) := by kernel_rfl
theorem spsize : (Try.prog.info? 23).map (·.size) = some 2 := by kernel_rfl
theorem two_range {w : World} {b o : Nat} {u v : Value} (h1 : w.cell? ⟨b, o, none⟩ = some u) (h2 : w.cell? ⟨b, o + 1, none⟩ = some v) : w.rangeAt b o [u, v] := fun i x hi => by
  match i, hi with
  | 0, hi => obtain rfl : u = x := by simpa using hi
             exact h1
  | 1, hi => obtain rfl : v = x := by simpa using hi
             exact h2
/-- A span's number in an int. -/
def In64 (s : Sp) : Prop := -9223372036854775808 ≤ s.1 ∧ s.1 < 9223372036854775808 ∧ -9223372036854775808 ≤ s.2 ∧ s.2 < 9223372036854775808
theorem apart_to (w : World) (s t : Sp) (h : 0 ≤ t.1) (h1 : t.1 < 9223372036854775808) : Calls Try.prog 45 #[spv s, spv t] w fun e w' => e = .returned (.bool (decide (s.2 < t.1 - 1))) ∧ Below w.heap.size w w' := by
  obtain ⟨s1, s2⟩ := s
  obtain ⟨t1, t2⟩ := t
  simp only at h h1 ⊢
  have hw : wrap64 (t1 - 1) = t1 - 1 := by unfold wrap64; omega
  go_enter Try.func45, Try.ntmps45
  go_wp2
  go_ret
  exact ⟨by simp, ((Below.refl _ w).alloc (Nat.le_refl _) _).alloc (by simp) _⟩
theorem size_to (w : World) (s : Sp) (h : 0 ≤ s.1) (h1 : s.1 ≤ s.2) (h2 : s.2 < 9223372036854775808) : Calls Try.prog 51 #[spv s] w fun e w' => e = .returned (.int .u64 (s.2 - s.1 + 1)) ∧ Below w.heap.size w w' := by
  obtain ⟨s1, s2⟩ := s
  simp only at h h1 h2 ⊢
  have hw : wrap64 (s2 - s1) = s2 - s1 := by unfold wrap64; omega
  have hw2 : IntKind.u64.wrap (s2 - s1) = s2 - s1 := by rw [IntKind.wrap_u64]; omega
  have hw3 : IntKind.u64.wrap (s2 - s1 + 1) = s2 - s1 + 1 := by rw [IntKind.wrap_u64]; omega
  go_enter Try.func51, Try.ntmps51
  go_wp2
  go_ret
  exact ⟨by simp, ((Below.refl _ w).alloc (Nat.le_refl _) _)⟩
end Go.Proofs.Ytpjfgkjhhmfhkaa
