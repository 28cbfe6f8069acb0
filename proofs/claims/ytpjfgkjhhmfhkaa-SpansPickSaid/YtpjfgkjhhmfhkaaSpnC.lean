/- ascending: what some spans contain from 0 on, the lowest first. Condition: no more than a million spans. -/
import Derived.Test.YtpjfgkjhhmfhkaaSpnA
import Derived.Test.YtpjfgkjhhmfhkaaSpnT
import Derived.Test.YtpjfgkjhhmfhkaaGenApp
namespace Go.Proofs.Ytpjfgkjhhmfhkaa
open Go.RowKit

theorem SOwn.row {w : World} {B : Nat} {v : Value} {E : List Sp} (h : SOwn w B v E) (h0 : 0 < E.length) : ∃ g cap R, v = .slice (some ⟨g, 0, none⟩) E.length cap ∧ B ≤ g ∧ w.heap[g]? = some (.cells (sps E ++ R).toArray 23 (0, 0)) ∧ E.length ≤ cap ∧ cap ≤ maxLen ∧ R.length = (cap - E.length) * 2 := by
  rcases h.2 with ⟨_, hn⟩ | ⟨g, cap, cur, rfl, hb, hg, hn, hm, hs, ht⟩
  · omega
  · refine ⟨g, cap, cur.toList.drop (E.length * 2), rfl, hb, ?_, hn, hm, ?_⟩
    · rw [← ht, List.take_append_drop]; simpa using hg
    · rw [List.length_drop, Array.length_toList, hs, Nat.sub_mul]
theorem sown_mk {w : World} {B g cap n : Nat} {E : List Sp} {R : List Value} (hn : n = E.length) (hb : B ≤ g) (hg : w.heap[g]? = some (.cells (sps E ++ R).toArray 23 (0, 0))) (hc : E.length ≤ cap) (hm : cap ≤ maxLen) (hR : R.length = (cap - E.length) * 2) : SOwn w B (.slice (some ⟨g, 0, none⟩) n cap) E := by
  subst hn
  refine ⟨sps_length E, .inr ⟨g, cap, (sps E ++ R).toArray, rfl, hb, hg, hc, hm, ?_, ?_⟩⟩
  · show (sps E ++ R).length = cap * 2
    rw [List.length_append, sps_length, hR, ← Nat.add_mul]
    congr 1; omega
  · rw [show (sps E ++ R).toArray.toList = sps E ++ R from rfl, ← sps_length, List.take_left]
/-- slices.SortFunc over a slice of the call's own. -/
theorem ssort_to (w : World) (B : Nat) (v : Value) (E : List Sp) (h : SOwn w B v E) (hn : E.length ≤ 1000000) (hB : B ≤ w.heap.size) (h0 : 0 < E.length) :
    Calls Try.prog 53 #[v, .func (.func 54) #[] #[]] w fun e w' => e = .returned (.tuple #[]) ∧
      ∃ E', E'.length = E.length ∧ (∀ a, a ∈ E' ↔ a ∈ E) ∧ E'.Pairwise (fun a b => a.1 ≤ b.1) ∧ SOwn w' B v E' ∧ Below B w w' := by
  obtain ⟨g, cap, R, rfl, hb, hg, hc, hm, hR⟩ := h.row h0
  refine Calls.mono (ssort_row w g cap E R hg hn) ?_
  rintro e w' ⟨he, E', hl, hme, hp, hg', ho⟩
  exact ⟨he, E', hl, hme, hp, sown_mk hl.symm hb hg' (by omega) hm (by omega), ho.below hB (fun k hk => by rw [hk]; exact hb)⟩
/-- An empty slice: nothing is done. -/
theorem ssort_none (w : World) (p : Option Addr) (cap : Nat) : Calls Try.prog 53 #[.slice p 0 cap, .func (.func 54) #[] #[]] w fun e w' => e = .returned (.tuple #[]) ∧ w' = w := by
  refine (AnyF.slices_SortFunc_none Try.ssortf p cap (.func (.func 54) #[] #[]) w).mono ?_
  rintro e w' h
  exact h
/-- slices.SortFunc over any slice of the call's own. -/
theorem ssort_any (w : World) (B : Nat) (v : Value) (E : List Sp) (h : SOwn w B v E) (hn : E.length ≤ 1000000) (hB : B ≤ w.heap.size) :
    Calls Try.prog 53 #[v, .func (.func 54) #[] #[]] w fun e w' => e = .returned (.tuple #[]) ∧
      ∃ E', E'.length = E.length ∧ (∀ a, a ∈ E' ↔ a ∈ E) ∧ E'.Pairwise (fun a b => a.1 ≤ b.1) ∧ SOwn w' B v E' ∧ Below B w w' := by
  cases E with
  | nil =>
    obtain ⟨p, c, rfl⟩ := h.shape
    refine (ssort_none w p c).mono ?_
    rintro e w' ⟨he, rfl⟩
    exact ⟨he, [], rfl, fun _ => Iff.rfl, .nil, h, Below.refl _ _⟩
  | cons x E => exact ssort_to w B v (x :: E) h hn hB (by simp)
theorem clip_snoc {l : List Sp} {k : Nat} (hk : k < l.length) : clip (l.take (k + 1)) = clip (l.take k) ++ (if max l[k].1 0 ≤ l[k].2 then [(max l[k].1 0, l[k].2)] else []) := by
  rw [List.take_add_one, List.getElem?_eq_getElem hk, clip_app]
  exact congrArg _ (clip_one _)
theorem clip_fits (l : List Sp) (hl : l.length ≤ 1000000) (k : Nat) : (clip (l.take k)).length ≤ 1000000 := by
  have := clip_len (l.take k)
  have := List.length_take_le k l
  rw [List.length_take] at *
  omega
set_option maxHeartbeats 4000000 in
theorem ascending_to (w : World) (v : Value) (l : List Sp) (hs : SSeen w v l) (hl : l.length ≤ 1000000) : Calls Try.prog 46 #[v] w fun e w' => ∃ v' E, e = .returned v' ∧ SOwn w' w.heap.size v' E ∧ (∀ a, a ∈ E ↔ a ∈ clip l) ∧ E.length ≤ l.length ∧ E.Pairwise (fun a b => a.1 ≤ b.1) ∧ Below w.heap.size w w' := by
  obtain ⟨p, cap, rfl⟩ := hs.form
  have HS := Lib.hid hs
  have HF := Lib.hid (clip_fits l hl)
  obtain ⟨n, hn'⟩ : ∃ n, n = l.length := ⟨_, rfl⟩
  rw [← hn'] at hl HS ⊢
  have HL := Lib.hid hn'
  clear hs hn'
  go_enter Try.func46, Try.ntmps46
  go_wp2_with fail
  go_loopw [3, 8] (fun z i wr => ∃ k : Nat, k ≤ n ∧ i = .int .i64 k ∧ Hid (SOwn wr w.heap.size z (clip (l.take k))) ∧ Hid (Below w.heap.size w wr)) (fun _ i _ => n - (intOf i).toNat)
  case atStart => exact ⟨0, Nat.zero_le _, rfl, Lib.hid (SOwn.nil w _), Lib.hid (Below.refl _ w)⟩
  case round =>
    obtain ⟨k, hk, rfl, O, B⟩ := hrel
    by_cases hlt : k < n
    · have hkl : k < l.length := by rw [← HL.out]; exact hlt
      obtain ⟨b, o, rfl, c1, c2⟩ := (HS.out.kb B.out).at hkl
      have hk' : (k : Int) < n := by omega
      have hr := two_range c1 c2
      have HC := Lib.hid (clip_snoc hkl)
      obtain ⟨s, hs⟩ : ∃ s, s = l[k] := ⟨_, rfl⟩
      rw [← hs] at hr HC c1 c2
      clear hs
      obtain ⟨pz, cz, rfl⟩ := O.out.shape
      obtain ⟨L, hL⟩ : ∃ L, L = clip (l.take k) := ⟨_, rfl⟩
      have HLL := Lib.hid (HF.out k)
      rw [← hL] at O HC HLL ⊢
      have HL' := Lib.hid hL
      clear hL
      by_cases c : max s.1 0 ≤ s.2
      · rw [if_pos c] at HC
        have d1 : decide (max s.1 0 ≤ s.2) = true := by simpa using c
        go_wp2_with (first
          | (refine load_to (cs := [.int .i64 s.1, .int .i64 s.2]) hr Try.underlying23 rfl spsize ?hx ?_; (case hx => rfl))
          | (at_builtin; refine push_span (by rfl) (.tmp 21) (.tmp 23) (by rfl) (max s.1 0, s.2) w.heap.size _ L (by rfl) (O.out.alloc _) (wr.heap.size + 1) (by simp) (by rfl) HLL.out (B.out.alloc B.out.size _).size ?_; intro p2 c2' w2 own2 _ _ b2; have O2 := Lib.hid own2; have B2 := Lib.hid ((B.out.alloc B.out.size _).trans b2); clear own2 b2))
        exact ⟨⟨k + 1, by omega, by go_num, Lib.hid (by rw [HC.out]; exact O2.out), B2⟩, by simp [intOf]; omega⟩
      · rw [if_neg c, List.append_nil] at HC
        have d1 : decide (max s.1 0 ≤ s.2) = false := by simpa using c
        go_wp2_with (first
          | (refine load_to (cs := [.int .i64 s.1, .int .i64 s.2]) hr Try.underlying23 rfl spsize ?hx ?_; (case hx => rfl)))
        exact ⟨⟨k + 1, by omega, by go_num, Lib.hid (by rw [HC.out]; exact O.out.alloc _), Lib.hid (B.out.alloc B.out.size _)⟩, by simp [intOf]; omega⟩
    · obtain rfl : k = n := by omega
      have HLL := Lib.hid (HF.out k)
      rw [List.take_of_length_le (Nat.le_of_eq HL.out.symm)] at O HLL
      obtain ⟨pz, cz, rfl⟩ := O.out.shape
      have HSO := fun W (h : SOwn W w.heap.size (.slice pz (clip l).length cz) (clip l)) hB => ssort_any W w.heap.size _ _ h HLL.out hB
      have HCL := Lib.hid (clip_len l)
      obtain ⟨L, hL⟩ : ∃ L, L = clip l := ⟨_, rfl⟩
      rw [← hL] at O HLL HSO HCL ⊢
      have HLe := Lib.hid hL
      clear hL
      go_wp2_with (go_at_call 53; refine (HSO wr O.out B.out.size).mono ?_; rintro e w2 ⟨rfl, E, hE1, hE2, hE3, own2, b2⟩; have HE := Lib.hid (And.intro hE1 (And.intro hE2 (And.intro hE3 (And.intro own2 b2)))); clear hE1 hE2 hE3 own2 b2)
      go_ret
      obtain ⟨h1, h2, h3, h4, h5⟩ := HE.out
      exact ⟨_, E, rfl, h4, fun a => by rw [h2, HLe.out], by rw [h1, HL.out]; exact HCL.out, h3, B.out.trans h5⟩
end Go.Proofs.Ytpjfgkjhhmfhkaa
