/- Of: the set of some numbers. Conditions: no more than a million numbers, each an int. -/
import Derived.Test.YtpjfgkjhhmfhkaaSpnId
namespace Go.Proofs.Ytpjfgkjhhmfhkaa
open Go.RowKit

def one (x : Int) : Sp := (x, x)
theorem sps_set {L : List Sp} {k : Nat} (hk : k < L.length) (x y : Int) : ((sps L).set (k * 2) (.int .i64 x)).set (k * 2 + 1) (.int .i64 y) = sps (L.set k (x, y)) := by
  have hl : (sps L).length = L.length * 2 := sps_length L
  refine List.ext_getElem? fun i => ?_
  by_cases hi : i / 2 < L.length
  · have hL : (L.set k (x, y))[i / 2]? = some (if k = i / 2 then (x, y) else L[i / 2]) := by
      rw [List.getElem?_set]
      by_cases e : k = i / 2
      · rw [if_pos e, if_pos e, if_pos (by omega)]
      · rw [if_neg e, if_neg e]
        exact List.getElem?_eq_getElem hi
    have a1 := sps_at hL
    have a2 := sps_at (List.getElem?_eq_getElem hi)
    rw [List.getElem?_set, List.getElem?_set]
    rcases Nat.mod_two_eq_zero_or_one i with h | h
    · have e : i / 2 * 2 = i := by omega
      rw [e] at a1 a2
      rw [a1.1]
      by_cases hki : k = i / 2
      · rw [if_pos hki, if_neg (by omega), if_pos (by omega), if_pos (by omega)]
      · rw [if_neg hki, if_neg (by omega), if_neg (by omega), a2.1]
    · have e : i / 2 * 2 + 1 = i := by omega
      rw [e] at a1 a2
      rw [a1.2]
      by_cases hki : k = i / 2
      · rw [if_pos hki, if_pos (by omega), if_pos (by rw [List.length_set]; omega)]
      · rw [if_neg hki, if_neg (by omega), if_neg (by omega), a2.2]
  · rw [List.getElem?_eq_none (by rw [List.length_set, List.length_set]; omega), List.getElem?_eq_none (by rw [sps_length, List.length_set]; omega)]
theorem SOwn.setAt {w : World} {B g c n k : Nat} {L : List Sp} (h : SOwn w B (.slice (some ⟨g, 0, none⟩) n c) L) (hn : n = L.length) (hk : k < L.length) (x y : Int) : SOwn ((w.setCell ⟨g, k * 2, none⟩ (.int .i64 x)).setCell ⟨g, k * 2 + 1, none⟩ (.int .i64 y)) B (.slice (some ⟨g, 0, none⟩) n c) (L.set k (x, y)) := by
  subst hn
  obtain ⟨g', c', R, e, hb, hg, hc, hm, hR⟩ := h.row (by omega)
  injection e with e1 e2 e3
  injection e1 with e1
  injection e1 with e1
  subst e1 e3
  refine sown_mk (R := R) (by simp) hb ?_ (by simpa using hc) hm (by rw [hR]; simp)
  have h1 := cells_set (j := k * 2) hg (.int .i64 x)
  have h2 := cells_set (j := k * 2 + 1) h1 (.int .i64 y)
  have hl : (sps L).length = L.length * 2 := sps_length L
  rw [h2, List.set_append_left _ _ (by omega), List.set_append_left _ _ (by rw [List.length_set]; omega), sps_set hk]
/-- make([]Span, n). -/
theorem made_spans (w : World) (n : Nat) (hn : n ≤ 1000000) : ∃ (w' : World) (L : List Sp), (Instr.makeSlice 24 (.int .i64 (n : Int)) (.int .i64 (n : Int))).run Try.prog w = .ok (.slice (some ⟨w.heap.size, 0, none⟩) n n) w' ∧ SOwn w' w.heap.size (.slice (some ⟨w.heap.size, 0, none⟩) n n) L ∧ L.length = n ∧ Below w.heap.size w w' := by
  obtain ⟨i0, hi0, hz0, hz1, hz2⟩ := info_parts spinfo
  obtain ⟨w', h1, h2, h3⟩ := run_makeSlice_full (P := Try.prog) w w.heap.size 24 23 i0 _ 2 Try.underlying24 hi0 hz0 hz1 .i64 .i64 n (by omega) (by rw [hz2]; omega) (by unfold maxLen; omega) (Nat.le_refl _)
  refine ⟨w', List.replicate n (0, 0), h1, ?_, by simp, (Below.refl _ w).grown h3 (Nat.le_refl _) (fun k hk => by cases hk)⟩
  have e : (madeCells (Value.agg #[.int .i64 0, .int .i64 0]).cells (n * 2)).toList = sps (List.replicate n (0, 0)) := by
    refine List.ext_getElem? fun i => ?_
    by_cases hi : i / 2 < n
    · have hat := sps_at (l := List.replicate n ((0, 0) : Sp)) (i := i / 2) (s := (0, 0)) (by rw [List.getElem?_replicate, if_pos hi])
      have e0 : (madeCells (Value.agg #[.int .i64 0, .int .i64 0]).cells (n * 2)).toList[i]? = some (.int .i64 0) := by
        unfold madeCells
        rw [Array.getElem?_toList, Array.getElem?_map, Array.getElem?_range, if_pos (by omega)]
        show some ((#[Value.int .i64 0, .int .i64 0] : Array Value)[i % 2]!) = _
        rcases Nat.mod_two_eq_zero_or_one i with h | h <;> rw [h] <;> rfl
      rw [e0]
      rcases Nat.mod_two_eq_zero_or_one i with h | h
      · rw [show i / 2 * 2 = i from by omega] at hat
        exact hat.1.symm
      · rw [show i / 2 * 2 + 1 = i from by omega] at hat
        exact hat.2.symm
    · rw [List.getElem?_eq_none (by unfold madeCells; simp; omega), List.getElem?_eq_none (by rw [sps_length, List.length_replicate]; omega)]
  unfold SOwn
  rw [List.length_replicate, ← e]
  exact h2
/-- The first k are laid. -/
structure OfI (l : List Int) (k : Nat) (L : List Sp) : Prop where
  len : L.length = l.length
  eq : L.take k = (l.take k).map one
theorem OfI.next {l : List Int} {k : Nat} {L : List Sp} {x : Int} (H : OfI l k L) (hx : l[k]? = some x) : OfI l (k + 1) (L.set k (x, x)) := by
  have hk := (List.getElem?_eq_some_iff.1 hx).1
  have hL := H.len
  refine ⟨by rw [List.length_set, hL], ?_⟩
  rw [List.take_add_one, List.take_add_one, List.map_append, hx, List.getElem?_set, if_pos rfl, if_pos (by omega), List.take_set_of_le (by omega), H.eq]
  rfl
theorem OfI.done {l : List Int} {L : List Sp} (H : OfI l l.length L) : L = l.map one := by
  have h := H.eq
  rw [← H.len, List.take_length, H.len, List.take_length] at h
  exact h
theorem one_top {l : List Int} (h : ∀ x ∈ l, x ≤ topN) : Top topN (l.map one) := fun s hs => by
  obtain ⟨x, hx, rfl⟩ := List.mem_map.1 hs
  exact h x hx
theorem one_has {l : List Int} {z : Int} : Has (l.map one) z ↔ 0 ≤ z ∧ z ∈ l := by
  constructor
  · rintro ⟨h0, s, hs, h1, h2⟩
    obtain ⟨x, hx, rfl⟩ := List.mem_map.1 hs
    unfold one at h1 h2
    simp only at h1 h2
    obtain rfl : x = z := by omega
    exact ⟨h0, hx⟩
  · rintro ⟨h0, h⟩
    exact ⟨h0, one z, List.mem_map.2 ⟨z, h, rfl⟩, by unfold one; omega, by unfold one; omega⟩
set_option maxHeartbeats 4000000 in
theorem of_to (w : World) (v : Value) (l : List Int) (hs : NSeen w v l) (hl : l.length ≤ 900000) (ht : ∀ x ∈ l, x ≤ topN) :
    Calls Try.prog 38 #[v] w fun e w' => ∃ v', e = .returned v' ∧ SOwn w' w.heap.size v' (mk (l.map one)) ∧ Below w.heap.size w w' := by
  obtain ⟨p, cap, rfl⟩ := hs.form
  have HS := Lib.hid hs
  obtain ⟨n, hn⟩ : ∃ n, n = l.length := ⟨_, rfl⟩
  have HM := Lib.hid (fun W x (h : SSeen W x (l.map one)) => make_to W x (l.map one) h (by rw [List.length_map]; omega) (one_top ht))
  rw [← hn] at HS hl ⊢
  have HN := Lib.hid hn
  obtain ⟨wm, L0, hmk, own0, hL0, hb0⟩ := made_spans w n (by omega)
  have I0 : Hid (OfI l 0 L0) := Lib.hid ⟨by omega, by simp⟩
  have OM := Lib.hid own0
  have BM := Lib.hid hb0
  have HL0 := Lib.hid hL0
  clear hs hn ht own0 hb0 hL0
  go_enter Try.func38, Try.ntmps38
  go_wp2_with fail
  go_loopw [4, 5, 11] (fun _ _ i wr => ∃ (k : Nat) (L : List Sp), k ≤ n ∧ i = .int .i64 k ∧ Hid (OfI l k L) ∧ Hid (SOwn wr w.heap.size (.slice (some ⟨w.heap.size, 0, none⟩) n n) L) ∧ Hid (Below w.heap.size w wr)) (fun _ _ i _ => n - (intOf i).toNat)
  case atStart => exact ⟨0, L0, Nat.zero_le _, rfl, I0, OM, BM⟩
  case round =>
    obtain ⟨k, L, hk, rfl, I, O, B⟩ := hrel
    have HLL : Hid (L.length = n) := Lib.hid (by rw [I.out.len, HN.out])
    by_cases hlt : k < n
    · have hkl : k < l.length := by rw [← HN.out]; exact hlt
      obtain ⟨a, rfl, c1⟩ := (HS.out.kb B.out).at hkl
      have hk' : (k : Int) < n := by omega
      obtain ⟨x, hx⟩ : ∃ x, x = l[k] := ⟨_, rfl⟩
      have hxk : l[k]? = some x := by rw [hx]; exact List.getElem?_eq_getElem hkl
      rw [← hx] at c1
      have HXK := Lib.hid hxk
      have hkL : k < L.length := by rw [HLL.out]; exact hlt
      have O2 := Lib.hid (O.out.setAt HLL.out.symm hkL x x)
      obtain ⟨b', o', e', d1, d2⟩ := O.out.seen.at hkL
      injection e' with e'
      injection e' with e1 e2
      subst e1 e2
      rw [Nat.zero_add] at d1 d2
      obtain ⟨g', cc', RR, e, _, hg', _⟩ := O.out.row (by omega)
      injection e with e
      injection e with e
      injection e with e
      subst e
      have f1 : wr.frozen? ⟨w.heap.size, k * 2, none⟩ = false := by simp [World.frozen?, hg']
      have f2 : wr.frozen? ⟨w.heap.size, k * 2 + 1, none⟩ = false := by simp [World.frozen?, hg']
      have HB3 : Hid (Below w.heap.size w ((wr.setCell ⟨w.heap.size, k * 2, none⟩ (.int .i64 x)).setCell ⟨w.heap.size, k * 2 + 1, none⟩ (.int .i64 x))) := Lib.hid ((B.out.setCell (p := ⟨w.heap.size, k * 2, none⟩) (Nat.le_refl _) _).setCell (p := ⟨w.heap.size, k * 2 + 1, none⟩) (Nat.le_refl _) _)
      clear hx hxk hg'
      go_wp2_with fail
      exact ⟨⟨k + 1, _, by omega, by go_num, Lib.hid (I.out.next HXK.out), O2, HB3⟩, by simp [intOf]; omega⟩
    · obtain rfl : k = n := by omega
      have HE : Hid (L = l.map one) := Lib.hid (by have h := I.out; rw [HN.out] at h; exact h.done)
      have SL := Lib.hid (by have h := O.out.seen; rw [HE.out] at h; exact h)
      go_wp2_with fail
      refine (HM.out wr _ SL.out).mono ?_
      rintro e w4 ⟨v4, rfl, o4, b4⟩
      have O4 := Lib.hid (o4.mono B.out.size)
      have B4 := Lib.hid (B.out.trans (b4.mono B.out.size))
      clear o4 b4
      go_wp2_with fail
      go_ret
      exact ⟨_, rfl, O4.out, B4.out⟩
end Go.Proofs.Ytpjfgkjhhmfhkaa
