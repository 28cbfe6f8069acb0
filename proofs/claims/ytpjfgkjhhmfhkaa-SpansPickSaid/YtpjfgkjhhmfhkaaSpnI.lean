/- slices.Backward over spans: what it hands to a loop's body. Condition: no more than a million spans. -/
import Derived.Test.YtpjfgkjhhmfhkaaSpnF
import Derived.Test.YtpjfgkjhhmfhkaaSpnQ
import Derived.RangeFuncNested
import Derived.RangeFuncBound
import Derived.RangeFuncCalls
import Derived.RangeFuncLeaves
import Derived.RangeFuncBox
import Derived.Shelf.Abstract
import Derived.Shelf.RegionOpen
import Derived.OwnWalkIn
import Derived.TacticsInMore
import Derived.LoopNIn
import Derived.LoopIn
import Derived.Maps.AppendAt
namespace Go.Proofs.Ytpjfgkjhhmfhkaa
open Go.RowKit Go.Shelf
attribute [local go_sem] Oper.semAt_some

/-- What a round keeps: all blocks but one, and but new ones. -/
def KpI (Bi n₀ : Nat) (W W' : World) : Prop := Only (fun k => k = Bi ∨ n₀ ≤ k) W W'
theorem KpI.t {Bi n₀ : Nat} {A B C : World} (h : KpI Bi n₀ A B) (k : KpI Bi n₀ B C) : KpI Bi n₀ A C := Only.trans h k (fun _ h => h) (fun _ _ h => h)
theorem KpI.of {Bi n₀ : Nat} {A B : World} (h : Below n₀ A B) : KpI Bi n₀ A B := ⟨h.os, h.tape, h.output, h.size, fun k _ hk => h.block k (by omega)⟩
theorem KpI.refl (Bi n₀ : Nat) (W : World) : KpI Bi n₀ W W := Only.refl _ W
theorem KpI.cell {Bi n₀ : Nat} {A B : World} (h : KpI Bi n₀ A B) {x : Addr} {u : Value} (hx : A.cell? x = some u) (h1 : x.block ≠ Bi) (h2 : x.block < n₀) : B.cell? x = some u :=
  (World.cell?_of_block (w := A) (h.block _ (World.block_lt_of_cell? _ _ hx) (by omega))).trans hx
/-- What has come when j rounds are over: the last ones first. -/
def bkf (L : List Sp) (j : Nat) : Int × Sp := (((L.length - 1 - j : Nat) : Int), (L[L.length - 1 - j]?).getD (0, 0))
def bk (L : List Sp) (j : Nat) : List (Int × Sp) := (List.range j).map (bkf L)
theorem bk_succ (L : List Sp) (j : Nat) : bk L (j + 1) = bk L j ++ [bkf L j] := by simp [bk, List.range_succ]
theorem bk_length (L : List Sp) (j : Nat) : (bk L j).length = j := by simp [bk]
/-- The spans in blocks that a round keeps. -/
def SFar (Bi n₀ : Nat) (W : World) (v : Value) (L : List Sp) : Prop :=
  ∃ p cap, v = .slice p L.length cap ∧ ∀ (j : Nat) (s : Sp), L[j]? = some s → ∃ b o, p = some ⟨b, o, none⟩ ∧ b ≠ Bi ∧ b < n₀ ∧ W.cell? ⟨b, o + j * 2, none⟩ = some (.int .i64 s.1) ∧ W.cell? ⟨b, o + j * 2 + 1, none⟩ = some (.int .i64 s.2)
theorem SFar.keep {Bi n₀ : Nat} {W W' : World} {v : Value} {L : List Sp} (h : SFar Bi n₀ W v L) (k : KpI Bi n₀ W W') : SFar Bi n₀ W' v L := by
  obtain ⟨p, cap, e, hs⟩ := h
  refine ⟨p, cap, e, fun j s hj => ?_⟩
  obtain ⟨b, o, ep, h1, h2, h3, h4⟩ := hs j s hj
  exact ⟨b, o, ep, h1, h2, k.cell h3 h1 h2, k.cell h4 h1 h2⟩
theorem cnt_mono1 {l : List Sp} {k : Nat} (hk : k < l.length) : (l[k].2 - l[k].1 + 1).toNat ≤ cnt l := by
  have h : cnt (l.take (k + 1) ++ l.drop (k + 1)) = cnt (l.take (k + 1)) + cnt (l.drop (k + 1)) := cnt_app _ _
  rw [List.take_append_drop, cnt_take hk] at h
  omega
set_option maxRecDepth 100000 in
set_option maxHeartbeats 2000000 in
/-- The iterator's rounds, for every loop body that keeps what it must. -/
theorem back1_in (F : Fence) (n : Nat) (hf : F.fn 52) (hro : F.round = none) (hn : 1 ≤ n) (l Bs Bi n₀ : Nat) (p : Option Addr) (cap : Nat) (L : List Sp) (hL : L.length ≤ 1000000) (hbs : Bs ≠ Bi) (hbn : Bs < n₀) (J Jx : List (Int × Sp) → World → Prop)
    (hY : ∀ pre x W, J pre W → pre.length < L.length → x = bkf L pre.length → YieldAt F (n - 1) Try.prog l #[.int .i64 x.1, spv x.2] W fun e W' =>
      (e = .returned (.bool true) ∧ J (pre ++ [x]) W' ∧ KpI Bi n₀ W W') ∨ (e = .returned (.bool false) ∧ Jx (pre ++ [x]) W'))
    (W : World) (hBs : W.cell? ⟨Bs, 0, none⟩ = some (.slice p L.length cap)) (hc : SFar Bi n₀ W (.slice p L.length cap) L) (h0 : J [] W) :
    CallsIn F n Try.prog 52 #[.func (.yield l) #[] #[], .pointer (some ⟨Bs, 0, none⟩)] W fun e W' => (∃ v, e = .returned v) ∧
      ((∃ ys, ys = bk L L.length ∧ J ys W') ∨ (∃ pre, (∃ k, k ≤ L.length ∧ pre = bk L k) ∧ Jx pre W')) := by
  have hw : wrap64 ((L.length : Int) - 1) = (L.length : Int) - 1 := by unfold wrap64; omega
  refine callsIn_of_wp Try.func52 rfl hf ?_ hro
  simp only [Try.ntmps52, List.size_toArray, List.length_cons, List.length_nil, Nat.reduceAdd, Nat.reduceSub, Array.replicate_succ, Array.replicate_zero, List.push_toArray, List.append_toArray, List.nil_append, List.cons_append]
  gi_wp2
  gi_loopw [3] (fun i wr => ∃ m k : Nat, m + k = L.length ∧ i = .int .i64 ((m : Int) - 1) ∧ J (bk L k) wr ∧ KpI Bi n₀ W wr)
    (fun i _ => (intOf i + 1).toNat)
  case atStart => exact ⟨L.length, 0, by omega, rfl, h0, KpI.refl _ _ _⟩
  case round =>
    obtain ⟨m, k, hmk, rfl, hJs, hnx⟩ := hrel
    have hB := hnx.cell hBs hbs hbn
    cases m with
    | succ m =>
      have hm : L.length - 1 - k = m := by omega
      have hml : m < L.length := by omega
      obtain ⟨p', cap', e', hs⟩ := hc.keep hnx
      injection e' with e1 e2 e3
      subst e1 e3
      obtain ⟨b, o, rfl, g1, g2, g3, g4⟩ := hs m L[m] (List.getElem?_eq_getElem hml)
      have hbk : bkf L k = ((m : Int), L[m]) := by unfold bkf; rw [hm, List.getElem?_eq_getElem hml]; rfl
      obtain ⟨s, hsm⟩ : ∃ s, s = L[m] := ⟨_, rfl⟩
      rw [← hsm] at g3 g4 hbk
      clear hsm hs
      obtain ⟨fn, tmps, assign, body, hy, hR⟩ := hY (bk L k) ((m : Int), s) wr hJs (by rw [bk_length]; omega) (by rw [bk_length]; exact hbk.symm)
      dsimp only at hy
      have hmi : (m : Int) < (L.length : Int) := by omega
      have hw2 : wrap64 ((m : Int) - 1) = (m : Int) - 1 := by unfold wrap64; omega
      have hsz : ((m + 1 : Nat) : Int) - 1 = (m : Int) := by omega
      rw [hsz]
      gi_wp2
      refine hR.mono ?_
      rintro e W3 (⟨rfl, hJ3, hk3⟩ | ⟨rfl, hJx3⟩)
      · gi_wp2
        go_roundw
        case rel => exact ⟨m, k + 1, by omega, rfl, by rw [bk_succ, hbk]; exact hJ3, hnx.t hk3⟩
        case measure => simp [intOf]
      · gi_wp2
        refine bodyPost_ret (results_none rfl _ _ _) rfl ?_
        exact ⟨⟨_, rfl⟩, .inr ⟨_, ⟨k + 1, by omega, (bk_succ L k).symm⟩, by rw [hbk]; exact hJx3⟩⟩
    | zero =>
      obtain rfl : k = L.length := by omega
      gi_wp2
      go_end0
      exact ⟨⟨_, rfl⟩, .inl ⟨_, rfl, hJs⟩⟩
set_option maxHeartbeats 1000000 in
/-- slices.Backward(s): the slice is boxed, the function value captures the box. -/
theorem backward_in (F : Fence) (n : Nat) (hf : F.fn 43) (hro : F.round = none) (p : Option Addr) (len cap : Nat) (w : World) :
    CallsIn F n Try.prog 43 #[.slice p len cap] w fun e w' => e = .returned (.func (.func 52) #[] #[.pointer (some ⟨w.heap.size, 0, none⟩)]) ∧ w' = w.alloc (.cells #[.slice p len cap] 24) := by
  refine callsIn_of_wp Try.func43 rfl hf ?_ hro
  simp only [Try.ntmps43, List.size_toArray, List.length_cons, List.length_nil, Nat.reduceAdd, Nat.reduceSub, Array.replicate_succ, Array.replicate_zero, List.push_toArray, List.append_toArray, List.nil_append, List.cons_append]
  gi_wp2
  go_ret
  exact ⟨rfl, rfl⟩
/-- What a round is handed: a span of a set, not too long. -/
abbrev Rnd := { x : Int × Sp // 0 ≤ x.2.1 ∧ x.2.1 ≤ x.2.2 ∧ x.2.2 ≤ topN ∧ x.2.2 - x.2.1 < 1000000 }
/-- The value that it hands back goes through all the spans, the last one first. -/
theorem back_stops (F : Fence) (n : Nat) (hf : F.fn 52) (hro : F.round = none) (hn : 1 ≤ n) (Bs Bi n₀ : Nat) (v : Value) (L : List Sp) (hL : L.length ≤ 1000000) (hnm : Nrm L) (ht : Top topN L) (hsz : cnt L ≤ 1000000) (w : World) (hbs : Bs ≠ Bi) (hbn : Bs < n₀) (hbw : n₀ ≤ w.heap.size)
    (hc : w.cell? ⟨Bs, 0, none⟩ = some v) (hS : SFar Bi n₀ w v L) :
    SeqStopsK F n Try.prog 52 #[.pointer (some ⟨Bs, 0, none⟩)] (fun x : Rnd => #[.int .i64 x.1.1, spv x.1.2]) (KpI Bi n₀) (fun ys => ys.map (·.1) = bk L L.length) (fun pre => ∃ k, k ≤ L.length ∧ pre.map (·.1) = bk L k) L.length w := fun l J Jx W hW _ _ hY h0 => by
  have hk : KpI Bi n₀ w W := KpI.of (hW.mono hbw)
  obtain ⟨p, cap, rfl, hS'⟩ := hS
  refine (back1_in F n hf hro hn l Bs Bi n₀ p cap L hL hbs hbn (fun pre W => ∃ q : List Rnd, q.map (·.1) = pre ∧ J q W) (fun pre W => ∃ q : List Rnd, q.map (·.1) = pre ∧ Jx q W) ?_ W (hk.cell hc hbs hbn) (SFar.keep ⟨p, cap, rfl, hS'⟩ hk) ⟨[], rfl, h0⟩).mono ?_
  · rintro pre x W1 ⟨q, rfl, hJ⟩ hlen hx
    rw [List.length_map] at hlen hx
    have hm : L.length - 1 - q.length < L.length := by omega
    have hp : 0 ≤ x.2.1 ∧ x.2.1 ≤ x.2.2 ∧ x.2.2 ≤ topN ∧ x.2.2 - x.2.1 < 1000000 := by
      rw [hx]
      unfold bkf
      rw [List.getElem?_eq_getElem hm]
      have h1 := nrm_at hnm ht hm
      have h2 := cnt_mono1 hm
      have h3 := ht _ (List.getElem_mem hm)
      simp only [Option.getD_some]
      omega
    refine YieldAt.mono (hY q ⟨x, hp⟩ W1 hJ hlen) ?_
    rintro e W' (⟨he, h1, h2⟩ | ⟨he, h1⟩)
    · exact .inl ⟨he, ⟨q ++ [⟨x, hp⟩], by simp, h1⟩, h2⟩
    · exact .inr ⟨he, ⟨q ++ [⟨x, hp⟩], by simp, h1⟩⟩
  · rintro e W' ⟨he, ⟨ys, rfl, q, hq, hj⟩ | ⟨pre, ⟨k, hk, rfl⟩, q, hq, hj⟩⟩
    · exact ⟨he, .inl ⟨q, hq, hj⟩⟩
    · exact ⟨he, .inr ⟨q, ⟨k, hk, hq⟩, hj⟩⟩
end Go.Proofs.Ytpjfgkjhhmfhkaa
