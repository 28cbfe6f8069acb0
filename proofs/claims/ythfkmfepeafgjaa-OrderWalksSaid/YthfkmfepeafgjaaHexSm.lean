/- SameHashes; rows of hashes and of numbers in memory. Condition: what comes in is within what a slice may take up. -/
import Derived.Test.YthfkmfepeafgjaaHexPo
namespace Go.Proofs.Ythfkmfepeafgjaa
open Go.RowKit
attribute [local go_sem ↓] hld_open heq_open hne_open

theorem own_shape {w : World} {B : Nat} {v : Value} {E : List (List UInt8)} (h : HOwn w B v E) : ∃ p cap, v = .slice p E.length cap := by
  rcases h.2 with ⟨rfl, h0⟩ | ⟨g, cap, cur, rfl, _⟩
  · exact ⟨none, 0, by rw [h0]⟩
  · exact ⟨_, _, rfl⟩
set_option maxRecDepth 20000 in
set_option maxHeartbeats 1000000 in
theorem same_any (w : World) (B1 B2 : Nat) (v1 v2 : Value) (E : List (List UInt8)) (hE : H32 E) (h1 : HOwn w B1 v1 E) (h2 : HOwn w B2 v2 E) (hl : E.length ≤ 4611686018427387904) :
    Calls Try.prog 12 #[v1, v2] w fun e w' => e = .returned (.bool true) ∧ ∃ q, w' = w.drewN q := by
  by_cases h0 : E.length = 0
  · obtain ⟨p1, c1, rfl⟩ := own_shape h1
    obtain ⟨p2, c2, rfl⟩ := own_shape h2
    rw [h0]
    clear h1 h2 hE h0 hl
    go_enter Try.func12, Try.ntmps12
    go_wp2
    refine wp_loop_rounds 1 ?_
    rw [rounds_succ]
    go_wp2
    go_ret
    exact ⟨rfl, 0, rfl⟩
  · obtain ⟨g1, c1, R1, rfl, _, hg1, hc1, _, _⟩ := h1.row (by omega)
    obtain ⟨g2, c2, R2, rfl, _, hg2, hc2, _, _⟩ := h2.row (by omega)
    have HG1 := Lib.hid hg1
    have HG2 := Lib.hid hg2
    have HE := Lib.hid hE
    have hgd2 := hne_guard
    obtain ⟨n, hn⟩ : ∃ n, n = E.length := ⟨_, rfl⟩
    rw [← hn] at hc1 hc2 h0 hl ⊢
    have HN := Lib.hid hn
    clear hg1 hg2 hE hn h1 h2
    go_enter Try.func12, Try.ntmps12
    go_wp2
    go_loopw [5] (fun i wr => ∃ (k : Nat), k ≤ n ∧ i = .int .i64 k ∧ ∃ q, wr = w.drewN q) (fun i _ => n - (intOf i).toNat)
    case atStart => exact ⟨0, Nat.zero_le _, rfl, 0, rfl⟩
    case round =>
      obtain ⟨k, hk, rfl, q, rfl⟩ := hrel
      by_cases hlt : k < n
      · have hkE : k < E.length := by rw [← HN.out]; exact hlt
        have l1 := fun m => hld_at HE.out hkE HG1.out m
        have l2 := fun m => hld_at HE.out hkE HG2.out m
        have hne := hne_hv (HE.out.at hkE) (HE.out.at hkE)
        rw [decide_eq_true rfl] at hne
        have hk' : (k : Int) < n := by omega
        go_wp2_with fail
        go_quiet (fail)
        go_wp2_with fail
        refine ⟨⟨k + 1, by omega, by go_num, _, rfl⟩, by simp [intOf]; omega⟩
      · obtain rfl : k = n := by omega
        go_wp2_with fail
        go_ret
        exact ⟨rfl, _, rfl⟩

theorem hown_kb {w w' : World} {B : Nat} {v : Value} {E : List (List UInt8)} (h : HOwn w B v E) (hb : Below w.heap.size w w') : HOwn w' B v E := by
  refine ⟨h.1, ?_⟩
  rcases h.2 with h1 | ⟨g, cap, cur, h1, h2, hg, h3⟩
  · exact .inl h1
  · exact .inr ⟨g, cap, cur, h1, h2, (hb.block g (Array.getElem?_eq_some_iff.1 hg).1).trans hg, h3⟩
/-- The slice v holds the numbers l. -/
def ISeen (w : World) (v : Value) (l : List Int) : Prop :=
  (v = .slice none 0 0 ∧ l = []) ∨ ∃ a cap, v = .slice (some a) l.length cap ∧ l.length ≤ cap ∧ ∀ j x, l[j]? = some x → w.cell? (a.add j) = some (.int .i64 x)
theorem own_at {w w' : World} {B n : Nat} {v : Value} {xs : List Value} (h : w.ownsRow B 28 32 v n xs) (hb : Below w.heap.size w w') : w'.ownsRow B 28 32 v n xs := by
  refine ⟨h.1, ?_⟩
  rcases h.2 with h1 | ⟨g, cap, cur, h1, h2, hg, h3⟩
  · exact .inl h1
  · exact .inr ⟨g, cap, cur, h1, h2, (hb.block g (Array.getElem?_eq_some_iff.1 hg).1).trans hg, h3⟩
def hhs (l : List Int) : List (List UInt8) := l.map hh
theorem hhs_h32 (l : List Int) : H32 (hhs l) := fun x hx => by
  obtain ⟨y, _, rfl⟩ := List.mem_map.1 hx
  rfl
theorem hhs_snoc {l : List Int} {k : Nat} {x : Int} (h : l[k]? = some x) : hhs (l.take (k + 1)) = hhs (l.take k) ++ [hh x] := by
  rw [List.take_add_one, h]; simp [hhs]
theorem hhs_length (l : List Int) (k : Nat) : (hhs (l.take k)).length ≤ k := by rw [hhs, List.length_map]; exact List.length_take_le _ _

theorem srt_fits {n m : Nat} (hn : n ≤ 40) (hm : m * 32 ≤ 140737488351232) : n + m ≤ maxLen ∧ (n + m) * 32 ≤ 140737488355328 ∧ (n + m + 1) * 32 ≤ 140737488355328 ∧ n + m ≤ 4611686018427387904 := by
  unfold maxLen; omega
theorem loop_fits {k : Nat} (hk : k < 40) : k + 1 ≤ maxLen ∧ (k + 1) * 32 ≤ 140737488355328 := by unfold maxLen; omega
end Go.Proofs.Ythfkmfepeafgjaa
