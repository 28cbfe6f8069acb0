/- Slices of numbers, owned; the hand's ahead. Condition: a number from 0 to 59. -/
import Derived.Test.YthfkmfepeafgjaaHexSm
import Derived.Test.YthfkmfepeafgjaaHexH
import Derived.Deep.AppendLies
namespace Go.Proofs.Ythfkmfepeafgjaa
open Go.RowKit

/-- A slice of numbers of one's own. -/
abbrev IOwns (w : World) (B : Nat) (v : Value) (l : List Int) : Prop := w.ownsRow B 3 1 v l.length (l.map (Value.int .i64))
theorem IOwns.seen {w : World} {B : Nat} {v : Value} {l : List Int} (h : IOwns w B v l) : ISeen w v l := by
  rcases h.2 with ⟨rfl, h0⟩ | ⟨g, cap, cur, rfl, _, hg, hn, _, _, hc⟩
  · exact .inl ⟨rfl, List.eq_nil_of_length_eq_zero h0⟩
  · refine .inr ⟨_, _, rfl, by omega, fun j x hj => ?_⟩
    have hadd : (⟨g, 0, none⟩ : Addr).add j = ⟨g, j, none⟩ := by unfold Addr.add; split <;> simp_all
    have hlt := (List.getElem?_eq_some_iff.1 hj).1
    rw [hadd, cell_of_row w g j _ _ _ hg]
    have h2 : (cur.toList.take (l.length * 1))[j]? = some (.int .i64 x) := by rw [hc, List.getElem?_map, hj]; rfl
    rw [List.getElem?_take, if_pos (by omega)] at h2
    simpa using h2
theorem ISeen.shape' {w : World} {v : Value} {l : List Int} (h : ISeen w v l) : ∃ p cap, v = .slice p l.length cap := by
  rcases h with ⟨rfl, rfl⟩ | ⟨a, cap, h1, _⟩
  · exact ⟨_, _, rfl⟩
  · exact ⟨_, _, h1⟩
theorem ISeen.kb' {w w' : World} {v : Value} {l : List Int} (h : ISeen w v l) (hb : Below w.heap.size w w') : ISeen w' v l := by
  rcases h with h | ⟨a, cap, rfl, hc, hu⟩
  · exact .inl h
  · exact .inr ⟨a, cap, rfl, hc, fun j x hj => by rw [World.cell?_of_block (hb.block _ (World.block_lt_of_cell? w _ (hu j x hj)))]; exact hu j x hj⟩
theorem iinfo : (Try.prog.info? 3).map (fun i => (i.zero, i.size, i.bytes)) = some (some (.int .i64 0), 1, 8) := by kernel_rfl
theorem ahead_fits {j : Nat} (hj2 : j ≤ 2) : wrap64 ((j : Int) + 1) = ((j + 1 : Nat) : Int) := by unfold wrap64; omega
theorem own_snoc {w : World} {B : Nat} {v : Value} {n : Nat} {l : List Int} {e : Int} (h : w.ownsRow B 3 1 v (n + 1) (l.map (Value.int .i64) ++ [Value.int .i64 e])) (hn : n = l.length) : ∃ l' : List Int, l'.length = n + 1 ∧ IOwns w B v l' := by
  refine ⟨l ++ [e], by simp [hn], ?_⟩
  have h2 : (l ++ [e]).length = n + 1 := by simp [hn]
  unfold IOwns
  rw [h2, List.map_append]
  exact h
theorem own_from {w : World} {B : Nat} {e : TypeId} {s : Nat} {v : Value} {n : Nat} {xs : List Value} (h : w.ownsRow B e s v n xs) : ∀ k, v.ownBlock = some k → B ≤ k := fun k hk => by
  rcases h.2 with ⟨rfl, _⟩ | ⟨g, cap, cur, rfl, hb, _⟩
  · cases hk
  · injection hk with hk; subst hk; exact hb
theorem own_grown {a w w' : World} {B : Nat} {e : TypeId} {s : Nat} {v : Value} {n : Nat} {xs : List Value} (h : w.ownsRow B e s v n xs) (hb : Below B a w) (hg : w.grownBy w' v.ownBlock) (hB : B ≤ w.heap.size) : Below B a w' := hb.grown hg hB (own_from h)
section
variable {ops : Array Oper} {rest : List Oper} {a : Act} {Q : Exit → Act → World → Prop} {o : Oper} {w w0 : World}
/-- append of one number. -/
theorem push_int (hgd : o.guard = none) (s x : Operand) (ho : o.op = .call { callee := .builtin .append, args := #[s, x], argTypes := #[33, 33] })
    (B : Nat) (v : Value) (n : Nat) (l : List Int) (b : Nat) (e : Int) (hs : a.eval s = v) (hown : w.ownsRow B 3 1 v n (l.map (Value.int .i64))) (hn : n = l.length) (hx : a.eval x = .slice (some ⟨b, 0, none⟩) 1 1)
    (hb : w.heap[b]? = some (.cells #[.int .i64 e] 3 (0, 0))) (hl : n + 1 ≤ 1000000) (hB : Below B w0 w) (hB' : B ≤ w.heap.size)
    (h : ∀ (g c : Nat) (w' : World) (l' : List Int), l'.length = n + 1 → w'.ownsRow B 3 1 (.slice (some ⟨g, 0, none⟩) (n + 1) c) (n + 1) (l'.map (Value.int .i64)) → Below B w0 w' → wpList Try.prog ops Q rest (a.put o.dst (.slice (some ⟨g, 0, none⟩) (n + 1) c)) w') :
    wpList Try.prog ops Q (o :: rest) a w := by
  obtain ⟨i0, hi0, hz0, hz1, hz2⟩ := info_parts iinfo
  refine wpList_append_lies w hgd s x 33 ho B 3 i0 _ 1 8 Try.underlying33 hi0 hz0 hz1 hz2 rfl (by omega) v n _ hs hown ⟨b, 0, none⟩ 1 1 [.int .i64 e] hx rfl (World.news_of_block hb) (fun u hu => by rw [List.mem_singleton.1 hu]; rfl) (by decide) (by unfold maxLen; omega) (by omega) hB' _ rfl ?_
  intro g c w' o' gr _ _
  obtain ⟨l', hl', O'⟩ := own_snoc o' hn
  unfold IOwns at O'
  rw [hl'] at O'
  exact h g c w' l' hl' O' (own_grown hown hB gr hB')
end
set_option linter.unusedSimpArgs false in
set_option maxRecDepth 20000 in
set_option maxHeartbeats 8000000 in
theorem ahead_to (w : World) (n : Int) (h0 : 0 ≤ n) (h60 : n < 60) : Calls Try.prog 50 #[.int .i64 n] w fun e w' =>
    ∃ v l, e = .returned v ∧ l.length ≤ 2 ∧ IOwns w' w.heap.size v l ∧ Below w.heap.size w w' := by
  obtain ⟨i0, hi0, hz0, hz1, hz2⟩ := info_parts iinfo
  go_enter Try.func50, Try.ntmps50
  have hcs : n = 0 ∨ ((n == 0) = false ∧ (n % 11 == 5) = true) ∨ ((n == 0) = false ∧ (n % 11 == 5) = false ∧ (n % 4 == 3) = true) ∨ ((n == 0) = false ∧ (n % 11 == 5) = false ∧ (n % 4 == 3) = false) := by
    by_cases h1 : n = 0
    · exact .inl h1
    · by_cases h2 : n % 11 = 5
      · exact .inr (.inl ⟨by simpa using h1, by simpa using h2⟩)
      · by_cases h3 : n % 4 = 3
        · exact .inr (.inr (.inl ⟨by simpa using h1, by simpa using h2, by simpa using h3⟩))
        · exact .inr (.inr (.inr ⟨by simpa using h1, by simpa using h2, by simpa using h3⟩))
  rcases hcs with rfl | ⟨e1, e2⟩ | ⟨e1, e2, e3⟩ | ⟨e1, e2, e3⟩
  all_goals go_wp2_with fail
  all_goals
    clear h0 h60
    go_loopw [3, 5] (fun s t wr => ∃ (p : Option Addr) (c : Nat) (l : List Int) (j : Nat), s = .slice p l.length c ∧ t = .int .i64 j ∧ j ≤ 2 ∧ l.length ≤ j ∧ Hid (IOwns wr w.heap.size (.slice p l.length c) l) ∧ Hid (Below w.heap.size w wr)) (fun _ t _ => 3 - (intOf t).toNat)
    case atStart => exact ⟨none, 0, [], 0, rfl, rfl, by decide, by decide, Lib.hid ⟨rfl, .inl ⟨rfl, rfl⟩⟩, Lib.hid (Below.refl _ _)⟩
    case round =>
      obtain ⟨p, c, l, j, rfl, rfl, hj, hl, O, B⟩ := hrel
      obtain ⟨m, hm⟩ : ∃ m, m = l.length := ⟨_, rfl⟩
      rw [← hm] at hl O ⊢
      have HM := Lib.hid hm
      have hj1 := ahead_fits hj
      have HJ := Lib.hid hj
      have HL : Hid (m ≤ 2) := Lib.hid (by omega)
      have HLJ := Lib.hid hl
      have HFT : Hid (m + 1 ≤ maxLen ∧ (m + 1) * 8 ≤ 140737488355328) := Lib.hid (by unfold maxLen; omega)
      have hcell : 0 < m → ∃ g x, p = some ⟨g, 0, none⟩ ∧ wr.cell? ⟨g, 0, none⟩ = some (.int .i64 x) := fun h0 => by
        rcases O.out.seen with ⟨h1, h2⟩ | ⟨a, cap, h1, _, h2⟩
        · rw [hm, h2] at h0; cases h0
        · obtain ⟨g, cap', h3, _⟩ := O.out.form (by rw [← hm]; exact h0)
          injection h3 with h3 _ _
          injection h1 with h1 _ _
          subst h3
          injection h1 with h1
          subst h1
          cases l with
          | nil => rw [hm] at h0; cases h0
          | cons x t => exact ⟨g, x, rfl, by simpa [Addr.add] using h2 0 x rfl⟩
      have HO : Hid (wr.ownsRow w.heap.size 3 1 (.slice p m c) m (l.map (Value.int .i64))) := Lib.hid (by have h5 := O.out; unfold IOwns at h5; rwa [← hm] at h5)
      clear hm hj hl
      have O2 : Hid (IOwns wr w.heap.size (.slice p m c) l) := Lib.hid (by unfold IOwns; rw [← HM.out]; exact HO.out)
      have hj2 := HJ.out
      rcases Nat.eq_zero_or_pos m with h0 | h0
      · subst h0
        clear hcell
        go_wp2_with (at_builtin; refine push_int (w0 := w) rfl (.tmp 56) (.tmp 58) rfl w.heap.size (.slice p 0 c) 0 l wr.heap.size _ rfl (HO.out.alloc _) HM.out rfl (heap_alloc_last wr _) (by have := HL.out; omega) (B.out.alloc B.out.size _) (B.out.alloc B.out.size _).size ?_)
        all_goals first
          | (go_ret
             exact ⟨_, l, rfl, by rw [← HM.out]; exact HL.out, O2.out, B.out⟩)
          | (refine ⟨⟨_, c, l, j + 1, by rw [← HM.out], congrArg _ (by omega), by omega, by have := HLJ.out; have := HM.out; omega, (by rw [← HM.out]; exact O2), B⟩, ?_⟩
             (try simp only [intOf]); (try omega))
          | (intro g2 c2 w2 l2 hl2 o2 b2
             have O2 : Hid (IOwns w2 w.heap.size (.slice (some ⟨g2, 0, none⟩) l2.length c2) l2) := Lib.hid (by unfold IOwns; rw [hl2]; exact o2)
             have B2 := Lib.hid b2
             clear o2 b2
             go_wp2_with fail
             refine ⟨⟨_, c2, l2, j + 1, by rw [hl2], congrArg _ (by omega), by omega, by have := HLJ.out; omega, O2, B2⟩, ?_⟩
             (try simp only [intOf]); (try omega))
      · obtain ⟨g, x, rfl, hc⟩ := hcell h0
        have h01 : ¬ (m : Int) = 0 := by omega
        have h02 : (0 : Int) < m := by omega
        clear hcell
        go_wp2_with (at_builtin; refine push_int (w0 := w) rfl (.tmp 56) (.tmp 58) rfl w.heap.size (.slice (some ⟨g, 0, none⟩) m c) m l wr.heap.size _ rfl (HO.out.alloc _) HM.out rfl (heap_alloc_last wr _) (by have := HL.out; omega) (B.out.alloc B.out.size _) (B.out.alloc B.out.size _).size ?_)
        all_goals first
          | (go_ret
             exact ⟨_, l, rfl, by rw [← HM.out]; exact HL.out, O2.out, B.out⟩)
          | (refine ⟨⟨_, c, l, j + 1, by rw [← HM.out], congrArg _ (by omega), by omega, by have := HLJ.out; have := HM.out; omega, (by rw [← HM.out]; exact O2), B⟩, ?_⟩
             (try simp only [intOf]); (try omega))
          | (intro g2 c2 w2 l2 hl2 o2 b2
             have O2 : Hid (IOwns w2 w.heap.size (.slice (some ⟨g2, 0, none⟩) l2.length c2) l2) := Lib.hid (by unfold IOwns; rw [hl2]; exact o2)
             have B2 := Lib.hid b2
             clear o2 b2
             go_wp2_with fail
             refine ⟨⟨_, c2, l2, j + 1, by rw [hl2], congrArg _ (by omega), by omega, by have := HLJ.out; omega, O2, B2⟩, ?_⟩
             (try simp only [intOf]); (try omega))
end Go.Proofs.Ythfkmfepeafgjaa
