/- HexSorts returns true and makes new memory alone. Condition: what comes in is within what a slice may take up. -/
import Derived.Test.YtgnagpohogiodaaHexPo
import Derived.Test.YtgnagpohogiodaaHexSo
namespace Go.Proofs.Ytgnagpohogiodaa
open Go.RowKit
attribute [local go_sem ↓] hld_open heq_open hne_open

theorem own_shape {w : World} {B : Nat} {v : Value} {E : List (List UInt8)} (h : HOwn w B v E) : ∃ p cap, v = .slice p E.length cap := by
  rcases h.2 with ⟨rfl, h0⟩ | ⟨g, cap, cur, rfl, _⟩
  · exact ⟨none, 0, by rw [h0]⟩
  · exact ⟨_, _, rfl⟩
set_option maxRecDepth 20000 in
set_option maxHeartbeats 1000000 in
theorem same_any (w : World) (B1 B2 : Nat) (v1 v2 : Value) (E : List (List UInt8)) (hE : H32 E) (h1 : HOwn w B1 v1 E) (h2 : HOwn w B2 v2 E) (hl : E.length ≤ 4611686018427387904) :
    Calls Try.prog 14 #[v1, v2] w fun e w' => e = .returned (.bool true) ∧ ∃ q, w' = w.drewN q := by
  by_cases h0 : E.length = 0
  · obtain ⟨p1, c1, rfl⟩ := own_shape h1
    obtain ⟨p2, c2, rfl⟩ := own_shape h2
    rw [h0]
    clear h1 h2 hE h0 hl
    go_enter Try.func14, Try.ntmps14
    go_wp2
    refine wp_loop_rounds 1 ?_
    rw [rounds_succ]
    go_wp2
    go_ret
    exact ⟨rfl, 0, rfl⟩
  · obtain ⟨g1, c1, R1, rfl, _, hg1, hc1, _, _⟩ := h1.row (by omega)
    obtain ⟨g2, c2, R2, rfl, _, hg2, hc2, _, _⟩ := h2.row (by omega)
    have HG1 := Lib.hid hg1
    have HG2 := Lib.hid hg2
    have HE := Lib.hid hE
    have hgd2 := hne_guard
    obtain ⟨n, hn⟩ : ∃ n, n = E.length := ⟨_, rfl⟩
    rw [← hn] at hc1 hc2 h0 hl ⊢
    have HN := Lib.hid hn
    clear hg1 hg2 hE hn h1 h2
    go_enter Try.func14, Try.ntmps14
    go_wp2
    go_loopw [5] (fun i wr => ∃ (k : Nat), k ≤ n ∧ i = .int .i64 k ∧ ∃ q, wr = w.drewN q) (fun i _ => n - (intOf i).toNat)
    case atStart => exact ⟨0, Nat.zero_le _, rfl, 0, rfl⟩
    case round =>
      obtain ⟨k, hk, rfl, q, rfl⟩ := hrel
      by_cases hlt : k < n
      · have hkE : k < E.length := by rw [← HN.out]; exact hlt
        have l1 := fun m => hld_at HE.out hkE HG1.out m
        have l2 := fun m => hld_at HE.out hkE HG2.out m
        have hne := hne_hv (HE.out.at hkE) (HE.out.at hkE)
        rw [decide_eq_true rfl] at hne
        have hk' : (k : Int) < n := by omega
        go_wp2_with fail
        go_quiet (fail)
        go_wp2_with fail
        refine ⟨⟨k + 1, by omega, by go_num, _, rfl⟩, by simp [intOf]; omega⟩
      · obtain rfl : k = n := by omega
        go_wp2_with fail
        go_ret
        exact ⟨rfl, _, rfl⟩

theorem hown_kb {w w' : World} {B : Nat} {v : Value} {E : List (List UInt8)} (h : HOwn w B v E) (hb : Below w.heap.size w w') : HOwn w' B v E := by
  refine ⟨h.1, ?_⟩
  rcases h.2 with h1 | ⟨g, cap, cur, h1, h2, hg, h3⟩
  · exact .inl h1
  · exact .inr ⟨g, cap, cur, h1, h2, (hb.block g (Array.getElem?_eq_some_iff.1 hg).1).trans hg, h3⟩
/-- The slice v holds the numbers l. -/
def ISeen (w : World) (v : Value) (l : List Int) : Prop :=
  (v = .slice none 0 0 ∧ l = []) ∨ ∃ a cap, v = .slice (some a) l.length cap ∧ l.length ≤ cap ∧ ∀ j x, l[j]? = some x → w.cell? (a.add j) = some (.int .i64 x)
theorem own_at {w w' : World} {B n : Nat} {v : Value} {xs : List Value} (h : w.ownsRow B 23 32 v n xs) (hb : Below w.heap.size w w') : w'.ownsRow B 23 32 v n xs := by
  refine ⟨h.1, ?_⟩
  rcases h.2 with h1 | ⟨g, cap, cur, h1, h2, hg, h3⟩
  · exact .inl h1
  · exact .inr ⟨g, cap, cur, h1, h2, (hb.block g (Array.getElem?_eq_some_iff.1 hg).1).trans hg, h3⟩
def hhs (l : List Int) : List (List UInt8) := l.map hh
theorem hhs_h32 (l : List Int) : H32 (hhs l) := fun x hx => by
  obtain ⟨y, _, rfl⟩ := List.mem_map.1 hx
  rfl
theorem hhs_snoc {l : List Int} {k : Nat} {x : Int} (h : l[k]? = some x) : hhs (l.take (k + 1)) = hhs (l.take k) ++ [hh x] := by
  rw [List.take_add_one, h]; simp [hhs]
theorem hhs_length (l : List Int) (k : Nat) : (hhs (l.take k)).length ≤ k := by rw [hhs, List.length_map]; exact List.length_take_le _ _

theorem srt_fits {n m : Nat} (hn : n ≤ 40) (hm : m * 32 ≤ 140737488351232) : n + m ≤ maxLen ∧ (n + m) * 32 ≤ 140737488355328 ∧ (n + m + 1) * 32 ≤ 140737488355328 ∧ n + m ≤ 4611686018427387904 := by
  unfold maxLen; omega
theorem loop_fits {k : Nat} (hk : k < 40) : k + 1 ≤ maxLen ∧ (k + 1) * 32 ≤ 140737488355328 := by unfold maxLen; omega
set_option maxRecDepth 20000 in
set_option maxHeartbeats 4000000 in
theorem hexSorts_nil (w : World) (v0 : Value) (l : List Int) (h0 : ISeen w v0 l) :
    Calls Try.prog 4 #[v0, (.slice none 0 0)] w fun e w' => e = .returned (.bool true) ∧ Below w.heap.size w w' := by
  obtain ⟨i0, hi0, hz0, hz1, hz2⟩ := info_parts hzinfo
  have HF := Lib.hid H32.nil
  have hfl : ([] : List (List UInt8)).length * 32 ≤ 140737488351232 := by decide
  rcases h0 with ⟨rfl, rfl⟩ | ⟨a, c0, rfl, hc0, hcell⟩
  · skip
    go_enter Try.func4, Try.ntmps4
    go_wp2
    refine wp_loop_rounds 1 ?_
    rw [rounds_succ]
    have HE0 : Hid (HOwn w w.heap.size (.slice none 0 0) (hhs [])) := Lib.hid (World.ownsRow_nil _ _ _ _)
    have HL0 : Hid ((hhs []).length ≤ 40) := Lib.hid (by decide)
    have HB0 := Lib.hid (Below.refl w.heap.size w)
    have HH0 := Lib.hid (hhs_h32 [])
    generalize hhs [] = E0 at *
    go_wp2_with (at_builtin; refine wpList_append_own_none (by rfl) (.tmp 25) (.tmp 26) _ (by rfl) w.heap.size 23 i0 32 Try.underlying36 hi0 _ _ _ (by rfl) HE0.out (by rfl) ?_)
    have HO6 : Hid (HOwn w w.heap.size (.slice none 0 0) (E0 ++ [])) := Lib.hid (by rw [List.append_nil]; exact HE0.out)
    have HB6 : Hid (Below w.heap.size w w) := HB0
    have HEE := Lib.hid (HH0.out.app HF.out)
    have HLE : Hid ((E0 ++ []).length * 32 ≤ 140737488355328) := Lib.hid (by rw [List.length_append]; exact (srt_fits HL0.out hfl).2.1)
    have HLE1 : Hid (((E0 ++ []).length + 1) * 32 ≤ 140737488355328) := Lib.hid (by rw [List.length_append]; exact (srt_fits HL0.out hfl).2.2.1)
    have HLE2 : Hid ((rsort (E0 ++ [])).length ≤ 4611686018427387904) := Lib.hid (Nat.le_trans (rsort_length _) (by rw [List.length_append]; exact (srt_fits HL0.out hfl).2.2.2))
    generalize E0 ++ [] = E at *
    refine (known_to _).mono ?_
    rintro e w' ⟨rfl, rfl⟩
    have HS := Lib.hid (sort_to w (.slice none 0 0) E HEE.out HLE.out (HSeen.own HO6.out))
    go_wp2_with fail
    refine HS.out.mono ?_
    rintro e w7 ⟨v7, rfl, o7, b7⟩
    have O7 := Lib.hid o7
    have HB7 := Lib.hid (HB6.out.trans (b7.mono HB6.out.size))
    have HR := Lib.hid (rsort_any w7 E HEE.out (.slice none 0 0) w.heap.size (hown_kb HO6.out b7) HLE1.out)
    clear o7 b7 HS
    go_wp2_with fail
    refine HR.out.mono ?_
    rintro e w8 ⟨v8, rfl, o8, b8⟩
    have HB8 := Lib.hid (HB7.out.trans (b8.mono HB7.out.size))
    have HM := Lib.hid (same_any w8 w.heap.size w7.heap.size v7 v8 (rsort E) (rsort_h32 HEE.out) (hown_kb O7.out b8) o8 HLE2.out)
    clear o8 b8 HR
    go_wp2_with fail
    refine HM.out.mono ?_
    rintro e w9 ⟨rfl, q, rfl⟩
    go_wp2_with fail
    go_ret
    exact ⟨rfl, below_drn HB8.out⟩
  · skip
    obtain ⟨n, hn⟩ : ∃ n, n = l.length := ⟨_, rfl⟩
    rw [← hn] at hc0 ⊢
    have HN := Lib.hid hn
    have HC := Lib.hid hcell
    clear hn hcell
    go_enter Try.func4, Try.ntmps4
    go_wp2
    go_loopw [5, 6] (fun v i wr => ∃ (k : Nat), k ≤ n ∧ k ≤ 40 ∧ i = .int .i64 k ∧ Hid (HOwn wr w.heap.size v (hhs (l.take k))) ∧ Hid (Below w.heap.size w wr)) (fun _ i _ => n - (intOf i).toNat)
    case atStart => exact ⟨0, Nat.zero_le _, by omega, rfl, Lib.hid (World.ownsRow_nil _ _ _ _), Lib.hid (Below.refl _ _)⟩
    case round =>
      obtain ⟨k, hk, hk40, rfl, HO, HB⟩ := hrel
      by_cases hlt : k < n ∧ k < 40
      · obtain ⟨h1, h2⟩ := hlt
        have hx : ∃ x, l[k]? = some x := ⟨l[k]'(by rw [← HN.out]; exact h1), List.getElem?_eq_getElem _⟩
        obtain ⟨x, hx⟩ := hx
        have hxc := HC.out k x hx
        have hc : wr.cell? (a.add k) = some (.int .i64 x) := by
          rw [World.cell?_of_block (w := w) (HB.out.block _ (World.block_lt_of_cell? w _ hxc))]; exact hxc
        have HSN := Lib.hid (hhs_snoc hx)
        have HK : Hid ((hhs (l.take k)).length = k) := Lib.hid (by rw [hhs, List.length_map, List.length_take, ← HN.out]; omega)
        have hf := loop_fits h2
        have M := Lib.hid hf.1
        have Y := Lib.hid hf.2
        have hk' : (k : Int) < n := by omega
        have hk'' : (k : Int) < 40 := by omega
        have HHK := Lib.hid (hhs_h32 (l.take k))
        clear hx hxc hf
        have HO2 : wr.ownsRow w.heap.size 23 32 u5 k (fl (hhs (l.take k))) := by
          have := HO.out
          unfold HOwn at this
          rwa [HK.out] at this
        have HO3 := Lib.hid HO2
        clear HO2
        go_wp2_with (first
          | (at_builtin; refine wpList_append_lies _ (by rfl) (.tmp 17) (.tmp 23) _ (by rfl) w.heap.size 23 i0 _ 32 32 Try.underlying36 hi0 hz0 hz1 hz2 rfl (by omega) u5 k _ (by rfl) ((HO4.out).alloc _) ⟨w2.heap.size, 0, none⟩ 1 1 (fl [hh x]) (by rfl) (by rw [fl_one, usn_length]; rfl) (news_fl w2 [hh x]) (fl_one' [hh x]) (by decide) M.out Y.out (Nat.le_trans HB2.out.size (by simp)) (w2.heap.size + 1) (by simp) ?_; intro gg cap6 w6 own6 grow6 _ _; have O6 := Lib.hid own6; have S6 : Hid (Below w.heap.size w w6) := Lib.hid ((HB2.out.alloc HB2.out.size _).grown grow6 (Nat.le_trans HB2.out.size (by simp)) (fun k hk => (HO4.out.lt k hk).1)); clear own6 grow6)
          | (refine build_hash (E := [hh x]) (H32.one (hh_length x)) rfl (by simp) (by simp) ?hv ?_; (case hv => simp [Act.eval]))
          | (go_at_call 13; refine (hash_to _ x).mono ?_; rintro e w2 ⟨rfl, b2⟩; have HB2 := Lib.hid (HB.out.trans (b2.mono HB.out.size)); have HO4 := Lib.hid (own_at HO3.out b2); clear b2))
        refine ⟨⟨k + 1, by omega, by omega, by go_num, Lib.hid ?_, S6⟩, by simp [intOf]; omega⟩
        rw [HSN.out]
        exact own_as O6.out (Nat.le_refl _) (by rw [List.length_append, HK.out]; rfl) (by rw [fl_app])
      · have HE0 := HO
        have HL0 : Hid ((hhs (l.take k)).length ≤ 40) := Lib.hid (Nat.le_trans (hhs_length l k) hk40)
        have HB0 := HB
        have HH0 := Lib.hid (hhs_h32 (l.take k))
        generalize hhs (l.take k) = E0 at *
        clear HO HB
        by_cases h1 : k < n
        · have hk' : (k : Int) < n := by omega
          have hk'' : ¬ (k : Int) < 40 := by omega
          clear hlt
          go_wp2_with (at_builtin; refine wpList_append_own_none (by rfl) (.tmp 25) (.tmp 26) _ (by rfl) w.heap.size 23 i0 32 Try.underlying36 hi0 _ _ _ (by rfl) HE0.out (by rfl) ?_)
          have HO6 : Hid (HOwn wr w.heap.size u5 (E0 ++ [])) := Lib.hid (by rw [List.append_nil]; exact HE0.out)
          have HB6 : Hid (Below w.heap.size w wr) := HB0
          have HEE := Lib.hid (HH0.out.app HF.out)
          have HLE : Hid ((E0 ++ []).length * 32 ≤ 140737488355328) := Lib.hid (by rw [List.length_append]; exact (srt_fits HL0.out hfl).2.1)
          have HLE1 : Hid (((E0 ++ []).length + 1) * 32 ≤ 140737488355328) := Lib.hid (by rw [List.length_append]; exact (srt_fits HL0.out hfl).2.2.1)
          have HLE2 : Hid ((rsort (E0 ++ [])).length ≤ 4611686018427387904) := Lib.hid (Nat.le_trans (rsort_length _) (by rw [List.length_append]; exact (srt_fits HL0.out hfl).2.2.2))
          generalize E0 ++ [] = E at *
          refine (known_to _).mono ?_
          rintro e w' ⟨rfl, rfl⟩
          have HS := Lib.hid (sort_to wr u5 E HEE.out HLE.out (HSeen.own HO6.out))
          go_wp2_with fail
          refine HS.out.mono ?_
          rintro e w7 ⟨v7, rfl, o7, b7⟩
          have O7 := Lib.hid o7
          have HB7 := Lib.hid (HB6.out.trans (b7.mono HB6.out.size))
          have HR := Lib.hid (rsort_any w7 E HEE.out u5 w.heap.size (hown_kb HO6.out b7) HLE1.out)
          clear o7 b7 HS
          go_wp2_with fail
          refine HR.out.mono ?_
          rintro e w8 ⟨v8, rfl, o8, b8⟩
          have HB8 := Lib.hid (HB7.out.trans (b8.mono HB7.out.size))
          have HM := Lib.hid (same_any w8 wr.heap.size w7.heap.size v7 v8 (rsort E) (rsort_h32 HEE.out) (hown_kb O7.out b8) o8 HLE2.out)
          clear o8 b8 HR
          go_wp2_with fail
          refine HM.out.mono ?_
          rintro e w9 ⟨rfl, q, rfl⟩
          go_wp2_with fail
          go_ret
          exact ⟨rfl, below_drn HB8.out⟩
        · have hk' : ¬ (k : Int) < n := by omega
          clear hlt
          go_wp2_with (at_builtin; refine wpList_append_own_none (by rfl) (.tmp 25) (.tmp 26) _ (by rfl) w.heap.size 23 i0 32 Try.underlying36 hi0 _ _ _ (by rfl) HE0.out (by rfl) ?_)
          have HO6 : Hid (HOwn wr w.heap.size u5 (E0 ++ [])) := Lib.hid (by rw [List.append_nil]; exact HE0.out)
          have HB6 : Hid (Below w.heap.size w wr) := HB0
          have HEE := Lib.hid (HH0.out.app HF.out)
          have HLE : Hid ((E0 ++ []).length * 32 ≤ 140737488355328) := Lib.hid (by rw [List.length_append]; exact (srt_fits HL0.out hfl).2.1)
          have HLE1 : Hid (((E0 ++ []).length + 1) * 32 ≤ 140737488355328) := Lib.hid (by rw [List.length_append]; exact (srt_fits HL0.out hfl).2.2.1)
          have HLE2 : Hid ((rsort (E0 ++ [])).length ≤ 4611686018427387904) := Lib.hid (Nat.le_trans (rsort_length _) (by rw [List.length_append]; exact (srt_fits HL0.out hfl).2.2.2))
          generalize E0 ++ [] = E at *
          refine (known_to _).mono ?_
          rintro e w' ⟨rfl, rfl⟩
          have HS := Lib.hid (sort_to wr u5 E HEE.out HLE.out (HSeen.own HO6.out))
          go_wp2_with fail
          refine HS.out.mono ?_
          rintro e w7 ⟨v7, rfl, o7, b7⟩
          have O7 := Lib.hid o7
          have HB7 := Lib.hid (HB6.out.trans (b7.mono HB6.out.size))
          have HR := Lib.hid (rsort_any w7 E HEE.out u5 w.heap.size (hown_kb HO6.out b7) HLE1.out)
          clear o7 b7 HS
          go_wp2_with fail
          refine HR.out.mono ?_
          rintro e w8 ⟨v8, rfl, o8, b8⟩
          have HB8 := Lib.hid (HB7.out.trans (b8.mono HB7.out.size))
          have HM := Lib.hid (same_any w8 wr.heap.size w7.heap.size v7 v8 (rsort E) (rsort_h32 HEE.out) (hown_kb O7.out b8) o8 HLE2.out)
          clear o8 b8 HR
          go_wp2_with fail
          refine HM.out.mono ?_
          rintro e w9 ⟨rfl, q, rfl⟩
          go_wp2_with fail
          go_ret
          exact ⟨rfl, below_drn HB8.out⟩
set_option maxRecDepth 20000 in
set_option maxHeartbeats 4000000 in
theorem hexSorts_some (w : World) (v0 : Value) (l : List Int) (h0 : ISeen w v0 l) (a1 : Addr) (c1 : Nat) (F : List (List UInt8)) (hF : H32 F) (hfl : F.length * 32 ≤ 140737488351232) (hu1 : ∀ j u, (fl F)[j]? = some u → w.cell? (a1.add j) = some u) :
    Calls Try.prog 4 #[v0, (.slice (some a1) F.length c1)] w fun e w' => e = .returned (.bool true) ∧ Below w.heap.size w w' := by
  obtain ⟨i0, hi0, hz0, hz1, hz2⟩ := info_parts hzinfo
  have HF := Lib.hid hF
  have HU1 := Lib.hid hu1
  clear hF hu1
  rcases h0 with ⟨rfl, rfl⟩ | ⟨a, c0, rfl, hc0, hcell⟩
  · skip
    go_enter Try.func4, Try.ntmps4
    go_wp2
    refine wp_loop_rounds 1 ?_
    rw [rounds_succ]
    have HE0 : Hid (HOwn w w.heap.size (.slice none 0 0) (hhs [])) := Lib.hid (World.ownsRow_nil _ _ _ _)
    have HL0 : Hid ((hhs []).length ≤ 40) := Lib.hid (by decide)
    have HB0 := Lib.hid (Below.refl w.heap.size w)
    have HH0 := Lib.hid (hhs_h32 [])
    generalize hhs [] = E0 at *
    have HFF := Lib.hid (fl_length HF.out)
    have HN1 : Hid (∀ j u, (fl F)[j]? = some u → w.cell? (a1.add j) = some u) := Lib.hid fun j u hj => by
      have hx := HU1.out j u hj
      rw [World.cell?_of_block (w := w) (HB0.out.block _ (World.block_lt_of_cell? w _ hx))]
      exact hx
    have M6 := Lib.hid (srt_fits HL0.out hfl).1
    have Y6 := Lib.hid (srt_fits HL0.out hfl).2.1
    go_wp2_with (at_builtin; refine wpList_append_own _ (by rfl) (.tmp 25) (.tmp 26) _ (by rfl) w.heap.size 23 i0 _ 32 32 Try.underlying36 hi0 hz0 hz1 hz2 rfl (by omega) _ _ _ (by rfl) HE0.out a1 F.length _ (fl F) (by rfl) HFF.out HN1.out (fl_one' _) M6.out Y6.out HB0.out.size ?_; intro v6 w6 own6 grow6 _; have O6 := Lib.hid own6; have HB6 : Hid (Below w.heap.size w w6) := Lib.hid (HB0.out.grown grow6 HB0.out.size (fun k hk => (HE0.out.lt k hk).1)); clear own6 grow6)
    have HO6 : Hid (HOwn w6 w.heap.size v6 (E0 ++ F)) := Lib.hid (own_as O6.out (Nat.le_refl _) (by rw [List.length_append]) (by rw [fl_app]))
    have HEE := Lib.hid (HH0.out.app HF.out)
    have HLE : Hid ((E0 ++ F).length * 32 ≤ 140737488355328) := Lib.hid (by rw [List.length_append]; exact (srt_fits HL0.out hfl).2.1)
    have HLE1 : Hid (((E0 ++ F).length + 1) * 32 ≤ 140737488355328) := Lib.hid (by rw [List.length_append]; exact (srt_fits HL0.out hfl).2.2.1)
    have HLE2 : Hid ((rsort (E0 ++ F)).length ≤ 4611686018427387904) := Lib.hid (Nat.le_trans (rsort_length _) (by rw [List.length_append]; exact (srt_fits HL0.out hfl).2.2.2))
    generalize E0 ++ F = E at *
    refine (known_to _).mono ?_
    rintro e w' ⟨rfl, rfl⟩
    have HS := Lib.hid (sort_to w6 v6 E HEE.out HLE.out (HSeen.own HO6.out))
    go_wp2_with fail
    refine HS.out.mono ?_
    rintro e w7 ⟨v7, rfl, o7, b7⟩
    have O7 := Lib.hid o7
    have HB7 := Lib.hid (HB6.out.trans (b7.mono HB6.out.size))
    have HR := Lib.hid (rsort_any w7 E HEE.out v6 w.heap.size (hown_kb HO6.out b7) HLE1.out)
    clear o7 b7 HS
    go_wp2_with fail
    refine HR.out.mono ?_
    rintro e w8 ⟨v8, rfl, o8, b8⟩
    have HB8 := Lib.hid (HB7.out.trans (b8.mono HB7.out.size))
    have HM := Lib.hid (same_any w8 w6.heap.size w7.heap.size v7 v8 (rsort E) (rsort_h32 HEE.out) (hown_kb O7.out b8) o8 HLE2.out)
    clear o8 b8 HR
    go_wp2_with fail
    refine HM.out.mono ?_
    rintro e w9 ⟨rfl, q, rfl⟩
    go_wp2_with fail
    go_ret
    exact ⟨rfl, below_drn HB8.out⟩
  · skip
    obtain ⟨n, hn⟩ : ∃ n, n = l.length := ⟨_, rfl⟩
    rw [← hn] at hc0 ⊢
    have HN := Lib.hid hn
    have HC := Lib.hid hcell
    clear hn hcell
    go_enter Try.func4, Try.ntmps4
    go_wp2
    go_loopw [5, 6] (fun v i wr => ∃ (k : Nat), k ≤ n ∧ k ≤ 40 ∧ i = .int .i64 k ∧ Hid (HOwn wr w.heap.size v (hhs (l.take k))) ∧ Hid (Below w.heap.size w wr)) (fun _ i _ => n - (intOf i).toNat)
    case atStart => exact ⟨0, Nat.zero_le _, by omega, rfl, Lib.hid (World.ownsRow_nil _ _ _ _), Lib.hid (Below.refl _ _)⟩
    case round =>
      obtain ⟨k, hk, hk40, rfl, HO, HB⟩ := hrel
      by_cases hlt : k < n ∧ k < 40
      · obtain ⟨h1, h2⟩ := hlt
        have hx : ∃ x, l[k]? = some x := ⟨l[k]'(by rw [← HN.out]; exact h1), List.getElem?_eq_getElem _⟩
        obtain ⟨x, hx⟩ := hx
        have hxc := HC.out k x hx
        have hc : wr.cell? (a.add k) = some (.int .i64 x) := by
          rw [World.cell?_of_block (w := w) (HB.out.block _ (World.block_lt_of_cell? w _ hxc))]; exact hxc
        have HSN := Lib.hid (hhs_snoc hx)
        have HK : Hid ((hhs (l.take k)).length = k) := Lib.hid (by rw [hhs, List.length_map, List.length_take, ← HN.out]; omega)
        have hf := loop_fits h2
        have M := Lib.hid hf.1
        have Y := Lib.hid hf.2
        have hk' : (k : Int) < n := by omega
        have hk'' : (k : Int) < 40 := by omega
        have HHK := Lib.hid (hhs_h32 (l.take k))
        clear hx hxc hf
        have HO2 : wr.ownsRow w.heap.size 23 32 u5 k (fl (hhs (l.take k))) := by
          have := HO.out
          unfold HOwn at this
          rwa [HK.out] at this
        have HO3 := Lib.hid HO2
        clear HO2
        go_wp2_with (first
          | (at_builtin; refine wpList_append_lies _ (by rfl) (.tmp 17) (.tmp 23) _ (by rfl) w.heap.size 23 i0 _ 32 32 Try.underlying36 hi0 hz0 hz1 hz2 rfl (by omega) u5 k _ (by rfl) ((HO4.out).alloc _) ⟨w2.heap.size, 0, none⟩ 1 1 (fl [hh x]) (by rfl) (by rw [fl_one, usn_length]; rfl) (news_fl w2 [hh x]) (fl_one' [hh x]) (by decide) M.out Y.out (Nat.le_trans HB2.out.size (by simp)) (w2.heap.size + 1) (by simp) ?_; intro gg cap6 w6 own6 grow6 _ _; have O6 := Lib.hid own6; have S6 : Hid (Below w.heap.size w w6) := Lib.hid ((HB2.out.alloc HB2.out.size _).grown grow6 (Nat.le_trans HB2.out.size (by simp)) (fun k hk => (HO4.out.lt k hk).1)); clear own6 grow6)
          | (refine build_hash (E := [hh x]) (H32.one (hh_length x)) rfl (by simp) (by simp) ?hv ?_; (case hv => simp [Act.eval]))
          | (go_at_call 13; refine (hash_to _ x).mono ?_; rintro e w2 ⟨rfl, b2⟩; have HB2 := Lib.hid (HB.out.trans (b2.mono HB.out.size)); have HO4 := Lib.hid (own_at HO3.out b2); clear b2))
        refine ⟨⟨k + 1, by omega, by omega, by go_num, Lib.hid ?_, S6⟩, by simp [intOf]; omega⟩
        rw [HSN.out]
        exact own_as O6.out (Nat.le_refl _) (by rw [List.length_append, HK.out]; rfl) (by rw [fl_app])
      · have HE0 := HO
        have HL0 : Hid ((hhs (l.take k)).length ≤ 40) := Lib.hid (Nat.le_trans (hhs_length l k) hk40)
        have HB0 := HB
        have HH0 := Lib.hid (hhs_h32 (l.take k))
        generalize hhs (l.take k) = E0 at *
        clear HO HB
        by_cases h1 : k < n
        · have hk' : (k : Int) < n := by omega
          have hk'' : ¬ (k : Int) < 40 := by omega
          clear hlt
          have HFF := Lib.hid (fl_length HF.out)
          have HN1 : Hid (∀ j u, (fl F)[j]? = some u → wr.cell? (a1.add j) = some u) := Lib.hid fun j u hj => by
            have hx := HU1.out j u hj
            rw [World.cell?_of_block (w := w) (HB0.out.block _ (World.block_lt_of_cell? w _ hx))]
            exact hx
          have M6 := Lib.hid (srt_fits HL0.out hfl).1
          have Y6 := Lib.hid (srt_fits HL0.out hfl).2.1
          go_wp2_with (at_builtin; refine wpList_append_own _ (by rfl) (.tmp 25) (.tmp 26) _ (by rfl) w.heap.size 23 i0 _ 32 32 Try.underlying36 hi0 hz0 hz1 hz2 rfl (by omega) _ _ _ (by rfl) HE0.out a1 F.length _ (fl F) (by rfl) HFF.out HN1.out (fl_one' _) M6.out Y6.out HB0.out.size ?_; intro v6 w6 own6 grow6 _; have O6 := Lib.hid own6; have HB6 : Hid (Below w.heap.size w w6) := Lib.hid (HB0.out.grown grow6 HB0.out.size (fun k hk => (HE0.out.lt k hk).1)); clear own6 grow6)
          have HO6 : Hid (HOwn w6 w.heap.size v6 (E0 ++ F)) := Lib.hid (own_as O6.out (Nat.le_refl _) (by rw [List.length_append]) (by rw [fl_app]))
          have HEE := Lib.hid (HH0.out.app HF.out)
          have HLE : Hid ((E0 ++ F).length * 32 ≤ 140737488355328) := Lib.hid (by rw [List.length_append]; exact (srt_fits HL0.out hfl).2.1)
          have HLE1 : Hid (((E0 ++ F).length + 1) * 32 ≤ 140737488355328) := Lib.hid (by rw [List.length_append]; exact (srt_fits HL0.out hfl).2.2.1)
          have HLE2 : Hid ((rsort (E0 ++ F)).length ≤ 4611686018427387904) := Lib.hid (Nat.le_trans (rsort_length _) (by rw [List.length_append]; exact (srt_fits HL0.out hfl).2.2.2))
          generalize E0 ++ F = E at *
          refine (known_to _).mono ?_
          rintro e w' ⟨rfl, rfl⟩
          have HS := Lib.hid (sort_to w6 v6 E HEE.out HLE.out (HSeen.own HO6.out))
          go_wp2_with fail
          refine HS.out.mono ?_
          rintro e w7 ⟨v7, rfl, o7, b7⟩
          have O7 := Lib.hid o7
          have HB7 := Lib.hid (HB6.out.trans (b7.mono HB6.out.size))
          have HR := Lib.hid (rsort_any w7 E HEE.out v6 w.heap.size (hown_kb HO6.out b7) HLE1.out)
          clear o7 b7 HS
          go_wp2_with fail
          refine HR.out.mono ?_
          rintro e w8 ⟨v8, rfl, o8, b8⟩
          have HB8 := Lib.hid (HB7.out.trans (b8.mono HB7.out.size))
          have HM := Lib.hid (same_any w8 w6.heap.size w7.heap.size v7 v8 (rsort E) (rsort_h32 HEE.out) (hown_kb O7.out b8) o8 HLE2.out)
          clear o8 b8 HR
          go_wp2_with fail
          refine HM.out.mono ?_
          rintro e w9 ⟨rfl, q, rfl⟩
          go_wp2_with fail
          go_ret
          exact ⟨rfl, below_drn HB8.out⟩
        · have hk' : ¬ (k : Int) < n := by omega
          clear hlt
          have HFF := Lib.hid (fl_length HF.out)
          have HN1 : Hid (∀ j u, (fl F)[j]? = some u → wr.cell? (a1.add j) = some u) := Lib.hid fun j u hj => by
            have hx := HU1.out j u hj
            rw [World.cell?_of_block (w := w) (HB0.out.block _ (World.block_lt_of_cell? w _ hx))]
            exact hx
          have M6 := Lib.hid (srt_fits HL0.out hfl).1
          have Y6 := Lib.hid (srt_fits HL0.out hfl).2.1
          go_wp2_with (at_builtin; refine wpList_append_own _ (by rfl) (.tmp 25) (.tmp 26) _ (by rfl) w.heap.size 23 i0 _ 32 32 Try.underlying36 hi0 hz0 hz1 hz2 rfl (by omega) _ _ _ (by rfl) HE0.out a1 F.length _ (fl F) (by rfl) HFF.out HN1.out (fl_one' _) M6.out Y6.out HB0.out.size ?_; intro v6 w6 own6 grow6 _; have O6 := Lib.hid own6; have HB6 : Hid (Below w.heap.size w w6) := Lib.hid (HB0.out.grown grow6 HB0.out.size (fun k hk => (HE0.out.lt k hk).1)); clear own6 grow6)
          have HO6 : Hid (HOwn w6 w.heap.size v6 (E0 ++ F)) := Lib.hid (own_as O6.out (Nat.le_refl _) (by rw [List.length_append]) (by rw [fl_app]))
          have HEE := Lib.hid (HH0.out.app HF.out)
          have HLE : Hid ((E0 ++ F).length * 32 ≤ 140737488355328) := Lib.hid (by rw [List.length_append]; exact (srt_fits HL0.out hfl).2.1)
          have HLE1 : Hid (((E0 ++ F).length + 1) * 32 ≤ 140737488355328) := Lib.hid (by rw [List.length_append]; exact (srt_fits HL0.out hfl).2.2.1)
          have HLE2 : Hid ((rsort (E0 ++ F)).length ≤ 4611686018427387904) := Lib.hid (Nat.le_trans (rsort_length _) (by rw [List.length_append]; exact (srt_fits HL0.out hfl).2.2.2))
          generalize E0 ++ F = E at *
          refine (known_to _).mono ?_
          rintro e w' ⟨rfl, rfl⟩
          have HS := Lib.hid (sort_to w6 v6 E HEE.out HLE.out (HSeen.own HO6.out))
          go_wp2_with fail
          refine HS.out.mono ?_
          rintro e w7 ⟨v7, rfl, o7, b7⟩
          have O7 := Lib.hid o7
          have HB7 := Lib.hid (HB6.out.trans (b7.mono HB6.out.size))
          have HR := Lib.hid (rsort_any w7 E HEE.out v6 w.heap.size (hown_kb HO6.out b7) HLE1.out)
          clear o7 b7 HS
          go_wp2_with fail
          refine HR.out.mono ?_
          rintro e w8 ⟨v8, rfl, o8, b8⟩
          have HB8 := Lib.hid (HB7.out.trans (b8.mono HB7.out.size))
          have HM := Lib.hid (same_any w8 w6.heap.size w7.heap.size v7 v8 (rsort E) (rsort_h32 HEE.out) (hown_kb O7.out b8) o8 HLE2.out)
          clear o8 b8 HR
          go_wp2_with fail
          refine HM.out.mono ?_
          rintro e w9 ⟨rfl, q, rfl⟩
          go_wp2_with fail
          go_ret
          exact ⟨rfl, below_drn HB8.out⟩
end Go.Proofs.Ytgnagpohogiodaa
