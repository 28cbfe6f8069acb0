/- The reference's In; its Put into an empty list; what Add makes of the hashes. Conditions: hashes of 32 bytes; no more than a million hashes. -/
import Derived.Test.YthfkmfepeafgjaaGphKn
import Derived.Test.YthfkmfepeafgjaaHndC
import Derived.Test.YthfkmfepeafgjaaGenRow
import Derived.BigQuiet
namespace Go.Proofs.Ythfkmfepeafgjaa
open Go.RowKit
open Go.Maps

set_option linter.unusedSimpArgs false in
set_option maxRecDepth 20000 in
set_option maxHeartbeats 2000000 in
attribute [local go_sem ↓] hld_open heq_open in
/-- In. -/
theorem in_any (w : World) (v : Value) (E : List Key) (h : Key) (hh : h.length = 32) (hv' : HSeen w v E) (h32 : H32 E) (hl : E.length ≤ 1000000) :
    Calls Try.prog 17 #[v, .agg (hv h)] w fun e w' => e = .returned (.bool (decide (h ∈ E))) ∧ Below w.heap.size w w' := by
  obtain ⟨p, cap, rfl⟩ := hv'.shape
  obtain ⟨n, hn⟩ : ∃ n, n = E.length := ⟨_, rfl⟩
  rw [← hn] at hv' hl ⊢
  have HV := Lib.hid (hv'.mild (mild_below (below_al11 w (.cells (hv h) 28))))
  have BA := Lib.hid (below_al11 w (.cells (hv h) 28))
  have HB := Lib.hid (heap_alloc_last w (.cells (hv h) 28))
  have H3 := Lib.hid h32
  have HH := Lib.hid hh
  have HN := Lib.hid hn
  have HL := Lib.hid hl
  clear hv' h32 hh hl hn
  have hgd := heq_guard
  go_enter Try.func17, Try.ntmps17
  go_wp2_with fail
  generalize w.alloc (.cells (hv h) 28) = w0 at *
  go_loopw [5] (fun i wr => ∃ k : Nat, k ≤ n ∧ i = .int .i64 k ∧ Hid (h ∉ E.take k) ∧ Hid (Below w0.heap.size w0 wr)) (fun i _ => n - (intOf i).toNat)
  case atStart => exact ⟨0, Nat.zero_le _, rfl, Lib.hid (by simp), Lib.hid (Below.refl _ w0)⟩
  case round =>
    obtain ⟨k, hk, rfl, HM, B⟩ := hrel
    by_cases hlt : k < n
    · obtain ⟨j1, j2, j3⟩ := next_fit hlt HL.out
      have hkl : k < E.length := by rw [← HN.out]; exact hlt
      obtain ⟨bb, o, c', e1, hrg⟩ := (HV.out.mild (mild_below B.out)).at H3.out hkl
      injection e1 with e1 e2 e3
      subst e1
      obtain ⟨x, hx⟩ : ∃ x, x = E[k] := ⟨_, rfl⟩
      rw [← hx] at hrg
      have hx32 : x.length = 32 := by rw [hx]; exact H3.out.at hkl
      have HX := Lib.hid hx32
      have HRG := Lib.hid hrg
      have l1 := fun m => hld_range (w := wr.drewN m) HX.out (hsr_kb HRG.out (mild_below (blw_qt wr.heap.size m wr)))
      have HB1 := Lib.hid ((mild_below B.out).cells HB.out)
      have l2 := fun m => hld_row (w := wr.drewN m) HH.out ((mild_below (blw_qt wr.heap.size m wr)).cells HB1.out)
      have HTK : Hid (h ∈ E.take (k + 1) ↔ h ∈ E.take k ∨ h = x) := Lib.hid (by
        rw [List.take_add_one, List.getElem?_eq_getElem hkl, ← hx]
        simp)
      have HME : Hid (x ∈ E) := Lib.hid (by rw [hx]; exact List.getElem_mem hkl)
      clear hx hrg hx32 e2 e3 hkl
      by_cases hr : x = h
      · have heq := heq_hv HX.out HH.out
        rw [decide_eq_true hr] at heq
        have HR := Lib.hid hr
        clear hr
        go_wp2_with fail
        go_quiet (fail)
        go_wp2_with fail
        go_ret
        refine ⟨?_, BA.out.trans ((B.out.trans (blw_qt _ _ _)).mono BA.out.size)⟩
        rw [decide_eq_true (by rw [← HR.out]; exact HME.out)]
        rfl
      · have heq := heq_hv HX.out HH.out
        rw [decide_eq_false hr] at heq
        have HR := Lib.hid hr
        clear hr
        go_wp2_with fail
        go_quiet (fail)
        go_wp2_with fail
        refine ⟨⟨k + 1, by omega, by rw [j1], Lib.hid (fun h2 => by
          rcases HTK.out.1 h2 with h3 | h3
          · exact HM.out h3
          · exact HR.out h3.symm), Lib.hid (B.out.trans (blw_qt _ _ _))⟩, ?_⟩
        rw [j1]; simp only [intOf]; omega
    · obtain rfl : k = n := by omega
      go_wp2_with fail
      go_ret
      refine ⟨?_, BA.out.trans (B.out.mono BA.out.size)⟩
      have h2 := HM.out
      rw [List.take_of_length_le (by rw [HN.out]; exact Nat.le_refl _)] at h2
      rw [decide_eq_false h2]
      rfl
set_option linter.unusedSimpArgs false in
set_option maxRecDepth 20000 in
set_option maxHeartbeats 2000000 in
attribute [local go_sem ↓] hld_open heq_open hne_open in
theorem put_zero (w : World) (B g cap : Nat) (h : Key) (hh : h.length = 32) (hB : B ≤ w.heap.size) :
    Calls Try.prog 41 #[.slice (some ⟨g, 0, none⟩) 0 cap, .agg (hv h)] w (PuPost w B [] h) := by
  obtain ⟨i0, hi0, hz0, hz1, hz2⟩ := info_parts hzinfo
  have HH := Lib.hid (heap_alloc_last w (.cells (hv h) 28))
  have BEL := Lib.hid ((Below.refl w.heap.size w).alloc (Nat.le_refl _) (.cells (hv h) 28))
  have H32' := Lib.hid hh
  clear hh
  go_enter Try.func41, Try.ntmps41
  go_wp2
  generalize w.alloc (.cells (hv h) 28) = w0 at *
  refine wp_loop_rounds 1 ?_
  rw [rounds_succ]
  go_wp2_with fail
  go_quiet (fail)
  have HHq := Lib.hid (show (w0.drewN nq).heap[w.heap.size]? = _ from HH.out)
  have HBq := Lib.hid (below_drn (m := nq) BEL.out)
  clear HH BEL
  generalize w0.drewN nq = wq at *
  go_wp2_with fail
  go_quiet (fail)
  have HHX := Lib.hid (show (wq.drewN nq).heap[w.heap.size]? = _ from HHq.out)
  have HBX := Lib.hid (below_drn (m := nq) HBq.out)
  clear HHq HBq
  generalize wq.drewN nq = W at *
  have hhl : w.heap.size < W.heap.size := (Array.getElem?_eq_some_iff.1 HHX.out).1
  have HO : Hid (HOwn (W.alloc (.cells #[] 28)) W.heap.size (.slice (some ⟨W.heap.size, 0, none⟩) 0 0) []) := Lib.hid (own_empty W _ _ (Nat.le_refl _))
  have HS0 : ∀ V : World, HSeen V (.slice (some ⟨g, 0, none⟩) 0 cap) [] := fun V => .inr ⟨⟨g, 0, none⟩, cap, rfl, Nat.zero_le _, fun j u hj => by simp [fl] at hj⟩
  have HS1 := Lib.hid HS0
  have BA := Lib.hid (below_al11 W (.cells #[] 28))
  have HHL := Lib.hid hhl
  clear HS0 hhl
  go_upto_region 7 with fail
  have O1 := HO
  have B1 := BA
  clear HO BA
  generalize W.alloc (.cells #[] 28) = w1 at *
  have HV1 := Lib.hid ((mild_below B1.out).cells HHX.out)
  have hld1 := hld_row (w := w1) H32'.out HV1.out
  have HR1 := Lib.hid (heap_alloc_last w1 (.cells (hv h) 28))
  have OA1 := Lib.hid (own_below O1.out (below_al11 w1 (.cells (hv h) 28)))
  have BA1 : Hid (Below W.heap.size W (w1.alloc (.cells (hv h) 28))) := Lib.hid (B1.out.alloc B1.out.size _)
  go_upto_region 8 with (first
    | (at_builtin; refine push_loc rfl (.tmp 39) (.tmp 41) rfl W.heap.size (.slice (some ⟨W.heap.size, 0, none⟩) 0 0) [] w1.heap.size h H32'.out rfl OA1.out rfl (by have := range_row HR1.out; rwa [hv_list] at this) (by decide) BA1.out.size ?_; intro v2 w2 o2 oth2 loc2; have O2 := Lib.hid o2; have B2 := Lib.hid (BA1.out.trans (oth2.below BA1.out.size (fun k hk => own_from OA1.out k hk))); clear o2 oth2 loc2)
    | (refine build_one h H32'.out rfl ?_))
  obtain ⟨p2, c2, hv2⟩ := own_shape O2.out
  subst hv2
  clear hld1
  go_wp2_with (at_builtin; refine push_hash rfl (.tmp 43) (.tmp 46) rfl W.heap.size _ (.slice (some ⟨g, 0, none⟩) 0 cap) _ [] rfl O2.out rfl (HS1.out _) H32.nil (by simp) B2.out.size ?_; intro v3 w3 o3 oth3; have O3 := Lib.hid o3; have B3 := Lib.hid (B2.out.trans (oth3.below B2.out.size (fun k hk => own_from O2.out k hk))); clear o3 oth3)
  go_ret
  refine ⟨_, rfl, own_as O3.out (Nat.le_trans hB HBX.out.size) rfl rfl, HBX.out.trans (B3.out.mono HBX.out.size)⟩
/-- Put, into a list of its own. -/
theorem put_own (w : World) (B : Nat) (v : Value) (L : List Key) (hL : H32 L) (h : Key) (hh : h.length = 32) (hl : (L.length + 1) * 32 ≤ 140737488355328) (hB : B ≤ w.heap.size) (ho : HOwn w B v L) :
    Calls Try.prog 41 #[v, .agg (hv h)] w (PuPost w B L h) := by
  by_cases h0 : 0 < L.length
  · exact put_any w B v L hL h hh hl hB ho h0
  · obtain rfl : L = [] := List.eq_nil_of_length_eq_zero (by omega)
    rcases ho.2 with ⟨rfl, _⟩ | ⟨g, cap, cur, rfl, _⟩
    · exact put_nil w B h hh hB
    · exact put_zero w B g cap h hh hB
theorem rput_keys {G : Gr} (ha : AAsc G) (c : Cm) : ((if (aget c.1 G).isSome then G else aput c.1 c.2 G).map (·.1)) = rput (G.map (·.1)) c.1 := by
  refine asc_ext _ _ ?_ (rput_asc _ _ (aasc_asc ha)) (fun a => ?_)
  · split
    · exact aasc_asc ha
    · exact aasc_asc (ha.put _ _)
  · rw [rput_mem]
    by_cases e : (aget c.1 G).isSome = true
    · rw [if_pos e]
      refine ⟨fun h => .inr h, fun h => ?_⟩
      rcases h with h | h
      · rw [h]; exact mem_keys.2 e
      · exact h
    · rw [if_neg e]
      simp only [mem_keys, aget_put]
      by_cases e2 : a = c.1
      · simp [e2]
      · simp [e2]
theorem adds_keys : ∀ {cs : List Cm} {G : Gr}, AAsc G → (adds G cs).map (·.1) = cs.foldl (fun l c => rput l c.1) (G.map (·.1))
  | [], _, _ => rfl
  | c :: cs, G, ha => by
    rw [adds, List.foldl_cons, ← rput_keys ha c]
    refine adds_keys ?_
    split
    · exact ha
    · exact ha.put _ _
end Go.Proofs.Ythfkmfepeafgjaa
