/- The reference's Put into nothing, its Sort, and SameHashes. Condition: the slices are within what a slice may take up. -/
import Derived.Test.YtbpccbhlggcmfaaDoorHexPu
import Derived.Laws.AppendOwnNone
namespace Go.Proofs.YtbpccbhlggcmfaaDoor
open Go.RowKit
attribute [local go_sem ↓] hld_open heq_open hne_open

set_option maxRecDepth 20000 in
set_option maxHeartbeats 2000000 in
theorem put_nil (w : World) (B : Nat) (h : List UInt8) (hh : h.length = 32) (hB : B ≤ w.heap.size) :
    Calls Tryd.prog 30 #[.slice none 0 0, .agg (hv h)] w (PuPost w B [] h) := by
  obtain ⟨i0, hi0, hz0, hz1, hz2⟩ := info_parts hzinfo
  have HH := Lib.hid (heap_alloc_last w (.cells (hv h) 33))
  have BEL := Lib.hid ((Below.refl w.heap.size w).alloc (Nat.le_refl _) (.cells (hv h) 33))
  have H32' := Lib.hid hh
  clear hh
  go_enter Tryd.func30, Tryd.ntmps30
  go_wp2
  generalize w.alloc (.cells (hv h) 33) = w0 at *
  refine wp_loop_rounds 1 ?_
  rw [rounds_succ]
  go_wp2_with fail
  go_quiet (fail)
  have HHq := Lib.hid (show (w0.drewN nq).heap[w.heap.size]? = _ from HH.out)
  have HBq := Lib.hid (below_drn (m := nq) BEL.out)
  clear HH BEL
  generalize w0.drewN nq = wq at *
  go_wp2_with fail
  go_quiet (fail)
  have HHX := Lib.hid (show (wq.drewN nq).heap[w.heap.size]? = _ from HHq.out)
  have HBX := Lib.hid (below_drn (m := nq) HBq.out)
  clear HHq HBq
  generalize wq.drewN nq = W at *
  have hhl : w.heap.size < W.heap.size := (Array.getElem?_eq_some_iff.1 HHX.out).1
  have hown := World.ownsRow_made (base := W.heap.size) (e := 33) (size := 32) W #[] 0 (Nat.le_refl _) (by decide) rfl
  have HO := Lib.hid hown
  have HR : Hid ((W.alloc (.cells #[] 33)).rangeAt w.heap.size 0 (hv h).toList) := Lib.hid (range_row ((Below.heap_alloc W _ _ hhl).trans HHX.out))
  clear hhl hown
  go_wp2_with (first
    | (at_builtin; refine wpList_append_own_none (by rfl) (.tmp 43) (.tmp 46) _ (by rfl) W.heap.size 33 i0 32 Tryd.underlying28 hi0 _ _ _ (by rfl) O6.out (by rfl) ?_)
    | (refine load_to HR.out Tryd.underlying33 rfl (hinfo' _ (by rw [hv_size, H32'.out])) ?hx ?_; (case hx => rfl); refine build_hash (E := [h]) (H32.one H32'.out) rfl (by simp) (by simp) ?hv ?_; (case hv => simp [Act.put, Act.eval, hv]))
    | (at_builtin; refine wpList_append_lies _ (by rfl) (.tmp 39) (.tmp 41) _ (by rfl) W.heap.size 33 i0 _ 32 32 Tryd.underlying28 hi0 hz0 hz1 hz2 rfl (by omega) (.slice (some ⟨W.heap.size, 0, none⟩) 0 0) 0 [] (by rfl) (HO.out.alloc _) ⟨(W.alloc (.cells #[] 33)).heap.size, 0, none⟩ 1 1 (fl [h]) (by rfl) (by rw [fl_one, usn_length, H32'.out]) (news_fl (W.alloc (.cells #[] 33)) [h]) (fl_one' [h]) (by decide) (by decide) (by decide) (by simp; omega) (W.heap.size + 2) (by simp) ?_; intro gg cap6 w6 own6 grow6 _ _; simp only [Nat.zero_add, List.nil_append] at own6; have O6 := Lib.hid own6; have S6 : Hid (Below W.heap.size W w6) := Lib.hid ((((Below.refl W.heap.size W).alloc (Nat.le_refl _) _).alloc (by simp) _).grown grow6 (by simp; omega) (fun k hk => (HO.out.lt k hk).1)); clear own6 grow6))
  go_ret
  refine ⟨_, rfl, own_as O6.out (Nat.le_trans hB HBX.out.size) rfl rfl, HBX.out.trans (S6.out.mono HBX.out.size)⟩

/-- The hashes of a list, in their places, each once. -/
theorem rsort_snoc (l : List (List UInt8)) (h : List UInt8) : rsort (l ++ [h]) = rput (rsort l) h := by simp [rsort, List.foldl_append]
theorem rput_length (h : List UInt8) : ∀ l, (rput l h).length ≤ l.length + 1
  | [] => by simp [rput]
  | x :: l => by
    have ih := rput_length h l
    rw [rput]
    split
    · simp; omega
    · split <;> simp
theorem rsort_length : ∀ l, (rsort l).length ≤ l.length := by
  intro l
  have : ∀ s, (l.foldl rput s).length ≤ s.length + l.length := by
    induction l with
    | nil => intro s; simp
    | cons x l ih => intro s; have h1 := ih (rput s x); have h2 := rput_length x s; simp at h1 ⊢; omega
  simpa [rsort] using this []

set_option maxRecDepth 20000 in
set_option maxHeartbeats 2000000 in
theorem rsort_any (w : World) (E : List (List UInt8)) (hE : H32 E) (v : Value) (B : Nat) (ho : HOwn w B v E) (hl : (E.length + 1) * 32 ≤ 140737488355328) :
    Calls Tryd.prog 17 #[v] w fun e w' => ∃ v', e = .returned v' ∧ HOwn w' w.heap.size v' (rsort E) ∧ Below w.heap.size w w' := by
  by_cases h0 : E.length = 0
  · obtain rfl : E = [] := List.eq_nil_of_length_eq_zero h0
    obtain ⟨p, cap, rfl⟩ : ∃ p cap, v = .slice p 0 cap := by
      rcases ho.2 with ⟨rfl, _⟩ | ⟨g, cap, cur, rfl, _⟩
      · exact ⟨_, _, rfl⟩
      · exact ⟨_, _, rfl⟩
    clear ho hl h0
    go_enter Tryd.func17, Tryd.ntmps17
    go_wp2
    refine wp_loop_rounds 1 ?_
    rw [rounds_succ]
    go_wp2
    go_ret
    exact ⟨_, rfl, World.ownsRow_nil _ _ _ _, Below.refl _ _⟩
  · obtain ⟨g, cap, R, rfl, hb, hg, hc, hm, hR⟩ := ho.row (by omega)
    have HG := Lib.hid hg
    have HE := Lib.hid hE
    obtain ⟨n, hn⟩ : ∃ n, n = E.length := ⟨_, rfl⟩
    rw [← hn] at hc h0 hl ⊢
    have HN := Lib.hid hn
    have HFIT : Hid (∀ k, k ≤ n → ((rsort (E.take k)).length + 1) * 32 ≤ 140737488355328) := Lib.hid fun k hk => by
      have h1 := rsort_length (E.take k)
      have h2 : (E.take k).length ≤ k := List.length_take_le _ _
      omega
    unfold maxLen at hm
    clear hg hE hn ho hR
    go_enter Tryd.func17, Tryd.ntmps17
    go_wp2
    go_loopw [3, 4] (fun v i wr => ∃ (k : Nat), k ≤ n ∧ i = .int .i64 k ∧ Hid (HOwn wr w.heap.size v (rsort (E.take k))) ∧ Hid (k = 0 → v = .slice none 0 0) ∧ Hid (Below w.heap.size w wr)) (fun _ i _ => n - (intOf i).toNat)
    case atStart => exact ⟨0, Nat.zero_le _, rfl, Lib.hid (World.ownsRow_nil _ _ _ _), Lib.hid (fun _ => rfl), Lib.hid (Below.refl _ _)⟩
    case round =>
      obtain ⟨k, hk, rfl, HO, HV, HB⟩ := hrel
      have HG1 := Lib.hid ((HB.out.block g (Array.getElem?_eq_some_iff.1 HG.out).1).trans HG.out)
      by_cases hlt : k < n
      · have hkE : k < E.length := by rw [← HN.out]; exact hlt
        have hk' : (k : Int) < n := by omega
        have l1 := hld_at HE.out hkE HG1.out 0
        rw [show wr.drewN 0 = wr from rfl] at l1
        have hput : Calls Tryd.prog 30 #[u3, .agg (hv E[k])] wr (PuPost wr w.heap.size (rsort (E.take k)) E[k]) := by
          by_cases hz0 : k = 0
          · subst hz0
            rw [HV.out rfl]
            exact put_nil wr w.heap.size E[0] (HE.out.at hkE) HB.out.size
          · refine put_any wr w.heap.size u3 _ (rsort_h32 (HE.out.take k)) E[k] (HE.out.at hkE) (HFIT.out k hk) HB.out.size HO.out ?_
            have hm : E[0]'(by omega) ∈ rsort (E.take k) := (rsort_mem _ _).2 (by rw [List.mem_take_iff_getElem]; exact ⟨0, by omega, rfl⟩)
            exact List.length_pos_of_mem hm
        have HP := Lib.hid hput
        have e : rsort (E.take (k + 1)) = rput (rsort (E.take k)) E[k] := by rw [List.take_succ_eq_append_getElem hkE, rsort_snoc]
        have HES := Lib.hid e
        clear hput e
        go_wp2_with (go_at_call 30; refine HP.out.mono ?_; rintro e w2 ⟨v2, rfl, o2, b2⟩; have O2 := Lib.hid o2; have B2 := Lib.hid b2; clear o2 b2)
        refine ⟨⟨k + 1, by omega, by go_num, Lib.hid (by rw [HES.out]; exact O2.out), Lib.hid (fun h => by omega), Lib.hid (HB.out.trans (B2.out.mono HB.out.size))⟩, by simp [intOf]; omega⟩
      · obtain rfl : k = n := by omega
        have e : E.take k = E := List.take_of_length_le (by rw [← HN.out]; exact Nat.le_refl _)
        rw [e] at HO
        have HO2 := HO
        clear e HO
        go_wp2_with fail
        go_ret
        exact ⟨_, rfl, HO2.out, HB.out⟩
end Go.Proofs.YtbpccbhlggcmfaaDoor
