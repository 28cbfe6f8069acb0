/- The reference's In; its Put into an empty list; what Add makes of the hashes. Conditions: hashes of 32 bytes; no more than a million hashes. -/
import Derived.Test.YthfkmfepeafgjaaGreatDoorGphKn
import Derived.Test.YthfkmfepeafgjaaGreatDoorHndC
import Derived.Test.YthfkmfepeafgjaaGreatDoorGenRow
import Derived.BigQuiet
namespace Go.Proofs.YthfkmfepeafgjaaGreatDoor
open Go.RowKit
open Go.Maps

set_option linter.unusedSimpArgs false in
set_option maxRecDepth 20000 in
set_option maxHeartbeats 2000000 in
attribute [local go_sem ↓] hld_open heq_open in
/-- In. -/
theorem in_any (w : World) (v : Value) (E : List Key) (h : Key) (hh : h.length = 32) (hv' : HSeen w v E) (h32 : H32 E) (hl : E.length ≤ 1000000) :
    Calls Tryz.prog 33 #[v, .agg (hv h)] w fun e w' => e = .returned (.bool (decide (h ∈ E))) ∧ Below w.heap.size w w' := by
  obtain ⟨p, cap, rfl⟩ := hv'.shape
  obtain ⟨n, hn⟩ : ∃ n, n = E.length := ⟨_, rfl⟩
  rw [← hn] at hv' hl ⊢
  have HV := Lib.hid (hv'.mild (mild_below (below_al11 w (.cells (hv h) 40))))
  have BA := Lib.hid (below_al11 w (.cells (hv h) 40))
  have HB := Lib.hid (heap_alloc_last w (.cells (hv h) 40))
  have H3 := Lib.hid h32
  have HH := Lib.hid hh
  have HN := Lib.hid hn
  have HL := Lib.hid hl
  clear hv' h32 hh hl hn
  have hgd := heq_guard
  go_enter Tryz.func33, Tryz.ntmps33
  go_wp2_with fail
  generalize w.alloc (.cells (hv h) 40) = w0 at *
  go_loopw [5] (fun i wr => ∃ k : Nat, k ≤ n ∧ i = .int .i64 k ∧ Hid (h ∉ E.take k) ∧ Hid (Below w0.heap.size w0 wr)) (fun i _ => n - (intOf i).toNat)
  case atStart => exact ⟨0, Nat.zero_le _, rfl, Lib.hid (by simp), Lib.hid (Below.refl _ w0)⟩
  case round =>
    obtain ⟨k, hk, rfl, HM, B⟩ := hrel
    by_cases hlt : k < n
    · obtain ⟨j1, j2, j3⟩ := next_fit hlt HL.out
      have hkl : k < E.length := by rw [← HN.out]; exact hlt
      obtain ⟨bb, o, c', e1, hrg⟩ := (HV.out.mild (mild_below B.out)).at H3.out hkl
      injection e1 with e1 e2 e3
      subst e1
      obtain ⟨x, hx⟩ : ∃ x, x = E[k] := ⟨_, rfl⟩
      rw [← hx] at hrg
      have hx32 : x.length = 32 := by rw [hx]; exact H3.out.at hkl
      have HX := Lib.hid hx32
      have HRG := Lib.hid hrg
      have l1 := fun m => hld_range (w := wr.drewN m) HX.out (hsr_kb HRG.out (mild_below (blw_qt wr.heap.size m wr)))
      have HB1 := Lib.hid ((mild_below B.out).cells HB.out)
      have l2 := fun m => hld_row (w := wr.drewN m) HH.out ((mild_below (blw_qt wr.heap.size m wr)).cells HB1.out)
      have HTK : Hid (h ∈ E.take (k + 1) ↔ h ∈ E.take k ∨ h = x) := Lib.hid (by
        rw [List.take_add_one, List.getElem?_eq_getElem hkl, ← hx]
        simp)
      have HME : Hid (x ∈ E) := Lib.hid (by rw [hx]; exact List.getElem_mem hkl)
      clear hx hrg hx32 e2 e3 hkl
      by_cases hr : x = h
      · have heq := heq_hv HX.out HH.out
        rw [decide_eq_true hr] at heq
        have HR := Lib.hid hr
        clear hr
        go_wp2_with fail
        go_quiet (fail)
        go_wp2_with fail
        go_ret
        refine ⟨?_, BA.out.trans ((B.out.trans (blw_qt _ _ _)).mono BA.out.size)⟩
        rw [decide_eq_true (by rw [← HR.out]; exact HME.out)]
        rfl
      · have heq := heq_hv HX.out HH.out
        rw [decide_eq_false hr] at heq
        have HR := Lib.hid hr
        clear hr
        go_wp2_with fail
        go_quiet (fail)
        go_wp2_with fail
        refine ⟨⟨k + 1, by omega, by rw [j1], Lib.hid (fun h2 => by
          rcases HTK.out.1 h2 with h3 | h3
          · exact HM.out h3
          · exact HR.out h3.symm), Lib.hid (B.out.trans (blw_qt _ _ _))⟩, ?_⟩
        rw [j1]; simp only [intOf]; omega
    · obtain rfl : k = n := by omega
      go_wp2_with fail
      go_ret
      refine ⟨?_, BA.out.trans (B.out.mono BA.out.size)⟩
      have h2 := HM.out
      rw [List.take_of_length_le (by rw [HN.out]; exact Nat.le_refl _)] at h2
      rw [decide_eq_false h2]
      rfl
theorem rput_keys {G : Gr} (ha : AAsc G) (c : Cm) : ((if (aget c.1 G).isSome then G else aput c.1 c.2 G).map (·.1)) = rput (G.map (·.1)) c.1 := by
  refine asc_ext _ _ ?_ (rput_asc _ _ (aasc_asc ha)) (fun a => ?_)
  · split
    · exact aasc_asc ha
    · exact aasc_asc (ha.put _ _)
  · rw [rput_mem]
    by_cases e : (aget c.1 G).isSome = true
    · rw [if_pos e]
      refine ⟨fun h => .inr h, fun h => ?_⟩
      rcases h with h | h
      · rw [h]; exact mem_keys.2 e
      · exact h
    · rw [if_neg e]
      simp only [mem_keys, aget_put]
      by_cases e2 : a = c.1
      · simp [e2]
      · simp [e2]
theorem adds_keys : ∀ {cs : List Cm} {G : Gr}, AAsc G → (adds G cs).map (·.1) = cs.foldl (fun l c => rput l c.1) (G.map (·.1))
  | [], _, _ => rfl
  | c :: cs, G, ha => by
    rw [adds, List.foldl_cons, ← rput_keys ha c]
    refine adds_keys ?_
    split
    · exact ha
    · exact ha.put _ _
end Go.Proofs.YthfkmfepeafgjaaGreatDoor
