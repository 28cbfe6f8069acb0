/- Prefix of a tree of digits. No condition. -/
import Derived.Test.YtbpccbhlggcmfaaDoorRadP
import Derived.Test.YtbpccbhlggcmfaaDoorHexP
import Derived.Test.YtbpccbhlggcmfaaDoorGenAs
namespace Go.Proofs.YtbpccbhlggcmfaaDoor
open Go.RowKit
attribute [local go_sem ↓] hld_open heq_open hne_open

/-- What Prefix answers. -/
def preS (T : Nd) (s : List UInt8) : List UInt8 × Int := if pre s = false then (hz, 1) else match (T.fnd s).fin s with
  | .none => (hz, 11)
  | .leaf _ h _ => (h, 0)
  | .fork _ _ _ => (hz, 14)
theorem pre_digs9 {s : List UInt8} (h : pre s = true) : digs s = true ∧ s.length ≤ 64 := by
  unfold pre at h
  simp only [Bool.and_eq_true, decide_eq_true_eq] at h
  exact ⟨h.2, h.1.2⟩
theorem pre_end {w W : World} {q : List UInt8} (hq : q.length = 32) (hb : Below w.heap.size w W) (hc : W.heap[w.heap.size]? = some (.cells hzer 33 (0, 0))) :
    (loadVar 33 ⟨w.heap.size, 0, none⟩).run Tryd.prog (W.setCells w.heap.size 0 (hv q).toList) = .ok (.agg (hv q)) (W.setCells w.heap.size 0 (hv q).toList) ∧ Below w.heap.size w (W.setCells w.heap.size 0 (hv q).toList) ∧ W.there w.heap.size 0 (hv q).size := by
  have HT := there_row hc
  rw [show hzer.size = (hv q).size from by rw [hv_size, hq]; rfl] at HT
  exact ⟨loaded (P := Tryd.prog) (t := 33) (q := hv q) HT Tryd.underlying33 rfl (hinfo (hv q) (by rw [hv_size, hq])),
    ((Only.of_below (S := fun k => w.heap.size ≤ k) hb).setCells (b := w.heap.size) (Nat.le_refl _) _ 0).below (Nat.le_refl _) (fun _ h => h), HT⟩
set_option maxRecDepth 20000 in
set_option maxHeartbeats 2000000 in
theorem prefix_to (w : World) (tb : Nat) (T : Nd) (ρ : Nat → Nat) (s : ByteArray) (ht : TT w tb T ρ) :
    Calls Tryd.prog 11 #[.pointer (some ⟨tb, 0, none⟩), .string s] w fun e w' => e = .returned (.tuple #[.agg (hv (preS T s.data.toList).1), errOf (preS T s.data.toList).2]) ∧ Below w.heap.size w w' := by
  have HB := Lib.hid ((Below.refl w.heap.size w).alloc (Nat.le_refl _) (.cells hzer 33))
  have HC0 := Lib.hid (heap_alloc_last w (.cells hzer 33))
  have HT1 := Lib.hid (ht.kb HB.out)
  have HP := Lib.hid (fun w => pre_any w s)
  clear ht
  by_cases hp : pre s.data.toList = true
  case' neg =>
    have hp' : pre s.data.toList = false := by simpa using hp
    have hS : preS T s.data.toList = (hz, 1) := if_pos hp'
    rw [hS, hz_hv]
    rw [hp'] at HP
    obtain ⟨E1, E2, E3⟩ := pre_end (w := w) (q := hz) rfl HB.out HC0.out
    rw [hz_hv] at E1 E2 E3
    have HE1 := Lib.hid E1
    have HE2 := Lib.hid E2
    have HE3 := Lib.hid E3
    clear hp hp' hS E1 E2 E3
    go_enter Tryd.func11, Tryd.ntmps11
    go_wp2_with (first
      | (go_at_call 23; refine (HP.out _).mono ?_; rintro e w' ⟨rfl, rfl⟩)
      | (refine build_to (vals := #[]) hbuilt ?hv ?_; (case hv => simp))
      | (refine store_to HE3.out (hinfo hzer hzer_size) hzer_one ?hx ?hy ?_; (case hx => rfl); (case hy => rfl)))
    refine bodyPost_ret (v := .tuple #[.agg hzer, errOf 1]) (w := (w.alloc (.cells hzer 33)).setCells w.heap.size 0 hzer.toList) ?_ rfl ⟨rfl, HE2.out⟩
    have hl := HE1.out
    generalize (w.alloc (.cells hzer 33)).setCells w.heap.size 0 (hzer).toList = W3 at hl ⊢
    simp only [results, Tryd.results11]
    simp [hl, asAddr]
    rfl
  case' pos =>
    obtain ⟨hd, h64⟩ := pre_digs9 hp
    have HF := Lib.hid (fun W (hW : TT W tb T ρ) => find_to W tb T ρ _ s h64 hd hW.ta hW.top)
    have HTA := Lib.hid (fin_ta s.data.toList (fnd_sub s.data.toList HT1.out.ta))
    have hS : preS T s.data.toList = match (T.fnd s.data.toList).fin s.data.toList with
      | .none => (hz, 11)
      | .leaf _ h _ => (h, 0)
      | .fork _ _ _ => (hz, 14) := if_neg (by rw [hp]; decide)
    rw [hp] at HP
    rw [hS]
    clear hp hS hd h64
    generalize (T.fnd s.data.toList).fin s.data.toList = u at *
    cases u with
    | none =>
      simp only [ptr_pad, pad_none] at HF
      show Calls _ _ _ _ fun e w' => e = .returned (.tuple #[.agg (hv hz), errOf 11]) ∧ _
      rw [hz_hv]
      go_enter Tryd.func11, Tryd.ntmps11
      go_wp2_with (first
        | (go_at_call 23; refine (HP.out _).mono ?_; rintro e w' ⟨rfl, rfl⟩)
        | (go_at_call 24; refine (HF.out _ HT1.out).mono ?_; rintro e w2 ⟨rfl, b2⟩; obtain ⟨E1, E2, E3⟩ := pre_end (w := w) (W := w2) (q := hz) rfl (HB.out.trans (b2.mono HB.out.size)) ((b2.block _ (by simp)).trans HC0.out); rw [hz_hv] at E1 E2 E3; have HE1 := Lib.hid E1; have HE2 := Lib.hid E2; have HE3 := Lib.hid E3; clear b2 E1 E2 E3)
        | (refine build_to (vals := #[]) hbuilt ?hv ?_; (case hv => simp))
        | (refine store_to HE3.out (hinfo hzer hzer_size) hzer_one ?hx ?hy ?_; (case hx => rfl); (case hy => rfl)))
      refine bodyPost_ret (v := .tuple #[.agg hzer, errOf 11]) (w := w2.setCells w.heap.size 0 hzer.toList) ?_ rfl ⟨rfl, HE2.out⟩
      have hl := HE1.out
      generalize w2.setCells w.heap.size 0 (hzer).toList = W3 at hl ⊢
      simp only [results, Tryd.results11]
      simp [hl, asAddr]
      rfl
    | leaf b h m =>
      simp only [ptr_pad, pad_leaf] at HF
      show Calls _ _ _ _ fun e w' => e = .returned (.tuple #[.agg (hv h), errOf 0]) ∧ _
      have HH := Lib.hid HTA.out.2
      go_enter Tryd.func11, Tryd.ntmps11
      go_wp2_with (first
        | (go_at_call 23; refine (HP.out _).mono ?_; rintro e w' ⟨rfl, rfl⟩)
        | (refine load_to (cs := us (nmb h)) HR.out Tryd.underlying33 rfl (by rw [← hv_list]; exact hinfo' (hv h) (by rw [hv_size, HH.out])) ?hx ?_; (case hx => rfl); refine store_to HE3.out (hinfo (hv h) (by rw [hv_size, HH.out])) (hv_one h) ?hx ?hy ?_; (case hx => rfl); (case hy => simp [Act.put, Act.eval, hv]))
        | (go_at_call 24; refine (HF.out _ HT1.out).mono ?_; rintro e w2 ⟨rfl, b2⟩; obtain ⟨E1, E2, E3⟩ := pre_end (w := w) (W := w2) (q := h) HH.out (HB.out.trans (b2.mono HB.out.size)) ((b2.block _ (by simp)).trans HC0.out); have HE1 := Lib.hid E1; have HE2 := Lib.hid E2; have HE3 := Lib.hid E3; have c34 := nd_34 HH.out ((HTA.out.kb b2).1); have HR := Lib.hid (nd_h HH.out ((HTA.out.kb b2).1)); simp only [gptr] at c34; clear b2 E1 E2 E3))
      refine bodyPost_ret (v := .tuple #[.agg (hv h), errOf 0]) (w := w2.setCells w.heap.size 0 (hv h).toList) ?_ rfl ⟨rfl, HE2.out⟩
      have hl := HE1.out
      generalize w2.setCells w.heap.size 0 (hv h).toList = W3 at hl ⊢
      simp only [results, Tryd.results11]
      simp [hl, asAddr]
      rfl
    | fork b g ws =>
      simp only [ptr_pad, pad_fork] at HF
      show Calls _ _ _ _ fun e w' => e = .returned (.tuple #[.agg (hv hz), errOf 14]) ∧ _
      rw [hz_hv]
      go_enter Tryd.func11, Tryd.ntmps11
      go_wp2_with (first
        | (go_at_call 23; refine (HP.out _).mono ?_; rintro e w' ⟨rfl, rfl⟩)
        | (go_at_call 24; refine (HF.out _ HT1.out).mono ?_; rintro e w2 ⟨rfl, b2⟩; obtain ⟨E1, E2, E3⟩ := pre_end (w := w) (W := w2) (q := hz) rfl (HB.out.trans (b2.mono HB.out.size)) ((b2.block _ (by simp)).trans HC0.out); rw [hz_hv] at E1 E2 E3; have HE1 := Lib.hid E1; have HE2 := Lib.hid E2; have HE3 := Lib.hid E3; have c34 := nd_34 hz_len ((HTA.out.kb b2).1); simp only [gptr] at c34; clear b2 E1 E2 E3)
        | (refine build_to (vals := #[]) hbuilt ?hv ?_; (case hv => simp))
        | (refine store_to HE3.out (hinfo hzer hzer_size) hzer_one ?hx ?hy ?_; (case hx => rfl); (case hy => rfl)))
      refine bodyPost_ret (v := .tuple #[.agg hzer, errOf 14]) (w := w2.setCells w.heap.size 0 hzer.toList) ?_ rfl ⟨rfl, HE2.out⟩
      have hl := HE1.out
      generalize w2.setCells w.heap.size 0 (hzer).toList = W3 at hl ⊢
      simp only [results, Tryd.results11]
      simp [hl, asAddr]
      rfl
end Go.Proofs.YtbpccbhlggcmfaaDoor
