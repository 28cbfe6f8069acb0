/- holds, find, Get, Count, Prefix of a tree of digits. Condition: a text is no longer than a text may be. -/
import Derived.Test.YtbpccbhlggcmfaaDoorRadN
namespace Go.Proofs.YtbpccbhlggcmfaaDoor
open Go.RowKit
attribute [local go_sem ↓] hld_open heq_open hne_open

/-- A node's hash, loaded: at any time. -/
theorem nd_load {W : World} {b r : Nat} {h : List UInt8} {m : Int} {g : Option Nat} {t : TypeId} (hh : h.length = 32) (hb : W.heap[b]? = some (.cells (nv r h m g) t (0, 0))) : (hld ⟨b, 1, none⟩).run Tryd.prog W = .ok (.agg (hv h)) W := hld_range hh (nd_h hh hb)
set_option maxRecDepth 20000 in
set_option maxHeartbeats 1000000 in
theorem holds_leaf (w : World) (b r : Nat) (x h : List UInt8) (m : Int) (hx : x.length = 32) (hh : h.length = 32) (hb : w.heap[b]? = some (.cells (nv r x m none) 56 (0, 0))) :
    Calls Tryd.prog 27 #[.pointer (some ⟨b, 0, none⟩), .agg (hv h)] w fun e w' => e = .returned (.bool (decide (x = h))) ∧ Below w.heap.size w w' := by
  have BEL := Lib.hid ((Below.refl w.heap.size w).alloc (Nat.le_refl _) (.cells (hv h) 33))
  have hbl := (Array.getElem?_eq_some_iff.1 hb).1
  have HH := Lib.hid (heap_alloc_last w (.cells (hv h) 33))
  have HB := Lib.hid (show (w.alloc (.cells (hv h) 33)).heap[b]? = _ from (Below.heap_alloc w _ _ hbl).trans hb)
  have HX := Lib.hid hx
  have HHH := Lib.hid hh
  have c34 := nd_34 hx HB.out
  have heq := heq_hv (a := x) (b := h) hx hh
  clear hb hx hh
  go_enter Tryd.func27, Tryd.ntmps27
  go_wp2
  generalize w.alloc (.cells (hv h) 33) = w0 at *
  have l1 := nd_load HX.out HB.out
  have l2 := hld_row HHH.out HH.out
  have l3 := fun q => nd_load (W := w0.drewN q) HX.out HB.out
  have l4 := fun q => hld_row (w := w0.drewN q) HHH.out HH.out
  simp only [gptr] at c34
  go_quiet (fail)
  go_wp2_with fail
  go_ret
  exact ⟨rfl, below_drn BEL.out⟩
set_option maxRecDepth 20000 in
set_option maxHeartbeats 1000000 in
theorem holds_fork (w : World) (b r g : Nat) (x h : List UInt8) (m : Int) (hx : x.length = 32) (hb : w.heap[b]? = some (.cells (nv r x m (some g)) 56 (0, 0))) :
    Calls Tryd.prog 27 #[.pointer (some ⟨b, 0, none⟩), .agg (hv h)] w fun e w' => e = .returned (.bool false) ∧ Below w.heap.size w w' := by
  have BEL := Lib.hid ((Below.refl w.heap.size w).alloc (Nat.le_refl _) (.cells (hv h) 33))
  have hbl := (Array.getElem?_eq_some_iff.1 hb).1
  have HB := Lib.hid (show (w.alloc (.cells (hv h) 33)).heap[b]? = _ from (Below.heap_alloc w _ _ hbl).trans hb)
  have c34 := nd_34 hx HB.out
  clear hb hx
  go_enter Tryd.func27, Tryd.ntmps27
  go_wp2
  generalize w.alloc (.cells (hv h) 33) = w0 at *
  simp only [gptr] at c34
  go_quiet (fail)
  go_wp2_with fail
  go_ret
  exact ⟨rfl, below_drn BEL.out⟩

/-- The digits' value as find takes it. -/
theorem udi_way {c : UInt8} (h : 0 ≤ und c) : udi (c.toNat : Int) = (((⟨(und c).toNat % 16, Nat.mod_lt _ (by decide)⟩ : Fin 16).val : Nat) : Int) := by
  have := und_hi c
  rw [udi_und]
  show und c = (((und c).toNat % 16 : Nat) : Int)
  omega
theorem digs_get {s : List UInt8} (h : digs s = true) {k : Nat} (hk : k < s.length) : 0 ≤ und s[k] := by
  unfold digs at h
  rw [List.all_eq_true] at h
  simpa using h _ (List.getElem_mem hk)
set_option maxRecDepth 20000 in
set_option maxHeartbeats 2000000 in
theorem find_to (w : World) (tb : Nat) (T : Nd) (ρ : Nat → Nat) (ct : Int) (s : ByteArray) (hsl : s.size ≤ 64) (hd : digs s.data.toList = true) (ht : TA w ρ T) (htb : w.heap[tb]? = some (.cells #[ptr T, .int .i64 ct] 43 (0, 0))) :
    Calls Tryd.prog 24 #[.pointer (some ⟨tb, 0, none⟩), .string s] w fun e w' => e = .returned (ptr ((T.fnd s.data.toList).fin s.data.toList)) ∧ Below w.heap.size w w' := by
  have c0 : w.cell? ⟨tb, 0, none⟩ = some (.pointer (pad T)) := by rw [cell_of_row w tb 0 _ _ _ htb]; rfl
  have HT := Lib.hid ht
  have HD := Lib.hid hd
  clear ht hd htb
  generalize hF : (T.fnd s.data.toList).fin s.data.toList = F
  have HF := Lib.hid hF
  clear hF
  go_enter Tryd.func24, Tryd.ntmps24
  go_wp2
  go_loopw [5, 6] (fun v i wr => ∃ (k : Nat) (u : Nd), k ≤ s.size ∧ i = .int .i64 k ∧ v = .pointer (pad u) ∧ Hid (Below w.heap.size w wr) ∧ Hid (TA wr ρ u) ∧ Hid (u.fnd (s.data.toList.drop k) = T.fnd s.data.toList)) (fun _ i _ => s.size - (intOf i).toNat)
  case atStart => exact ⟨0, T, by omega, rfl, rfl, Lib.hid (Below.refl _ _), HT, Lib.hid rfl⟩
  case round =>
    obtain ⟨k, u, hk, rfl, rfl, BW, HU, HE⟩ := hrel
    have hsz : s.data.toList.length = s.size := rfl
    by_cases hlt : k < s.size
    · have hlt' : k < s.data.toList.length := hlt
      cases u with
      | none =>
        have hF : F = .none := by rw [← HF.out, ← HE.out, fnd_none]; rfl
        have hdc : decide ((k : Int) < s.size) = true := decide_eq_true (by omega)
        subst hF
        simp only [pad_none]
        go_wp2_with fail
        go_ret
        exact ⟨rfl, BW.out⟩
      | leaf b h m =>
        have h32 := HU.out.2
        have c34 := nd_34 h32 HU.out.1
        have l1 := nd_load h32 HU.out.1
        have HB := Lib.hid (begins_to wr h s.data.toList h32)
        rw [pre_iff] at HB
        have hdc : decide ((k : Int) < s.size) = true := decide_eq_true (by omega)
        have hFl : F = Nd.fin s.data.toList (.leaf b h m) := by rw [← HF.out, ← HE.out, fnd_leaf]
        simp only [gptr] at c34
        by_cases hp : s.data.toList <+: tx h
        · rw [decide_eq_true hp] at HB
          have hFl' : F = .leaf b h m := by rw [hFl]; exact if_pos hp
          subst hFl'
          simp only [pad_leaf]
          clear hp hFl
          go_wp2_with (go_at_call 35; refine HB.out.mono ?_; rintro e w1 ⟨rfl, b1⟩; have B1 := Lib.hid b1; clear b1)
          go_ret
          exact ⟨rfl, BW.out.trans (B1.out.mono BW.out.size)⟩
        · rw [decide_eq_false hp] at HB
          have hFl' : F = .none := by rw [hFl]; exact if_neg hp
          subst hFl'
          simp only [pad_leaf]
          clear hp hFl
          go_wp2_with (go_at_call 35; refine HB.out.mono ?_; rintro e w1 ⟨rfl, b1⟩; have B1 := Lib.hid b1; clear b1)
          go_ret
          exact ⟨rfl, BW.out.trans (B1.out.mono BW.out.size)⟩
      | fork b g ws =>
        have c34 := nd_34 hz_len HU.out.1
        have hdk := digs_get HD.out hlt'
        have hw := udi_way hdk
        have hdrop : s.data.toList.drop k = s.data.toList[k] :: s.data.toList.drop (k + 1) := List.drop_eq_getElem_cons hlt'
        have hE := HE.out
        rw [hdrop, fnd_fork] at hE
        have hr := s[k].toNat_lt
        generalize hi : (⟨(und s.data.toList[k]).toNat % 16, Nat.mod_lt _ (by decide)⟩ : Fin 16) = i at hw hE
        have HE2 := Lib.hid hE
        have hwx : udi (s[k].toNat : Int) = (i.val : Nat) := hw
        have hway := way_at HU.out.2.1 i
        rw [ptr_pad] at hway
        have hi16 := i.isLt
        have HUi := Lib.hid (HU.out.2.2 i)
        have hdc : decide ((k : Int) < s.size) = true := decide_eq_true (by omega)
        simp only [gptr] at c34
        simp only [pad_fork]
        clear hE hw hdrop hdk hi
        go_wp2_with fail
        go_quiet ((go_at_call 34; exact Calls.quiet_of_same ((undig_any _ _ (by omega) (by omega)).mono fun _ _ h => ⟨h.1, h.2.symm⟩)))
        go_wp2_with fail
        go_round
        case rel => exact ⟨k + 1, ws i, by omega, by go_num, rfl, Lib.hid (below_drn BW.out), Lib.hid (HUi.out.agree (fun _ _ => rfl) (fun _ _ => rfl)), HE2⟩
        case measure => simp [intOf]; omega
    · have hdc : decide ((k : Int) < s.size) = false := decide_eq_false (by omega)
      obtain rfl : k = s.size := by omega
      have hE := HE.out
      rw [List.drop_of_length_le (by rw [hsz]; exact Nat.le_refl _), fnd_nil] at hE
      have hFu : F = Nd.fin s.data.toList u := by rw [← HF.out, ← hE]
      clear hE
      cases u with
      | none =>
        have hF : F = .none := hFu
        subst hF
        simp only [pad_none]
        go_wp2_with fail
        go_ret
        exact ⟨rfl, BW.out⟩
      | leaf b h m =>
        have h32 := HU.out.2
        have c34 := nd_34 h32 HU.out.1
        have l1 := nd_load h32 HU.out.1
        have HB := Lib.hid (begins_to wr h s.data.toList h32)
        rw [pre_iff] at HB
        simp only [gptr] at c34
        by_cases hp : s.data.toList <+: tx h
        · rw [decide_eq_true hp] at HB
          have hFl' : F = .leaf b h m := by rw [hFu]; exact if_pos hp
          subst hFl'
          simp only [pad_leaf]
          clear hp hFu
          go_wp2_with (go_at_call 35; refine HB.out.mono ?_; rintro e w1 ⟨rfl, b1⟩; have B1 := Lib.hid b1; clear b1)
          go_ret
          exact ⟨rfl, BW.out.trans (B1.out.mono BW.out.size)⟩
        · rw [decide_eq_false hp] at HB
          have hFl' : F = .none := by rw [hFu]; exact if_neg hp
          subst hFl'
          simp only [pad_leaf]
          clear hp hFu
          go_wp2_with (go_at_call 35; refine HB.out.mono ?_; rintro e w1 ⟨rfl, b1⟩; have B1 := Lib.hid b1; clear b1)
          go_ret
          exact ⟨rfl, BW.out.trans (B1.out.mono BW.out.size)⟩
      | fork b g ws =>
        have c34 := nd_34 hz_len HU.out.1
        have hF : F = .fork b g ws := hFu
        subst hF
        simp only [gptr] at c34
        simp only [pad_fork]
        clear hFu
        go_wp2_with fail
        go_ret
        exact ⟨rfl, BW.out⟩
end Go.Proofs.YtbpccbhlggcmfaaDoor
