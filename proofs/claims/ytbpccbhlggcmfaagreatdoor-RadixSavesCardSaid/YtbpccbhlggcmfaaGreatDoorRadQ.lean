/- A tree's nodes in memory; digit, holds. No condition. · holds, find, Get, Count, Prefix of a tree of digits. Condition: a text is no longer than a text may be. · Get, Count, Prefix of a tree of digits. Condition: a text is no longer than 64 letters, or it is none of digits. · Prefix of a tree of digits. No condition. -/
import Derived.Test.YtbpccbhlggcmfaaGreatDoorRadS
import Derived.Test.YtbpccbhlggcmfaaGreatDoorHexE
import Derived.Test.YtbpccbhlggcmfaaGreatDoorHexR
import Derived.Test.YtbpccbhlggcmfaaGreatDoorHexP
import Derived.Test.YtbpccbhlggcmfaaGreatDoorGenAs
namespace Go.Proofs.YtbpccbhlggcmfaaGreatDoor
open Go.RowKit

def pad : Nd → Option Addr
  | .none => none
  | .leaf b _ _ => some ⟨b, 0, none⟩
  | .fork b _ _ => some ⟨b, 0, none⟩
def ptr (u : Nd) : Value := .pointer (pad u)
theorem pad_none : pad .none = none := rfl
theorem pad_leaf (b : Nat) (h : List UInt8) (m : Int) : pad (.leaf b h m) = some ⟨b, 0, none⟩ := rfl
theorem pad_fork (b g : Nat) (ws : Fin 16 → Nd) : pad (.fork b g ws) = some ⟨b, 0, none⟩ := rfl
theorem ptr_pad (u : Nd) : ptr u = .pointer (pad u) := rfl
def gptr : Option Nat → Value
  | none => .pointer none
  | some g => .pointer (some ⟨g, 0, none⟩)
/-- A node's cells. -/
def nl (r : Nat) (h : List UInt8) (m : Int) (g : Option Nat) : List Value := [.int .i64 r] ++ us (nmb h) ++ [.int .i64 m, gptr g]
def nv (r : Nat) (h : List UInt8) (m : Int) (g : Option Nat) : Array Value := (nl r h m g).toArray
def pl (ws : Fin 16 → Nd) : List Value := fins.map fun i => ptr (ws i)
def pvs (ws : Fin 16 → Nd) : Array Value := (pl ws).toArray
/-- The tree lies in memory so, with these records. -/
def TA (W : World) (ρ : Nat → Nat) : Nd → Prop
  | .none => True
  | .leaf b h m => W.heap[b]? = some (.cells (nv (ρ b) h m none) 91 (0, 0)) ∧ h.length = 32
  | .fork b g ws => W.heap[b]? = some (.cells (nv (ρ b) hz 0 (some g)) 91 (0, 0)) ∧ W.heap[g]? = some (.cells (pvs ws) 168 (0, 0)) ∧ ∀ i, TA W ρ (ws i)
theorem TA.agree {W W' : World} {ρ σ : Nat → Nat} : ∀ {t : Nd}, TA W ρ t → (∀ k, t.Bl k → W'.heap[k]? = W.heap[k]?) → (∀ k, t.Bl k → σ k = ρ k) → TA W' σ t
  | .none, _, _, _ => trivial
  | .leaf b h m, ht, hw, hr => ⟨by rw [hw b rfl, hr b rfl]; exact ht.1, ht.2⟩
  | .fork b g ws, ht, hw, hr => ⟨by rw [hw b (.inl rfl), hr b (.inl rfl)]; exact ht.1, by rw [hw g (.inr (.inl rfl))]; exact ht.2.1, fun i => (ht.2.2 i).agree (fun k hk => hw k (.inr (.inr ⟨i, hk⟩))) (fun k hk => hr k (.inr (.inr ⟨i, hk⟩)))⟩
theorem TA.lt {W : World} {ρ : Nat → Nat} : ∀ {t : Nd}, TA W ρ t → ∀ k, t.Bl k → k < W.heap.size
  | .none, _, _, hk => hk.elim
  | .leaf b h m, ht, k, hk => by
    obtain rfl : k = b := hk
    exact (Array.getElem?_eq_some_iff.1 ht.1).1
  | .fork b g ws, ht, k, hk => by
    rcases hk with rfl | rfl | ⟨i, hk⟩
    · exact (Array.getElem?_eq_some_iff.1 ht.1).1
    · exact (Array.getElem?_eq_some_iff.1 ht.2.1).1
    · exact (ht.2.2 i).lt k hk
theorem TA.kb {W W' : World} {ρ : Nat → Nat} {t : Nd} (h : TA W ρ t) (hb : Below W.heap.size W W') : TA W' ρ t := h.agree (fun k hk => hb.block k (h.lt k hk)) (fun _ _ => rfl)
theorem TA.kept {W W' : World} {ρ : Nat → Nat} {t : Nd} {S : Nat → Prop} (h : TA W ρ t) (ho : Only S W W') (hS : ∀ k, t.Bl k → ¬ S k) : TA W' ρ t := h.agree (fun k hk => ho.block k (h.lt k hk) (hS k hk)) (fun _ _ => rfl)
theorem nl_length {r : Nat} {h : List UInt8} {m : Int} {g : Option Nat} (hh : h.length = 32) : (nl r h m g).length = 35 := by simp [nl, us, nm_length, hh]
theorem nl_0 (r : Nat) (h : List UInt8) (m : Int) (g : Option Nat) : (nl r h m g)[0]? = some (.int .i64 r) := rfl
theorem nl_h {r : Nat} {h : List UInt8} {m : Int} {g : Option Nat} (hh : h.length = 32) {j : Nat} (hj : j < 32) : (nl r h m g)[1 + j]? = (us (nmb h))[j]? := by
  unfold nl
  have hl : (us (nmb h)).length = 32 := by simp [us, nm_length, hh]
  rw [List.append_assoc, List.getElem?_append_right (by simp), List.getElem?_append_left (by simp [hl]; omega)]
  congr 1
  simp
theorem nl_33 {r : Nat} {h : List UInt8} {m : Int} {g : Option Nat} (hh : h.length = 32) : (nl r h m g)[33]? = some (.int .i64 m) := by
  unfold nl
  have hl : (us (nmb h)).length = 32 := by simp [us, nm_length, hh]
  rw [List.getElem?_append_right (by simp [hl])]
  simp [hl]
theorem nl_34 {r : Nat} {h : List UInt8} {m : Int} {g : Option Nat} (hh : h.length = 32) : (nl r h m g)[34]? = some (gptr g) := by
  unfold nl
  have hl : (us (nmb h)).length = 32 := by simp [us, nm_length, hh]
  rw [List.getElem?_append_right (by simp [hl])]
  simp [hl]
section
variable {W : World} {b r : Nat} {h : List UInt8} {m : Int} {g : Option Nat} {t : TypeId}
theorem nd_0 (hb : W.heap[b]? = some (.cells (nv r h m g) t (0, 0))) : W.cell? ⟨b, 0, none⟩ = some (.int .i64 r) := by
  rw [cell_of_row W b 0 _ _ _ hb, nv, List.getElem?_toArray, nl_0]
theorem nd_h (hh : h.length = 32) (hb : W.heap[b]? = some (.cells (nv r h m g) t (0, 0))) : W.rangeAt b 1 (us (nmb h)) := fun j v hj => by
  have hl : j < 32 := by
    have := (List.getElem?_eq_some_iff.1 hj).1
    simpa [us, nm_length, hh] using this
  rw [cell_of_row W b (1 + j) _ _ _ hb, nv, List.getElem?_toArray, nl_h hh hl]
  exact hj
theorem nd_33 (hh : h.length = 32) (hb : W.heap[b]? = some (.cells (nv r h m g) t (0, 0))) : W.cell? ⟨b, 33, none⟩ = some (.int .i64 m) := by
  rw [cell_of_row W b 33 _ _ _ hb, nv, List.getElem?_toArray, nl_33 hh]
theorem nd_34 (hh : h.length = 32) (hb : W.heap[b]? = some (.cells (nv r h m g) t (0, 0))) : W.cell? ⟨b, 34, none⟩ = some (gptr g) := by
  rw [cell_of_row W b 34 _ _ _ hb, nv, List.getElem?_toArray, nl_34 hh]
end
theorem pl_at (ws : Fin 16 → Nd) (i : Fin 16) : (pl ws)[i.val]? = some (ptr (ws i)) := by
  unfold pl fins
  rw [List.getElem?_map]
  simp
theorem pl_length (ws : Fin 16 → Nd) : (pl ws).length = 16 := by simp [pl, fins]
theorem way_at {W : World} {g : Nat} {ws : Fin 16 → Nd} {t : TypeId} (hg : W.heap[g]? = some (.cells (pvs ws) t (0, 0))) (i : Fin 16) : W.cell? ⟨g, i.val, none⟩ = some (ptr (ws i)) := by
  rw [cell_of_row W g i.val _ _ _ hg, pvs, List.getElem?_toArray, pl_at]
theorem below_drn0 {n m : Nat} {w w' : World} (h : Below n (w.drewN m) w') : Below n w w' := ⟨h.os, h.tape, h.output, h.size, h.block⟩
theorem hz_len : hz.length = 32 := rfl

theorem tx_even : ∀ (l : List UInt8) (j : Nat) (hj : j < l.length), (tx l)[2 * j]? = some (dg (l[j].toNat / 16)) ∧ (tx l)[2 * j + 1]? = some (dg (l[j].toNat % 16))
  | _ :: _, 0, _ => ⟨rfl, rfl⟩
  | b :: l, j + 1, hj => by
    have := tx_even l j (by simpa using hj)
    rw [show 2 * (j + 1) = 2 * j + 1 + 1 from by omega]
    simpa [tx] using this
theorem dig_even {h : List UInt8} {j : Nat} (hh : h.length = 32) (hj : j < h.length) : (dig h (2 * j)).val = h[j].toNat / 16 := by
  have h1 := (tx_even h j hj).1
  have h2 := dig_at (k := 2 * j) hh (by omega)
  rw [h1] at h2
  have h3 := congrArg und (Option.some.inj h2)
  rw [dg_und _ (hi16 _).1, dg_und _ (dig h (2 * j)).2] at h3
  omega
theorem dig_odd {h : List UInt8} {j : Nat} (hh : h.length = 32) (hj : j < h.length) : (dig h (2 * j + 1)).val = h[j].toNat % 16 := by
  have h1 := (tx_even h j hj).2
  have h2 := dig_at (k := 2 * j + 1) hh (by omega)
  rw [h1] at h2
  have h3 := congrArg und (Option.some.inj h2)
  rw [dg_und _ (hi16 _).2, dg_und _ (dig h (2 * j + 1)).2] at h3
  omega
set_option maxRecDepth 20000 in
set_option maxHeartbeats 1000000 in
theorem digit_to (w : World) (h : List UInt8) (k : Nat) (hh : h.length = 32) (hk : k < 64) : Calls Tryz.prog 68 #[.agg (hv h), .int .i64 k] w fun e w' => e = .returned (.int .i64 (dig h k).val) ∧ Below w.heap.size w w' := by
  have BEL := Lib.hid ((Below.refl w.heap.size w).alloc (Nat.le_refl _) (.cells (hv h) 36))
  have hrow := heap_alloc_last w (.cells (hv h) 36)
  have hj : k / 2 < h.length := by omega
  obtain ⟨X, hX⟩ : ∃ X, X = (h[k / 2].toNat : Int) := ⟨_, rfl⟩
  have hc : (w.alloc (.cells (hv h) 36)).cell? ⟨w.heap.size, k / 2, none⟩ = some (.int .u8 X) := by
    rw [hX, cell_of_row _ w.heap.size (k / 2) (hv h) _ (0, 0) hrow]
    exact hv_get hj
  have hxr := u8_range h[k / 2]
  rw [← hX] at hxr
  obtain ⟨x0, x1⟩ := hxr
  have q1 : ((k : Nat) : Int).tdiv 2 = ((k / 2 : Nat) : Int) := by rw [Int.tdiv_eq_ediv_of_nonneg (by omega)]; omega
  have q2 : ((k : Nat) : Int).tmod 2 = ((k % 2 : Nat) : Int) := by rw [Int.tmod_eq_emod_of_nonneg (by omega)]; omega
  have q4 : (((k / 2 : Nat) : Int)).toNat = k / 2 := by omega
  have q5 : ((k / 2 : Nat) : Int) < 32 := by omega
  have q6 : (0 : Int) ≤ ((k / 2 : Nat) : Int) := by omega
  rcases (show k % 2 = 0 ∨ k % 2 = 1 from by omega) with e | e
  · have hd : ((dig h k).val : Int) = X / 16 := by
      have := dig_even hh hj
      rw [show 2 * (k / 2) = k from by omega] at this
      rw [this, hX]; omega
    rw [e] at q2
    have q3 : X.shiftRight 4 = X / 16 := Int.shiftRight_eq_div_pow X 4
    rw [hd]
    clear hX hd hrow
    generalize ((k : Nat) : Int) = y at *
    generalize k / 2 = j at *
    go_enter Tryz.func68, Tryz.ntmps68
    go_wp2_with fail
    go_ret
    exact ⟨ret_i64 (by omega), BEL.out⟩
  · have hd : ((dig h k).val : Int) = X % 16 := by
      have := dig_odd hh hj
      rw [show 2 * (k / 2) + 1 = k from by omega] at this
      rw [this, hX]; omega
    rw [e] at q2
    rw [hd]
    clear hX hd hrow
    generalize ((k : Nat) : Int) = y at *
    generalize k / 2 = j at *
    go_enter Tryz.func68, Tryz.ntmps68
    go_wp2_with fail
    go_ret
    exact ⟨ret_i64 (by omega), BEL.out⟩
end Go.Proofs.YtbpccbhlggcmfaaGreatDoor
namespace Go.Proofs.YtbpccbhlggcmfaaGreatDoor
open Go.RowKit
attribute [local go_sem ↓] hld_open heq_open hne_open

/-- A node's hash, loaded: at any time. -/
theorem nd_load {W : World} {b r : Nat} {h : List UInt8} {m : Int} {g : Option Nat} {t : TypeId} (hh : h.length = 32) (hb : W.heap[b]? = some (.cells (nv r h m g) t (0, 0))) : (hld ⟨b, 1, none⟩).run Tryz.prog W = .ok (.agg (hv h)) W := hld_range hh (nd_h hh hb)
set_option maxRecDepth 20000 in
set_option maxHeartbeats 1000000 in
theorem holds_leaf (w : World) (b r : Nat) (x h : List UInt8) (m : Int) (hx : x.length = 32) (hh : h.length = 32) (hb : w.heap[b]? = some (.cells (nv r x m none) 91 (0, 0))) :
    Calls Tryz.prog 66 #[.pointer (some ⟨b, 0, none⟩), .agg (hv h)] w fun e w' => e = .returned (.bool (decide (x = h))) ∧ Below w.heap.size w w' := by
  have BEL := Lib.hid ((Below.refl w.heap.size w).alloc (Nat.le_refl _) (.cells (hv h) 36))
  have hbl := (Array.getElem?_eq_some_iff.1 hb).1
  have HH := Lib.hid (heap_alloc_last w (.cells (hv h) 36))
  have HB := Lib.hid (show (w.alloc (.cells (hv h) 36)).heap[b]? = _ from (Below.heap_alloc w _ _ hbl).trans hb)
  have HX := Lib.hid hx
  have HHH := Lib.hid hh
  have c34 := nd_34 hx HB.out
  have heq := heq_hv (a := x) (b := h) hx hh
  clear hb hx hh
  go_enter Tryz.func66, Tryz.ntmps66
  go_wp2
  generalize w.alloc (.cells (hv h) 36) = w0 at *
  have l1 := nd_load HX.out HB.out
  have l2 := hld_row HHH.out HH.out
  have l3 := fun q => nd_load (W := w0.drewN q) HX.out HB.out
  have l4 := fun q => hld_row (w := w0.drewN q) HHH.out HH.out
  simp only [gptr] at c34
  go_quiet (fail)
  go_wp2_with fail
  go_ret
  exact ⟨rfl, below_drn BEL.out⟩
set_option maxRecDepth 20000 in
set_option maxHeartbeats 1000000 in
theorem holds_fork (w : World) (b r g : Nat) (x h : List UInt8) (m : Int) (hx : x.length = 32) (hb : w.heap[b]? = some (.cells (nv r x m (some g)) 91 (0, 0))) :
    Calls Tryz.prog 66 #[.pointer (some ⟨b, 0, none⟩), .agg (hv h)] w fun e w' => e = .returned (.bool false) ∧ Below w.heap.size w w' := by
  have BEL := Lib.hid ((Below.refl w.heap.size w).alloc (Nat.le_refl _) (.cells (hv h) 36))
  have hbl := (Array.getElem?_eq_some_iff.1 hb).1
  have HB := Lib.hid (show (w.alloc (.cells (hv h) 36)).heap[b]? = _ from (Below.heap_alloc w _ _ hbl).trans hb)
  have c34 := nd_34 hx HB.out
  clear hb hx
  go_enter Tryz.func66, Tryz.ntmps66
  go_wp2
  generalize w.alloc (.cells (hv h) 36) = w0 at *
  simp only [gptr] at c34
  go_quiet (fail)
  go_wp2_with fail
  go_ret
  exact ⟨rfl, below_drn BEL.out⟩

/-- The digits' value as find takes it. -/
theorem udi_way {c : UInt8} (h : 0 ≤ und c) : udi (c.toNat : Int) = (((⟨(und c).toNat % 16, Nat.mod_lt _ (by decide)⟩ : Fin 16).val : Nat) : Int) := by
  have := und_hi c
  rw [udi_und]
  show und c = (((und c).toNat % 16 : Nat) : Int)
  omega
theorem digs_get {s : List UInt8} (h : digs s = true) {k : Nat} (hk : k < s.length) : 0 ≤ und s[k] := by
  unfold digs at h
  rw [List.all_eq_true] at h
  simpa using h _ (List.getElem_mem hk)
set_option maxRecDepth 20000 in
set_option maxHeartbeats 2000000 in
theorem find_to (w : World) (tb : Nat) (T : Nd) (ρ : Nat → Nat) (ct : Int) (s : ByteArray) (hsl : s.size ≤ 64) (hd : digs s.data.toList = true) (ht : TA w ρ T) (htb : w.heap[tb]? = some (.cells #[ptr T, .int .i64 ct] 66 (0, 0))) :
    Calls Tryz.prog 36 #[.pointer (some ⟨tb, 0, none⟩), .string s] w fun e w' => e = .returned (ptr ((T.fnd s.data.toList).fin s.data.toList)) ∧ Below w.heap.size w w' := by
  have c0 : w.cell? ⟨tb, 0, none⟩ = some (.pointer (pad T)) := by rw [cell_of_row w tb 0 _ _ _ htb]; rfl
  have HT := Lib.hid ht
  have HD := Lib.hid hd
  clear ht hd htb
  generalize hF : (T.fnd s.data.toList).fin s.data.toList = F
  have HF := Lib.hid hF
  clear hF
  go_enter Tryz.func36, Tryz.ntmps36
  go_wp2
  go_loopw [5, 6] (fun v i wr => ∃ (k : Nat) (u : Nd), k ≤ s.size ∧ i = .int .i64 k ∧ v = .pointer (pad u) ∧ Hid (Below w.heap.size w wr) ∧ Hid (TA wr ρ u) ∧ Hid (u.fnd (s.data.toList.drop k) = T.fnd s.data.toList)) (fun _ i _ => s.size - (intOf i).toNat)
  case atStart => exact ⟨0, T, by omega, rfl, rfl, Lib.hid (Below.refl _ _), HT, Lib.hid rfl⟩
  case round =>
    obtain ⟨k, u, hk, rfl, rfl, BW, HU, HE⟩ := hrel
    have hsz : s.data.toList.length = s.size := rfl
    by_cases hlt : k < s.size
    · have hlt' : k < s.data.toList.length := hlt
      cases u with
      | none =>
        have hF : F = .none := by rw [← HF.out, ← HE.out, fnd_none]; rfl
        have hdc : decide ((k : Int) < s.size) = true := decide_eq_true (by omega)
        subst hF
        simp only [pad_none]
        go_wp2_with fail
        go_ret
        exact ⟨rfl, BW.out⟩
      | leaf b h m =>
        have h32 := HU.out.2
        have c34 := nd_34 h32 HU.out.1
        have l1 := nd_load h32 HU.out.1
        have HB := Lib.hid (begins_to wr h s.data.toList h32)
        rw [pre_iff] at HB
        have hdc : decide ((k : Int) < s.size) = true := decide_eq_true (by omega)
        have hFl : F = Nd.fin s.data.toList (.leaf b h m) := by rw [← HF.out, ← HE.out, fnd_leaf]
        simp only [gptr] at c34
        by_cases hp : s.data.toList <+: tx h
        · rw [decide_eq_true hp] at HB
          have hFl' : F = .leaf b h m := by rw [hFl]; exact if_pos hp
          subst hFl'
          simp only [pad_leaf]
          clear hp hFl
          go_wp2_with (go_at_call 70; refine HB.out.mono ?_; rintro e w1 ⟨rfl, b1⟩; have B1 := Lib.hid b1; clear b1)
          go_ret
          exact ⟨rfl, BW.out.trans (B1.out.mono BW.out.size)⟩
        · rw [decide_eq_false hp] at HB
          have hFl' : F = .none := by rw [hFl]; exact if_neg hp
          subst hFl'
          simp only [pad_leaf]
          clear hp hFl
          go_wp2_with (go_at_call 70; refine HB.out.mono ?_; rintro e w1 ⟨rfl, b1⟩; have B1 := Lib.hid b1; clear b1)
          go_ret
          exact ⟨rfl, BW.out.trans (B1.out.mono BW.out.size)⟩
      | fork b g ws =>
        have c34 := nd_34 hz_len HU.out.1
        have hdk := digs_get HD.out hlt'
        have hw := udi_way hdk
        have hdrop : s.data.toList.drop k = s.data.toList[k] :: s.data.toList.drop (k + 1) := List.drop_eq_getElem_cons hlt'
        have hE := HE.out
        rw [hdrop, fnd_fork] at hE
        have hr := s[k].toNat_lt
        generalize hi : (⟨(und s.data.toList[k]).toNat % 16, Nat.mod_lt _ (by decide)⟩ : Fin 16) = i at hw hE
        have HE2 := Lib.hid hE
        have hwx : udi (s[k].toNat : Int) = (i.val : Nat) := hw
        have hway := way_at HU.out.2.1 i
        rw [ptr_pad] at hway
        have hi16 := i.isLt
        have HUi := Lib.hid (HU.out.2.2 i)
        have hdc : decide ((k : Int) < s.size) = true := decide_eq_true (by omega)
        simp only [gptr] at c34
        simp only [pad_fork]
        clear hE hw hdrop hdk hi
        go_wp2_with fail
        go_quiet ((go_at_call 69; exact Calls.quiet_of_same ((undig_any _ _ (by omega) (by omega)).mono fun _ _ h => ⟨h.1, h.2.symm⟩)))
        go_wp2_with fail
        go_round
        case rel => exact ⟨k + 1, ws i, by omega, by go_num, rfl, Lib.hid (below_drn BW.out), Lib.hid (HUi.out.agree (fun _ _ => rfl) (fun _ _ => rfl)), HE2⟩
        case measure => simp [intOf]; omega
    · have hdc : decide ((k : Int) < s.size) = false := decide_eq_false (by omega)
      obtain rfl : k = s.size := by omega
      have hE := HE.out
      rw [List.drop_of_length_le (by rw [hsz]; exact Nat.le_refl _), fnd_nil] at hE
      have hFu : F = Nd.fin s.data.toList u := by rw [← HF.out, ← hE]
      clear hE
      cases u with
      | none =>
        have hF : F = .none := hFu
        subst hF
        simp only [pad_none]
        go_wp2_with fail
        go_ret
        exact ⟨rfl, BW.out⟩
      | leaf b h m =>
        have h32 := HU.out.2
        have c34 := nd_34 h32 HU.out.1
        have l1 := nd_load h32 HU.out.1
        have HB := Lib.hid (begins_to wr h s.data.toList h32)
        rw [pre_iff] at HB
        simp only [gptr] at c34
        by_cases hp : s.data.toList <+: tx h
        · rw [decide_eq_true hp] at HB
          have hFl' : F = .leaf b h m := by rw [hFu]; exact if_pos hp
          subst hFl'
          simp only [pad_leaf]
          clear hp hFu
          go_wp2_with (go_at_call 70; refine HB.out.mono ?_; rintro e w1 ⟨rfl, b1⟩; have B1 := Lib.hid b1; clear b1)
          go_ret
          exact ⟨rfl, BW.out.trans (B1.out.mono BW.out.size)⟩
        · rw [decide_eq_false hp] at HB
          have hFl' : F = .none := by rw [hFu]; exact if_neg hp
          subst hFl'
          simp only [pad_leaf]
          clear hp hFu
          go_wp2_with (go_at_call 70; refine HB.out.mono ?_; rintro e w1 ⟨rfl, b1⟩; have B1 := Lib.hid b1; clear b1)
          go_ret
          exact ⟨rfl, BW.out.trans (B1.out.mono BW.out.size)⟩
      | fork b g ws =>
        have c34 := nd_34 hz_len HU.out.1
        have hF : F = .fork b g ws := hFu
        subst hF
        simp only [gptr] at c34
        simp only [pad_fork]
        clear hFu
        go_wp2_with fail
        go_ret
        exact ⟨rfl, BW.out⟩
end Go.Proofs.YtbpccbhlggcmfaaGreatDoor
namespace Go.Proofs.YtbpccbhlggcmfaaGreatDoor
open Go.RowKit
attribute [local go_sem ↓] hld_open heq_open hne_open

/-- A tree of the caller's: its block, and what it holds. -/
structure TT (w : World) (tb : Nat) (T : Nd) (ρ : Nat → Nat) : Prop where
  top : w.heap[tb]? = some (.cells #[ptr T, .int .i64 T.ents.length] 66 (0, 0))
  ta : TA w ρ T
  wf : T.Wf []
  sep : T.Sep
  ne : ¬ T.Bl tb
section
variable {w w' : World} {tb : Nat} {T : Nd} {ρ : Nat → Nat}
theorem TT.lt (h : TT w tb T ρ) : tb < w.heap.size := (Array.getElem?_eq_some_iff.1 h.top).1
theorem TT.kb (h : TT w tb T ρ) (hb : Below w.heap.size w w') : TT w' tb T ρ := ⟨(hb.block tb h.lt).trans h.top, h.ta.kb hb, h.wf, h.sep, h.ne⟩
theorem TT.kept {S : Nat → Prop} (h : TT w tb T ρ) (ho : Only S w w') (hS : ∀ k, (k = tb ∨ T.Bl k) → ¬ S k) : TT w' tb T ρ := ⟨(ho.block tb h.lt (hS tb (.inl rfl))).trans h.top, h.ta.kept ho (fun k hk => hS k (.inr hk)), h.wf, h.sep, h.ne⟩
end
/-- Get's number. -/
def gnum (o : Option Int) : Int := o.getD 0
theorem fnd_lk : ∀ (n : Nat) {t : Nd} {p h : List UInt8}, t.Wf p → h.length = 32 → p <+: tx h → p.length + n = 64 → ((t.fnd ((tx h).drop p.length)).fin (tx h) = .none ∧ t.lk p.length h = none) ∨ ∃ b m, (t.fnd ((tx h).drop p.length)).fin (tx h) = .leaf b h m ∧ t.lk p.length h = some m
  | n, .none, p, h, _, _, _, _ => .inl ⟨by rw [fnd_none]; rfl, rfl⟩
  | n, .leaf b x m, p, h, hw, hh, hp, hn => by
    rw [fnd_leaf]
    show ((if tx h <+: tx x then Nd.leaf b x m else .none) = .none ∧ (if x = h then some m else none) = none) ∨ ∃ b' m', (if tx h <+: tx x then Nd.leaf b x m else .none) = .leaf b' h m' ∧ (if x = h then some m else none) = some m'
    by_cases e : x = h
    · subst e
      rw [if_pos (List.prefix_refl _), if_pos rfl]
      exact .inr ⟨b, m, rfl, rfl⟩
    · have : ¬ tx h <+: tx x := fun h1 => e (tx_inj (h1.eq_of_length (by rw [tx_length, tx_length, hh, hw.1]))).symm
      rw [if_neg this, if_neg e]
      exact .inl ⟨rfl, rfl⟩
  | 0, .fork b g ws, p, h, hw, _, _, hn => by have := hw.1; omega
  | n + 1, .fork b g ws, p, h, hw, hh, hp, hn => by
    have hlt := hw.1
    have hl : p.length < (tx h).length := by rw [tx_length, hh]; omega
    have h1 := dig_at (k := p.length) hh hlt
    rw [List.getElem?_eq_getElem hl] at h1
    have h2 := Option.some.inj h1
    rw [List.drop_eq_getElem_cons hl, fnd_fork, h2, dg_und _ (dig h p.length).2]
    have e : (⟨(((dig h p.length).val : Nat) : Int).toNat % 16, Nat.mod_lt _ (by decide)⟩ : Fin 16) = dig h p.length := by
      apply Fin.ext
      show (((dig h p.length).val : Nat) : Int).toNat % 16 = (dig h p.length).val
      have := (dig h p.length).2
      omega
    have h3 := fnd_lk n (hw.2.1 (dig h p.length)) hh (dig_pre hh hp hlt) (by simp; omega)
    rw [List.length_append, List.length_singleton] at h3
    have e2 := (congrArg (fun i => ((ws i).fnd ((tx h).drop (p.length + 1))).fin (tx h)) e)
    rw [e2]
    exact h3
theorem fnd_sub {W : World} {ρ : Nat → Nat} : ∀ (s : List UInt8) {t : Nd}, TA W ρ t → TA W ρ (t.fnd s)
  | [], t, h => by rw [fnd_nil]; exact h
  | _ :: _, .none, _ => trivial
  | _ :: _, .leaf _ _ _, h => h
  | _ :: s, .fork _ _ _, h => fnd_sub s (h.2.2 _)
theorem fin_ta {W : World} {ρ : Nat → Nat} (s : List UInt8) {t : Nd} (h : TA W ρ t) : TA W ρ (t.fin s) := by
  cases t with
  | none => trivial
  | leaf b x m =>
    show TA W ρ (if s <+: tx x then Nd.leaf b x m else .none)
    split
    · exact h
    · trivial
  | fork b g ws => exact h
theorem fnd_ta {W : World} {ρ : Nat → Nat} {s r : List UInt8} {t u : Nd} (h : TA W ρ t) (e : (t.fnd s).fin r = u) : TA W ρ u := e ▸ fin_ta r (fnd_sub s h)
set_option maxRecDepth 20000 in
set_option maxHeartbeats 1000000 in
theorem get_to (w : World) (tb : Nat) (T : Nd) (ρ : Nat → Nat) (h : List UInt8) (hh : h.length = 32) (ht : TT w tb T ρ) :
    Calls Tryz.prog 12 #[.pointer (some ⟨tb, 0, none⟩), .agg (hv h)] w fun e w' => e = .returned (.tuple #[.int .i64 (gnum (T.lk 0 h)), .bool (T.lk 0 h).isSome]) ∧ Below w.heap.size w w' := by
  have hd := tx_digs h
  have h64 : (tx h).length = 64 := by rw [tx_length, hh]
  have BEL := Lib.hid ((Below.refl w.heap.size w).alloc (Nat.le_refl _) (.cells (hv h) 36))
  have HT1 := Lib.hid (ht.kb BEL.out)
  have HH := Lib.hid (heap_alloc_last w (.cells (hv h) 36))
  have key := fnd_lk 64 ht.wf hh (List.nil_prefix) rfl
  rw [show ([] : List UInt8).length = 0 from rfl, List.drop_zero] at key
  have HX := Lib.hid (fun W => text_to W h hh)
  have hl := hld_row hh HH.out
  clear hh ht
  have HF := Lib.hid (fun W (hW : TT W tb T ρ) => find_to W tb T ρ _ ⟨(tx h).toArray⟩ (by show (tx h).length ≤ 64; omega) hd hW.ta hW.top)
  rw [show (⟨(tx h).toArray⟩ : ByteArray).data.toList = tx h from rfl] at HF
  clear hd h64
  rcases key with ⟨k1, k2⟩ | ⟨b, m, k1, k2⟩
  · rw [k1] at HF
    rw [k2]
    simp only [ptr_pad, pad_none] at HF
    clear k1 k2
    go_enter Tryz.func12, Tryz.ntmps12
    go_wp2_with (first
      | (go_at_call 37; refine (HX.out _).mono ?_; rintro e w1 ⟨rfl, b1⟩; have B1 := Lib.hid b1; clear b1)
      | (go_at_call 36; refine (HF.out _ (HT1.out.kb B1.out)).mono ?_; rintro e w2 ⟨rfl, b2⟩; have B2 := Lib.hid b2; clear b2))
    go_ret2
    exact ⟨rfl, BEL.out.trans ((B1.out.trans (B2.out.mono B1.out.size)).mono BEL.out.size)⟩
  · rw [k1] at HF
    rw [k2]
    have HTA := Lib.hid (fnd_ta HT1.out.ta k1)
    simp only [ptr_pad, pad_leaf] at HF
    clear k1 k2
    go_enter Tryz.func12, Tryz.ntmps12
    go_wp2_with (first
      | (go_at_call 37; refine (HX.out _).mono ?_; rintro e w1 ⟨rfl, b1⟩; have B1 := Lib.hid b1; clear b1)
      | (go_at_call 36; refine (HF.out _ (HT1.out.kb B1.out)).mono ?_; rintro e w2 ⟨rfl, b2⟩; have B2 := Lib.hid b2; have c33 := nd_33 HTA.out.2 (((HTA.out.kb B1.out).kb B2.out).1); clear b2))
    go_ret2
    exact ⟨rfl, BEL.out.trans ((B1.out.trans (B2.out.mono B1.out.size)).mono BEL.out.size)⟩
theorem count_to9 (w : World) (tb : Nat) (T : Nd) (ρ : Nat → Nat) (ht : TT w tb T ρ) :
    Calls Tryz.prog 17 #[.pointer (some ⟨tb, 0, none⟩)] w fun e w' => e = .returned (.int .i64 T.ents.length) ∧ w = w' := by
  have c1 : w.cell? ⟨tb, 1, none⟩ = some (.int .i64 T.ents.length) := by rw [cell_of_row w tb 1 _ _ _ ht.top]; rfl
  clear ht
  generalize (T.ents.length : Int) = n at *
  go_enter Tryz.func17, Tryz.ntmps17
  go_wp2
  go_ret
  exact ⟨rfl, rfl⟩
end Go.Proofs.YtbpccbhlggcmfaaGreatDoor
namespace Go.Proofs.YtbpccbhlggcmfaaGreatDoor
open Go.RowKit
attribute [local go_sem ↓] hld_open heq_open hne_open

/-- What Prefix answers. -/
def preS (T : Nd) (s : List UInt8) : List UInt8 × Int := if pre s = false then (hz, 1) else match (T.fnd s).fin s with
  | .none => (hz, 11)
  | .leaf _ h _ => (h, 0)
  | .fork _ _ _ => (hz, 14)
theorem pre_digs9 {s : List UInt8} (h : pre s = true) : digs s = true ∧ s.length ≤ 64 := by
  unfold pre at h
  simp only [Bool.and_eq_true, decide_eq_true_eq] at h
  exact ⟨h.2, h.1.2⟩
theorem pre_end {w W : World} {q : List UInt8} (hq : q.length = 32) (hb : Below w.heap.size w W) (hc : W.heap[w.heap.size]? = some (.cells hzer 36 (0, 0))) :
    (loadVar 36 ⟨w.heap.size, 0, none⟩).run Tryz.prog (W.setCells w.heap.size 0 (hv q).toList) = .ok (.agg (hv q)) (W.setCells w.heap.size 0 (hv q).toList) ∧ Below w.heap.size w (W.setCells w.heap.size 0 (hv q).toList) ∧ W.there w.heap.size 0 (hv q).size := by
  have HT := there_row hc
  rw [show hzer.size = (hv q).size from by rw [hv_size, hq]; rfl] at HT
  exact ⟨loaded (P := Tryz.prog) (t := 36) (q := hv q) HT Tryz.underlying36 rfl (hinfo (hv q) (by rw [hv_size, hq])),
    ((Only.of_below (S := fun k => w.heap.size ≤ k) hb).setCells (b := w.heap.size) (Nat.le_refl _) _ 0).below (Nat.le_refl _) (fun _ h => h), HT⟩
set_option maxRecDepth 20000 in
set_option maxHeartbeats 2000000 in
theorem prefix_to (w : World) (tb : Nat) (T : Nd) (ρ : Nat → Nat) (s : ByteArray) (ht : TT w tb T ρ) :
    Calls Tryz.prog 13 #[.pointer (some ⟨tb, 0, none⟩), .string s] w fun e w' => e = .returned (.tuple #[.agg (hv (preS T s.data.toList).1), errOf (preS T s.data.toList).2]) ∧ Below w.heap.size w w' := by
  have HB := Lib.hid ((Below.refl w.heap.size w).alloc (Nat.le_refl _) (.cells hzer 36))
  have HC0 := Lib.hid (heap_alloc_last w (.cells hzer 36))
  have HT1 := Lib.hid (ht.kb HB.out)
  have HP := Lib.hid (fun w => pre_any w s)
  clear ht
  by_cases hp : pre s.data.toList = true
  case' neg =>
    have hp' : pre s.data.toList = false := by simpa using hp
    have hS : preS T s.data.toList = (hz, 1) := if_pos hp'
    rw [hS, hz_hv]
    rw [hp'] at HP
    obtain ⟨E1, E2, E3⟩ := pre_end (w := w) (q := hz) rfl HB.out HC0.out
    rw [hz_hv] at E1 E2 E3
    have HE1 := Lib.hid E1
    have HE2 := Lib.hid E2
    have HE3 := Lib.hid E3
    clear hp hp' hS E1 E2 E3
    go_enter Tryz.func13, Tryz.ntmps13
    go_wp2_with (first
      | (go_at_call 38; refine (HP.out _).mono ?_; rintro e w' ⟨rfl, rfl⟩)
      | (refine build_to (vals := #[]) hbuilt ?hv ?_; (case hv => simp))
      | (refine store_to HE3.out (hinfo hzer hzer_size) hzer_one ?hx ?hy ?_; (case hx => rfl); (case hy => rfl)))
    refine bodyPost_ret (v := .tuple #[.agg hzer, errOf 1]) (w := (w.alloc (.cells hzer 36)).setCells w.heap.size 0 hzer.toList) ?_ rfl ⟨rfl, HE2.out⟩
    have hl := HE1.out
    generalize (w.alloc (.cells hzer 36)).setCells w.heap.size 0 (hzer).toList = W3 at hl ⊢
    simp only [results, Tryz.results13]
    simp [hl, asAddr]
    rfl
  case' pos =>
    obtain ⟨hd, h64⟩ := pre_digs9 hp
    have HF := Lib.hid (fun W (hW : TT W tb T ρ) => find_to W tb T ρ _ s h64 hd hW.ta hW.top)
    have HTA := Lib.hid (fin_ta s.data.toList (fnd_sub s.data.toList HT1.out.ta))
    have hS : preS T s.data.toList = match (T.fnd s.data.toList).fin s.data.toList with
      | .none => (hz, 11)
      | .leaf _ h _ => (h, 0)
      | .fork _ _ _ => (hz, 14) := if_neg (by rw [hp]; decide)
    rw [hp] at HP
    rw [hS]
    clear hp hS hd h64
    generalize (T.fnd s.data.toList).fin s.data.toList = u at *
    cases u with
    | none =>
      simp only [ptr_pad, pad_none] at HF
      show Calls _ _ _ _ fun e w' => e = .returned (.tuple #[.agg (hv hz), errOf 11]) ∧ _
      rw [hz_hv]
      go_enter Tryz.func13, Tryz.ntmps13
      go_wp2_with (first
        | (go_at_call 38; refine (HP.out _).mono ?_; rintro e w' ⟨rfl, rfl⟩)
        | (go_at_call 36; refine (HF.out _ HT1.out).mono ?_; rintro e w2 ⟨rfl, b2⟩; obtain ⟨E1, E2, E3⟩ := pre_end (w := w) (W := w2) (q := hz) rfl (HB.out.trans (b2.mono HB.out.size)) ((b2.block _ (by simp)).trans HC0.out); rw [hz_hv] at E1 E2 E3; have HE1 := Lib.hid E1; have HE2 := Lib.hid E2; have HE3 := Lib.hid E3; clear b2 E1 E2 E3)
        | (refine build_to (vals := #[]) hbuilt ?hv ?_; (case hv => simp))
        | (refine store_to HE3.out (hinfo hzer hzer_size) hzer_one ?hx ?hy ?_; (case hx => rfl); (case hy => rfl)))
      refine bodyPost_ret (v := .tuple #[.agg hzer, errOf 11]) (w := w2.setCells w.heap.size 0 hzer.toList) ?_ rfl ⟨rfl, HE2.out⟩
      have hl := HE1.out
      generalize w2.setCells w.heap.size 0 (hzer).toList = W3 at hl ⊢
      simp only [results, Tryz.results13]
      simp [hl, asAddr]
      rfl
    | leaf b h m =>
      simp only [ptr_pad, pad_leaf] at HF
      show Calls _ _ _ _ fun e w' => e = .returned (.tuple #[.agg (hv h), errOf 0]) ∧ _
      have HH := Lib.hid HTA.out.2
      go_enter Tryz.func13, Tryz.ntmps13
      go_wp2_with (first
        | (go_at_call 38; refine (HP.out _).mono ?_; rintro e w' ⟨rfl, rfl⟩)
        | (refine load_to (cs := us (nmb h)) HR.out Tryz.underlying36 rfl (by rw [← hv_list]; exact hinfo' (hv h) (by rw [hv_size, HH.out])) ?hx ?_; (case hx => rfl); refine store_to HE3.out (hinfo (hv h) (by rw [hv_size, HH.out])) (hv_one h) ?hx ?hy ?_; (case hx => rfl); (case hy => simp [Act.put, Act.eval, hv]))
        | (go_at_call 36; refine (HF.out _ HT1.out).mono ?_; rintro e w2 ⟨rfl, b2⟩; obtain ⟨E1, E2, E3⟩ := pre_end (w := w) (W := w2) (q := h) HH.out (HB.out.trans (b2.mono HB.out.size)) ((b2.block _ (by simp)).trans HC0.out); have HE1 := Lib.hid E1; have HE2 := Lib.hid E2; have HE3 := Lib.hid E3; have c34 := nd_34 HH.out ((HTA.out.kb b2).1); have HR := Lib.hid (nd_h HH.out ((HTA.out.kb b2).1)); simp only [gptr] at c34; clear b2 E1 E2 E3))
      refine bodyPost_ret (v := .tuple #[.agg (hv h), errOf 0]) (w := w2.setCells w.heap.size 0 (hv h).toList) ?_ rfl ⟨rfl, HE2.out⟩
      have hl := HE1.out
      generalize w2.setCells w.heap.size 0 (hv h).toList = W3 at hl ⊢
      simp only [results, Tryz.results13]
      simp [hl, asAddr]
      rfl
    | fork b g ws =>
      simp only [ptr_pad, pad_fork] at HF
      show Calls _ _ _ _ fun e w' => e = .returned (.tuple #[.agg (hv hz), errOf 14]) ∧ _
      rw [hz_hv]
      go_enter Tryz.func13, Tryz.ntmps13
      go_wp2_with (first
        | (go_at_call 38; refine (HP.out _).mono ?_; rintro e w' ⟨rfl, rfl⟩)
        | (go_at_call 36; refine (HF.out _ HT1.out).mono ?_; rintro e w2 ⟨rfl, b2⟩; obtain ⟨E1, E2, E3⟩ := pre_end (w := w) (W := w2) (q := hz) rfl (HB.out.trans (b2.mono HB.out.size)) ((b2.block _ (by simp)).trans HC0.out); rw [hz_hv] at E1 E2 E3; have HE1 := Lib.hid E1; have HE2 := Lib.hid E2; have HE3 := Lib.hid E3; have c34 := nd_34 hz_len ((HTA.out.kb b2).1); simp only [gptr] at c34; clear b2 E1 E2 E3)
        | (refine build_to (vals := #[]) hbuilt ?hv ?_; (case hv => simp))
        | (refine store_to HE3.out (hinfo hzer hzer_size) hzer_one ?hx ?hy ?_; (case hx => rfl); (case hy => rfl)))
      refine bodyPost_ret (v := .tuple #[.agg hzer, errOf 14]) (w := w2.setCells w.heap.size 0 hzer.toList) ?_ rfl ⟨rfl, HE2.out⟩
      have hl := HE1.out
      generalize w2.setCells w.heap.size 0 (hzer).toList = W3 at hl ⊢
      simp only [results, Tryz.results13]
      simp [hl, asAddr]
      rfl
end Go.Proofs.YtbpccbhlggcmfaaGreatDoor
