/- A tree's nodes in memory; digit, holds. No condition. -/
import Derived.Test.YtbpccbhlggcmfaaDoorRadU
import Derived.Test.YtbpccbhlggcmfaaDoorHexC
import Derived.Test.YtbpccbhlggcmfaaDoorHexE
import Derived.Test.YtbpccbhlggcmfaaDoorHexR
namespace Go.Proofs.YtbpccbhlggcmfaaDoor
open Go.RowKit

def pad : Nd → Option Addr
  | .none => none
  | .leaf b _ _ => some ⟨b, 0, none⟩
  | .fork b _ _ => some ⟨b, 0, none⟩
def ptr (u : Nd) : Value := .pointer (pad u)
theorem pad_none : pad .none = none := rfl
theorem pad_leaf (b : Nat) (h : List UInt8) (m : Int) : pad (.leaf b h m) = some ⟨b, 0, none⟩ := rfl
theorem pad_fork (b g : Nat) (ws : Fin 16 → Nd) : pad (.fork b g ws) = some ⟨b, 0, none⟩ := rfl
theorem ptr_pad (u : Nd) : ptr u = .pointer (pad u) := rfl
def gptr : Option Nat → Value
  | none => .pointer none
  | some g => .pointer (some ⟨g, 0, none⟩)
/-- A node's cells. -/
def nl (r : Nat) (h : List UInt8) (m : Int) (g : Option Nat) : List Value := [.int .i64 r] ++ us (nmb h) ++ [.int .i64 m, gptr g]
def nv (r : Nat) (h : List UInt8) (m : Int) (g : Option Nat) : Array Value := (nl r h m g).toArray
def pl (ws : Fin 16 → Nd) : List Value := fins.map fun i => ptr (ws i)
def pvs (ws : Fin 16 → Nd) : Array Value := (pl ws).toArray
/-- The tree lies in memory so, with these records. -/
def TA (W : World) (ρ : Nat → Nat) : Nd → Prop
  | .none => True
  | .leaf b h m => W.heap[b]? = some (.cells (nv (ρ b) h m none) 56 (0, 0)) ∧ h.length = 32
  | .fork b g ws => W.heap[b]? = some (.cells (nv (ρ b) hz 0 (some g)) 56 (0, 0)) ∧ W.heap[g]? = some (.cells (pvs ws) 90 (0, 0)) ∧ ∀ i, TA W ρ (ws i)
theorem TA.agree {W W' : World} {ρ σ : Nat → Nat} : ∀ {t : Nd}, TA W ρ t → (∀ k, t.Bl k → W'.heap[k]? = W.heap[k]?) → (∀ k, t.Bl k → σ k = ρ k) → TA W' σ t
  | .none, _, _, _ => trivial
  | .leaf b h m, ht, hw, hr => ⟨by rw [hw b rfl, hr b rfl]; exact ht.1, ht.2⟩
  | .fork b g ws, ht, hw, hr => ⟨by rw [hw b (.inl rfl), hr b (.inl rfl)]; exact ht.1, by rw [hw g (.inr (.inl rfl))]; exact ht.2.1, fun i => (ht.2.2 i).agree (fun k hk => hw k (.inr (.inr ⟨i, hk⟩))) (fun k hk => hr k (.inr (.inr ⟨i, hk⟩)))⟩
theorem TA.lt {W : World} {ρ : Nat → Nat} : ∀ {t : Nd}, TA W ρ t → ∀ k, t.Bl k → k < W.heap.size
  | .none, _, _, hk => hk.elim
  | .leaf b h m, ht, k, hk => by
    obtain rfl : k = b := hk
    exact (Array.getElem?_eq_some_iff.1 ht.1).1
  | .fork b g ws, ht, k, hk => by
    rcases hk with rfl | rfl | ⟨i, hk⟩
    · exact (Array.getElem?_eq_some_iff.1 ht.1).1
    · exact (Array.getElem?_eq_some_iff.1 ht.2.1).1
    · exact (ht.2.2 i).lt k hk
theorem TA.kb {W W' : World} {ρ : Nat → Nat} {t : Nd} (h : TA W ρ t) (hb : Below W.heap.size W W') : TA W' ρ t := h.agree (fun k hk => hb.block k (h.lt k hk)) (fun _ _ => rfl)
theorem TA.kept {W W' : World} {ρ : Nat → Nat} {t : Nd} {S : Nat → Prop} (h : TA W ρ t) (ho : Only S W W') (hS : ∀ k, t.Bl k → ¬ S k) : TA W' ρ t := h.agree (fun k hk => ho.block k (h.lt k hk) (hS k hk)) (fun _ _ => rfl)
theorem nl_length {r : Nat} {h : List UInt8} {m : Int} {g : Option Nat} (hh : h.length = 32) : (nl r h m g).length = 35 := by simp [nl, us, nm_length, hh]
theorem nl_0 (r : Nat) (h : List UInt8) (m : Int) (g : Option Nat) : (nl r h m g)[0]? = some (.int .i64 r) := rfl
theorem nl_h {r : Nat} {h : List UInt8} {m : Int} {g : Option Nat} (hh : h.length = 32) {j : Nat} (hj : j < 32) : (nl r h m g)[1 + j]? = (us (nmb h))[j]? := by
  unfold nl
  have hl : (us (nmb h)).length = 32 := by simp [us, nm_length, hh]
  rw [List.append_assoc, List.getElem?_append_right (by simp), List.getElem?_append_left (by simp [hl]; omega)]
  congr 1
  simp
theorem nl_33 {r : Nat} {h : List UInt8} {m : Int} {g : Option Nat} (hh : h.length = 32) : (nl r h m g)[33]? = some (.int .i64 m) := by
  unfold nl
  have hl : (us (nmb h)).length = 32 := by simp [us, nm_length, hh]
  rw [List.getElem?_append_right (by simp [hl])]
  simp [hl]
theorem nl_34 {r : Nat} {h : List UInt8} {m : Int} {g : Option Nat} (hh : h.length = 32) : (nl r h m g)[34]? = some (gptr g) := by
  unfold nl
  have hl : (us (nmb h)).length = 32 := by simp [us, nm_length, hh]
  rw [List.getElem?_append_right (by simp [hl])]
  simp [hl]
section
variable {W : World} {b r : Nat} {h : List UInt8} {m : Int} {g : Option Nat} {t : TypeId}
theorem nd_0 (hb : W.heap[b]? = some (.cells (nv r h m g) t (0, 0))) : W.cell? ⟨b, 0, none⟩ = some (.int .i64 r) := by
  rw [cell_of_row W b 0 _ _ _ hb, nv, List.getElem?_toArray, nl_0]
theorem nd_h (hh : h.length = 32) (hb : W.heap[b]? = some (.cells (nv r h m g) t (0, 0))) : W.rangeAt b 1 (us (nmb h)) := fun j v hj => by
  have hl : j < 32 := by
    have := (List.getElem?_eq_some_iff.1 hj).1
    simpa [us, nm_length, hh] using this
  rw [cell_of_row W b (1 + j) _ _ _ hb, nv, List.getElem?_toArray, nl_h hh hl]
  exact hj
theorem nd_33 (hh : h.length = 32) (hb : W.heap[b]? = some (.cells (nv r h m g) t (0, 0))) : W.cell? ⟨b, 33, none⟩ = some (.int .i64 m) := by
  rw [cell_of_row W b 33 _ _ _ hb, nv, List.getElem?_toArray, nl_33 hh]
theorem nd_34 (hh : h.length = 32) (hb : W.heap[b]? = some (.cells (nv r h m g) t (0, 0))) : W.cell? ⟨b, 34, none⟩ = some (gptr g) := by
  rw [cell_of_row W b 34 _ _ _ hb, nv, List.getElem?_toArray, nl_34 hh]
end
theorem pl_at (ws : Fin 16 → Nd) (i : Fin 16) : (pl ws)[i.val]? = some (ptr (ws i)) := by
  unfold pl fins
  rw [List.getElem?_map]
  simp
theorem pl_length (ws : Fin 16 → Nd) : (pl ws).length = 16 := by simp [pl, fins]
theorem way_at {W : World} {g : Nat} {ws : Fin 16 → Nd} {t : TypeId} (hg : W.heap[g]? = some (.cells (pvs ws) t (0, 0))) (i : Fin 16) : W.cell? ⟨g, i.val, none⟩ = some (ptr (ws i)) := by
  rw [cell_of_row W g i.val _ _ _ hg, pvs, List.getElem?_toArray, pl_at]
theorem below_drn0 {n m : Nat} {w w' : World} (h : Below n (w.drewN m) w') : Below n w w' := ⟨h.os, h.tape, h.output, h.size, h.block⟩
theorem hz_len : hz.length = 32 := rfl

theorem tx_even : ∀ (l : List UInt8) (j : Nat) (hj : j < l.length), (tx l)[2 * j]? = some (dg (l[j].toNat / 16)) ∧ (tx l)[2 * j + 1]? = some (dg (l[j].toNat % 16))
  | _ :: _, 0, _ => ⟨rfl, rfl⟩
  | b :: l, j + 1, hj => by
    have := tx_even l j (by simpa using hj)
    rw [show 2 * (j + 1) = 2 * j + 1 + 1 from by omega]
    simpa [tx] using this
theorem dig_even {h : List UInt8} {j : Nat} (hh : h.length = 32) (hj : j < h.length) : (dig h (2 * j)).val = h[j].toNat / 16 := by
  have h1 := (tx_even h j hj).1
  have h2 := dig_at (k := 2 * j) hh (by omega)
  rw [h1] at h2
  have h3 := congrArg und (Option.some.inj h2)
  rw [dg_und _ (hi16 _).1, dg_und _ (dig h (2 * j)).2] at h3
  omega
theorem dig_odd {h : List UInt8} {j : Nat} (hh : h.length = 32) (hj : j < h.length) : (dig h (2 * j + 1)).val = h[j].toNat % 16 := by
  have h1 := (tx_even h j hj).2
  have h2 := dig_at (k := 2 * j + 1) hh (by omega)
  rw [h1] at h2
  have h3 := congrArg und (Option.some.inj h2)
  rw [dg_und _ (hi16 _).2, dg_und _ (dig h (2 * j + 1)).2] at h3
  omega
set_option maxRecDepth 20000 in
set_option maxHeartbeats 1000000 in
theorem digit_to (w : World) (h : List UInt8) (k : Nat) (hh : h.length = 32) (hk : k < 64) : Calls Tryd.prog 29 #[.agg (hv h), .int .i64 k] w fun e w' => e = .returned (.int .i64 (dig h k).val) ∧ Below w.heap.size w w' := by
  have BEL := Lib.hid ((Below.refl w.heap.size w).alloc (Nat.le_refl _) (.cells (hv h) 33))
  have hrow := heap_alloc_last w (.cells (hv h) 33)
  have hj : k / 2 < h.length := by omega
  obtain ⟨X, hX⟩ : ∃ X, X = (h[k / 2].toNat : Int) := ⟨_, rfl⟩
  have hc : (w.alloc (.cells (hv h) 33)).cell? ⟨w.heap.size, k / 2, none⟩ = some (.int .u8 X) := by
    rw [hX, cell_of_row _ w.heap.size (k / 2) (hv h) _ (0, 0) hrow]
    exact hv_get hj
  have hxr := u8_range h[k / 2]
  rw [← hX] at hxr
  obtain ⟨x0, x1⟩ := hxr
  have q1 : ((k : Nat) : Int).tdiv 2 = ((k / 2 : Nat) : Int) := by rw [Int.tdiv_eq_ediv_of_nonneg (by omega)]; omega
  have q2 : ((k : Nat) : Int).tmod 2 = ((k % 2 : Nat) : Int) := by rw [Int.tmod_eq_emod_of_nonneg (by omega)]; omega
  have q4 : (((k / 2 : Nat) : Int)).toNat = k / 2 := by omega
  have q5 : ((k / 2 : Nat) : Int) < 32 := by omega
  have q6 : (0 : Int) ≤ ((k / 2 : Nat) : Int) := by omega
  rcases (show k % 2 = 0 ∨ k % 2 = 1 from by omega) with e | e
  · have hd : ((dig h k).val : Int) = X / 16 := by
      have := dig_even hh hj
      rw [show 2 * (k / 2) = k from by omega] at this
      rw [this, hX]; omega
    rw [e] at q2
    have q3 : X.shiftRight 4 = X / 16 := Int.shiftRight_eq_div_pow X 4
    rw [hd]
    clear hX hd hrow
    generalize ((k : Nat) : Int) = y at *
    generalize k / 2 = j at *
    go_enter Tryd.func29, Tryd.ntmps29
    go_wp2_with fail
    go_ret
    exact ⟨ret_i64 (by omega), BEL.out⟩
  · have hd : ((dig h k).val : Int) = X % 16 := by
      have := dig_odd hh hj
      rw [show 2 * (k / 2) + 1 = k from by omega] at this
      rw [this, hX]; omega
    rw [e] at q2
    rw [hd]
    clear hX hd hrow
    generalize ((k : Nat) : Int) = y at *
    generalize k / 2 = j at *
    go_enter Tryd.func29, Tryd.ntmps29
    go_wp2_with fail
    go_ret
    exact ⟨ret_i64 (by omega), BEL.out⟩
end Go.Proofs.YtbpccbhlggcmfaaDoor
