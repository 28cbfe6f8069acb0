/- The walks of CrcSums and CrcTurns: they return true, and nothing that was there has turned. -/
import Derived.Test.YtkmjifjjfbobhaaCrcK
import Derived.Test.YtkmjifjjfbobhaaGenPick
import Derived.Test.YtkmjifjjfbobhaaGenFew
import Derived.Laws.OwnMore
namespace Go.Proofs.Ytkmjifjjfbobhaa
open Go.RowKit

theorem xor_u8 {a b : Int} (ha : 0 ≤ a ∧ a < 256) (hb : 0 ≤ b ∧ b < 256) : bits .xor .u8 a b = ((a.toNat ^^^ b.toNat : Nat) : Int) := by
  show IntKind.u8.wrap ((BitVec.ofInt 8 a ^^^ BitVec.ofInt 8 b).toNat : Int) = _
  have h1 : a.toNat ^^^ b.toNat < 256 := Nat.xor_lt_two_pow (n := 8) (by omega) (by omega)
  rw [BitVec.toNat_xor, BitVec.toNat_ofInt, BitVec.toNat_ofInt]
  have e1 : (a % ((2 ^ 8 : Nat) : Int)).toNat = a.toNat := by omega
  have e2 : (b % ((2 ^ 8 : Nat) : Int)).toNat = b.toNat := by omega
  rw [e1, e2]; exact IntWalk.u8_in _ (by omega)

set_option maxHeartbeats 800000 in
theorem crcSums_walk (v : Value) (l : List Int) (hl : l.length ≤ 140737488351232) (ok : Okb l) (w : World) (hs : Seen w v l) : Calls Try.prog 4 #[v] w fun e w' => e = .returned (.bool true) ∧ Below w.heap.size w w' := by
  have HS := Lib.hid hs
  clear hs
  go_enter Try.func4, Try.ntmps4
  go_wp2_with fail
  refine (known_any _).mono ?_
  rintro e w1 ⟨rfl, b1⟩
  have B1 := Lib.hid b1
  have S1 := Lib.hid (HS.out.kb b1)
  clear b1
  go_wp2_with fail
  refine (sum_any _ _ l ok hl S1.out).mono ?_
  rintro e _ ⟨rfl, rfl⟩
  go_wp2_with fail
  refine (refsum_any _ _ l ok hl S1.out).mono ?_
  rintro e _ ⟨rfl, rfl⟩
  go_wp2
  go_ret
  exact ⟨by simp, B1.out⟩

set_option maxHeartbeats 1600000 in
theorem crcTurns_walk (a : Addr) (cap : Nat) (l : List Int) (hl : l.length ≤ 140737488351232) (h0 : 0 < l.length) (ok : Okb l) (at_ b : Int) (hb : 0 < b ∧ b < 256) (w : World) (hs : Seen w (.slice (some a) l.length cap) l) : Calls Try.prog 5 #[.slice (some a) l.length cap, .int .i64 at_, .int .u8 b] w fun e w' => e = .returned (.bool true) ∧ Below w.heap.size w w' := by
  have hv : a.block < w.heap.size := by
    rcases hs with ⟨h, _⟩ | ⟨a', cap', h, _, hu⟩
    · cases h
    · cases h
      have := World.block_lt_of_cell? w _ (hu 0 _ (by simp [us, h0]; rfl))
      rwa [Addr.add_block] at this
  have HS := Lib.hid hs
  clear hs
  have hd1 : ((l.length : Int) == 0) = false := by simp; intro h; simp [h] at h0
  have hd2 : (b == 0) = false := by simp; omega
  go_enter Try.func5, Try.ntmps5
  go_wp2_with fail
  refine (known_any _).mono ?_
  rintro e w1 ⟨rfl, b1⟩
  have B1 := Lib.hid b1
  have S1 := Lib.hid (HS.out.kb b1)
  clear b1
  go_wp2_with fail
  refine (few_any _ _ l _ rfl hl S1.out).mono ?_
  rintro e w2 ⟨g, cap2, rfl, h2, b2⟩
  have B2 := Lib.hid b2
  have S2 := Lib.hid (S1.out.kb b2)
  have H2 := Lib.hid h2
  clear b2 h2
  go_wp2_with fail
  refine (pick_any _ _ _ (by omega) (by omega)).mono ?_
  rintro e _ ⟨rfl, rfl⟩
  obtain ⟨r, hr⟩ := Int.eq_ofNat_of_zero_le (Int.emod_nonneg at_ (show (l.length : Int) ≠ 0 from by omega))
  have hrl : r < l.length := by
    have := Int.emod_lt_of_pos at_ (show 0 < (l.length : Int) from by omega)
    omega
  rw [hr]
  clear hr
  obtain ⟨x, hx⟩ : ∃ x, l[r]? = some x := ⟨_, List.getElem?_eq_getElem hrl⟩
  have hx2 := ok x (List.mem_of_getElem? hx)
  have hcell : w2.cell? ⟨g, r, none⟩ = some (.int .u8 x) := by
    rw [H2.out.cellAt r (by omega)]; simp [us, hx]
  have hfz : w2.frozen? ⟨g, r, none⟩ = false := H2.out.frozenAt r
  have hcap : l.length ≤ cap2 := by
    rcases H2.out.2 with ⟨h, _⟩ | ⟨g', cap', cur, h, _, _, hn, _⟩
    · cases h
    · cases h; exact hn
  obtain ⟨y, hy⟩ : ∃ y, y = bits .xor .u8 x b := ⟨_, rfl⟩
  have HY := Lib.hid hy
  have HX := Lib.hid hx
  clear hy hx
  go_wp2_with fail
  rw [← HY.out]
  have hgb : g ≠ a.block := by
    have := (H2.out.lt g rfl).1
    have := B1.out.size
    omega
  have H3 := H2.out.stored r (.int .u8 y)
  have hset : (us l).set r (.int .u8 y) = us (l.set r y) := by simp [us]
  have hy := HY.out
  rw [xor_u8 hx2 (by omega)] at hy
  have hy2 : 0 ≤ y ∧ y < 256 := by
    have := Nat.xor_lt_two_pow (n := 8) (show x.toNat < 2 ^ 8 by omega) (show b.toNat < 2 ^ 8 by omega)
    omega
  have hyx : y ≠ x := by
    intro e
    have h1 : x.toNat ^^^ b.toNat = x.toNat ^^^ 0 := by rw [Nat.xor_zero]; omega
    have := xor_left h1
    omega
  have hne := crc_turns ok HX.out hy2 hyx
  have H3s : Seen (w2.setCell ⟨g, r, none⟩ (.int .u8 y)) (.slice (some ⟨g, 0, none⟩) l.length cap2) (l.set r y) := by
    have h := H3.1
    rw [hset] at h
    have hlen : (l.set r y).length = l.length := List.length_set
    have h2 : (w2.setCell ⟨g, r, none⟩ (.int .u8 y)).ownsRow w1.heap.size 5 1 (.slice (some ⟨g, 0, none⟩) l.length cap2) (l.set r y).length (us (l.set r y)) := by rw [hlen]; exact h
    exact Seen.own h2
  have ok3 : Okb (l.set r y) := by
    intro z hz
    rcases List.mem_or_eq_of_mem_set hz with h | rfl
    · exact ok z h
    · exact hy2
  have S3 := Lib.hid (S2.out.kept (w' := w2.setCell ⟨g, r, none⟩ (.int .u8 y)) fun k hk => by cases hk; exact H3.2.block _ (Nat.lt_of_lt_of_le (Nat.lt_of_lt_of_le hv B1.out.size) B2.out.size) (by simpa using Ne.symm hgb))
  have B3 := Lib.hid (B1.out.trans (B2.out.mono B1.out.size))
  have HB : Hid (w.heap.size ≤ g) := Lib.hid (by have := (H2.out.lt g rfl).1; have := B1.out.size; omega)
  have H3S := Lib.hid H3s
  have HNE := Lib.hid hne
  clear H3 hset hy hyx H3s hne hd1 hd2 hcell hfz
  refine (sum_any _ _ _ ok3 (by simpa using hl) H3S.out).mono ?_
  rintro e _ ⟨rfl, rfl⟩
  go_wp2_with fail
  refine (sum_any _ _ _ ok hl S3.out).mono ?_
  rintro e _ ⟨rfl, rfl⟩
  go_wp2
  go_ret
  exact ⟨by have := HNE.out; simp; omega, B3.out.setCell HB.out _⟩

theorem crcTurns_none (a : Option Addr) (cap : Nat) (at_ b : Int) (w : World) : Calls Try.prog 5 #[.slice a 0 cap, .int .i64 at_, .int .u8 b] w fun e w' => e = .returned (.bool true) ∧ Below w.heap.size w w' := by
  go_enter Try.func5, Try.ntmps5
  go_wp2_with fail
  refine (known_any _).mono ?_
  rintro e w1 ⟨rfl, b1⟩
  have B1 := Lib.hid b1
  clear b1
  go_wp2
  go_ret
  exact ⟨rfl, B1.out⟩
theorem crcTurns_same (a : Option Addr) (n cap : Nat) (at_ : Int) (w : World) (h0 : 0 < n) : Calls Try.prog 5 #[.slice a n cap, .int .i64 at_, .int .u8 0] w fun e w' => e = .returned (.bool true) ∧ Below w.heap.size w w' := by
  have hd1 : ((n : Int) == 0) = false := by simp; omega
  go_enter Try.func5, Try.ntmps5
  go_wp2_with fail
  refine (known_any _).mono ?_
  rintro e w1 ⟨rfl, b1⟩
  have B1 := Lib.hid b1
  clear b1
  go_wp2
  go_ret
  exact ⟨rfl, B1.out⟩
end Go.Proofs.Ytkmjifjjfbobhaa
