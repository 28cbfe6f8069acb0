/- Plain arithmetic: a record's bytes, and what is read of the bytes at the beginning. · What sum and Lay of package frame do. The body is within what a record may hold. · What Next of package frame does. The bytes are within what a slice may take up. -/
import Derived.Test.YtbpccbhlggcmfaaGreatDoorOctEnc
import Derived.Test.YtbpccbhlggcmfaaGreatDoorCrcS
import Derived.Test.YtbpccbhlggcmfaaGreatDoorOctW
import Derived.Test.YtbpccbhlggcmfaaGreatDoorGenAs
import Derived.Test.YtbpccbhlggcmfaaGreatDoorGenApp
import Derived.Test.YtbpccbhlggcmfaaGreatDoorOctR
namespace Go.Proofs.YtbpccbhlggcmfaaGreatDoor
open Go.RowKit

/-- The bytes of a record. -/
def hdr (k : Int) (l : List Int) : List Int := be k 1 ++ be l.length 4
def frm (k : Int) (l : List Int) : List Int := hdr k l ++ be (crc (hdr k l ++ l) : Nat) 4 ++ l

/-- The record at the beginning: its kind, body, size; the last: the number of the error, 0 for none. -/
def nxt (l : List Int) : Int × List Int × Int × Int :=
  if l.length < 9 then (0, [], 0, 3)
  else if bv (l.take 1) = 0 ∨ 1048576 < bv ((l.drop 1).take 4) then (0, [], 0, 2)
  else if (l.length : Int) < 9 + bv ((l.drop 1).take 4) then (0, [], 0, 3)
  else if (crc (l.take 5 ++ (l.drop 9).take (bv ((l.drop 1).take 4)).toNat) : Nat) = bv ((l.drop 5).take 4) then (bv (l.take 1), (l.drop 9).take (bv ((l.drop 1).take 4)).toNat, 9 + bv ((l.drop 1).take 4), 0)
  else (0, [], 0, 4)

theorem bv_range : ∀ {l : List Int}, Okb l → 0 ≤ bv l ∧ bv l < 256 ^ l.length
  | [], _ => by simp [bv]
  | x :: l, h => by
    have ih := bv_range h.tail
    have hx := h x (List.mem_cons_self ..)
    rw [bv_cons, List.length_cons, Int.pow_succ]
    have hp : (0 : Int) < 256 ^ l.length := Int.pow_pos (by decide)
    generalize (256 : Int) ^ l.length = p at *
    have h1 : 0 ≤ x * p := Int.mul_nonneg hx.1 (by omega)
    have h2 : x * p ≤ 255 * p := Int.mul_le_mul_of_nonneg_right (by omega) (by omega)
    omega
theorem be_mod (n : Int) (p : Int) : ∀ m, be (n + 256 ^ m * p) m = be n m
  | 0 => rfl
  | j + 1 => by
    have e : n + 256 ^ (j + 1) * p = n + 256 ^ j * (256 * p) := by rw [Int.pow_succ, Int.mul_assoc]
    rw [be, be, e, be_mod n (256 * p) j]
    congr 1
    rw [byteAt, byteAt, IntKind.wrap_u8', IntKind.wrap_u8', pow8, Int.add_mul_ediv_left _ _ (Int.ne_of_gt (Int.pow_pos (by decide)))]
    omega
theorem be_bv : ∀ {l : List Int}, Okb l → be (bv l) l.length = l
  | [], _ => rfl
  | x :: l, h => by
    have hx := h x (List.mem_cons_self ..)
    have hr := bv_range h.tail
    rw [List.length_cons, be, bv_cons]
    have e : x * 256 ^ l.length + bv l = bv l + 256 ^ l.length * x := by rw [Int.mul_comm]; omega
    rw [e, be_mod, be_bv h.tail]
    congr 1
    rw [byteAt, IntKind.wrap_u8', pow8, Int.add_mul_ediv_left _ _ (Int.ne_of_gt (Int.pow_pos (by decide))), Int.ediv_eq_zero_of_lt hr.1 hr.2]
    omega

theorem be_bv' {l : List Int} {m : Nat} (h : Okb l) (hm : l.length = m) : be (bv l) m = l := hm ▸ be_bv h

section
variable {l : List Int} (ok : Okb l) (h9 : 9 ≤ l.length)
include ok h9
theorem kind_range : 0 ≤ bv (l.take 1) ∧ bv (l.take 1) < 256 := by
  have := bv_range (ok.take 1)
  rwa [List.length_take, Nat.min_eq_left (by omega)] at this
theorem len_range : 0 ≤ bv ((l.drop 1).take 4) ∧ bv ((l.drop 1).take 4) < 4294967296 := by
  have := bv_range ((ok.drop 1).take 4)
  rwa [List.length_take, List.length_drop, Nat.min_eq_left (by omega)] at this
theorem sum_range : 0 ≤ bv ((l.drop 5).take 4) ∧ bv ((l.drop 5).take 4) < 4294967296 := by
  have := bv_range ((ok.drop 5).take 4)
  rwa [List.length_take, List.length_drop, Nat.min_eq_left (by omega)] at this
/-- The five bytes ahead of the sum, written anew from what was read. -/
theorem hdr_read : (9 : Int) + bv ((l.drop 1).take 4) ≤ l.length → hdr (bv (l.take 1)) ((l.drop 9).take (bv ((l.drop 1).take 4)).toNat) = l.take 5 := by
  intro hn
  have hr := len_range ok h9
  have e : (((l.drop 9).take (bv ((l.drop 1).take 4)).toNat).length : Int) = bv ((l.drop 1).take 4) := by
    rw [List.length_take, List.length_drop]; omega
  unfold hdr
  rw [e, be_bv' (ok.take 1) (by rw [List.length_take]; omega), be_bv' ((ok.drop 1).take 4) (by rw [List.length_take, List.length_drop]; omega)]
  have := List.take_append_drop 1 (l.take 5)
  rw [List.take_take, List.drop_take] at this
  simpa using this
end

theorem hdr_ok (k : Int) (l : List Int) : Okb (hdr k l) := (be_ok _ _).app (be_ok _ _)
theorem hdr_len (k : Int) (l : List Int) : (hdr k l).length = 5 := by simp [hdr, be_length]
theorem frm_ok (k : Int) {l : List Int} (h : Okb l) : Okb (frm k l) := ((hdr_ok k l).app (be_ok _ _)).app h
theorem frm_len (k : Int) (l : List Int) : (frm k l).length = 9 + l.length := by simp [frm, hdr_len, be_length]; omega
theorem crc_hdr (k : Int) {l : List Int} (h : Okb l) : crc (hdr k l ++ l) < 4294967296 := crc_lt fun x hx => ((hdr_ok k l).app h x hx).2

theorem nxt_ok {l : List Int} (ok : Okb l) : Okb (nxt l).2.1 := by
  unfold nxt
  split
  · exact Okb.nil
  · split
    · exact Okb.nil
    · split
      · exact Okb.nil
      · split
        · exact (ok.drop 9).take _
        · exact Okb.nil
end Go.Proofs.YtbpccbhlggcmfaaGreatDoor
namespace Go.Proofs.YtbpccbhlggcmfaaGreatDoor
open Go.RowKit

theorem len_val {w : World} {v : Value} {l : List Int} (h : Seen w v l) : ∃ a cap, v = .slice a l.length cap := by
  rcases h with ⟨rfl, rfl⟩ | ⟨a, cap, rfl, _⟩
  · exact ⟨none, 0, rfl⟩
  · exact ⟨some a, cap, rfl⟩

set_option maxHeartbeats 800000 in
theorem fsum_any (w : World) (k : Int) (v : Value) (l : List Int) (ok : Okb l) (hl : l.length ≤ 2000000) (hs : Seen w v l) :
    Calls Tryz.prog 84 #[.int .i64 k, v] w fun e w' => e = .returned (.int .i64 (crc (hdr k l ++ l) : Nat)) ∧ Below w.heap.size w w' := by
  obtain ⟨a, cap, rfl⟩ := len_val hs
  have HS := Lib.hid hs
  have HC := Lib.hid (crc_hdr k ok)
  have HO := Lib.hid ((hdr_ok k l).app ok)
  have hll : (hdr k l ++ l).length ≤ 2000005 := by rw [List.length_append, hdr_len]; omega
  have HL := Lib.hid hll
  clear hs hll
  go_enter Tryz.func84, Tryz.ntmps84
  go_wp2_with fail
  refine (newwriter_any _ w.heap.size (Nat.le_refl _)).mono ?_
  rintro e w1 ⟨rfl, h1, b1, _⟩
  have H1 := Lib.hid h1
  have B1 := Lib.hid b1
  clear h1 b1
  go_wp2_with fail
  refine (wu8_any _ _ _ _ _ w.heap.size (by decide) H1.out).mono ?_
  rintro e w2 ⟨rfl, v2, h2, o2, _⟩
  have H2 := Lib.hid h2
  have B2 := Lib.hid (B1.out.trans (H1.out.below o2))
  clear h2 o2 B1 H1
  go_wp2_with fail
  refine (wu32_any _ _ _ _ _ w.heap.size (by simp [be_length]) H2.out).mono ?_
  rintro e w3 ⟨rfl, v3, h3, o3, _⟩
  have H3 := Lib.hid h3
  have B3 := Lib.hid (B2.out.trans (H2.out.below o3))
  clear h3 o3 B2 H2
  have S3 := Lib.hid (HS.out.kb B3.out)
  go_wp2_with fail
  refine (wraw_any _ _ _ _ _ l w.heap.size (by simp [be_length]) (by omega) H3.out S3.out).mono ?_
  rintro e w4 ⟨rfl, v4, h4, o4, _⟩
  have H4 := Lib.hid h4
  have B4 := Lib.hid (B3.out.trans (H3.out.below o4))
  clear h4 o4 B3 H3 S3
  have e4 : ([] ++ be k 1 ++ be (l.length : Int) 4 ++ l) = hdr k l ++ l := by simp [hdr]
  rw [e4] at H4
  clear e4
  go_wp2_with fail
  refine (wbytes_any _ _ _ _ w.heap.size (by have := HL.out; omega) H4.out).mono ?_
  rintro e w5 ⟨v5, rfl, h5, b5⟩
  have S5 := Lib.hid (Seen.own h5)
  have B5 := Lib.hid (B4.out.trans (b5.mono H4.out.base))
  clear h5 b5 B4 H4
  go_wp2_with fail
  refine (sum_any _ _ _ HO.out (by have := HL.out; omega) S5.out).mono ?_
  rintro e _ ⟨rfl, rfl⟩
  obtain ⟨c, hc⟩ : ∃ c, c = crc (hdr k l ++ l) := ⟨_, rfl⟩
  have hc2 := HC.out
  have HCC := Lib.hid hc
  rw [← hc] at hc2 ⊢
  clear hc HC
  go_wp2
  go_ret
  exact ⟨by rw [← HCC.out]; rfl, B5.out⟩

theorem lay_no (w : World) (k : Int) (a : Option Addr) (n cap : Nat) (h : k < 1 ∨ 255 < k ∨ 1048576 < n) :
    Calls Tryz.prog 58 #[.int .i64 k, .slice a n cap] w fun e w' => e = .returned (.tuple #[.slice none 0 0, kind 1]) ∧ w = w' := by
  by_cases h1 : k < 1
  · clear h
    go_enter Tryz.func58, Tryz.ntmps58
    go_wp2
    go_ret2
    exact ⟨rfl, rfl⟩
  · by_cases h2 : 255 < k
    · clear h
      go_enter Tryz.func58, Tryz.ntmps58
      go_wp2
      go_ret2
      exact ⟨rfl, rfl⟩
    · have h3 : 1048576 < n := by omega
      clear h
      go_enter Tryz.func58, Tryz.ntmps58
      go_wp2
      go_ret2
      exact ⟨rfl, rfl⟩

set_option maxHeartbeats 1600000 in
theorem lay_yes (w : World) (k : Int) (v : Value) (l : List Int) (h1 : 1 ≤ k) (h2 : k ≤ 255) (ok : Okb l) (hl : l.length ≤ 1048576) (hs : Seen w v l) :
    Calls Tryz.prog 58 #[.int .i64 k, v] w fun e w' => ∃ u, e = .returned (.tuple #[u, .nilIface]) ∧ w'.ownsRow w.heap.size 5 1 u (frm k l).length (us (frm k l)) ∧ Below w.heap.size w w' := by
  obtain ⟨a, cap, rfl⟩ := len_val hs
  have HS := Lib.hid hs
  clear hs
  go_enter Tryz.func58, Tryz.ntmps58
  go_wp2_with fail
  refine (newwriter_any _ w.heap.size (Nat.le_refl _)).mono ?_
  rintro e w1 ⟨rfl, h1, b1, _⟩
  have H1 := Lib.hid h1
  have B1 := Lib.hid b1
  clear h1 b1
  go_wp2_with fail
  refine (wu8_any _ _ _ _ _ w.heap.size (by decide) H1.out).mono ?_
  rintro e w2 ⟨rfl, v2, h2, o2, _⟩
  have H2 := Lib.hid h2
  have B2 := Lib.hid (B1.out.trans (H1.out.below o2))
  clear h2 o2 B1 H1
  go_wp2_with fail
  refine (wu32_any _ _ _ _ _ w.heap.size (by simp [be_length]) H2.out).mono ?_
  rintro e w3 ⟨rfl, v3, h3, o3, _⟩
  have H3 := Lib.hid h3
  have B3 := Lib.hid (B2.out.trans (H2.out.below o3))
  clear h3 o3 B2 H2
  have S3 := Lib.hid (HS.out.kb B3.out)
  go_wp2_with fail
  refine (fsum_any _ _ _ l ok (by omega) S3.out).mono ?_
  rintro e w4 ⟨rfl, b4⟩
  have H4 := Lib.hid (H3.out.kb b4)
  have B4 := Lib.hid (B3.out.trans (b4.mono H3.out.base))
  clear b4 B3 H3 S3
  go_wp2_with fail
  refine (wu32_any _ _ _ _ _ w.heap.size (by simp [be_length]) H4.out).mono ?_
  rintro e w5 ⟨rfl, v5, h5, o5, _⟩
  have H5 := Lib.hid h5
  have B5 := Lib.hid (B4.out.trans (H4.out.below o5))
  clear h5 o5 B4 H4
  have S5 := Lib.hid (HS.out.kb B5.out)
  go_wp2_with fail
  refine (wraw_any _ _ _ _ _ l w.heap.size (by simp [be_length]) (by omega) H5.out S5.out).mono ?_
  rintro e w6 ⟨rfl, v6, h6, o6, _⟩
  have H6 := Lib.hid h6
  have B6 := Lib.hid (B5.out.trans (H5.out.below o6))
  clear h6 o6 B5 H5 S5
  have e6 : ([] ++ be k 1 ++ be (l.length : Int) 4 ++ be ((crc (hdr k l ++ l) : Nat) : Int) 4 ++ l) = frm k l := by simp [frm, hdr]
  rw [e6] at H6
  clear e6
  go_wp2_with fail
  refine (wbytes_any _ _ _ _ w.heap.size (by rw [frm_len]; omega) H6.out).mono ?_
  rintro e w7 ⟨v7, rfl, h7, b7⟩
  have H7 := Lib.hid h7
  have B7 := Lib.hid b7
  clear h7 b7
  go_wp2
  go_ret2
  exact ⟨v7, rfl, H7.out.mono H6.out.base, B6.out.trans (B7.out.mono H6.out.base)⟩
end Go.Proofs.YtbpccbhlggcmfaaGreatDoor
namespace Go.Proofs.YtbpccbhlggcmfaaGreatDoor
open Go.RowKit

/-- What Next answers: the four results by the arithmetic of a record. -/
def NextPost (w : World) (l : List Int) (e : Ending) (w' : World) : Prop :=
  ∃ u, e = .returned (.tuple #[.int .i64 (nxt l).1, u, .int .i64 (nxt l).2.2.1, errOf (nxt l).2.2.2]) ∧ w'.ownsRow w.heap.size 5 1 u (nxt l).2.1.length (us (nxt l).2.1) ∧ Below w.heap.size w w'

theorem own_kb {w w' : World} {B e size n : Nat} {v : Value} {xs : List Value} (h : w.ownsRow B e size v n xs) (hb : Below w.heap.size w w') : w'.ownsRow B e size v n xs := by
  refine ⟨h.1, ?_⟩
  rcases h.2 with h1 | ⟨g, cap, cur, rfl, h2, hg, h3⟩
  · exact .inl h1
  · exact .inr ⟨g, cap, cur, rfl, h2, (hb.block g (Array.getElem?_eq_some_iff.1 hg).1).trans hg, h3⟩
theorem nextPost {w w' : World} {l xs : List Int} {k n c : Int} {u : Value} (h : nxt l = (k, xs, n, c)) (hs : w'.ownsRow w.heap.size 5 1 u xs.length (us xs)) (hb : Below w.heap.size w w') :
    NextPost w l (.returned (.tuple #[.int .i64 k, u, .int .i64 n, errOf c])) w' := by
  unfold NextPost
  rw [h]
  exact ⟨u, rfl, hs, hb⟩
theorem nxt_short {l : List Int} (h : l.length < 9) : nxt l = (0, [], 0, 3) := if_pos h

theorem seen_len {w : World} {l : List Int} {g o cap : Nat} (h : SeenR w (.slice (some ⟨g, o, none⟩) l.length cap) l) (k c : Nat) (hk : k ≤ l.length) (hc : k ≤ c) : SeenR w (.slice (some ⟨g, o, none⟩) k c) (l.take k) := by
  rcases h with ⟨h, _⟩ | ⟨g', o', cap', h, h2, hu⟩
  · cases h
  · cases h
    have e : (l.take k).length = k := by rw [List.length_take]; omega
    refine .inr ⟨g, o, c, by rw [e], by rw [e]; exact hc, fun j u hj => hu j u ?_⟩
    have hj2 : j < k := by
      have := (List.getElem?_eq_some_iff.1 hj).1
      simp [us] at this; omega
    simpa [us, List.getElem?_take, hj2] using hj

theorem nxt_long {l : List Int} (h : ¬ l.length < 9) : nxt l = if bv (l.take 1) = 0 ∨ 1048576 < bv ((l.drop 1).take 4) then (0, [], 0, 2)
  else if (l.length : Int) < 9 + bv ((l.drop 1).take 4) then (0, [], 0, 3)
  else if (crc (l.take 5 ++ (l.drop 9).take (bv ((l.drop 1).take 4)).toNat) : Nat) = bv ((l.drop 5).take 4) then (bv (l.take 1), (l.drop 9).take (bv ((l.drop 1).take 4)).toNat, 9 + bv ((l.drop 1).take 4), 0)
  else (0, [], 0, 4) := if_neg h

theorem seen_mid {w : World} {l : List Int} {g o cap : Nat} (h : SeenR w (.slice (some ⟨g, o, none⟩) l.length cap) l) (m : Nat) (hm : 9 + m ≤ l.length) : SeenR w (.slice (some ⟨g, o + 9, none⟩) m (cap - 9)) ((l.drop 9).take m) := by
  rcases h with ⟨h, _⟩ | ⟨g', o', cap', h, h2, hu⟩
  · cases h
  · cases h
    have e : ((l.drop 9).take m).length = m := by rw [List.length_take, List.length_drop]; omega
    refine .inr ⟨g, o + 9, cap - 9, by rw [e], by rw [e]; omega, fun j u hj => ?_⟩
    have hj2 : j < m := by
      have := (List.getElem?_eq_some_iff.1 hj).1
      simp [us] at this; omega
    have := hu (9 + j) u (by simpa [us, List.getElem?_take, List.getElem?_drop, hj2] using hj)
    rwa [← Nat.add_assoc] at this

theorem fsum_to (w : World) (k : Int) (v : Value) (l : List Int) (C : Int) (ok : Okb l) (hl : l.length ≤ 2000000) (hC : ((crc (hdr k l ++ l) : Nat) : Int) = C) (hs : Seen w v l) :
    Calls Tryz.prog 84 #[.int .i64 k, v] w fun e w' => e = .returned (.int .i64 C) ∧ Below w.heap.size w w' := hC ▸ fsum_any w k v l ok hl hs
theorem SeenR.kb {w w' : World} {v : Value} {l : List Int} (h : SeenR w v l) (hb : Below w.heap.size w w') : SeenR w' v l := by
  rcases h with h | ⟨g, o, cap, rfl, hc, hu⟩
  · exact .inl h
  · refine .inr ⟨g, o, cap, rfl, hc, fun j u hj => ?_⟩
    have h1 := hu j u hj
    rw [World.cell?_of_block (w := w) (a := ⟨g, o + j, none⟩) (hb.block _ (World.block_lt_of_cell? w _ h1))]
    exact h1

theorem ru8_to (B : Nat) (w : World) (b : Nat) (v : Value) (l : List Int) (lk : Bool) (K : Int) (hkl : 1 ≤ l.length) (hK : bv (l.take 1) = K) (h0 : 0 ≤ K) (h1 : K < 256) (h : Rd 188 B w b v l lk) :
    Calls Tryz.prog 82 #[.pointer (some ⟨b, 0, none⟩)] w fun e w' => e = .returned (.int .i64 K) ∧ Rdd 188 B w b v (l.drop 1) lk w' := by
  have := ru8_yes B w b v l lk hkl h
  rwa [hK, IntWalk.i64_in K (by omega)] at this
theorem ru32_to (B : Nat) (w : World) (b : Nat) (v : Value) (l : List Int) (lk : Bool) (K : Int) (hkl : 4 ≤ l.length) (hK : bv (l.take 4) = K) (h0 : 0 ≤ K) (h1 : K < 4294967296) (h : Rd 188 B w b v l lk) :
    Calls Tryz.prog 83 #[.pointer (some ⟨b, 0, none⟩)] w fun e w' => e = .returned (.int .i64 K) ∧ Rdd 188 B w b v (l.drop 4) lk w' := by
  have := ru32_yes B w b v l lk hkl h
  rwa [hK, IntWalk.i64_in K (by omega)] at this

theorem take9_1 (l : List Int) : (l.take 9).take 1 = l.take 1 := by rw [List.take_take]; rfl
theorem take9_2 (l : List Int) : ((l.take 9).drop 1).take 4 = (l.drop 1).take 4 := by rw [List.drop_take, List.take_take]; rfl
theorem take9_3 (l : List Int) : (((l.take 9).drop 1).drop 4).take 4 = (l.drop 5).take 4 := by rw [List.drop_drop, List.drop_take, List.take_take]; rfl

set_option maxHeartbeats 1600000 in
theorem next_any (w : World) (v : Value) (l : List Int) (ok : Okb l) (hl : l.length ≤ 140737488351232) (hs : SeenR w v l) :
    Calls Tryz.prog 50 #[v] w (NextPost w l) := by
  by_cases h9 : l.length < 9
  · have hn := nxt_short h9
    unfold NextPost
    rw [hn]
    obtain ⟨a, cap, rfl⟩ := len_val hs.seen
    clear hs
    go_enter Tryz.func50, Tryz.ntmps50
    go_wp2
    (try simp only [Exit.inBlock, Exit.then]); refine bodyPost_ret (results_tmp4 rfl _ _ _) rfl ?_
    exact ⟨_, rfl, World.ownsRow_nil _ _ _ _, Below.refl _ _⟩
  · rcases hs with ⟨rfl, rfl⟩ | ⟨g, o, cap, rfl, hc, hu⟩
    · exact absurd (by decide) h9
    · have HS := Lib.hid (show SeenR w (.slice (some ⟨g, o, none⟩) l.length cap) l from .inr ⟨g, o, cap, rfl, hc, hu⟩)
      have HR : Hid (SeenR w (.slice (some ⟨g, o, none⟩) 9 cap) (l.take 9)) := Lib.hid (seen_len HS.out 9 cap (by omega) (by omega))
      clear hu
      go_enter Tryz.func50, Tryz.ntmps50
      go_wp2_with fail
      refine (newreader_any _ w.heap.size (Nat.le_refl _) _ (l.take 9) (by rw [List.length_take]; omega) (ok.take 9) HR.out.seen).mono ?_
      rintro e w1 ⟨b, v1, rfl, R1, b1, _⟩
      have H1 := Lib.hid R1
      have B1 := Lib.hid b1
      clear R1 b1 HR
      have hk := kind_range ok (by omega)
      have hn := len_range ok (by omega)
      have hsu := sum_range ok (by omega)
      have HB := Lib.hid (hdr_read ok (by omega : 9 ≤ l.length))
      have HX := Lib.hid (nxt_long h9)
      obtain ⟨K, hK⟩ : ∃ K, bv (l.take 1) = K := ⟨_, rfl⟩
      obtain ⟨n, hN⟩ : ∃ n, bv ((l.drop 1).take 4) = n := ⟨_, rfl⟩
      obtain ⟨S, hS⟩ : ∃ S, bv ((l.drop 5).take 4) = S := ⟨_, rfl⟩
      rw [hK] at hk
      rw [hN] at hn
      rw [hS] at hsu
      rw [hK, hN] at HB
      rw [hK, hN, hS] at HX
      have HK := Lib.hid hK
      have HN := Lib.hid hN
      have HSU := Lib.hid hS
      clear hK hN hS
      go_wp2_with fail
      refine (ru8_to _ _ _ _ _ _ K (by rw [List.length_take]; omega) (by rw [take9_1]; exact HK.out) hk.1 hk.2 H1.out).mono ?_
      rintro e w2 ⟨rfl, v2, h2, o2, _⟩
      have H2 := Lib.hid h2
      have B2 := Lib.hid (B1.out.trans (H1.out.below o2))
      clear h2 o2 B1 H1 HK
      go_wp2_with fail
      refine (ru32_to _ _ _ _ _ _ n (by rw [List.length_drop, List.length_take]; omega) (by rw [take9_2]; exact HN.out) hn.1 hn.2 H2.out).mono ?_
      rintro e w3 ⟨rfl, v3, h3, o3, _⟩
      have H3 := Lib.hid h3
      have B3 := Lib.hid (B2.out.trans (H2.out.below o3))
      clear h3 o3 B2 H2 HN
      go_wp2_with fail
      refine (ru32_to _ _ _ _ _ _ S (by rw [List.length_drop, List.length_drop, List.length_take]; omega) (by rw [take9_3]; exact HSU.out) hsu.1 hsu.2 H3.out).mono ?_
      rintro e w4 ⟨rfl, v4, h4, o4, _⟩
      have B4 := Lib.hid (B3.out.trans (H3.out.below o4))
      clear h4 o4 B3 H3 HSU
      by_cases hr : K = 0 ∨ 1048576 < n
      · have E : nxt l = (0, [], 0, 2) := by rw [HX.out, if_pos hr]
        have E := Lib.hid E
        clear HX
        by_cases hk0 : K = 0
        · have hkb : (K == 0) = true := by simp [hk0]
          go_wp2_with fail
          (try simp only [Exit.inBlock, Exit.then]); refine bodyPost_ret (results_tmp4 rfl _ _ _) rfl ?_
          exact nextPost E.out (World.ownsRow_nil _ _ _ _) B4.out
        · have hkb : (K == 0) = false := by simp [hk0]
          have hn2 : 1048576 < n := by omega
          clear hr
          go_wp2_with fail
          (try simp only [Exit.inBlock, Exit.then]); refine bodyPost_ret (results_tmp4 rfl _ _ _) rfl ?_
          exact nextPost E.out (World.ownsRow_nil _ _ _ _) B4.out
      · have hk0 : ¬ K = 0 := fun h => hr (.inl h)
        have hn2 : n ≤ 1048576 := by omega
        have hkb : (K == 0) = false := by simp [hk0]
        rw [if_neg hr] at HX
        clear hr
        by_cases hlen : (l.length : Int) < 9 + n
        · have E : nxt l = (0, [], 0, 3) := by rw [HX.out, if_pos hlen]
          have E := Lib.hid E
          clear HX
          go_wp2_with fail
          (try simp only [Exit.inBlock, Exit.then]); refine bodyPost_ret (results_tmp4 rfl _ _ _) rfl ?_
          exact nextPost E.out (World.ownsRow_nil _ _ _ _) B4.out
        · rw [if_neg hlen] at HX
          obtain ⟨m, rfl⟩ := Int.eq_ofNat_of_zero_le hn.1
          have hbl : ((l.drop 9).take m).length = m := by rw [List.length_take, List.length_drop]; omega
          have HBL := Lib.hid hbl
          have hbo : Okb ((l.drop 9).take m) := (ok.drop 9).take m
          have HBO := Lib.hid hbo
          rw [Int.toNat_natCast] at HX HB
          have HS4 := Lib.hid (HS.out.seen.kb B4.out)
          clear hbl hbo
          have hC : ∃ C, ((crc (l.take 5 ++ (l.drop 9).take m) : Nat) : Int) = C := ⟨_, rfl⟩
          obtain ⟨C, hC⟩ := hC
          rw [hC] at HX
          have HC : Hid (((crc (hdr K ((l.drop 9).take m) ++ (l.drop 9).take m) : Nat) : Int) = C) := Lib.hid (by rw [HB.out (by omega)]; exact hC)
          clear hC HB HS4
          by_cases hcap : cap = 9
          · have hm0 : m = 0 := by omega
            subst hcap
            subst hm0
            have HM : Hid (SeenR w (.slice (some ⟨g, o, none⟩) 0 0) ((l.drop 9).take 0)) := Lib.hid (.inr ⟨g, o, 0, rfl, Nat.le_refl _, fun j u hj => by simp at hj⟩)
            go_wp2_with fail
            refine (clone_any _ _ ((l.drop 9).take 0) (by have := HBL.out; omega) (HM.out.seen.kb B4.out)).mono ?_
            rintro e w5 ⟨u, rfl, h5, b5⟩
            have U5 := Lib.hid (h5.mono B4.out.size)
            have B5 := Lib.hid (B4.out.trans (b5.mono B4.out.size))
            clear h5 b5 B4
            go_wp2_with fail
            refine (fsum_to _ _ _ _ C HBO.out (by have := HBL.out; omega) HC.out (Seen.own U5.out)).mono ?_
            rintro e w6 ⟨rfl, b6⟩
            have U6 := Lib.hid (own_kb U5.out b6)
            have B6 := Lib.hid (B5.out.trans (b6.mono B5.out.size))
            clear b6 U5 B5
            by_cases hCS : C = S
            · have E := Lib.hid (show nxt l = _ by rw [HX.out, if_pos hCS])
              have hcs : (C != S) = false := by simp [hCS]
              clear HX hCS
              go_wp2_with fail
              (try simp only [Exit.inBlock, Exit.then]); refine bodyPost_ret (results_tmp4 rfl _ _ _) rfl ?_
              exact nextPost E.out U6.out B6.out
            · have E := Lib.hid (show nxt l = _ by rw [HX.out, if_neg hCS])
              have hcs : (C != S) = true := by simp [hCS]
              clear HX hCS
              go_wp2_with fail
              (try simp only [Exit.inBlock, Exit.then]); refine bodyPost_ret (results_tmp4 rfl _ _ _) rfl ?_
              exact nextPost E.out (World.ownsRow_nil _ _ _ _) B6.out
          · have HM := Lib.hid (seen_mid HS.out m (by omega))
            go_wp2_with fail
            refine (clone_any _ _ ((l.drop 9).take m) (by have := HBL.out; omega) (HM.out.seen.kb B4.out)).mono ?_
            rintro e w5 ⟨u, rfl, h5, b5⟩
            have U5 := Lib.hid (h5.mono B4.out.size)
            have B5 := Lib.hid (B4.out.trans (b5.mono B4.out.size))
            clear h5 b5 B4
            go_wp2_with fail
            refine (fsum_to _ _ _ _ C HBO.out (by have := HBL.out; omega) HC.out (Seen.own U5.out)).mono ?_
            rintro e w6 ⟨rfl, b6⟩
            have U6 := Lib.hid (own_kb U5.out b6)
            have B6 := Lib.hid (B5.out.trans (b6.mono B5.out.size))
            clear b6 U5 B5
            by_cases hCS : C = S
            · have E := Lib.hid (show nxt l = _ by rw [HX.out, if_pos hCS])
              have hcs : (C != S) = false := by simp [hCS]
              clear HX hCS
              go_wp2_with fail
              (try simp only [Exit.inBlock, Exit.then]); refine bodyPost_ret (results_tmp4 rfl _ _ _) rfl ?_
              exact nextPost E.out U6.out B6.out
            · have E := Lib.hid (show nxt l = _ by rw [HX.out, if_neg hCS])
              have hcs : (C != S) = true := by simp [hCS]
              clear HX hCS
              go_wp2_with fail
              (try simp only [Exit.inBlock, Exit.then]); refine bodyPost_ret (results_tmp4 rfl _ _ _) rfl ?_
              exact nextPost E.out (World.ownsRow_nil _ _ _ _) B6.out
end Go.Proofs.YtbpccbhlggcmfaaGreatDoor
