/- known() of the statements about frame returns true and makes new memory alone. Condition: errors.errorType holds what its text lays. -/
import Derived.Test.YtdnpgdhkeofphaaDoorFrmN
import Derived.Test.YtdnpgdhkeofphaaDoorOctKnown
import Derived.Lib.SlBytesConst
import Derived.Lib.SmallJoins
namespace Go.Proofs.YtdnpgdhkeofphaaDoor
open Go.RowKit

theorem next_to (w : World) (v : Value) (l : List Int) {k n c : Int} {xs : List Int} (h : nxt l = (k, xs, n, c)) (ok : Okb l) (hl : l.length ≤ 140737488351232) (hs : SeenR w v l) :
    Calls Tryd.prog 30 #[v] w fun e w' => ∃ u, e = .returned (.tuple #[.int .i64 k, u, .int .i64 n, errOf c]) ∧ SeenR w' u xs ∧ Below w.heap.size w w' := by
  refine (next_any w v l ok hl hs).mono fun e w' hp => ?_
  unfold NextPost at hp
  rw [h] at hp
  exact hp
theorem seen_lit (w : World) (l : List Int) (n c : Nat) (hn : l.length = n) (hc : n ≤ c) (e : TypeId) (fr : Nat × Nat) (b : Nat) (hb : b = w.heap.size) : SeenR (w.alloc (.cells (us l).toArray e fr)) (.slice (some ⟨b, 0, none⟩) n c) l := by
  subst hb
  subst hn
  refine .inr ⟨w.heap.size, 0, c, rfl, hc, fun j u h => ?_⟩
  rw [Nat.zero_add, World.cell?_alloc_mark w _ e fr j]
  simpa using h

theorem okb_a' : Okb [97] := by unfold Okb; decide
theorem nxt_nil : nxt [] = (0, [], 0, 3) := rfl
theorem nxt_a : nxt (frm 1 [97]) = (1, [97], 10, 0) := by decide +kernel

set_option maxHeartbeats 1600000 in
theorem known_any (w : World) (hg : Glob w) : Calls Tryd.prog 29 #[] w fun e w' => e = .returned (.bool true) ∧ Below w.heap.size w w' := by
  have kc := fun (w : World) (C : Array Value) (n c : Nat) => Lib.run_convert_bytes_const (P := Tryd.prog) w 67 5 C n c Tryd.underlying67 Tryd.underlying5
  have hnn := nil_nil
  have HG := Lib.hid hg
  clear hg
  go_enter Tryd.func29, Tryd.ntmps29
  go_wp2_with fail
  refine (next_to _ _ [] nxt_nil Okb.nil (by decide) (SeenR.nil _)).mono ?_
  rintro e w1 ⟨u1, rfl, _, b1⟩
  have B1 := Lib.hid b1
  clear b1
  go_wp2_with fail
  refine (lay_yes _ 1 _ [97] (by decide) (by decide) okb_a' (by decide) (seen_lit _ [97] 1 1 rfl (by decide) _ _ _ rfl).seen).mono ?_
  rintro e w2 ⟨u2, rfl, h2, b2⟩
  obtain ⟨a2, c2, hv2⟩ := len_val (Seen.own h2)
  subst hv2
  have S2 := Lib.hid (SeenR.own h2)
  have B2 := Lib.hid ((B1.out.alloc B1.out.size _).trans (b2.mono (by have := B1.out.size; simp; omega)))
  clear h2 b2 B1
  rw [show (frm 1 [97]).length = 10 from rfl] at S2 ⊢
  go_wp2_with fail
  refine (next_to _ _ (frm 1 [97]) nxt_a (frm_ok 1 okb_a') (by decide) S2.out).mono ?_
  rintro e w3 ⟨u3, rfl, h3, b3⟩
  rw [show errOf 0 = Value.nilIface from rfl]
  have S3 := Lib.hid h3
  have B3 := Lib.hid (B2.out.trans (b3.mono B2.out.size))
  clear h3 b3 B2
  go_wp2_with fail
  refine (khand_any _ 3 (HG.out.kb B3.out)).mono ?_
  rintro e w4 ⟨rfl, b4⟩
  have hconv := conv_any (S3.out.kb b4)
  rw [show strOfNums [97] = ⟨#[97]⟩ from rfl] at hconv
  have B4 := Lib.hid (B3.out.trans (b4.mono B3.out.size))
  clear b4 B3
  go_wp2_with fail
  go_ret
  exact ⟨rfl, B4.out⟩
end Go.Proofs.YtdnpgdhkeofphaaDoor
